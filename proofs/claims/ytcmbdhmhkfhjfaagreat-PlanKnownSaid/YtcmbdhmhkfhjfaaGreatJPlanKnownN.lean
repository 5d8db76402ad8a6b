/-
  Texts of the proof of PlanKnown, joined.
-/
import Derived.Test.YtcmbdhmhkfhjfaaGreatJPlanKnownM
import Derived.Test.YtcmbdhmhkfhjfaaGreatJPlanKnownG
import Derived.Test.YtcmbdhmhkfhjfaaGreatJPlanKnownK
import Derived.Test.YtcmbdhmhkfhjfaaGreatJPlanKnownC
import Derived.Test.YtcmbdhmhkfhjfaaGreatJPlanKnownH
import Derived.BigQuiet
import Derived.Test.YtcmbdhmhkfhjfaaGreatJPlanKnownL
import Derived.Deep.RegionHeld3
namespace Go.Proofs.YtcmbdhmhkfhjfaaGreat
open Go.RowKit
set_option linter.unusedVariables false
set_option maxRecDepth 100000

theorem apart3I (w : World) (B b1 b2 b3 : Nat) (v1 v2 v3 : Value) (l1 l2 l3 : List Int) (t : TypeId) (h1 : KOwn .i64 3 w b1 v1 l1) (h2 : KOwn .i64 3 w b2 v2 l2) (h3 : KOwn .i64 3 w b3 v3 l3) (f1 : ∀ x ∈ l1, (Lit.int .i64 x).wf = true) (f2 : ∀ x ∈ l2, (Lit.int .i64 x).wf = true) (f3 : ∀ x ∈ l3, (Lit.int .i64 x).wf = true) (q1 : l1.length ≤ 17592186044416) (q2 : l2.length ≤ 17592186044416) (q3 : l3.length ≤ 17592186044416)
    (hB1 : B ≤ b1) (hB2 : B ≤ b2) (hB3 : B ≤ b3) (hlt : ∀ g, v3.ownBlock = some g → g < b1) (hlt2 : ∀ g, v1.ownBlock = some g → g < b2) (h12 : b1 ≤ b2) (hB : B ≤ w.heap.size) :
    Calls Tryz.prog 13 #[.slice (some ⟨w.heap.size, 0, none⟩) 3 3] (w.alloc (.cells #[v1, v2, v3] t)) fun e w' => e = .returned (.bool true) ∧ Only w w' (fun b => v1.ownBlock = some b ∨ v2.ownBlock = some b ∨ v3.ownBlock = some b) := by
  obtain ⟨E1, e1, o1, a1⟩ := h1.entKI (B := B) f1 q1 hB1
  obtain ⟨E2, e2, o2, a2⟩ := h2.entKI (B := B) f2 q2 hB2
  obtain ⟨E3, e3, o3, a3⟩ := h3.entKI (B := B) f3 q3 hB3
  have hfar : [E1, E2, E3].Pairwise I.EntK.Far := by
    refine List.pairwise_cons.2 ⟨fun e he => ?_, List.pairwise_cons.2 ⟨fun e he => ?_, List.pairwise_singleton _ _⟩⟩
    · simp only [List.mem_cons, List.not_mem_nil, or_false] at he
      rcases he with rfl | rfl
      · intro g h4 h5
        have := hlt2 g (a1 g h4).2
        have := (a2 g h5).1
        omega
      · intro g h4 h5
        have := hlt g (a3 g h5).2
        have := (a1 g h4).1
        omega
    · simp only [List.mem_singleton] at he
      subst he
      intro g h4 h5
      have := hlt g (a3 g h5).2
      have := (a2 g h4).1
      omega
  have hok : ∀ e ∈ [E1, E2, E3], e.Ok w B := by
    intro e he
    simp only [List.mem_cons, List.not_mem_nil, or_false] at he
    rcases he with rfl | rfl | rfl
    · exact o1
    · exact o2
    · exact o3
  have h := I.apartX_list_i64 w B _ t hok hfar hB (by simp)
  simp only [List.map_cons, List.map_nil, e1, e2, e3] at h
  refine h.mono fun e w' ⟨he, ho⟩ => ⟨he, ho.os, ho.tape, ho.output, ho.size, fun b hb hn => ho.block b hb fun ⟨E, hE, hEb⟩ => hn ?_⟩
  simp only [List.mem_cons, List.not_mem_nil, or_false] at hE
  rcases hE with rfl | rfl | rfl
  · exact .inl (a1 b hEb).2
  · exact .inr (.inl (a2 b hEb).2)
  · exact .inr (.inr (a3 b hEb).2)
theorem longR_no {mo ms mf : Nat} {fs : List (List Int)} (h : longR mo ms mf fs = false) : mo ≤ 70000 ∧ ms ≤ 70000 ∧ mf ≤ 1000 := by
  have := of_decide_eq_false h
  omega
theorem valsL_len (l : List Tg) (p : Pol) (r : Rep) : (valsL l p r).length ≤ p.tg.length := by
  unfold valsL
  split
  · rw [valsM_len]; exact Nat.le_refl _
  · exact Nat.zero_le _
theorem ValH.set {w w' : World} {o1 o2 : Obj} (h : ValH w w' o1 o2) {g : Nat} (hg : w.heap.size + 2 ≤ g) (i : Nat) (v : Value) : ValH w (w'.setCell ⟨g, i, none⟩ v) o1 o2 := by
  refine ⟨(Below.heap_setCell _ _ _ _ (by intro e; simp only at e; omega)).trans h.b1, (Below.heap_setCell _ _ _ _ (by intro e; simp only at e; omega)).trans h.b2, by have := h.sz; simpa [World.setCell] using this, below_setCell h.bel (by omega) i v⟩
theorem KOwn.lentI {w : World} {g n : Nat} {tg : List Int} (hx : w.heap[g]? = some (.cells (blk .i64 (tg ++ I.marks5)) 3 (0, 0))) (hn : tg.length = n) (hb : n ≤ 4096) : KOwn .i64 3 w g (.slice (some ⟨g, 0, none⟩) n (n + 5)) tg :=
  .inr ⟨g, n, n + 5, I.marks5, rfl, Nat.le_refl _, hn, hx, by omega, by simp only [maxLen]; omega, by rw [hn]; rfl, by decide⟩
set_option maxHeartbeats 8000000 in
theorem walk_PlanValues (A : Option Addr) (n c : Nat) (l : List Tg) (pu pk pa pc pe : Int) (Pt : Option Addr) (pn pm : Nat) (tg : List Int) (r : Rep) (Bo Bs Bf : Option Addr) (mo ms mf eo es ef : Nat) (w : World) (hr : VRow w w.heap.size A (flatV tgC l)) (hn : l.length = n) (hnb : n ≤ 4611686018427387904) (hok : ∀ t ∈ l, Tg.Ok t)
    (hrow : Row .i64 w w.heap.size Pt tg) (hpn : tg.length = pn) (hrep : Repd w w.heap.size r Bo Bs Bf mo ms mf) (hx : (Lit.int .i64 r.x).wf = true) (hfs : ∀ i, i < mf → (nthF r.fs i).length ≤ 70368744175616) (hms : ms ≤ es) (hes : es ≤ 9223372036854775807) :
    Calls Tryz.prog 3 #[.slice A n c, .agg #[.int .i64 pu, .int .i64 pk, .int .i64 pa, .int .i64 pc, .int .i64 pe, .slice Pt pn pm], .agg #[.int .i64 r.x, .slice Bo mo eo, .slice Bs ms es, .slice Bf mf ef]] w fun e w' => e = .returned (.bool true) ∧ Below w.heap.size w w' := by
  have v0 := ValH.new w (.cells #[.int .i64 pu, .int .i64 pk, .int .i64 pa, .int .i64 pc, .int .i64 pe, .slice Pt pn pm] 25) (.cells #[.int .i64 r.x, .slice Bo mo eo, .slice Bs ms es, .slice Bf mf ef] 30)
  have HR := Lib.hid hr
  have HN := Lib.hid hn
  have HOK := Lib.hid hok
  have HRW := Lib.hid hrow
  have HPN := Lib.hid hpn
  have HRP := Lib.hid hrep
  have HXW := Lib.hid hx
  have HFS := Lib.hid hfs
  obtain ⟨x, hxx⟩ : ∃ x, r.x = x := ⟨_, rfl⟩
  have HX := Lib.hid hxx
  rw [hxx] at v0 ⊢
  obtain ⟨lv, hlv⟩ : ∃ lv, longR mo ms mf r.fs = lv := ⟨_, rfl⟩
  have HLV := Lib.hid hlv
  have HLR : Hid (∀ W : World, Below w.heap.size w W → Calls Tryz.prog 5 #[.agg #[.int .i64 x, .slice Bo mo eo, .slice Bs ms es, .slice Bf mf ef]] W fun e w' => e = .returned (.bool lv) ∧ Below W.heap.size W w') := Lib.hid fun W hW => by
    have h := LongReply_any r Bo Bs Bf mo ms mf eo es ef W ((hrep.below hW).more hW.size)
    rw [hxx, hlv] at h
    exact h
  clear hr hn hok hrow hpn hrep hx hfs hxx hlv
  obtain ⟨p0, p1, p2, p3, p4, p5⟩ := of6 v0.b1
  have r0 := cell_of_row _ _ 0 _ _ _ v0.b2
  have r1 := cell_of_row _ _ 1 _ _ _ v0.b2
  have r2 := cell_of_row _ _ 2 _ _ _ v0.b2
  have r3 := cell_of_row _ _ 3 _ _ _ v0.b2
  have V0 := Lib.hid v0
  by_cases hbig : 4096 < n
  · have hb1 : (4096 : Int) < n := by omega
    have HB := Lib.hid v0.bel
    clear v0
    go_enter Tryz.func3, Tryz.ntmps3
    go_wp2_with fail
    refine (works10_yes _).mono ?_
    rintro e w5 ⟨rfl, b5⟩
    have bel5 := HB.out.trans (b5.mono HB.out.size)
    go_wp2
    go_ret
    exact ⟨rfl, bel5⟩
  have hb1 : ¬ (4096 : Int) < n := by omega
  by_cases hbig2 : 4096 < pn
  · have hb2 : (4096 : Int) < pn := by omega
    have HB := Lib.hid v0.bel
    clear v0
    go_enter Tryz.func3, Tryz.ntmps3
    go_wp2_with fail
    refine (works10_yes _).mono ?_
    rintro e w5 ⟨rfl, b5⟩
    have bel5 := HB.out.trans (b5.mono HB.out.size)
    go_wp2
    go_ret
    exact ⟨rfl, bel5⟩
  have hb2 : ¬ (4096 : Int) < pn := by omega
  cases lv
  case true =>
    have HB := Lib.hid v0.bel
    clear v0
    go_enter Tryz.func3, Tryz.ntmps3
    go_wp2_with fail
    refine (HLR.out _ HB.out).mono ?_
    rintro e w5 ⟨rfl, b5⟩
    have bel5 := HB.out.trans (b5.mono HB.out.size)
    go_wp2_with fail
    refine (works10_yes _).mono ?_
    rintro e w6 ⟨rfl, b6⟩
    have bel6 := bel5.trans (b6.mono bel5.size)
    go_wp2
    go_ret
    exact ⟨rfl, bel6⟩
  obtain ⟨lo1, lo2, lo3⟩ := longR_no HLV.out
  clear v0
  go_enter Tryz.func3, Tryz.ntmps3
  go_wp2_with fail
  refine (HLR.out _ V0.out.bel).mono ?_
  rintro e w1 ⟨rfl, b1⟩
  have v1 := V0.out.below b1
  clear V0 HLR b1 p0 p1 p2 p3 p4 p5 r0 r1 r2 r3
  -- the tags, lent
  go_wp2_with fail
  refine (lent_tg A n c l w1 ((HR.out.below v1.bel).more v1.bel.size) HN.out (by omega)).mono ?_
  rintro e w2 ⟨rfl, hw2⟩
  have hLb : w2.heap[w1.heap.size]? = some (.cells (flatV tgC (l ++ marksG)).toArray 51 (0, 0)) := by rw [hw2]; exact heap_alloc_new _ _
  have v2 : ValH w w2 (.cells #[.int .i64 pu, .int .i64 pk, .int .i64 pa, .int .i64 pc, .int .i64 pe, .slice Pt pn pm] 25) (.cells #[.int .i64 x, .slice Bo mo eo, .slice Bs ms es, .slice Bf mf ef] 30) := by rw [hw2]; exact v1.alloc _
  clear hw2
  have hLz := Lib.hid (block_lt hLb)
  have hsz2 := v2.sz
  obtain ⟨p0, p1, p2, p3, p4, p5⟩ := of6 v2.b1
  -- the poll, copied
  have V3 := v2.alloc (.cells #[.int .i64 pu, .int .i64 pk, .int .i64 pa, .int .i64 pc, .int .i64 pe, .slice Pt pn pm] 25)
  have hY := heap_alloc_new w2 (.cells #[.int .i64 pu, .int .i64 pk, .int .i64 pa, .int .i64 pc, .int .i64 pe, .slice Pt pn pm] 25)
  have hLc := (heap_alloc_old w2 (.cells #[.int .i64 pu, .int .i64 pk, .int .i64 pa, .int .i64 pc, .int .i64 pe, .slice Pt pn pm] 25) (block_lt hLb)).trans hLb
  have hz3 : (w2.alloc (.cells #[.int .i64 pu, .int .i64 pk, .int .i64 pa, .int .i64 pc, .int .i64 pe, .slice Pt pn pm] 25)).heap.size = w2.heap.size + 1 := by simp
  have hz3' := Lib.hid hz3
  clear hz3
  obtain ⟨p0', p1', p2', p3', p4', p5'⟩ := of6 V3.b1
  clear v1 v2
  go_wp2_with fail
  generalize hw3 : w2.alloc (.cells #[.int .i64 pu, .int .i64 pk, .int .i64 pa, .int .i64 pc, .int .i64 pe, .slice Pt pn pm] 25) = w3 at *
  refine (I.lent_i64 Pt pn pm tg w3 ((HRW.out.below V3.bel).more V3.bel.size) HPN.out (by omega)).mono ?_
  rintro e w4 ⟨rfl, hw4⟩
  have hT : w4.heap[w3.heap.size]? = some (.cells (blk .i64 (tg ++ I.marks5)) 3 (0, 0)) := by rw [hw4]; exact heap_alloc_new _ _
  have b34 : Below w3.heap.size w3 w4 := by rw [hw4]; exact bel_alloc _ _
  clear hw4 p0 p1 p2 p3 p4 p5 p0' p1' p2' p3' p4' p5' hw3
  have V4 := V3.below b34
  have hY4 := keepB b34 hY
  have hL4 := keepB b34 hLc
  have hY5 : (w4.setCell ⟨w2.heap.size, 5, none⟩ (.slice (some ⟨w3.heap.size, 0, none⟩) pn (pn + 5))).heap[w2.heap.size]? = some (.cells #[.int .i64 pu, .int .i64 pk, .int .i64 pa, .int .i64 pc, .int .i64 pe, .slice (some ⟨w3.heap.size, 0, none⟩) pn (pn + 5)] 25 (0, 0)) := by
    simp [World.setCell, Array.getElem?_modify, hY4]
  have hsz3 : w.heap.size + 2 ≤ w2.heap.size := hsz2
  have V5 := V4.set hsz3 5 (.slice (some ⟨w3.heap.size, 0, none⟩) pn (pn + 5))
  have hL5 := (Below.heap_setCell w4 ⟨w2.heap.size, 5, none⟩ (.slice (some ⟨w3.heap.size, 0, none⟩) pn (pn + 5)) w1.heap.size (by have := block_lt hLb; intro e; simp only at e; omega)).trans hL4
  have hT5 := (Below.heap_setCell w4 ⟨w2.heap.size, 5, none⟩ (.slice (some ⟨w3.heap.size, 0, none⟩) pn (pn + 5)) w3.heap.size (by have := hz3'.out; intro e; simp only at e; omega)).trans hT
  have hf4 := block_frozen w4 w2.heap.size 5 _ _ hY4
  obtain ⟨y0, y1, y2, y3, y4, y5⟩ := of6 hY4
  have q0 := cell_of_row _ _ 0 _ _ _ V5.b2
  have q1 := cell_of_row _ _ 1 _ _ _ V5.b2
  have q2 := cell_of_row _ _ 2 _ _ _ V5.b2
  have q3 := cell_of_row _ _ 3 _ _ _ V5.b2
  have hc4 := cell_of_row _ _ 5 _ _ _ V4.b1
  clear hLb hY hLc hT hY4 hL4 V3 V4 hc4 b34
  go_wp2_with fail
  generalize hw5 : w4.setCell ⟨w2.heap.size, 5, none⟩ (.slice (some ⟨w3.heap.size, 0, none⟩) pn (pn + 5)) = w5 at *
  have HCR : Calls Tryz.prog 9 #[.agg #[.int .i64 x, .slice Bo mo eo, .slice Bs ms es, .slice Bf mf ef]] w5 fun e w' => ∃ Co Cs Cf ko ks kf, e = .returned (.agg #[.int .i64 x, .slice Co mo ko, .slice Cs ms ks, .slice Cf mf kf]) ∧ Repd w' w'.heap.size r Co Cs Cf mo ms mf ∧ Below w5.heap.size w5 w' ∧ ms ≤ ks ∧ ks ≤ maxLen ∧ (∀ (w2 : World) (S : Nat → Prop), Only w' w2 S → (∀ b, S b → b < w5.heap.size) → Repd w2 w2.heap.size r Co Cs Cf mo ms mf) := by
    have h := CopyReply_caps r Bo Bs Bf mo ms mf eo es ef w5 ((HRP.out.below V5.bel).more V5.bel.size) lo1 lo2 lo3 HFS.out
    rw [HX.out] at h
    exact h
  refine HCR.mono ?_
  rintro e w6 ⟨Co, Cs, Cf, ko, ks, kf, rfl, rep6, b6, hks1, hks2, hstay⟩
  have HST := Lib.hid hstay
  clear hstay
  have hz56 := b6.size
  have hg35 := block_lt hT5
  simp only [maxLen] at hks2
  have hZ := heap_alloc_new w6 (.cells #[.int .i64 x, .slice Co mo ko, .slice Cs ms ks, .slice Cf mf kf] 30)
  have b7 := b6.alloc b6.size (.cells #[.int .i64 x, .slice Co mo ko, .slice Cs ms ks, .slice Cf mf kf] 30)
  have V7 := V5.below b7
  have REP7 := Lib.hid ((rep6.below (bel_alloc w6 (.cells #[.int .i64 x, .slice Co mo ko, .slice Cs ms ks, .slice Cf mf kf] 30))).more (bel_alloc w6 (.cells #[.int .i64 x, .slice Co mo ko, .slice Cs ms ks, .slice Cf mf kf] 30)).size)
  have hY7 := keepB b7 hY5
  have hL7 := keepB b7 hL5
  have hT7 := keepB b7 hT5
  clear y0 y1 y2 y3 y4 y5 q0 q1 q2 q3 hf4 hY5 hL5 hT5 rep6 HCR V5 b6 b7 hw5
  obtain ⟨y0, y1, y2, y3, y4, y5⟩ := of6 hY7
  have z0 := cell_of_row _ _ 0 _ _ _ hZ
  have z1 := cell_of_row _ _ 1 _ _ _ hZ
  have z2 := cell_of_row _ _ 2 _ _ _ hZ
  have z3 := cell_of_row _ _ 3 _ _ _ hZ
  obtain ⟨V, hV⟩ : ∃ V, valsL l ⟨pu, pk, pa, pc, pe, tg⟩ r = V := ⟨_, rfl⟩
  obtain ⟨E, hE⟩ : ∃ E, valsE l ⟨pu, pk, pa, pc, pe, tg⟩ r = E := ⟨_, rfl⟩
  have HVW : Hid (∀ x ∈ V, (Lit.int .i64 x).wf = true) := Lib.hid (by rw [← hV]; exact valsL_wf _ _ _)
  have HVL : Hid (V.length ≤ 4096) := Lib.hid (by rw [← hV]; have := valsL_len l ⟨pu, pk, pa, pc, pe, tg⟩ r; have := HPN.out; simp only at *; omega)
  obtain ⟨w7, hw7⟩ : ∃ w7, w7 = w6.alloc (.cells #[.int .i64 x, .slice Co mo ko, .slice Cs ms ks, .slice Cf mf kf] 30) := ⟨_, rfl⟩
  rw [← hw7] at REP7 V7 hY7 hL7 hT7 hZ
  have hz67 : Hid (w6.heap.size < w7.heap.size) := Lib.hid (by rw [hw7]; simp)
  have HB67 : Hid (Below w6.heap.size w6 w7) := Lib.hid (by rw [hw7]; exact bel_alloc _ _)
  have hg35' := Lib.hid hg35
  have hg36 : Hid (w3.heap.size < w6.heap.size) := Lib.hid (by omega)
  have hL23 : Hid (w1.heap.size < w3.heap.size) := Lib.hid (by have := hz3'.out; have := hLz.out; omega)
  have HVA : Hid (∀ W : World, Below w7.heap.size w7 W → Calls Tryz.prog 10 #[.slice (some ⟨w1.heap.size, 0, none⟩) n (n + 5), .agg #[.int .i64 pu, .int .i64 pk, .int .i64 pa, .int .i64 pc, .int .i64 pe, .slice (some ⟨w3.heap.size, 0, none⟩) pn (pn + 5)], .agg #[.int .i64 x, .slice Co mo ko, .slice Cs ms ks, .slice Cf mf kf]] W (GivesI W V E)) := Lib.hid fun W hb => by
    have hLW := keepB hb hL7
    have hTW := keepB hb hT7
    have h := Values10_any (some ⟨w1.heap.size, 0, none⟩) n (n + 5) l pu pk pa pc pe (some ⟨w3.heap.size, 0, none⟩) pn (pn + 5) tg Co Cs Cf mo ms mf ko ks kf r W (VRow.of_block hLW _ (by rw [flatV_append]; exact List.prefix_append _ _)) HN.out hnb HOK.out ((Row.of_block hTW tg HRW.out.1 (List.prefix_append _ _)).more (by have := block_lt hTW; omega)) HPN.out (by omega) ((REP7.out.below hb).more hb.size) hks1 (by omega) HXW.out
    rw [HX.out, hV, hE] at h
    exact h
  have HRV : Hid (∀ W : World, Below w7.heap.size w7 W → Calls Tryz.prog 11 #[.slice A n c, .agg #[.int .i64 pu, .int .i64 pk, .int .i64 pa, .int .i64 pc, .int .i64 pe, .slice Pt pn pm], .agg #[.int .i64 x, .slice Bo mo eo, .slice Bs ms es, .slice Bf mf ef]] W (GivesI W V E)) := Lib.hid fun W hb => by
    have hbw := (V7.below hb).bel
    have h := refValues10_any A n c l pu pk pa pc pe Pt pn pm tg Bo Bs Bf mo ms mf eo es ef r W ((HR.out.below hbw).more hbw.size) HN.out hnb HOK.out ((HRW.out.below hbw).more hbw.size) HPN.out (by omega) ((HRP.out.below hbw).more hbw.size) hms hes HXW.out
    rw [HX.out, hV, hE] at h
    exact h
  clear hV hE
  have HKT : Hid (KOwn .i64 3 w7 w3.heap.size (.slice (some ⟨w3.heap.size, 0, none⟩) pn (pn + 5)) tg) := Lib.hid (KOwn.lentI hT7 HPN.out (by omega))
  have hEE : (E != E) = false := by simp
  have HV7 := Lib.hid V7
  have HL7 := Lib.hid hL7
  have HT7 := Lib.hid hT7
  have HY7 := Lib.hid hY7
  have HZ7 := Lib.hid hZ
  clear V7 hL7 hY7 hZ
  have hT6 := Lib.hid (block_lt hT7)
  clear hT7
  go_wp2_with fail
  rw [← hw7]
  refine (HVA.out w7 (Below.refl _ _)).mono ?_
  rintro e w8 ⟨v1, rfl, own1, b8⟩
  clear y0 y1 y2 y3 y4 y5 z0 z1 z2 z3 hw7
  obtain ⟨y0, y1, y2, y3, y4, y5⟩ := of6 (keepB b8 HY7.out)
  have z0 := cell_of_row _ _ 0 _ _ _ (keepB b8 HZ7.out)
  have z1 := cell_of_row _ _ 1 _ _ _ (keepB b8 HZ7.out)
  have z2 := cell_of_row _ _ 2 _ _ _ (keepB b8 HZ7.out)
  have z3 := cell_of_row _ _ 3 _ _ _ (keepB b8 HZ7.out)
  go_wp2_with fail
  refine (HVA.out w8 b8).mono ?_
  rintro e w9 ⟨v2, rfl, own2, b9⟩
  have b79 := b8.trans (b9.mono b8.size)
  clear y0 y1 y2 y3 y4 y5 z0 z1 z2 z3
  obtain ⟨p0, p1, p2, p3, p4, p5⟩ := of6 (HV7.out.below b79).b1
  have q0 := cell_of_row _ _ 0 _ _ _ (HV7.out.below b79).b2
  have q1 := cell_of_row _ _ 1 _ _ _ (HV7.out.below b79).b2
  have q2 := cell_of_row _ _ 2 _ _ _ (HV7.out.below b79).b2
  have q3 := cell_of_row _ _ 3 _ _ _ (HV7.out.below b79).b2
  go_wp2_with fail
  refine (HRV.out w9 b79).mono ?_
  rintro e w10 ⟨v3, rfl, own3, b10⟩
  have b710 := b79.trans (b10.mono b79.size)
  have own1x := Lib.hid (own1.below (b9.trans (b10.mono b9.size)) (Nat.le_refl _))
  have own2x := Lib.hid (own2.below b10 (Nat.le_refl _))
  have own1b := Lib.hid (fun g e => (own1.block g e).2)
  clear p0 p1 p2 p3 p4 p5 q0 q1 q2 q3
  obtain ⟨A1, c1, rfl, R1, _, _⟩ := own1x.out.row HVW.out
  obtain ⟨A2, c2, rfl, R2, _, _⟩ := own2x.out.row HVW.out
  obtain ⟨A3, c3, rfl, R3, _, _⟩ := own3.row HVW.out
  have HR1 := Lib.hid R1
  have HR2 := Lib.hid R2
  have HR3 := Lib.hid R3
  obtain ⟨nv, hnv⟩ : ∃ nv, V.length = nv := ⟨_, rfl⟩
  have HNV := Lib.hid hnv
  have hsz8 := b8.size
  have B710 := Lib.hid b710
  rw [hnv] at own1x own2x own1b ⊢
  clear own1 own2 own3 R1 R2 R3 hnv b9 b10 b79 b710
  go_wp2_with fail
  refine (I.same_yes_i64 A1 A3 nv c1 c3 V _ w10.heap.size w10.heap.size HR1.out HR3.out HNV.out (by have := HVL.out; have := HNV.out; omega)).mono ?_
  rintro e w11' ⟨rfl, m11, hw11⟩
  rw [hw11]
  clear hw11
  go_wp2_with fail
  refine (I.same_yes_i64 A2 A3 nv c2 c3 V _ w10.heap.size w10.heap.size (HR2.out.drewN m11) (HR3.out.drewN m11) HNV.out (by have := HVL.out; have := HNV.out; omega)).mono ?_
  rintro e w12' ⟨rfl, m12, hw12⟩
  rw [hw12]
  obtain ⟨w12, hw12e⟩ : ∃ w12, w12 = (w10.drewN m11).drewN m12 := ⟨_, rfl⟩
  rw [← hw12e]
  have b712 : Below w7.heap.size w7 w12 := by rw [hw12e]; exact below_drewN (below_drewN B710.out m11) m12
  have b1012 : Below w10.heap.size w10 w12 := by rw [hw12e]; exact below_drewN (below_drewN (Below.refl _ _) m11) m12
  clear hw12 hw12e
  have own1y := own1x.out.below b1012 (Nat.le_refl _)
  have own2y := own2x.out.below b1012 (Nat.le_refl _)
  have own3y := HKT.out.below b712 (Nat.le_refl _)
  obtain ⟨y0, y1, y2, y3, y4, y5⟩ := of6 (keepB b712 HY7.out)
  have hs712 := b712.size
  go_wp2_with fail
  refine (apart3I w12 w.heap.size w7.heap.size w8.heap.size w3.heap.size (.slice A1 nv c1) (.slice A2 nv c2) (.slice (some ⟨w3.heap.size, 0, none⟩) pn (pn + 5)) V V tg 23 own1y own2y own3y HVW.out HVW.out HRW.out.1 (by have := HVL.out; omega) (by have := HVL.out; omega) (by have := HPN.out; omega) (by have := HV7.out.sz; omega) (by have := HV7.out.sz; omega) (by have := hz3'.out; omega) (fun g e => by have e : some w3.heap.size = some g := e; injection e with e; have := hT6.out; omega) own1b.out hsz8 (by have := HV7.out.sz; omega)).mono ?_
  rintro e w13 ⟨rfl, b13⟩
  have hkeep : ∀ b, b < w7.heap.size → b ≠ w3.heap.size → w13.heap[b]? = w7.heap[b]? := by
    intro b hb hne
    refine (b13.block b (by omega) ?_).trans (b712.block b hb)
    rintro (h | h | h)
    · have := (own1y.block b h).1; omega
    · have := (own2y.block b h).1; omega
    · have h : some w3.heap.size = some b := h
      injection h with h
      exact hne h.symm
  have hz13 := b13.size
  have hv7 := HV7.out.sz
  have bel13 : Below w.heap.size w w13 := ⟨b13.os.trans (HV7.out.below b712).bel.os, b13.tape.trans (HV7.out.below b712).bel.tape, b13.output.trans (HV7.out.below b712).bel.output, Nat.le_trans (HV7.out.below b712).bel.size hz13, fun b hb => (hkeep b (by omega) (by have := hz3'.out; omega)).trans (HV7.out.bel.block b hb)⟩
  have hL13 := (hkeep w1.heap.size (block_lt HL7.out) (by have := hL23.out; omega)).trans HL7.out
  have hZ13 := (hkeep w6.heap.size hz67.out (by have := hg36.out; omega)).trans HZ7.out
  have hR13 := (hkeep (w.heap.size + 1) (by omega) (by have := hz3'.out; omega)).trans HV7.out.b2
  have HO6 : Only w6 w13 (fun b => b = w3.heap.size) := ⟨b13.os.trans (b712.os.trans HB67.out.os), b13.tape.trans (b712.tape.trans HB67.out.tape), b13.output.trans (b712.output.trans HB67.out.output), by have := hz67.out; omega, fun b hb hne => (hkeep b (by have := hz67.out; omega) hne).trans (HB67.out.block b hb)⟩
  have REP13 := Lib.hid (HST.out w13 _ HO6 (fun b hb => by subst hb; exact hg35'.out))
  have B13 := Lib.hid bel13
  clear own1y own2y own3y y0 y1 y2 y3 y4 y5 hkeep b13 b712 b1012 HO6 bel13
  go_wp2_with fail
  refine (kept_tg A n c w1.heap.size l w13 w13.heap.size ((HR.out.below B13.out).more B13.out.size) HN.out (by omega) hL13).mono ?_
  rintro e w14' ⟨rfl, m14, hw14⟩
  obtain ⟨w14, hw14e⟩ : ∃ w14, w14 = w13.drewN m14 := ⟨_, rfl⟩
  rw [hw14, ← hw14e]
  have b1314 : Below w13.heap.size w13 w14 := by rw [hw14e]; exact below_drewN (Below.refl _ _) m14
  clear hw14 hw14e
  have B14 := Lib.hid (B13.out.trans (b1314.mono B13.out.size))
  have REP14 := Lib.hid ((REP13.out.below b1314).more b1314.size)
  have z0 := cell_of_row _ _ 0 _ _ _ (keepB b1314 hZ13)
  have z1 := cell_of_row _ _ 1 _ _ _ (keepB b1314 hZ13)
  have z2 := cell_of_row _ _ 2 _ _ _ (keepB b1314 hZ13)
  have z3 := cell_of_row _ _ 3 _ _ _ (keepB b1314 hZ13)
  have q0 := cell_of_row _ _ 0 _ _ _ (keepB b1314 hR13)
  have q1 := cell_of_row _ _ 1 _ _ _ (keepB b1314 hR13)
  have q2 := cell_of_row _ _ 2 _ _ _ (keepB b1314 hR13)
  have q3 := cell_of_row _ _ 3 _ _ _ (keepB b1314 hR13)
  have RP0 := Lib.hid ((HRP.out.below B14.out).more B14.out.size)
  clear hL13 hZ13 hR13 b1314
  go_wp2_with fail
  refine (SameReply_yes x r.on r.set r.fs Co Cs Cf Bo Bs Bf mo ms mf ko ks kf eo es ef w14 REP14.out.on REP14.out.set RP0.out.on RP0.out.set REP14.out.fs RP0.out.fs HRP.out.mo HRP.out.ms HRP.out.mf (by omega) (by omega) (by omega) (fun i hi => by have := HFS.out i hi; omega)).mono ?_
  rintro e w15 ⟨rfl, b15⟩
  have B15 := Lib.hid (B14.out.trans (b15.mono B14.out.size))
  clear z0 z1 z2 z3 q0 q1 q2 q3 b15
  go_wp2_with fail
  refine (works10_yes _).mono ?_
  rintro e w16 ⟨rfl, b16⟩
  have bel16 := B15.out.trans (b16.mono B15.out.size)
  go_wp2
  go_ret
  exact ⟨rfl, bel16⟩

end Go.Proofs.YtcmbdhmhkfhjfaaGreat
namespace Go.Proofs.YtcmbdhmhkfhjfaaGreat
open Go.RowKit
set_option linter.unusedVariables false
set_option maxRecDepth 100000

def wordR (row : List Int) (a : Int) : Int := nth row (a.toNat % row.length)
theorem wordR_wf {row : List Int} (h : ∀ x ∈ row, (Lit.int .u16 x).wf = true) (h1 : 1 ≤ row.length) (a : Int) : (Lit.int .u16 (wordR row a)).wf = true := by
  unfold wordR
  have hl : a.toNat % row.length < row.length := Nat.mod_lt _ (by omega)
  rw [nth_eq _ _ hl]
  exact h _ (List.getElem_mem hl)
def wordsR (row : List Int) (a : Int) (n : Nat) : List Int := (List.range n).map fun i : Nat => wordR row (a + i)
theorem wordsR_len (row : List Int) (a : Int) (n : Nat) : (wordsR row a n).length = n := by simp [wordsR]
theorem wordsR_succ (row : List Int) (a : Int) (n : Nat) : wordsR row a (n + 1) = wordsR row a n ++ [wordR row (a + n)] := by simp [wordsR, List.range_succ]
theorem wordsR_nth (row : List Int) (a : Int) {n k : Nat} (h : k < n) : nth (wordsR row a n) k = wordR row (a + k) := by
  rw [nth_eq _ _ (by rw [wordsR_len]; exact h)]
  simp [wordsR]
theorem wordsR_wf {row : List Int} (h : ∀ x ∈ row, (Lit.int .u16 x).wf = true) (h1 : 1 ≤ row.length) (a : Int) (n : Nat) : ∀ x ∈ wordsR row a n, (Lit.int .u16 x).wf = true := by
  intro x hx
  obtain ⟨i, _, rfl⟩ := List.mem_map.1 hx
  exact wordR_wf h h1 _
theorem wordsR_piece (row : List Int) (a : Int) {n k m : Nat} (h : k + m ≤ n) : ((wordsR row a n).drop k).take m = wordsR row (a + k) m := by
  apply List.ext_getElem (by simp [wordsR]; omega)
  intro i h1 h2
  simp [wordsR, Int.add_assoc]
def oddW (x : Int) : Bool := x.tmod 2 == 1
def bitsR (row : List Int) (a : Int) (n : Nat) : List Bool := (List.range n).map fun i : Nat => oddW (wordR row (a + i))
theorem bitsR_len (row : List Int) (a : Int) (n : Nat) : (bitsR row a n).length = n := by simp [bitsR]
theorem bitsR_succ (row : List Int) (a : Int) (n : Nat) : bitsR row a (n + 1) = bitsR row a n ++ [oddW (wordR row (a + n))] := by simp [bitsR, List.range_succ]
theorem bitsR_nth (row : List Int) (a : Int) {n k : Nat} (h : k < n) : L.nth (bitsR row a n) k = oddW (wordR row (a + k)) := by
  rw [L.nth_eq _ _ (by rw [bitsR_len]; exact h)]
  simp [bitsR]
def ansR (row : List Int) (k a : Int) (n : Nat) : Rep := if k = 1 ∨ k = 2 then ⟨0, bitsR row a n, [], []⟩ else ⟨0, [], wordsR row a n, []⟩
theorem ansR_x (row : List Int) (k a : Int) (n : Nat) : (ansR row k a n).x = 0 := by unfold ansR; split <;> rfl
def ownT (t : Tg) (row : List Int) : Int := if t.ki = 1 ∨ t.ki = 2 then (wordR row t.ad).tmod 2 else valN t.sc (rawN t.sc (wordsR row t.ad (widT t).toNat))
theorem u16_range {x : Int} (h : (Lit.int .u16 x).wf = true) : 0 ≤ x ∧ x ≤ 65535 := by
  simp [Lit.wf, IntKind.min, IntKind.max, IntKind.signed, IntKind.bits] at h; omega
theorem odd_val {x : Int} (h : 0 ≤ x) : (if oddW x = true then (1 : Int) else 0) = x.tmod 2 := by
  unfold oddW
  rw [Int.tmod_eq_emod_of_nonneg h]
  have : x % 2 = 0 ∨ x % 2 = 1 := by omega
  rcases this with e | e
  · rw [e]; rfl
  · rw [e]; rfl
theorem ans_says {row : List Int} (hw : ∀ x ∈ row, (Lit.int .u16 x).wf = true) (h1 : 1 ≤ row.length) {t : Tg} {pu pk pa pc : Int} {n : Nat} (hn : pc = n) (hin : inP t pu pk pa pc = true) (h0 : 0 ≤ pa) : valT t pa (ansR row pk pa n).on (ansR row pk pa n).set = ownT t row := by
  obtain ⟨i1, i2, i3, i4⟩ := inP_iff.1 hin
  have hwd := widT_le t
  obtain ⟨k, hk⟩ : ∃ k : Nat, t.ad - pa = k := ⟨(t.ad - pa).toNat, by omega⟩
  have hta : t.ad = pa + k := by omega
  unfold valT ownT
  rw [hk, Int.toNat_natCast]
  by_cases hb : t.ki = 1 ∨ t.ki = 2
  · have ha : ansR row pk pa n = ⟨0, bitsR row pa n, [], []⟩ := if_pos (by rw [← i2]; exact hb)
    rw [ha, if_pos hb, if_pos hb]
    show (if L.nth (bitsR row pa n) k = true then (1 : Int) else 0) = _
    rw [bitsR_nth _ _ (by omega), ← hta]
    exact odd_val (u16_range (wordR_wf hw h1 _)).1
  · have ha : ansR row pk pa n = ⟨0, [], wordsR row pa n, []⟩ := if_neg (by rw [← i2]; exact hb)
    rw [ha, if_neg hb, if_neg hb]
    show valN t.sc (rawN t.sc (((wordsR row pa n).drop k).take (widT t).toNat)) = _
    rw [wordsR_piece _ _ (by omega), ← hta]
theorem ans_chk {row : List Int} {k a c : Int} {n : Nat} (h : askE k a c = 0) (hn : c = n) : chkR (reqK k a c) (ansR row k a n) = 0 := by
  obtain ⟨⟨k1, k2⟩, ⟨a1, a2⟩, ⟨c1, c2⟩, ac⟩ := askE_zero h
  have hq : chkQ (reqK k a c) = 0 := by
    unfold askE at h
    rwa [if_neg (by omega)] at h
  unfold chkR
  rw [if_neg (by rw [hq]; simp), if_neg (by rw [ansR_x]; simp)]
  have hk : k = 1 ∨ k = 2 ∨ k = 3 ∨ k = 4 := by omega
  have hs : strayB (reqK k a c).c (ansR row k a n).on.length (ansR row k a n).set.length (ansR row k a n).fs.length = false := by
    rcases hk with rfl | rfl | rfl | rfl <;> simp [strayB, anyB, reqK, ansR]
  have hm : manyB (reqK k a c) (ansR row k a n) = true := by
    rcases hk with rfl | rfl | rfl | rfl <;> simp [manyB, reqK, ansR, bitsR_len, wordsR_len, hn]
  rw [hs, hm]
  simp
end Go.Proofs.YtcmbdhmhkfhjfaaGreat
namespace Go.Proofs.YtcmbdhmhkfhjfaaGreat
open Go.RowKit
set_option linter.unusedVariables false
set_option maxRecDepth 100000
attribute [local go_sem ↓] ldTag_fold stTag_fold bxTag_fold ldSc_fold
attribute [local go_sem] bxTag_run

set_option maxHeartbeats 2000000 in
theorem own10_any (t : Tg) (A : Option Addr) (n c : Nat) (row : List Int) (w : World) (hr : Row .u16 w w.heap.size A row) (hn : row.length = n) (h1 : 1 ≤ n) (hnb : n ≤ 4611686018427387904) (hta : 0 ≤ t.ad ∧ t.ad ≤ 65536) :
    Calls Tryz.prog 70 #[tgV t, .slice A n c] w fun e w' => e = .returned (.int .i64 (ownT t row)) ∧ Below w.heap.size w w' := by
  have hx := heap_alloc_new w (.cells (tgC t).toArray 51)
  have bel0 := bel_alloc w (.cells (tgC t).toArray 51)
  have hz : (w.alloc (.cells (tgC t).toArray 51)).heap.size = w.heap.size + 1 := by simp
  have HR := Lib.hid hr
  have HN := Lib.hid hn
  have HW : Hid (∀ W : World, Calls Tryz.prog 44 #[tgV t] W fun e w' => e = .returned (.int .i64 (widT t)) ∧ Below W.heap.size W w') := Lib.hid fun W => width_t t W
  obtain ⟨m, hm⟩ : ∃ m : Nat, widT t = m := ⟨(widT t).toNat, by have := widT_le t; omega⟩
  have hm12 := widT_le t
  have HOT : Hid (ownT t row = if t.ki = 1 ∨ t.ki = 2 then (wordR row t.ad).tmod 2 else valN t.sc (rawN t.sc (wordsR row t.ad m))) := Lib.hid (by unfold ownT; rw [hm, Int.toNat_natCast])
  rw [hm] at HW hm12
  clear hr hn hm
  generalize ownT t row = res at *
  go_enter Tryz.func70, Tryz.ntmps70
  go_wp2
  generalize hw0 : w.alloc (.cells (tgC t).toArray 51) = w0 at *
  have BEL0 := Lib.hid bel0
  have HX := Lib.hid hx
  have HZ := Lib.hid hz
  clear hw0 bel0 hx hz
  go_loopw [5, 6] (fun v i wr => ∃ k : Nat, k ≤ m ∧ i = .int .i64 k ∧ Own .u16 58 wr (w.heap.size + 1) v (wordsR row t.ad k) ∧ Hid (Below w0.heap.size w0 wr)) (fun _ i _ => m - (intOf i).toNat)
  case atStart => exact ⟨0, by omega, rfl, Own.nil _ _ _ _, Lib.hid (Below.refl _ _)⟩
  case round =>
    obtain ⟨k, hk, rfl, hown, hbel⟩ := hrel
    have hxr := keepB hbel.out HX.out
    have hld := tgBox_ld hxr
    have hszr := hbel.out.size
    have hz0 := HZ.out
    go_wp2_with fail
    refine (HW.out _).mono ?_
    rintro e w1 ⟨rfl, b1⟩
    have hown1 := hown.below b1 (Nat.le_refl _)
    have hbel1 := Lib.hid (hbel.out.trans (b1.mono hszr))
    have hxr1 := keepB b1 hxr
    obtain ⟨a0, a1, a2, a3, a4⟩ := tgBox hxr1
    have hbs : w.heap.size + 1 ≤ w1.heap.size := by have := b1.size; omega
    clear b1 hown hbel hxr hld hz0
    by_cases hlt : k < m
    · have hj : (t.ad + (k : Int)).toNat % row.length < row.length := Nat.mod_lt _ (by have := HN.out; omega)
      have hrow1 := (HR.out.below (BEL0.out.trans (hbel1.out.mono BEL0.out.size)))
      obtain ⟨b, o, rfl, hb1, hc1⟩ := hrow1.at_ hj
      have hwf := wordR_wf HR.out.1 (by have := HN.out; omega) (t.ad + k)
      obtain ⟨j, hje⟩ : ∃ j, (t.ad + (k : Int)).toNat % row.length = j := ⟨_, rfl⟩
      have hwd : wordR row (t.ad + k) = nth row j := by unfold wordR; rw [hje]
      rw [hje] at hj hc1
      rw [← hwd] at hc1
      have HS : Hid (wordsR row t.ad (k + 1) = wordsR row t.ad k ++ [wordR row (t.ad + k)]) := Lib.hid (wordsR_succ row t.ad k)
      have HL : Hid ((wordsR row t.ad k).length = k) := Lib.hid (wordsR_len _ _ _)
      have hone := Row.one .u16 w1 58 (wordR row (t.ad + k)) hwf
      have hjn : j < n := by have := HN.out; omega
      have hrm : (t.ad + (k : Int)).tmod (n : Int) = (j : Int) := by
        rw [Int.tmod_eq_emod_of_nonneg (by omega), ← hje, HN.out]
        have : ((t.ad + (k : Int)).toNat : Int) = t.ad + k := by omega
        rw [← this]
        rfl
      have hwr1 : IntKind.i64.wrap (t.ad + (k : Int)) = t.ad + k := by rw [IntKind.wrap_i64]; omega
      have hwr2 : IntKind.i64.wrap (j : Int) = j := by rw [IntKind.wrap_i64]; omega
      have hj0 : (0 : Int) ≤ j := by omega
      have hjn' : (j : Int) < n := by omega
      have hn0 : ¬ (n : Int) = 0 := by omega
      have hn1 : ((n : Int) == 0) = false := beq_false_of_ne hn0
      have hkm : (k : Int) < m := by omega
      generalize wordR row (t.ad + k) = x at *
      clear hje hj hrow1 hwd
      go_wp2_with (at_builtin; refine wpList_append_row _ rfl _ _ 27 rfl (w.heap.size + 1) .u16 58 2 Tryz.underlying27 W.info_u16 _ (wordsR row t.ad k) rfl (hown1.alloc _) _ _ 1 1 [x] rfl hone rfl (by rw [HL.out]; omega) (by rw [HL.out]; simp only [maxLen]; omega) (by simp; omega) ?_; intro v2 w2 own2 g2)
      rw [← HS.out] at own2
      have hbel2 := Lib.hid ((hbel1.out.alloc (by have := hbel1.out.size; omega) (.cells #[.int .u16 x] 58)).grown g2 (by have := hbel1.out.size; have := World.size_alloc w1 (.cells #[.int .u16 x] 58); omega) (fun g e => by have := (hown1.block g e).1; have := HZ.out; omega))
      have hz2 : IntKind.i64.wrap ((k : Int) + 1) = (k : Int) + 1 := by rw [IntKind.wrap_i64]; omega
      clear g2 hown1 hone a0 a1 a2 a3 a4 hxr1
      go_wp2
      go_roundw
      case rel => exact ⟨k + 1, by omega, by go_num, own2, hbel2⟩
      case measure => simp [intOf]; omega
    · obtain rfl : k = m := by omega
      have BELF := Lib.hid (BEL0.out.trans (hbel1.out.mono BEL0.out.size))
      have HWF := wordsR_wf HR.out.1 (by have := HN.out; omega) t.ad k
      obtain ⟨Av, cv, rfl, rowv, _, _⟩ := hown1.row HWF
      have HLW : Hid ((wordsR row t.ad k).length = k) := Lib.hid (wordsR_len _ _ _)
      rw [HLW.out]
      by_cases hki : t.ki = 1 ∨ t.ki = 2
      · have hres : Hid (res = (wordR row t.ad).tmod 2) := Lib.hid (by rw [HOT.out, if_pos hki])
        obtain ⟨b, o, rfl, hb1, hc1⟩ := rowv.at_ (i := 0) (by rw [HLW.out]; omega)
        rw [wordsR_nth _ _ (by omega), show t.ad + ((0 : Nat) : Int) = t.ad by omega, Nat.add_zero] at hc1
        have hxb := u16_range (wordR_wf HR.out.1 (by have := HN.out; omega) t.ad)
        generalize wordR row t.ad = x at *
        have hk1 : ((t.ki == 1) = true) ∨ ((t.ki == 1) = false ∧ (t.ki == 2) = true) := by
          rcases hki with h | h
          · exact .inl (by simp [h])
          · exact .inr (by simp [h])
        have hmod : 0 ≤ x.tmod 2 ∧ x.tmod 2 ≤ 1 := by rw [Int.tmod_eq_emod_of_nonneg hxb.1]; omega
        have hw1 : IntKind.u16.wrap (x.tmod 2) = x.tmod 2 := by rw [IntKind.wrap_u16]; omega
        have hw2 : IntKind.i64.wrap (x.tmod 2) = x.tmod 2 := by rw [IntKind.wrap_i64]; omega
        have hk0 : (0 : Int) < k := by omega
        rcases hk1 with e1 | ⟨e1, e2⟩
        · go_wp2
          go_ret
          exact ⟨by rw [hres.out, Int.tmod_eq_emod_of_nonneg hxb.1]; rfl, BELF.out⟩
        · go_wp2
          go_ret
          exact ⟨by rw [hres.out, Int.tmod_eq_emod_of_nonneg hxb.1]; rfl, BELF.out⟩
      · have hres : Hid (res = valN t.sc (rawN t.sc (wordsR row t.ad k))) := Lib.hid (by rw [HOT.out, if_neg hki])
        have e1 : (t.ki == 1) = false := beq_false_of_ne (fun h => hki (.inl h))
        have e2 : (t.ki == 2) = false := beq_false_of_ne (fun h => hki (.inr h))
        have hsc := ldSc_run hxr1
        go_wp2_with fail
        refine (raw_t t Av k cv (wordsR row t.ad k) _ rowv HLW.out (by omega)).mono ?_
        rintro e w2 ⟨rfl, b2⟩
        have hsc2 := ldSc_run (keepB b2 hxr1)
        have BELG := Lib.hid (BELF.out.trans (b2.mono BELF.out.size))
        clear b2 hsc
        go_wp2_with fail
        refine (value_t t _ _).mono ?_
        rintro e w3 ⟨rfl, b3⟩
        go_wp2
        go_ret
        exact ⟨by rw [hres.out]; rfl, BELG.out.trans (b3.mono BELG.out.size)⟩
end Go.Proofs.YtcmbdhmhkfhjfaaGreat
namespace Go.Proofs.YtcmbdhmhkfhjfaaGreat
open Go.RowKit
set_option linter.unusedVariables false
set_option maxRecDepth 100000

def zRep : Obj := .cells #[.int .i64 0, .slice none 0 0, .slice none 0 0, .slice none 0 0] 30 (0, 0)
structure AnsH (w w' : World) (k ad ct : Int) (o : Obj) : Prop where
  bel : Below w.heap.size w w'
  sz : w.heap.size + 3 ≤ w'.heap.size
  b0 : w'.heap[w.heap.size]? = some (.cells #[.int .i64 k, .int .i64 ad, .int .i64 ct, .slice none 0 0, .slice none 0 0, .slice none 0 0] 68 (0, 0))
  b1 : w'.heap[w.heap.size + 1]? = some zRep
  b2 : w'.heap[w.heap.size + 2]? = some o
theorem AnsH.below {w w' w2 : World} {k ad ct : Int} {o : Obj} (h : AnsH w w' k ad ct o) (hb : Below w'.heap.size w' w2) : AnsH w w2 k ad ct o := by
  have := h.sz
  exact ⟨h.bel.trans (hb.mono (by omega)), Nat.le_trans h.sz hb.size, keepB hb h.b0, keepB hb h.b1, keepB hb h.b2⟩
theorem AnsH.alloc {w w' : World} {k ad ct : Int} {o : Obj} (h : AnsH w w' k ad ct o) (q : Obj) : AnsH w (w'.alloc q) k ad ct o := h.below (bel_alloc w' q)
theorem AnsH.grown {w w' w2 : World} {k ad ct : Int} {o : Obj} (h : AnsH w w' k ad ct o) {v : Option Nat} (hg : w'.grownBy w2 v) (hv : ∀ g, v = some g → w.heap.size + 3 ≤ g) : AnsH w w2 k ad ct o := by
  have := h.sz
  exact ⟨h.bel.grown hg (by omega) (fun g e => by have := hv _ e; omega), Nat.le_trans h.sz hg.size, (hg.block _ (by omega) (fun e => by have := hv _ e.symm; omega)).trans h.b0, (hg.block _ (by omega) (fun e => by have := hv _ e.symm; omega)).trans h.b1, (hg.block _ (by omega) (fun e => by have := hv _ e.symm; omega)).trans h.b2⟩
theorem AnsH.set {w w' : World} {k ad ct : Int} {cs : Array Value} {T : TypeId} (h : AnsH w w' k ad ct (.cells cs T (0, 0))) (i : Nat) (v : Value) : AnsH w (w'.setCell ⟨w.heap.size + 2, i, none⟩ v) k ad ct (.cells (cs.setIfInBounds i v) T (0, 0)) := by
  refine ⟨below_setCell h.bel (by omega) i v, by have := h.sz; simpa [World.setCell] using this, (Below.heap_setCell _ _ _ _ (by intro e; simp only at e; omega)).trans h.b0, (Below.heap_setCell _ _ _ _ (by intro e; simp only at e; omega)).trans h.b1, ?_⟩
  have := h.b2
  simp [World.setCell, Array.getElem?_modify, this]
theorem AnsH.new (w : World) (k ad ct : Int) : AnsH w (((w.alloc (.cells #[.int .i64 k, .int .i64 ad, .int .i64 ct, .slice none 0 0, .slice none 0 0, .slice none 0 0] 68)).alloc zRep).alloc zRep) k ad ct zRep := by
  have t := Box3.new w (.cells #[.int .i64 k, .int .i64 ad, .int .i64 ct, .slice none 0 0, .slice none 0 0, .slice none 0 0] 68) zRep zRep
  exact ⟨t.bel, by simp, t.1, t.2.1, t.2.2.1⟩
theorem AnsH.askc {w w' : World} {k ad ct : Int} {o : Obj} (h : AnsH w w' k ad ct o) : w'.cell? ⟨w.heap.size, 0, none⟩ = some (.int .i64 k) ∧ w'.cell? ⟨w.heap.size, 1, none⟩ = some (.int .i64 ad) ∧ w'.cell? ⟨w.heap.size, 2, none⟩ = some (.int .i64 ct) := ⟨(of6 h.b0).1, (of6 h.b0).2.1, (of6 h.b0).2.2.1⟩
theorem four_of {w : World} {g : Nat} {a b c d : Value} {t : TypeId} (h : w.heap[g]? = some (.cells #[a, b, c, d] t (0, 0))) : w.cell? ⟨g, 0, none⟩ = some a ∧ w.cell? ⟨g, 1, none⟩ = some b ∧ w.cell? ⟨g, 2, none⟩ = some c ∧ w.cell? ⟨g, 3, none⟩ = some d :=
  ⟨cell_of_row _ _ 0 _ _ _ h, cell_of_row _ _ 1 _ _ _ h, cell_of_row _ _ 2 _ _ _ h, cell_of_row _ _ 3 _ _ _ h⟩
theorem Own.sl {k : IntKind} {e : TypeId} {w : World} {base : Nat} {v : Value} {xs : List Int} (h : Own k e w base v xs) : ∃ A n c, v = .slice A n c := by
  rcases h.2 with ⟨rfl, _⟩ | ⟨g, cap, cur, rfl, _⟩
  · exact ⟨_, _, _, rfl⟩
  · exact ⟨_, _, _, rfl⟩
theorem OwnL.sl {e : TypeId} {w : World} {base : Nat} {v : Value} {xs : List Bool} (h : L.Own () e w base v xs) : ∃ A n c, v = .slice A n c := by
  rcases h.2 with ⟨rfl, _⟩ | ⟨g, cap, cur, rfl, _⟩
  · exact ⟨_, _, _, rfl⟩
  · exact ⟨_, _, _, rfl⟩
theorem Own.setNot {k : IntKind} {e : TypeId} {w : World} {base : Nat} {v : Value} {xs : List Int} (h : Own k e w base v xs) {g : Nat} (hg : g < base) (i : Nat) (u : Value) : Own k e (w.setCell ⟨g, i, none⟩ u) base v xs := h.set hg i u
def Answered (w : World) (r : Rep) (e : Ending) (w' : World) : Prop := ∃ Bo Bs mo ms eo es, e = .returned (.agg #[.int .i64 0, .slice Bo mo eo, .slice Bs ms es, .slice none 0 0]) ∧ Repd w' w'.heap.size r Bo Bs none mo ms 0 ∧ Below w.heap.size w w' ∧ ms ≤ es ∧ es ≤ 9223372036854775807
set_option maxHeartbeats 4000000 in
theorem answerW_any (k ad : Int) (cn : Nat) (A : Option Addr) (n c : Nat) (row : List Int) (w : World) (hr : Row .u16 w w.heap.size A row) (hn : row.length = n) (h1 : 1 ≤ n) (hnb : n ≤ 4611686018427387904) (hcn : cn ≤ 2000) (had : 0 ≤ ad ∧ ad ≤ 65535) (hk : ¬ (k = 1 ∨ k = 2)) :
    Calls Tryz.prog 69 #[.agg #[.int .i64 k, .int .i64 ad, .int .i64 (cn : Int), .slice none 0 0, .slice none 0 0, .slice none 0 0], .slice A n c] w (Answered w (ansR row k ad cn)) := by
  have HA : Hid (ansR row k ad cn = ⟨0, [], wordsR row ad cn, []⟩) := Lib.hid (if_neg hk)
  rw [HA.out]
  have HR := Lib.hid hr
  have HN := Lib.hid hn
  have e1 : (k == 1) = false := beq_false_of_ne (fun h => hk (.inl h))
  have e2 : (k == 2) = false := beq_false_of_ne (fun h => hk (.inr h))
  have v0 := Lib.hid (AnsH.new w k ad cn)
  clear hr hn hk
  go_enter Tryz.func69, Tryz.ntmps69
  go_wp2
  go_loopw [6] (fun i wr => ∃ j : Nat, ∃ v : Value, j ≤ cn ∧ i = .int .i64 j ∧ Own .u16 58 wr (w.heap.size + 3) v (wordsR row ad j) ∧ Hid (AnsH w wr k ad cn (.cells #[.int .i64 0, .slice none 0 0, v, .slice none 0 0] 30 (0, 0)))) (fun i _ => cn - (intOf i).toNat)
  case atStart => exact ⟨0, .slice none 0 0, by omega, rfl, Own.nil _ _ _ _, v0⟩
  case round =>
    obtain ⟨j, v, hj, rfl, hown, hv⟩ := hrel
    obtain ⟨q0, q1, q2⟩ := hv.out.askc
    obtain ⟨r0, r1, r2, r3⟩ := four_of hv.out.b2
    have hsz := hv.out.sz
    by_cases hlt : j < cn
    · have hi : (ad + (j : Int)).toNat % row.length < row.length := Nat.mod_lt _ (by have := HN.out; omega)
      obtain ⟨b, o, rfl, hb1, hc1⟩ := (HR.out.below hv.out.bel).at_ hi
      have hwf := wordR_wf HR.out.1 (by have := HN.out; omega) (ad + j)
      obtain ⟨i, hie⟩ : ∃ i, (ad + (j : Int)).toNat % row.length = i := ⟨_, rfl⟩
      have hwd : wordR row (ad + j) = nth row i := by unfold wordR; rw [hie]
      rw [hie] at hi hc1
      rw [← hwd] at hc1
      have HS : Hid (wordsR row ad (j + 1) = wordsR row ad j ++ [wordR row (ad + j)]) := Lib.hid (wordsR_succ row ad j)
      have HL : Hid ((wordsR row ad j).length = j) := Lib.hid (wordsR_len _ _ _)
      have hone := Row.one .u16 wr 58 (wordR row (ad + j)) hwf
      have hin : i < n := by have := HN.out; omega
      have hrm : (ad + (j : Int)).tmod (n : Int) = (i : Int) := by
        rw [Int.tmod_eq_emod_of_nonneg (by omega), ← hie, HN.out]
        have : ((ad + (j : Int)).toNat : Int) = ad + j := by omega
        rw [← this]
        rfl
      have hwr1 : IntKind.i64.wrap (ad + (j : Int)) = ad + j := by rw [IntKind.wrap_i64]; omega
      have hwr2 : IntKind.i64.wrap (i : Int) = i := by rw [IntKind.wrap_i64]; omega
      have hwr3 : IntKind.i64.wrap ((j : Int) + 1) = (j : Int) + 1 := by rw [IntKind.wrap_i64]; omega
      have hi0 : (0 : Int) ≤ i := by omega
      have hin' : (i : Int) < n := by omega
      have hn0 : ¬ (n : Int) = 0 := by omega
      have hn1 : ((n : Int) == 0) = false := beq_false_of_ne hn0
      have hjc : (j : Int) < cn := by omega
      generalize wordR row (ad + j) = x at *
      clear hie hi hwd
      go_wp2_with (at_builtin; refine wpList_append_row _ rfl _ _ 27 rfl (w.heap.size + 3) .u16 58 2 Tryz.underlying27 W.info_u16 _ (wordsR row ad j) rfl (hown.alloc _) _ _ 1 1 [x] rfl hone rfl (by rw [HL.out]; omega) (by rw [HL.out]; simp only [maxLen]; omega) (by simp; omega) ?_; intro v2 w2 own2 g2; obtain ⟨A2, n2, c2, rfl⟩ := own2.sl; have a2 := (hv.out.alloc (.cells #[.int .u16 x] 58)).grown g2 (fun g e => (hown.block g e).1); obtain ⟨s0, s1, s2, s3⟩ := four_of a2.b2; have f2 := block_frozen _ _ 2 _ _ a2.b2)
      rw [← HS.out] at own2
      have own3 := own2.setNot (g := w.heap.size + 2) (by omega) 2 (.slice A2 n2 c2)
      have a3 := Lib.hid (a2.set 2 (.slice A2 n2 c2))
      clear own2 a2 g2 hone r0 r1 r2 r3 q0 q1 q2 s0 s1 s2 s3 f2 hv hown
      go_wp2
      go_roundw
      case rel => exact ⟨j + 1, .slice A2 n2 c2, by omega, by go_num, own3, a3⟩
      case measure => simp [intOf]; omega
    · obtain rfl : j = cn := by omega
      have HWF := wordsR_wf HR.out.1 (by have := HN.out; omega) ad j
      obtain ⟨Av, cv, rfl, rowv, hle, hmx⟩ := hown.row HWF
      obtain ⟨s0, s1, s2, s3⟩ := four_of hv.out.b1
      have hfz := fun i => block_frozen _ _ i _ _ hv.out.b1
      have HLW : Hid ((wordsR row ad j).length = j) := Lib.hid (wordsR_len _ _ _)
      rw [HLW.out] at hle hown r2
      have hv2 := hv.out
      have hown' := Lib.hid hown
      have P5 := Lib.hid (put4_heap (g := w.heap.size + 1) hv.out.b1 (.int .i64 0) (.slice none 0 0) (.slice Av j cv) (.slice none 0 0))
      have B5 := Lib.hid (below_put4 hv.out.bel (g := w.heap.size + 1) (by omega) (.int .i64 0) (.slice none 0 0) (.slice Av j cv) (.slice none 0 0))
      have O5 := Lib.hid (hown'.out.put4 (g := w.heap.size + 1) (by omega) (.int .i64 0) (.slice none 0 0) (.slice Av j cv) (.slice none 0 0))
      simp only [maxLen] at hmx
      clear hown rowv hv
      (try rw [HLW.out])
      go_wp2
      (try simp only [Exit.inBlock, Exit.then])
      show bodyPost _ _ _ _ _ (put4 wr (w.heap.size + 1) (.int .i64 0) (.slice none 0 0) (.slice Av j cv) (.slice none 0 0))
      generalize put4 wr (w.heap.size + 1) (.int .i64 0) (.slice none 0 0) (.slice Av j cv) (.slice none 0 0) = w6 at *
      clear r0 r1 r2 r3 q0 q1 q2 s0 s1 s2 s3 hfz
      have c0 := cell_of_row w6 (w.heap.size + 1) 0 _ _ _ P5.out
      have c1' := cell_of_row w6 (w.heap.size + 1) 1 _ _ _ P5.out
      have c2 := cell_of_row w6 (w.heap.size + 1) 2 _ _ _ P5.out
      have c3' := cell_of_row w6 (w.heap.size + 1) 3 _ _ _ P5.out
      refine bodyPost_ret (v := .agg #[.int .i64 0, (.slice none 0 0), (.slice Av j cv), .slice none 0 0]) (by simp [results, Tryz.results69, go_sem, *]) rfl ?_
      obtain ⟨A9, c9, e9, row9, _, _⟩ := O5.out.row HWF
      injection e9 with x1 x2 x3
      subst x1
      exact ⟨none, Av, 0, j, 0, cv, rfl, ⟨L.Row.nil _ _ _ _, row9, FRow.nil _ _ _, rfl, HLW.out, rfl⟩, B5.out, hle, hmx⟩
set_option maxHeartbeats 4000000 in
theorem answerB_any (k ad : Int) (cn : Nat) (A : Option Addr) (n c : Nat) (row : List Int) (w : World) (hr : Row .u16 w w.heap.size A row) (hn : row.length = n) (h1 : 1 ≤ n) (hnb : n ≤ 4611686018427387904) (hcn : cn ≤ 2000) (had : 0 ≤ ad ∧ ad ≤ 65535) (hk : k = 1 ∨ k = 2) :
    Calls Tryz.prog 69 #[.agg #[.int .i64 k, .int .i64 ad, .int .i64 (cn : Int), .slice none 0 0, .slice none 0 0, .slice none 0 0], .slice A n c] w (Answered w (ansR row k ad cn)) := by
  have HA : Hid (ansR row k ad cn = ⟨0, bitsR row ad cn, [], []⟩) := Lib.hid (if_pos hk)
  rw [HA.out]
  have HR := Lib.hid hr
  have HN := Lib.hid hn
  have hk1 : ((k == 1) = true) ∨ ((k == 1) = false ∧ (k == 2) = true) := by
    rcases hk with h | h
    · exact .inl (by simp [h])
    · exact .inr (by simp [h])
  have v0 := Lib.hid (AnsH.new w k ad cn)
  clear hr hn hk
  go_enter Tryz.func69, Tryz.ntmps69
  go_wp2
  go_loopw [6] (fun i wr => ∃ j : Nat, ∃ v : Value, j ≤ cn ∧ i = .int .i64 j ∧ L.Own () 4 wr (w.heap.size + 3) v (bitsR row ad j) ∧ Hid (AnsH w wr k ad cn (.cells #[.int .i64 0, v, .slice none 0 0, .slice none 0 0] 30 (0, 0)))) (fun i _ => cn - (intOf i).toNat)
  case atStart => exact ⟨0, .slice none 0 0, by omega, rfl, L.Own.nil _ _ _ _, v0⟩
  case round =>
    obtain ⟨j, v, hj, rfl, hown, hv⟩ := hrel
    obtain ⟨q0, q1, q2⟩ := hv.out.askc
    obtain ⟨r0, r1, r2, r3⟩ := four_of hv.out.b2
    have hsz := hv.out.sz
    by_cases hlt : j < cn
    · have hi : (ad + (j : Int)).toNat % row.length < row.length := Nat.mod_lt _ (by have := HN.out; omega)
      obtain ⟨b, o, rfl, hb1, hc1⟩ := (HR.out.below hv.out.bel).at_ hi
      have hwf := wordR_wf HR.out.1 (by have := HN.out; omega) (ad + j)
      obtain ⟨i, hie⟩ : ∃ i, (ad + (j : Int)).toNat % row.length = i := ⟨_, rfl⟩
      have hwd : wordR row (ad + j) = nth row i := by unfold wordR; rw [hie]
      rw [hie] at hi hc1
      rw [← hwd] at hc1
      have HS : Hid (bitsR row ad (j + 1) = bitsR row ad j ++ [oddW (wordR row (ad + j))]) := Lib.hid (bitsR_succ row ad j)
      have HL : Hid ((bitsR row ad j).length = j) := Lib.hid (bitsR_len _ _ _)
      have hxb := u16_range hwf
      have hone := L.Row.one () wr 4 (oddW (wordR row (ad + j))) rfl
      have hin : i < n := by have := HN.out; omega
      have hrm : (ad + (j : Int)).tmod (n : Int) = (i : Int) := by
        rw [Int.tmod_eq_emod_of_nonneg (by omega), ← hie, HN.out]
        have : ((ad + (j : Int)).toNat : Int) = ad + j := by omega
        rw [← this]
        rfl
      have hwr1 : IntKind.i64.wrap (ad + (j : Int)) = ad + j := by rw [IntKind.wrap_i64]; omega
      have hwr2 : IntKind.i64.wrap (i : Int) = i := by rw [IntKind.wrap_i64]; omega
      have hwr3 : IntKind.i64.wrap ((j : Int) + 1) = (j : Int) + 1 := by rw [IntKind.wrap_i64]; omega
      have hi0 : (0 : Int) ≤ i := by omega
      have hin' : (i : Int) < n := by omega
      have hn0 : ¬ (n : Int) = 0 := by omega
      have hn1 : ((n : Int) == 0) = false := beq_false_of_ne hn0
      have hjc : (j : Int) < cn := by omega
      generalize wordR row (ad + j) = x at *
      obtain ⟨y, hy⟩ : ∃ y, oddW x = y := ⟨_, rfl⟩
      have ho1 : (x.tmod 2 == 1) = y := hy
      have ho2 : (x % 2 == 1) = y := by rw [← ho1, Int.tmod_eq_emod_of_nonneg hxb.1]
      have hw0 : IntKind.u16.wrap (x.tmod 2) = x.tmod 2 := by rw [IntKind.wrap_u16, Int.tmod_eq_emod_of_nonneg hxb.1]; omega
      have hw1 : IntKind.u16.wrap (x % 2) = x % 2 := by rw [IntKind.wrap_u16]; omega
      rw [hy] at HS hone
      clear hy
      clear hie hi hwd
      rcases hk1 with e1 | ⟨e1, e2⟩
      all_goals
        go_wp2_with (at_builtin; refine L.wpList_append_row _ rfl _ _ 26 rfl (w.heap.size + 3) () 4 1 Tryz.underlying26 L.info_bool _ (bitsR row ad j) rfl (hown.alloc _) _ _ 1 1 [y] rfl hone rfl (by rw [HL.out]; omega) (by rw [HL.out]; simp only [maxLen]; omega) (by simp; omega) ?_; intro v2 w2 own2 g2; obtain ⟨A2, n2, c2, rfl⟩ := OwnL.sl own2; have a2 := (hv.out.alloc (.cells #[.bool y] 4)).grown g2 (fun g e => (hown.block g e).1); obtain ⟨s0, s1, s2, s3⟩ := four_of a2.b2; have f2 := block_frozen _ _ 1 _ _ a2.b2)
        rw [← HS.out] at own2
        have own3 := own2.set (g := w.heap.size + 2) (by omega) 1 (.slice A2 n2 c2)
        have a3 := Lib.hid (a2.set 1 (.slice A2 n2 c2))
        clear own2 a2 g2 hone r0 r1 r2 r3 q0 q1 q2 s0 s1 s2 s3 f2 hv hown
        go_wp2
        go_roundw
        case rel => exact ⟨j + 1, .slice A2 n2 c2, by omega, by go_num, own3, a3⟩
        case measure => simp [intOf]; omega
    · obtain rfl : j = cn := by omega
      obtain ⟨Av, cv, rfl, rowv, hle, hmx⟩ := hown.row (fun _ _ => rfl)
      obtain ⟨s0, s1, s2, s3⟩ := four_of hv.out.b1
      have hfz := fun i => block_frozen _ _ i _ _ hv.out.b1
      have HLW : Hid ((bitsR row ad j).length = j) := Lib.hid (bitsR_len _ _ _)
      rw [HLW.out] at hle hown r1
      have hv2 := hv.out
      have hown' := Lib.hid hown
      have P5 := Lib.hid (put4_heap (g := w.heap.size + 1) hv.out.b1 (.int .i64 0) (.slice Av j cv) (.slice none 0 0) (.slice none 0 0))
      have B5 := Lib.hid (below_put4 hv.out.bel (g := w.heap.size + 1) (by omega) (.int .i64 0) (.slice Av j cv) (.slice none 0 0) (.slice none 0 0))
      have O5 := Lib.hid (hown'.out.put4 (g := w.heap.size + 1) (by omega) (.int .i64 0) (.slice Av j cv) (.slice none 0 0) (.slice none 0 0))
      simp only [maxLen] at hmx
      clear hown rowv hv
      (try rw [HLW.out])
      go_wp2
      (try simp only [Exit.inBlock, Exit.then])
      show bodyPost _ _ _ _ _ (put4 wr (w.heap.size + 1) (.int .i64 0) (.slice Av j cv) (.slice none 0 0) (.slice none 0 0))
      generalize put4 wr (w.heap.size + 1) (.int .i64 0) (.slice Av j cv) (.slice none 0 0) (.slice none 0 0) = w6 at *
      clear r0 r1 r2 r3 q0 q1 q2 s0 s1 s2 s3 hfz
      have c0 := cell_of_row w6 (w.heap.size + 1) 0 _ _ _ P5.out
      have c1' := cell_of_row w6 (w.heap.size + 1) 1 _ _ _ P5.out
      have c2 := cell_of_row w6 (w.heap.size + 1) 2 _ _ _ P5.out
      have c3' := cell_of_row w6 (w.heap.size + 1) 3 _ _ _ P5.out
      refine bodyPost_ret (v := .agg #[.int .i64 0, (.slice Av j cv), (.slice none 0 0), .slice none 0 0]) (by simp [results, Tryz.results69, go_sem, *]) rfl ?_
      obtain ⟨A9, c9, e9, row9, _, _⟩ := O5.out.row (fun _ _ => rfl)
      injection e9 with x1 x2 x3
      subst x1
      exact ⟨Av, none, j, 0, cv, 0, rfl, ⟨row9, Row.nil _ _ _ _, FRow.nil _ _ _, HLW.out, rfl, rfl⟩, B5.out, Nat.le_refl _, by omega⟩
theorem answer_any (k ad : Int) (cn : Nat) (A : Option Addr) (n c : Nat) (row : List Int) (w : World) (hr : Row .u16 w w.heap.size A row) (hn : row.length = n) (h1 : 1 ≤ n) (hnb : n ≤ 4611686018427387904) (hcn : cn ≤ 2000) (had : 0 ≤ ad ∧ ad ≤ 65535) :
    Calls Tryz.prog 69 #[.agg #[.int .i64 k, .int .i64 ad, .int .i64 (cn : Int), .slice none 0 0, .slice none 0 0, .slice none 0 0], .slice A n c] w (Answered w (ansR row k ad cn)) := by
  by_cases hk : k = 1 ∨ k = 2
  · exact answerB_any k ad cn A n c row w hr hn h1 hnb hcn had hk
  · exact answerW_any k ad cn A n c row w hr hn h1 hnb hcn had hk
end Go.Proofs.YtcmbdhmhkfhjfaaGreat
namespace Go.Proofs.YtcmbdhmhkfhjfaaGreat
open Go.RowKit
set_option linter.unusedVariables false
set_option maxRecDepth 100000
attribute [local go_sem ↓] ldTag_fold stTag_fold bxTag_fold
attribute [local go_sem] bxTag_run

theorem PlRow.get3 {w : World} {v : Value} {ps : List Pol} (h : PlRow w v ps) {i : Nat} {p : Pol} (hp : ps[i]? = some p) : ∃ g c A cc, v = .slice (some ⟨g, 0, none⟩) ps.length c ∧ g < w.heap.size ∧ (w.cell? ⟨g, i * 6, none⟩ = some (.int .i64 p.un) ∧ w.cell? ⟨g, i * 6 + 1, none⟩ = some (.int .i64 p.ki) ∧ w.cell? ⟨g, i * 6 + 2, none⟩ = some (.int .i64 p.ad) ∧ w.cell? ⟨g, i * 6 + 3, none⟩ = some (.int .i64 p.ct) ∧ w.cell? ⟨g, i * 6 + 4, none⟩ = some (.int .i64 p.ev) ∧ w.cell? ⟨g, i * 6 + 5, none⟩ = some (.slice A p.tg.length cc)) ∧ Row .i64 w w.heap.size A p.tg := by
  obtain ⟨hi, rfl⟩ := List.getElem?_eq_some_iff.1 hp
  exact h.2 i hi
theorem reads_poll {l : List Tg} {a : Pol} {row : List Int} (hg : PGood l a) (hc : (chkAll l).1 = 0) (hw : ∀ x ∈ row, (Lit.int .u16 x).wf = true) (h1 : 1 ≤ row.length) {cn : Nat} (hcn : a.ct = cn) :
    valsE l a (ansR row a.ki a.ad cn) = 0 ∧ (valsL l a (ansR row a.ki a.ad cn)).length = a.tg.length ∧ ∀ j (hj : j < a.tg.length), ∃ q : Nat, nth a.tg j = (q : Int) ∧ q < l.length ∧ nth (valsL l a (ansR row a.ki a.ad cn)) j = ownT (tgAt l q) row := by
  have hin : ∀ j, j < a.tg.length → ∃ q : Nat, nth a.tg j = (q : Int) ∧ q < l.length ∧ inP (tgAt l q) a.un a.ki a.ad a.ct = true := fun j hj => by
    obtain ⟨q, e, hq, t1, t2, t3, t4, t5⟩ := hg.all (nth a.tg j) (nth_mem _ _ hj)
    exact ⟨q, e, hq, inP_iff.2 ⟨t1, t3, t4, t5⟩⟩
  have hE : valsE l a (ansR row a.ki a.ad cn) = 0 := valsE_good hc (good_ask hg) (ans_chk (good_ask hg) hcn) (ansR_x _ _ _ _) (fun j hj => by
    obtain ⟨q, e, hq, hi⟩ := hin j hj
    unfold okP
    rw [e, decide_eq_true (show (0 : Int) ≤ q by omega), decide_eq_true (show (q : Int) < (l.length : Int) by omega), Int.toNat_natCast, hi]
    rfl)
  refine ⟨hE, by rw [valsL_good hE, valsM_len], fun j hj => ?_⟩
  obtain ⟨q, e, hq, hi⟩ := hin j hj
  refine ⟨q, e, hq, ?_⟩
  rw [valsL_good hE, valsM_nth _ _ _ _ hj, e, Int.toNat_natCast]
  exact ans_says hw h1 hcn hi hg.ad.1
set_option maxHeartbeats 8000000 in
theorem walk_PlanReads (A : Option Addr) (n c : Nat) (l : List Tg) (Ar : Option Addr) (nr cr : Nat) (row : List Int) (w : World) (hr : VRow w w.heap.size A (flatV tgC l)) (hn : l.length = n) (hnb : n ≤ 4611686018427387904) (hok : ∀ t ∈ l, Tg.Ok t)
    (hrow : Row .u16 w w.heap.size Ar row) (hnr : row.length = nr) (hrb : nr ≤ 4611686018427387904) :
    Calls Tryz.prog 46 #[.slice A n c, .slice Ar nr cr] w fun e w' => e = .returned (.bool true) ∧ Below w.heap.size w w' := by
  by_cases hbig : 4096 < n
  · have hb1 : (4096 : Int) < n := by omega
    go_enter Tryz.func46, Tryz.ntmps46
    go_wp2_with fail
    refine (works10_yes _).mono ?_
    rintro e w5 ⟨rfl, b5⟩
    go_wp2
    go_ret
    exact ⟨rfl, b5⟩
  have hb1 : ¬ (4096 : Int) < n := by omega
  by_cases hnr0 : nr = 0
  · subst hnr0
    go_enter Tryz.func46, Tryz.ntmps46
    go_wp2_with fail
    refine (works10_yes _).mono ?_
    rintro e w5 ⟨rfl, b5⟩
    go_wp2
    go_ret
    exact ⟨rfl, b5⟩
  have hb2 : ((nr : Int) == 0) = false := beq_false_of_ne (by omega)
  have hb3 : ¬ (nr : Int) = 0 := by omega
  have h1r : 1 ≤ nr := by omega
  have hn' := Lib.hid hn
  have HR := Lib.hid hr
  have HOK := Lib.hid hok
  have HRW := Lib.hid hrow
  have HNR := Lib.hid hnr
  obtain ⟨E, hE⟩ : ∃ E, (chkAll l).1 = E := ⟨_, rfl⟩
  by_cases h0 : E = 0
  case neg =>
    obtain ⟨f1, f2⟩ := fold_ne h0
    have HPL : Hid (Calls Tryz.prog 22 #[.slice A n c] w (GivesP w [] E)) := Lib.hid (by
      have h := Plan10_any A n c l w hr hn hnb hok
      rw [plan_bad (by rw [hE]; exact h0), hE] at h
      exact h)
    clear hr hn hE h0 hrow hnr hok
    go_enter Tryz.func46, Tryz.ntmps46
    go_wp2_with fail
    refine HPL.out.mono ?_
    rintro e w1 ⟨v1, rfl, own1, b1⟩
    obtain ⟨A1, c1, rfl, _⟩ := own1.len
    clear own1 HPL
    have hl0 : ((([] : List Pol).length : Int) == 0) = true := by simp
    go_wp2_with fail
    refine (works10_yes _).mono ?_
    rintro e w3 ⟨rfl, b3⟩
    have bel3 := b1.trans (b3.mono b1.size)
    clear b1 b3
    go_wp2
    go_ret
    exact ⟨rfl, bel3⟩
  subst h0
  obtain ⟨P, hP⟩ : ∃ P, planL l = P := ⟨_, rfl⟩
  obtain ⟨hP1, hP2⟩ := plan_tgs (l := l)
  have HPL : Hid (Calls Tryz.prog 22 #[.slice A n c] w (GivesP w P 0)) := Lib.hid (by
    have h := Plan10_any A n c l w hr hn hnb hok
    rw [hP, hE] at h
    exact h)
  have HPW := Lib.hid (plan_wf (l := l))
  have hinv := plan_inv hE
  rw [hP] at hP1 hP2 HPW hinv
  have HP2 := Lib.hid hP2
  have HINV := Lib.hid hinv
  have HTB := Lib.hid (tag_tab hE).1
  have HCK : Hid ((chkAll l).1 = 0) := Lib.hid hE
  have hn64 : n ≤ 64 := by have := HTB.out; omega
  have HTOT : Hid ((P.flatMap Pol.tg).length = n) := Lib.hid (by rw [hinv.flat, List.length_map, ordT_len]; exact hn)
  clear hr hn hP2 hP hE hinv hrow hnr hok
  go_enter Tryz.func46, Tryz.ntmps46
  go_wp2_with fail
  refine HPL.out.mono ?_
  rintro e w1 ⟨v1, rfl, own1, b1⟩
  have PR := Lib.hid (own1.prow HPW.out)
  obtain ⟨A1, c1, rfl, _⟩ := own1.len
  obtain ⟨np, hnp⟩ : ∃ np, P.length = np := ⟨_, rfl⟩
  have hnp' := Lib.hid hnp
  rw [hnp] at hP1 ⊢
  clear hnp own1 HPL
  have PR3 : Hid (PlRow w1 (.slice A1 np c1) P) := Lib.hid (by rw [← hnp'.out]; exact PR.out)
  clear PR
  have BEL1 := Lib.hid b1
  clear b1
  go_wp2
  go_loopw [7, 8] (fun s i wr => ∃ k z : Nat, k ≤ np ∧ i = .int .i64 k ∧ s = .int .i64 z ∧ Hid (((P.take k).flatMap Pol.tg).length = z) ∧ z ≤ 64 ∧ Hid (Below w1.heap.size w1 wr)) (fun _ i _ => np - (intOf i).toNat)
  case atStart => exact ⟨0, 0, by omega, rfl, rfl, Lib.hid (by rw [List.take_zero]; rfl), by omega, Lib.hid (Below.refl _ _)⟩
  case round =>
    obtain ⟨k, z, hk, rfl, rfl, hz, hz64, hbel⟩ := hrel
    by_cases hlt : k < np
    · have hkp : k < P.length := by have := hnp'.out; omega
      obtain ⟨a, hpa, ham⟩ : ∃ a, P[k]? = some a ∧ a ∈ P := ⟨_, List.getElem?_eq_getElem hkp, List.getElem_mem hkp⟩
      have hga := HINV.out.each a ham
      obtain ⟨g, cg, At, ca, e1, hg1, ha, hra⟩ := (PR3.out).get3 hpa
      injection e1 with i1 i2 i3
      subst i1 i3
      have HGA := Lib.hid hga
      have HRA := Lib.hid hra
      have hwx := HP2.out _ ham
      have haA := hga.ad
      have haC := hga.ct
      have hmK : mostK a.ki ≤ 2000 := by unfold mostK; split <;> omega
      have HAK := Lib.hid (good_ask hga)
      have HNXT : Hid (((P.take (k + 1)).flatMap Pol.tg).length = z + a.tg.length ∧ z + a.tg.length ≤ 64) := Lib.hid (by
        obtain ⟨hk', rfl⟩ := List.getElem?_eq_some_iff.1 hpa
        have hl : ((P.take (k + 1)).flatMap Pol.tg).length = z + (P[k]).tg.length := by
          rw [List.take_succ_eq_append_getElem hk', List.flatMap_append, List.length_append, hz.out]
          simp
        have hle : ((P.take (k + 1)).flatMap Pol.tg).length ≤ (P.flatMap Pol.tg).length := by
          have := congrArg List.length (congrArg (List.flatMap Pol.tg) (List.take_append_drop (k + 1) P))
          rw [List.flatMap_append, List.length_append] at this
          omega
        refine ⟨hl, ?_⟩
        rw [← hl]
        have := HTOT.out
        omega)
      obtain ⟨cn, hcn⟩ : ∃ cn : Nat, a.ct = cn := ⟨a.ct.toNat, by omega⟩
      have HRD := Lib.hid (reads_poll hga HCK.out HRW.out.1 (by have := HNR.out; omega) hcn)
      have HPQ : Hid (∀ W : World, Below w1.heap.size w1 W → (W.cell? ⟨g, k * 6, none⟩ = some (.int .i64 a.un) ∧ W.cell? ⟨g, k * 6 + 1, none⟩ = some (.int .i64 a.ki) ∧ W.cell? ⟨g, k * 6 + 2, none⟩ = some (.int .i64 a.ad) ∧ W.cell? ⟨g, k * 6 + 3, none⟩ = some (.int .i64 a.ct) ∧ W.cell? ⟨g, k * 6 + 4, none⟩ = some (.int .i64 a.ev) ∧ W.cell? ⟨g, k * 6 + 5, none⟩ = some (.slice At a.tg.length ca))) := Lib.hid fun W hb => ⟨cellB hb hg1 ha.1, cellB hb hg1 ha.2.1, cellB hb hg1 ha.2.2.1, cellB hb hg1 ha.2.2.2.1, cellB hb hg1 ha.2.2.2.2.1, cellB hb hg1 ha.2.2.2.2.2⟩
      obtain ⟨tl, htlE⟩ : ∃ tl, a.tg.length = tl := ⟨_, rfl⟩
      have HTL := Lib.hid htlE
      rw [htlE] at hwx HPQ HNXT
      clear htlE hpa ham hga hra ha i2
      have HAS : Hid (∀ W : World, Calls Tryz.prog 43 #[.agg #[.int .i64 a.un, .int .i64 a.ki, .int .i64 a.ad, .int .i64 a.ct, .int .i64 a.ev, .slice At tl ca]] W fun e w' => e = .returned (.tuple #[.agg #[.int .i64 a.ki, .int .i64 a.ad, .int .i64 a.ct, .slice none 0 0, .slice none 0 0, .slice none 0 0], .int .i64 0]) ∧ Below W.heap.size W w') := Lib.hid fun W => by
        have h := Ask10_any a.un a.ki a.ad a.ct a.ev At tl ca W
        have n1 : ∀ x, askN a.ki a.ad a.ct x = x := fun x => by unfold askN; rw [HAK.out]; rfl
        unfold AskedK at h
        rw [n1, n1, n1, HAK.out] at h
        exact h
      obtain ⟨V, hV⟩ : ∃ V, valsL l a (ansR row a.ki a.ad cn) = V := ⟨_, rfl⟩
      have HVW : Hid (∀ x ∈ V, (Lit.int .i64 x).wf = true) := Lib.hid (by rw [← hV]; exact valsL_wf _ _ _)
      have HANS : Hid (∀ W : World, Below w1.heap.size w1 W → Calls Tryz.prog 69 #[.agg #[.int .i64 a.ki, .int .i64 a.ad, .int .i64 a.ct, .slice none 0 0, .slice none 0 0, .slice none 0 0], .slice Ar nr cr] W (Answered W (ansR row a.ki a.ad cn))) := Lib.hid fun W hb => by
        have hbw := BEL1.out.trans (hb.mono BEL1.out.size)
        rw [hcn]
        exact answer_any a.ki a.ad cn Ar nr cr row W ((HRW.out.below hbw).more hbw.size) HNR.out h1r hrb (by omega) (by omega)
      have HVAL : Hid (∀ (Bo Bs : Option Addr) (mo ms eo es : Nat) (W : World), Below w1.heap.size w1 W → Repd W W.heap.size (ansR row a.ki a.ad cn) Bo Bs none mo ms 0 → ms ≤ es → es ≤ 9223372036854775807 → Calls Tryz.prog 10 #[.slice A n c, .agg #[.int .i64 a.un, .int .i64 a.ki, .int .i64 a.ad, .int .i64 a.ct, .int .i64 a.ev, .slice At tl ca], .agg #[.int .i64 0, .slice Bo mo eo, .slice Bs ms es, .slice none 0 0]] W (GivesI W V 0)) := Lib.hid fun Bo Bs mo ms eo es W hb hrep h1 h2 => by
        have hbw := BEL1.out.trans (hb.mono BEL1.out.size)
        have h := Values10_any A n c l a.un a.ki a.ad a.ct a.ev At tl ca a.tg Bo Bs none mo ms 0 eo es 0 (ansR row a.ki a.ad cn) W ((HR.out.below hbw).more hbw.size) hn'.out hnb HOK.out ((HRA.out.below hb).more hb.size) HTL.out (by omega) hrep h1 h2 (by rw [ansR_x]; rfl)
        rw [ansR_x] at h
        have hE := HRD.out.1
        have h3 : valsE l ⟨a.un, a.ki, a.ad, a.ct, a.ev, a.tg⟩ (ansR row a.ki a.ad cn) = 0 := hE
        have h4 : valsL l ⟨a.un, a.ki, a.ad, a.ct, a.ev, a.tg⟩ (ansR row a.ki a.ad cn) = V := hV
        rw [h3, h4] at h
        exact h
      have n1 : (k : Int) < (np : Int) := by omega
      have n5 : (0 : Int) ≤ (k : Int) := by omega
      have n6 : IntKind.i64.wrap ((k : Int) + 1) = (k : Int) + 1 := by rw [IntKind.wrap_i64]; omega
      have HVN : Hid (V.length = tl ∧ ∀ j, j < tl → ∃ q : Nat, nth a.tg j = (q : Int) ∧ q < l.length ∧ nth V j = ownT (tgAt l q) row) := Lib.hid (by
        obtain ⟨_, r2, r3⟩ := HRD.out
        rw [hV] at r2 r3
        rw [← HTL.out]
        exact ⟨r2, r3⟩)
      clear hV hcn
      obtain ⟨a0, a1, a2, a3, a4, a5⟩ := HPQ.out wr hbel.out
      go_wp2_with fail
      refine (HAS.out _).mono ?_
      rintro e w5 ⟨rfl, b5⟩
      have bel5 := hbel.out.trans (b5.mono hbel.out.size)
      clear a0 a1 a2 a3 a4 a5 b5
      have hxq := heap_alloc_new w5 (.cells #[.int .i64 a.ki, .int .i64 a.ad, .int .i64 a.ct, .slice none 0 0, .slice none 0 0, .slice none 0 0] 68)
      obtain ⟨q0, q1, q2, q3, q4, q5⟩ := of6 hxq
      have bel6 := Lib.hid (bel5.alloc bel5.size (.cells #[.int .i64 a.ki, .int .i64 a.ad, .int .i64 a.ct, .slice none 0 0, .slice none 0 0, .slice none 0 0] 68))
      have z1 : ¬ a.ct < 1 := by omega
      have z2 : ¬ a.ct > 2000 := by omega
      have z3 : ¬ a.ad < 0 := by omega
      have z4 : ¬ a.ad > 65535 := by omega
      have z5 : decide (a.ct < 1) = false := decide_eq_false z1
      have z6 : decide (2000 < a.ct) = false := decide_eq_false z2
      have z7 : decide (a.ad < 0) = false := decide_eq_false z3
      have z8 : decide (65535 < a.ad) = false := decide_eq_false z4
      have HXQ := Lib.hid hxq
      clear bel5 hxq
      go_wp2
      generalize hW6 : w5.alloc (.cells #[.int .i64 a.ki, .int .i64 a.ad, .int .i64 a.ct, .slice none 0 0, .slice none 0 0, .slice none 0 0] 68) = w6 at *
      clear hW6 z1 z2 z3 z4 z5 z6 z7 z8
      have HK : Hid (∀ W : World, Below w6.heap.size w6 W → (Below w6.heap.size w6 W ∧ (W.cell? ⟨w5.heap.size, 0, none⟩ = some (.int .i64 a.ki) ∧ W.cell? ⟨w5.heap.size, 1, none⟩ = some (.int .i64 a.ad) ∧ W.cell? ⟨w5.heap.size, 2, none⟩ = some (.int .i64 a.ct) ∧ W.cell? ⟨w5.heap.size, 3, none⟩ = some (.slice none 0 0) ∧ W.cell? ⟨w5.heap.size, 4, none⟩ = some (.slice none 0 0) ∧ W.cell? ⟨w5.heap.size, 5, none⟩ = some (.slice none 0 0)) ∧ (W.cell? ⟨g, k * 6, none⟩ = some (.int .i64 a.un) ∧ W.cell? ⟨g, k * 6 + 1, none⟩ = some (.int .i64 a.ki) ∧ W.cell? ⟨g, k * 6 + 2, none⟩ = some (.int .i64 a.ad) ∧ W.cell? ⟨g, k * 6 + 3, none⟩ = some (.int .i64 a.ct) ∧ W.cell? ⟨g, k * 6 + 4, none⟩ = some (.int .i64 a.ev) ∧ W.cell? ⟨g, k * 6 + 5, none⟩ = some (.slice At tl ca)))) := Lib.hid fun W hb => ⟨hb, of6 (keepB hb HXQ.out), HPQ.out W (bel6.out.trans (hb.mono bel6.out.size))⟩
      have belh : ∀ W : World, (Below w6.heap.size w6 W ∧ (W.cell? ⟨w5.heap.size, 0, none⟩ = some (.int .i64 a.ki) ∧ W.cell? ⟨w5.heap.size, 1, none⟩ = some (.int .i64 a.ad) ∧ W.cell? ⟨w5.heap.size, 2, none⟩ = some (.int .i64 a.ct) ∧ W.cell? ⟨w5.heap.size, 3, none⟩ = some (.slice none 0 0) ∧ W.cell? ⟨w5.heap.size, 4, none⟩ = some (.slice none 0 0) ∧ W.cell? ⟨w5.heap.size, 5, none⟩ = some (.slice none 0 0)) ∧ (W.cell? ⟨g, k * 6, none⟩ = some (.int .i64 a.un) ∧ W.cell? ⟨g, k * 6 + 1, none⟩ = some (.int .i64 a.ki) ∧ W.cell? ⟨g, k * 6 + 2, none⟩ = some (.int .i64 a.ad) ∧ W.cell? ⟨g, k * 6 + 3, none⟩ = some (.int .i64 a.ct) ∧ W.cell? ⟨g, k * 6 + 4, none⟩ = some (.int .i64 a.ev) ∧ W.cell? ⟨g, k * 6 + 5, none⟩ = some (.slice At tl ca))) → Below w6.heap.size w6 W := fun W h => h.1
      clear q0 q1 q2 q3 q4 q5
      go_region_held3 (fun W => Below w6.heap.size w6 W ∧ (W.cell? ⟨w5.heap.size, 0, none⟩ = some (.int .i64 a.ki) ∧ W.cell? ⟨w5.heap.size, 1, none⟩ = some (.int .i64 a.ad) ∧ W.cell? ⟨w5.heap.size, 2, none⟩ = some (.int .i64 a.ct) ∧ W.cell? ⟨w5.heap.size, 3, none⟩ = some (.slice none 0 0) ∧ W.cell? ⟨w5.heap.size, 4, none⟩ = some (.slice none 0 0) ∧ W.cell? ⟨w5.heap.size, 5, none⟩ = some (.slice none 0 0)) ∧ (W.cell? ⟨g, k * 6, none⟩ = some (.int .i64 a.un) ∧ W.cell? ⟨g, k * 6 + 1, none⟩ = some (.int .i64 a.ki) ∧ W.cell? ⟨g, k * 6 + 2, none⟩ = some (.int .i64 a.ad) ∧ W.cell? ⟨g, k * 6 + 3, none⟩ = some (.int .i64 a.ct) ∧ W.cell? ⟨g, k * 6 + 4, none⟩ = some (.int .i64 a.ev) ∧ W.cell? ⟨g, k * 6 + 5, none⟩ = some (.slice At tl ca)))
        ((refine HK.out _ ?_
          repeat' (first
            | with_reducible exact Below.refl _ _
            | with_reducible exact bel8
            | with_reducible exact bel7
            | with_reducible exact belh _ (by assumption)
            | with_reducible apply below_drew
            | with_reducible apply below_drewN
            | fail)))
        (first
          | (go_at_call 69; have bh := belh _ (by assumption); refine (HANS.out _ (bel6.out.trans (bh.mono bel6.out.size))).mono ?_; rintro e w7 ⟨Bo, Bs, mo, ms, eo, es, rfl, rep7, b7, hle7, hmx7⟩; have bel7 : Below w6.heap.size w6 w7 := Below.trans bh (b7.mono bh.size))
          | (go_at_call 10; have bh := belh _ (by assumption); refine (HVAL.out Bo Bs mo ms eo es _ (bel6.out.trans (bh.mono bel6.out.size)) (by first | exact rep7 | exact Repd.below rep7 (below_drew (Below.refl _ _)) | exact Repd.below rep7 (below_drewN (Below.refl _ _) _)) hle7 hmx7).mono ?_; rintro e w8 ⟨v8, rfl, own8, b8⟩; have bel8 : Below w6.heap.size w6 w8 := Below.trans bh (b8.mono bh.size))
          | fail)
      have BEL8 := Lib.hid (bel6.out.trans (bel8.mono bel6.out.size))
      obtain ⟨Av, cv, rfl, rowV, _, _⟩ := own8.row HVW.out
      have HRV := Lib.hid rowV
      rw [HVN.out.1]
      obtain ⟨a0, a1, a2, a3, a4, a5⟩ := HPQ.out w8 BEL8.out
      have y1 : ((tl : Int) != (tl : Int)) = false := by simp
      clear HK belh bel7 rep7 b7 own8 b8 rowV bel8 bel6 HXQ
      go_wp2
      go_loopw [7, 13] (fun s i wr => ∃ j : Nat, j ≤ tl ∧ i = .int .i64 j ∧ s = .int .i64 ((z + j : Nat) : Int) ∧ Hid (Below w8.heap.size w8 wr)) (fun _ i _ => tl - (intOf i).toNat)
      case atStart => exact ⟨0, by omega, rfl, rfl, Lib.hid (Below.refl _ _)⟩
      case round =>
        clear a0 a1 a2 a3 a4 a5
        obtain ⟨j, hj, rfl, rfl, hbel2⟩ := hrel
        have hbw1 := Lib.hid (BEL8.out.trans (hbel2.out.mono BEL8.out.size))
        obtain ⟨a0, a1, a2, a3, a4, a5⟩ := HPQ.out wr hbw1.out
        by_cases hjt : j < tl
        · obtain ⟨q, hq, hql, hqv⟩ := HVN.out.2 j hjt
          obtain ⟨bt, ot, rfl, hbt, hct⟩ := (HRA.out.below hbw1.out).at_ (i := j) (by rw [HTL.out]; exact hjt)
          rw [hq] at hct
          obtain ⟨bv, ov, rfl, hbv, hcv⟩ := (HRV.out.below hbel2.out).at_ (i := j) (by rw [HVN.out.1]; exact hjt)
          obtain ⟨u, hu⟩ : ∃ u, nth V j = u := ⟨_, rfl⟩
          rw [hu] at hcv hqv
          have m1 : (j : Int) < (tl : Int) := by omega
          have m2 : (0 : Int) ≤ (j : Int) := by omega
          have m3 : IntKind.i64.wrap ((j : Int) + 1) = (j : Int) + 1 := by rw [IntKind.wrap_i64]; omega
          have m4 : IntKind.i64.wrap (((z + j : Nat) : Int) + 1) = ((z + j : Nat) : Int) + 1 := by rw [IntKind.wrap_i64]; omega
          have m5 : IntKind.i64.wrap ((z : Int) + (j : Int) + 1) = (z : Int) + (j : Int) + 1 := by rw [IntKind.wrap_i64]; omega
          have hqn : q < n := by have := hn'.out; omega
          have o1 : (q : Int) < (n : Int) := by omega
          have o2 : (0 : Int) ≤ (q : Int) := by omega
          have o3 : decide ((q : Int) < 0) = false := decide_eq_false (by omega)
          have o4 : decide ((n : Int) ≤ (q : Int)) = false := decide_eq_false (by omega)
          have o5 : decide (n ≤ q) = false := decide_eq_false (by omega)
          have o6 : (u != u) = false := by simp
          have hbwl := Lib.hid (BEL1.out.trans (hbw1.out.mono BEL1.out.size))
          obtain ⟨bl, ol, hAl, hbl, hld0⟩ := (HR.out.below hbwl.out).five hql
          subst hAl
          have HLD : Hid (∀ W : World, Below w.heap.size w W → (ldTag (.pointer (some ⟨bl, ol + q * 19, none⟩))).run Tryz.prog W = .ok (tgV (tgAt l q)) W) := Lib.hid (fun W hb => by
            obtain ⟨b9, o9, e9, _, h9⟩ := (HR.out.below hb).five hql
            injection e9 with e9
            injection e9 with e9 e9'
            subst e9 e9'
            exact h9)
          have HTT := Lib.hid (tag_right HCK.out hql)
          have hta := (chkT_zero HTT.out).2.2.2.1
          have hwd := widT_le (tgAt l q)
          have HOWN : Hid (∀ W : World, Below w.heap.size w W → Calls Tryz.prog 70 #[tgV (tgAt l q), .slice Ar nr cr] W fun e w' => e = .returned (.int .i64 u) ∧ Below W.heap.size W w') := Lib.hid fun W hb => by
            rw [hqv]
            exact own10_any (tgAt l q) Ar nr cr row W ((HRW.out.below hb).more hb.size) HNR.out h1r hrb (by omega)
          generalize tgAt l q = t at *
          have hbvs : bv < wr.heap.size := by have := hbel2.out.size; omega
          have HK : Hid (∀ W : World, Below wr.heap.size wr W → (Below wr.heap.size wr W ∧ (ldTag (.pointer (some ⟨bl, ol + q * 19, none⟩))).run Tryz.prog W = .ok (tgV t) W ∧ W.cell? ⟨bv, ov + j, none⟩ = some (.int .i64 u))) := Lib.hid fun W hb => ⟨hb, HLD.out W (hbwl.out.trans (hb.mono hbwl.out.size)), cellB hb hbvs hcv⟩
          have belh : ∀ W : World, (Below wr.heap.size wr W ∧ (ldTag (.pointer (some ⟨bl, ol + q * 19, none⟩))).run Tryz.prog W = .ok (tgV t) W ∧ W.cell? ⟨bv, ov + j, none⟩ = some (.int .i64 u)) → Below wr.heap.size wr W := fun W h => h.1
          clear hld0 hq hu hqv
          go_wp2
          clear a0 a1 a2 a3 a4 a5 hct
          go_region_held3 (fun W => Below wr.heap.size wr W ∧ (ldTag (.pointer (some ⟨bl, ol + q * 19, none⟩))).run Tryz.prog W = .ok (tgV t) W ∧ W.cell? ⟨bv, ov + j, none⟩ = some (.int .i64 u))
            ((refine HK.out _ ?_
              repeat' (first
                | with_reducible exact Below.refl _ _
                | with_reducible exact bel5
                | with_reducible exact belh _ (by assumption)
                | with_reducible apply below_drew
                | with_reducible apply below_drewN
                | fail)))
            (first
              | (go_at_call 70; have bh := belh _ (by assumption); refine (HOWN.out _ (hbwl.out.trans (bh.mono hbwl.out.size))).mono ?_; rintro e w9 ⟨rfl, b9⟩; have bel5 : Below wr.heap.size wr w9 := Below.trans bh (b9.mono bh.size))
              | fail)
          have hbel9 := Lib.hid (hbel2.out.trans (bel5.mono hbel2.out.size))
          clear HK belh bel5 b9 hcv
          go_wp2
          go_roundw
          case rel => exact ⟨j + 1, by omega, by go_num, by go_num, hbel9⟩
          case measure => simp [intOf]; omega
        · obtain rfl : j = tl := by omega
          go_wp2
          go_roundw
          case rel => exact ⟨k + 1, z + j, by omega, by go_num, rfl, Lib.hid HNXT.out.1, HNXT.out.2, hbw1⟩
          case measure => simp [intOf]; omega
    · obtain rfl : k = np := by omega
      have hzn : Hid (z = n) := Lib.hid (by
        have h := hz.out
        rw [List.take_of_length_le (by have := hnp'.out; omega), HTOT.out] at h
        exact h.symm)
      have hzz : ((z : Int) == (n : Int)) = true := by rw [hzn.out]; simp
      have BELW := Lib.hid (BEL1.out.trans (hbel.out.mono BEL1.out.size))
      go_wp2_with fail
      refine (works10_yes _).mono ?_
      rintro e w9 ⟨rfl, b9⟩
      have bel9 := BELW.out.trans (b9.mono BELW.out.size)
      go_wp2
      go_ret
      exact ⟨rfl, bel9⟩
end Go.Proofs.YtcmbdhmhkfhjfaaGreat
namespace Go.Proofs.YtcmbdhmhkfhjfaaGreat
open Go.RowKit
set_option linter.unusedVariables false
set_option maxRecDepth 100000

set_option maxHeartbeats 2000000 in
theorem walk_PlanAsks (pu pk pa pc pe : Int) (Pt : Option Addr) (pn pm : Nat) (tg : List Int) (w : World) (hrow : Row .i64 w w.heap.size Pt tg) (hn : tg.length = pn) (hwf : (Lit.int .i64 pu).wf = true ∧ (Lit.int .i64 pk).wf = true ∧ (Lit.int .i64 pa).wf = true ∧ (Lit.int .i64 pc).wf = true ∧ (Lit.int .i64 pe).wf = true) : Calls Tryz.prog 20 #[.agg #[.int .i64 pu, .int .i64 pk, .int .i64 pa, .int .i64 pc, .int .i64 pe, .slice Pt pn pm]] w fun e w' => e = .returned (.bool true) ∧ Below w.heap.size w w' := by
  clear hrow hn hwf tg
  have h0 := heap_alloc_new w (.cells #[.int .i64 pu, .int .i64 pk, .int .i64 pa, .int .i64 pc, .int .i64 pe, .slice Pt pn pm] 25)
  have bel0 := bel_alloc w (.cells #[.int .i64 pu, .int .i64 pk, .int .i64 pa, .int .i64 pc, .int .i64 pe, .slice Pt pn pm] 25)
  have HA : Hid (∀ W : World, Calls Tryz.prog 43 #[.agg #[.int .i64 pu, .int .i64 pk, .int .i64 pa, .int .i64 pc, .int .i64 pe, .slice Pt pn pm]] W fun e w' => e = .returned (.tuple #[.agg #[.int .i64 (askN pk pa pc pk), .int .i64 (askN pk pa pc pa), .int .i64 (askN pk pa pc pc), .slice none 0 0, .slice none 0 0, .slice none 0 0], .int .i64 (askE pk pa pc)]) ∧ Below W.heap.size W w') := Lib.hid fun W => Ask10_any pu pk pa pc pe Pt pn pm W
  have HR : Hid (∀ W : World, Calls Tryz.prog 29 #[.agg #[.int .i64 pu, .int .i64 pk, .int .i64 pa, .int .i64 pc, .int .i64 pe, .slice Pt pn pm]] W fun e w' => e = .returned (.tuple #[.agg #[.int .i64 (askN pk pa pc pk), .int .i64 (askN pk pa pc pa), .int .i64 (askN pk pa pc pc), .slice none 0 0, .slice none 0 0, .slice none 0 0], .int .i64 (askE pk pa pc)]) ∧ Below W.heap.size W w') := Lib.hid fun W => refAsk10_any pu pk pa pc pe Pt pn pm W
  generalize askN pk pa pc pk = y1 at *
  generalize askN pk pa pc pa = y2 at *
  generalize askN pk pa pc pc = y3 at *
  generalize askE pk pa pc = E at *
  go_enter Tryz.func20, Tryz.ntmps20
  obtain ⟨p0, p1, p2, p3, p4, p5⟩ := of6 h0
  go_wp2_with fail
  refine (HA.out _).mono ?_
  rintro e w1 ⟨rfl, b1⟩
  have q0 := heap_alloc_new w1 (.cells #[.int .i64 y1, .int .i64 y2, .int .i64 y3, .slice none 0 0, .slice none 0 0, .slice none 0 0] 68)
  have h1 := keepB (b1.trans ((bel_alloc w1 (.cells #[.int .i64 y1, .int .i64 y2, .int .i64 y3, .slice none 0 0, .slice none 0 0, .slice none 0 0] 68)).mono b1.size)) h0
  have bel1 := (bel0.trans (b1.mono bel0.size)).alloc (Nat.le_trans bel0.size b1.size) (.cells #[.int .i64 y1, .int .i64 y2, .int .i64 y3, .slice none 0 0, .slice none 0 0, .slice none 0 0] 68)
  have hs1 : w1.heap.size = w1.heap.size := rfl
  clear p0 p1 p2 p3 p4 p5 h0 bel0 b1
  obtain ⟨p0, p1, p2, p3, p4, p5⟩ := of6 h1
  go_wp2_with fail
  refine (HR.out _).mono ?_
  rintro e w2 ⟨rfl, b2⟩
  have h2 := keepB b2 q0
  have bel2 := bel1.trans (b2.mono bel1.size)
  have q2 := heap_alloc_new w2 (.cells #[.int .i64 y1, .int .i64 y2, .int .i64 y3, .slice none 0 0, .slice none 0 0, .slice none 0 0] 68)
  have h3 := (heap_alloc_old w2 (.cells #[.int .i64 y1, .int .i64 y2, .int .i64 y3, .slice none 0 0, .slice none 0 0, .slice none 0 0] 68) (block_lt h2)).trans h2
  have bel3 := Lib.hid (bel2.alloc bel2.size (.cells #[.int .i64 y1, .int .i64 y2, .int .i64 y3, .slice none 0 0, .slice none 0 0, .slice none 0 0] 68))
  clear p0 p1 p2 p3 p4 p5 q0 h1 bel1 b2 h2 bel2
  obtain ⟨p0, p1, p2, p3, p4, p5⟩ := of6 h3
  obtain ⟨r0, r1, r2, r3, r4, r5⟩ := of6 q2
  have HE : (E == E) = true := by simp
  have HS : Hid (∀ W : World, Calls Tryz.prog 45 #[.agg #[.int .i64 y1, .int .i64 y2, .int .i64 y3, .slice none 0 0, .slice none 0 0, .slice none 0 0], .agg #[.int .i64 y1, .int .i64 y2, .int .i64 y3, .slice none 0 0, .slice none 0 0, .slice none 0 0]] W fun e w' => e = .returned (.bool true) ∧ Below W.heap.size W w') := Lib.hid fun W =>
    (SameAsk_yes ⟨y1, y2, y3, [], [], []⟩ none none none none none none 0 0 0 0 0 0 0 0 0 W ⟨L.Row.nil _ _ _ _, Row.nil _ _ _ _, Row.nil _ _ _ _, rfl, rfl, rfl⟩ ⟨L.Row.nil _ _ _ _, Row.nil _ _ _ _, Row.nil _ _ _ _, rfl, rfl, rfl⟩ (by omega) (by omega) (by omega)).mono fun e w' h => ⟨h.1, h.2⟩
  clear q2 h3
  go_wp2_with fail
  refine (HS.out _).mono ?_
  rintro e w4 ⟨rfl, b4⟩
  have bel4 := Lib.hid (bel3.out.trans (b4.mono bel3.out.size))
  clear p0 p1 p2 p3 p4 p5 r0 r1 r2 r3 r4 r5 b4
  go_wp2_with fail
  refine (works10_yes _).mono ?_
  rintro e w5 ⟨rfl, b5⟩
  go_wp2
  go_ret
  exact ⟨rfl, bel4.out.trans (b5.mono bel4.out.size)⟩
end Go.Proofs.YtcmbdhmhkfhjfaaGreat
namespace Go.Proofs.YtcmbdhmhkfhjfaaGreat
open Go.RowKit
set_option linter.unusedVariables false
set_option maxRecDepth 100000
attribute [local go_sem ↓] ldTag_fold stTag_fold bxTag_fold bsTag_fold
attribute [local go_sem] bxTag_run bsTag3

def regK (s : ByteArray) (a k : Int) (wd : Bool) : Tg := ⟨s, 1, k, a, 5, wd, false, false, 1, 1, 0, 0, 0, false, false, false, 0, 0, 0⟩
theorem regK_ok {s : ByteArray} {a k : Int} (wd : Bool) (h : s.size ≤ maxLen) (ha : (Lit.int .i64 a).wf = true) (hk : 0 ≤ k ∧ k ≤ 100) : Tg.Ok (regK s a k wd) := by
  have := wf_i64 ha
  refine ⟨h, ?_, ?_, ?_, ?_⟩ <;> simp [regK] <;> omega
def adL : List Int := [0, 1, 8, 9, 10, 11, 116, 117, 118, 123, 124, 125, 126, 1999, 2000, 2001, 65534, 65535]
theorem adL_wf : ∀ x ∈ adL, (Lit.int .i64 x).wf = true := by decide
theorem adL_at {p : Nat} (h : p < 18) : (Lit.int .i64 (nth adL p)).wf = true ∧ 0 ≤ nth adL p ∧ nth adL p ≤ 65535 := by
  have hl : p < adL.length := h
  have hm : nth adL p ∈ adL := nth_mem adL p hl
  generalize nth adL p = x at *
  refine ⟨adL_wf x hm, ?_⟩
  simp only [adL, List.mem_cons, List.not_mem_nil, or_false] at hm
  omega
theorem tgBox5 {w : World} {g : Nat} {t : Tg} {T : TypeId} (h : w.heap[g]? = some (.cells (tgC t).toArray T (0, 0))) : w.cell? ⟨g, 5, none⟩ = some (.bool t.we) := by
  obtain ⟨nm, un, ki, ad, ev, we, sg, sw, mu, di, aa, de, qu, ul, uh, la, lo, hi, hy⟩ := t
  exact cell_of_row _ _ 5 _ _ _ h
theorem tags3_ok {a b c : Tg} (ha : Tg.Ok a) (hb : Tg.Ok b) (hc : Tg.Ok c) : ∀ t ∈ [a, b, c], Tg.Ok t := by
  intro t ht
  simp only [List.mem_cons, List.not_mem_nil, or_false] at ht
  rcases ht with rfl | rfl | rfl <;> assumption
def Three10 (f : Nat) : Prop := ∀ (a b c : Tg) (W : World), Tg.Ok a → Tg.Ok b → Tg.Ok c → Calls Tryz.prog f #[.slice (some ⟨W.heap.size, 0, none⟩) 3 3] (W.alloc (.cells (flatV tgC [a, b, c]).toArray 51)) fun e w' => e = .returned (.bool true) ∧ Below W.heap.size W w'
set_option maxHeartbeats 8000000 in
theorem known10_loops (HPO : Hid (Three10 17)) (HCO : Hid (Three10 18)) (HFW : Hid (Three10 19)) (HKV : Hid (∀ W : World, Calls Tryz.prog 21 #[] W fun e w' => e = .returned (.bool true) ∧ Below W.heap.size W w')) (w : World) :
    Calls Tryz.prog 4 #[] w fun e w' => e = .returned (.bool true) ∧ Below w.heap.size w w' := by
  have hx0 : (w.alloc (.cells #[.int .i64 0, .int .i64 1, .int .i64 8, .int .i64 9, .int .i64 10, .int .i64 11, .int .i64 116, .int .i64 117, .int .i64 118, .int .i64 123, .int .i64 124, .int .i64 125, .int .i64 126, .int .i64 1999, .int .i64 2000, .int .i64 2001, .int .i64 65534, .int .i64 65535] 3)).heap[w.heap.size]? = some (.cells (blk .i64 adL) 3 (0, 0)) := heap_alloc_new w (.cells (blk .i64 adL) 3)
  have bel0 := bel_alloc w (.cells #[.int .i64 0, .int .i64 1, .int .i64 8, .int .i64 9, .int .i64 10, .int .i64 11, .int .i64 116, .int .i64 117, .int .i64 118, .int .i64 123, .int .i64 124, .int .i64 125, .int .i64 126, .int .i64 1999, .int .i64 2000, .int .i64 2001, .int .i64 65534, .int .i64 65535] 3)
  have H1 : Hid (∀ (s : ByteArray) (a : Int) (W : World), Calls Tryz.prog 16 #[.string s, .int .i64 a] W fun e w' => e = .returned (tgV (regT s a)) ∧ Below W.heap.size W w') := Lib.hid fun s a W => reg_any s a W
  go_enter Tryz.func4, Tryz.ntmps4
  go_wp2
  generalize hWQ : w.alloc (.cells #[.int .i64 0, .int .i64 1, .int .i64 8, .int .i64 9, .int .i64 10, .int .i64 11, .int .i64 116, .int .i64 117, .int .i64 118, .int .i64 123, .int .i64 124, .int .i64 125, .int .i64 126, .int .i64 1999, .int .i64 2000, .int .i64 2001, .int .i64 65534, .int .i64 65535] 3) = wq at *
  have HX := Lib.hid hx0
  have HB0 := Lib.hid bel0
  clear hWQ hx0 bel0
  have HCELL : Hid (∀ W : World, Below wq.heap.size wq W → ∀ p, p < 18 → W.cell? ⟨w.heap.size, p, none⟩ = some (.int .i64 (nth adL p))) := Lib.hid (fun W hb p hp => by
    rw [cell_of_row _ _ p _ _ _ (keepB hb HX.out), blk_get _ _ _ hp])
  go_loopw [2] (fun i wr => ∃ p : Nat, p ≤ 18 ∧ i = .int .i64 p ∧ Hid (Below wq.heap.size wq wr)) (fun i _ => 18 - (intOf i).toNat)
  case atStart => exact ⟨0, by omega, rfl, Lib.hid (Below.refl _ _)⟩
  case round =>
    obtain ⟨p, hp, rfl, hbel⟩ := hrel
    by_cases hlt : p < 18
    · have p1 : (p : Int) < 18 := by omega
      have p0 : (0 : Int) ≤ p := by omega
      have pw : IntKind.i64.wrap ((p : Int) + 1) = (p : Int) + 1 := by rw [IntKind.wrap_i64]; omega
      go_wp2
      go_loopw [3] (fun i wr => ∃ q : Nat, q ≤ 18 ∧ i = .int .i64 q ∧ Hid (Below wq.heap.size wq wr)) (fun i _ => 18 - (intOf i).toNat)
      case atStart => exact ⟨0, by omega, rfl, hbel⟩
      case round =>
        clear hbel
        obtain ⟨q, hq, rfl, hbel⟩ := hrel
        by_cases hlq : q < 18
        · have q1 : (q : Int) < 18 := by omega
          have q0 : (0 : Int) ≤ q := by omega
          have qw : IntKind.i64.wrap ((q : Int) + 1) = (q : Int) + 1 := by rw [IntKind.wrap_i64]; omega
          go_wp2
          go_loopw [4] (fun i wr => ∃ r : Nat, r ≤ 6 ∧ i = .int .i64 r ∧ Hid (Below wq.heap.size wq wr)) (fun i _ => 6 - (intOf i).toNat)
          case atStart => exact ⟨0, by omega, rfl, hbel⟩
          case round =>
            clear hbel
            obtain ⟨r, hr, rfl, hbel⟩ := hrel
            have cp := HCELL.out wr hbel.out p hlt
            have cq := HCELL.out wr hbel.out q hlq
            obtain ⟨x, hx⟩ : ∃ x, nth adL p = x := ⟨_, rfl⟩
            obtain ⟨y, hy⟩ : ∃ y, nth adL q = y := ⟨_, rfl⟩
            have hxa := adL_at hlt
            have hya := adL_at hlq
            rw [hx] at cp hxa
            rw [hy] at cq hya
            have HXX := Lib.hid hx
            have HYY := Lib.hid hy
            clear hx hy
            by_cases hlr : r < 6
            · have r0 : (0 : Int) ≤ r := by omega
              have r1 : (r : Int) ≤ 5 := by omega
              have rw1 : IntKind.i64.wrap ((r : Int) + 1) = (r : Int) + 1 := by rw [IntKind.wrap_i64]; omega
              go_wp2_with fail
              refine (H1.out _ _ _).mono ?_
              rintro e w1 ⟨rfl, b1⟩
              obtain ⟨ta, hta⟩ : ∃ ta, regT ⟨#[97]⟩ x = ta := ⟨_, rfl⟩
              rw [hta]
              have HTA := Lib.hid hta
              clear hta
              have b1S := Lib.hid b1.size
              have hs1 := made_tag w1 ta
              have hb1 := b1.alloc b1.size (.cells (tgC ta).toArray 51)
              have hxa1 := heap_alloc_new w1 (.cells (tgC ta).toArray 51)
              have cq1 := HCELL.out (w1.alloc (.cells (tgC ta).toArray 51)) (hbel.out.trans (hb1.mono hbel.out.size)) q hlq
              rw [HYY.out] at cq1
              go_wp2_with fail
              refine (H1.out _ _ _).mono ?_
              rintro e w2 ⟨rfl, b2⟩
              obtain ⟨tb, htb⟩ : ∃ tb, regT ⟨#[98]⟩ y = tb := ⟨_, rfl⟩
              rw [htb]
              have HTB := Lib.hid htb
              clear htb
              have hz1 : (w1.alloc (.cells (tgC ta).toArray 51)).heap.size = w1.heap.size + 1 := by simp
              have hl12 : w1.heap.size < w2.heap.size := by have := b2.size; omega
              have hb2 := hb1.trans (b2.mono hb1.size)
              have hxa2 := keepB b2 hxa1
              clear hs1 cq1 hxa1 hz1 b2 b1 hb1
              have hs2 := made_tag w2 tb
              have hb2b := hb2.alloc hb2.size (.cells (tgC tb).toArray 51)
              have hxb2 := heap_alloc_new w2 (.cells (tgC tb).toArray 51)
              have hxa2b := (heap_alloc_old w2 (.cells (tgC tb).toArray 51) hl12).trans hxa2
              go_wp2_with fail
              refine (H1.out _ _ _).mono ?_
              rintro e w3 ⟨rfl, b3⟩
              obtain ⟨tc, htc⟩ : ∃ tc, regT ⟨#[99]⟩ 9 = tc := ⟨_, rfl⟩
              rw [htc]
              have HTC := Lib.hid htc
              clear htc
              have hz2 : (w2.alloc (.cells (tgC tb).toArray 51)).heap.size = w2.heap.size + 1 := by simp
              have hl23 : w2.heap.size < w3.heap.size := by have := b3.size; omega
              have hb3 := hb2b.trans (b3.mono hb2b.size)
              have hxa3 := keepB b3 hxa2b
              have hxb3 := keepB b3 hxb2
              clear hs2 hxa2 hxa2b hxb2 hz2 b3 hb2b hb2
              have hs3 := made_tag w3 tc
              have hl13 : w1.heap.size < w3.heap.size := by omega
              obtain ⟨a0, a1, a2, a3, a4⟩ := tgBox hxa3
              obtain ⟨b0, b1, b2, b3, b4⟩ := tgBox hxb3
              have b5 := tgBox5 hxb3
              have fa2 := block_frozen _ _ 2 _ _ hxa3
              have fb2 := block_frozen _ _ 2 _ _ hxb3
              have fb5 := block_frozen _ _ 5 _ _ hxb3
              have hgr1 : wr.heap.size ≤ w1.heap.size := b1S.out
              have hgr2 : wr.heap.size ≤ w2.heap.size := by omega
              obtain ⟨wd, hwd⟩ : ∃ wd, ((q : Int) % 2 == 1) = wd := ⟨_, rfl⟩
              have hwd2 : ((q : Int).tmod 2 == 1) = wd := by rw [Int.tmod_eq_emod_of_nonneg (by omega)]; exact hwd
              have hwq : IntKind.i64.wrap ((q : Int).tmod 2) = (q : Int).tmod 2 := by rw [Int.tmod_eq_emod_of_nonneg (by omega), IntKind.wrap_i64]; omega
              have hwq2 : IntKind.i64.wrap ((q : Int) % 2) = (q : Int) % 2 := by rw [IntKind.wrap_i64]; omega
              have GA1 : (w3.setCell ⟨w1.heap.size, 2, none⟩ (.int .i64 (r : Int))).heap[w1.heap.size]? = some (.cells (tgC (regK ⟨#[97]⟩ x r false)).toArray 51 (0, 0)) := by
                rw [← HTA.out] at hxa3
                simp [World.setCell, Array.getElem?_modify, hxa3]
                rfl
              have GB1 := (Below.heap_setCell w3 ⟨w1.heap.size, 2, none⟩ (.int .i64 (r : Int)) w2.heap.size (by intro e; simp only at e; omega)).trans hxb3
              have GA2 := (Below.heap_setCell (w3.setCell ⟨w1.heap.size, 2, none⟩ (.int .i64 (r : Int))) ⟨w2.heap.size, 2, none⟩ (.int .i64 (r : Int)) w1.heap.size (by intro e; simp only at e; omega)).trans GA1
              have GB2 : ((w3.setCell ⟨w1.heap.size, 2, none⟩ (.int .i64 (r : Int))).setCell ⟨w2.heap.size, 2, none⟩ (.int .i64 (r : Int))).heap[w2.heap.size]? = some (.cells (tgC (regK ⟨#[98]⟩ y r false)).toArray 51 (0, 0)) := by
                rw [← HTB.out] at GB1
                generalize (w3.setCell ⟨w1.heap.size, 2, none⟩ (.int .i64 (r : Int))) = u1 at *
                simp [World.setCell, Array.getElem?_modify, GB1]
                rfl
              have GA3 := (Below.heap_setCell ((w3.setCell ⟨w1.heap.size, 2, none⟩ (.int .i64 (r : Int))).setCell ⟨w2.heap.size, 2, none⟩ (.int .i64 (r : Int))) ⟨w2.heap.size, 5, none⟩ (.bool wd) w1.heap.size (by intro e; simp only at e; omega)).trans GA2
              have GB3 : (((w3.setCell ⟨w1.heap.size, 2, none⟩ (.int .i64 (r : Int))).setCell ⟨w2.heap.size, 2, none⟩ (.int .i64 (r : Int))).setCell ⟨w2.heap.size, 5, none⟩ (.bool wd)).heap[w2.heap.size]? = some (.cells (tgC (regK ⟨#[98]⟩ y r wd)).toArray 51 (0, 0)) := by
                generalize ((w3.setCell ⟨w1.heap.size, 2, none⟩ (.int .i64 (r : Int))).setCell ⟨w2.heap.size, 2, none⟩ (.int .i64 (r : Int))) = u2 at *
                simp [World.setCell, Array.getElem?_modify, GB2]
                rfl
              have UB := below_setCell (below_setCell (below_setCell hb3 hgr1 2 (.int .i64 (r : Int))) hgr2 2 (.int .i64 (r : Int))) hgr2 5 (.bool wd)
              have hus : (((w3.setCell ⟨w1.heap.size, 2, none⟩ (.int .i64 (r : Int))).setCell ⟨w2.heap.size, 2, none⟩ (.int .i64 (r : Int))).setCell ⟨w2.heap.size, 5, none⟩ (.bool wd)).heap.size = w3.heap.size := by simp [World.setCell]
              clear GA1 GB1 GA2 GB2 hxa3 hxb3 hb3
              have HU : Hid (∀ W : World, W = (((w3.setCell ⟨w1.heap.size, 2, none⟩ (.int .i64 (r : Int))).setCell ⟨w2.heap.size, 2, none⟩ (.int .i64 (r : Int))).setCell ⟨w2.heap.size, 5, none⟩ (.bool wd)).alloc (.cells (tgC tc).toArray 51) → W.heap[w1.heap.size]? = some (.cells (tgC (regK ⟨#[97]⟩ x r false)).toArray 51 (0, 0)) ∧ W.heap[w2.heap.size]? = some (.cells (tgC (regK ⟨#[98]⟩ y r wd)).toArray 51 (0, 0)) ∧ W.heap[w3.heap.size]? = some (.cells (tgC (regT ⟨#[99]⟩ 9)).toArray 51 (0, 0)) ∧ Below wr.heap.size wr W) := Lib.hid (fun W hW => by
                subst hW
                generalize (((w3.setCell ⟨w1.heap.size, 2, none⟩ (.int .i64 (r : Int))).setCell ⟨w2.heap.size, 2, none⟩ (.int .i64 (r : Int))).setCell ⟨w2.heap.size, 5, none⟩ (.bool wd)) = u3 at *
                refine ⟨(heap_alloc_old u3 _ (by omega)).trans GA3, (heap_alloc_old u3 _ (by omega)).trans GB3, ?_, UB.alloc UB.size _⟩
                rw [← hus, HTC.out]
                exact heap_alloc_new u3 _)
              obtain ⟨wz, hwz⟩ : ∃ W, W = (((w3.setCell ⟨w1.heap.size, 2, none⟩ (.int .i64 (r : Int))).setCell ⟨w2.heap.size, 2, none⟩ (.int .i64 (r : Int))).setCell ⟨w2.heap.size, 5, none⟩ (.bool wd)).alloc (.cells (tgC tc).toArray 51) := ⟨_, rfl⟩
              obtain ⟨Z1, Z2, Z3, Z4⟩ := HU.out wz hwz
              have hla := tgBox_ld Z1
              have hlb := tgBox_ld Z2
              have hlc := tgBox_ld Z3
              rw [hwz] at hla hlb hlc
              have HZ1 := Lib.hid Z1
              have HZ2 := Lib.hid Z2
              have HZ3 := Lib.hid Z3
              have HZ4 := Lib.hid (hbel.out.trans (Z4.mono hbel.out.size))
              have HWZ := Lib.hid hwz
              obtain ⟨xa, hxa'⟩ : ∃ t, regK ⟨#[97]⟩ x r false = t := ⟨_, rfl⟩
              obtain ⟨xb, hxb'⟩ : ∃ t, regK ⟨#[98]⟩ y r wd = t := ⟨_, rfl⟩
              obtain ⟨xc, hxc'⟩ : ∃ t, regT ⟨#[99]⟩ 9 = t := ⟨_, rfl⟩
              have OKA : Hid (Tg.Ok xa) := Lib.hid (by rw [← hxa']; exact regK_ok false (by decide) hxa.1 (by omega))
              have OKB : Hid (Tg.Ok xb) := Lib.hid (by rw [← hxb']; exact regK_ok wd (by decide) hya.1 (by omega))
              have OKC : Hid (Tg.Ok xc) := Lib.hid (by rw [← hxc']; exact regT_ok (by decide) (by decide))
              rw [hxa'] at hla HZ1
              rw [hxb'] at hlb HZ2
              rw [hxc'] at hlc HZ3
              clear GA3 GB3 UB hus HU Z1 Z2 Z3 Z4 hwz hxa' hxb' hxc' HTA HTB
              go_wp2_with fail
              have hzz : w3.heap.size + 1 = wz.heap.size := by rw [HWZ.out]; simp [World.setCell]
              have hcall := HPO.out xa xb xc wz OKA.out OKB.out OKC.out
              rw [← hzz, HWZ.out] at hcall
              refine hcall.mono ?_
              rintro e w5 ⟨rfl, b5x⟩
              have b5 : Below wz.heap.size wz w5 := by rw [← hzz, HWZ.out]; exact b5x
              have HB5 := Lib.hid b5
              clear hcall b5x hla hlb hlc hzz
              have hla := tgBox_ld (keepB b5 HZ1.out)
              have hlb := tgBox_ld (keepB b5 HZ2.out)
              have hlc := tgBox_ld (keepB b5 HZ3.out)
              clear b5
              go_wp2_with fail
              refine (HCO.out xa xb xc w5 OKA.out OKB.out OKC.out).mono ?_
              rintro e w6 ⟨rfl, b6⟩
              have HB6 := Lib.hid (HB5.out.trans (b6.mono HB5.out.size))
              clear hla hlb hlc b6
              have hla := tgBox_ld (keepB HB6.out HZ1.out)
              have hlb := tgBox_ld (keepB HB6.out HZ2.out)
              have hlc := tgBox_ld (keepB HB6.out HZ3.out)
              go_wp2_with fail
              refine (HFW.out xb xa xc w6 OKB.out OKA.out OKC.out).mono ?_
              rintro e w7 ⟨rfl, b7⟩
              have hbel7 := Lib.hid (HZ4.out.trans ((HB6.out.trans (b7.mono HB6.out.size)).mono HZ4.out.size))
              clear hla hlb hlc b7
              go_wp2
              go_roundw
              case rel => exact ⟨r + 1, by omega, by go_num, hbel7⟩
              case measure => simp [intOf]; omega
            · obtain rfl : r = 6 := by omega
              go_wp2
              have HK : Hid (∀ W : World, Below wr.heap.size wr W → (Below wr.heap.size wr W ∧ W.cell? ⟨w.heap.size, q, none⟩ = some (.int .i64 y) ∧ W.cell? ⟨w.heap.size, p, none⟩ = some (.int .i64 x))) := Lib.hid fun W hb => ⟨hb, by have h := HCELL.out W (hbel.out.trans (hb.mono hbel.out.size)) q hlq; rw [HYY.out] at h; exact h, by have h := HCELL.out W (hbel.out.trans (hb.mono hbel.out.size)) p hlt; rw [HXX.out] at h; exact h⟩
              have belh : ∀ W : World, (Below wr.heap.size wr W ∧ W.cell? ⟨w.heap.size, q, none⟩ = some (.int .i64 y) ∧ W.cell? ⟨w.heap.size, p, none⟩ = some (.int .i64 x)) → Below wr.heap.size wr W := fun W h => h.1
              have HAS : Hid (∀ (k a c : Int) (W : World), (Lit.int .i64 k).wf = true → (Lit.int .i64 a).wf = true → (Lit.int .i64 c).wf = true → Calls Tryz.prog 20 #[.agg #[.int .i64 0, .int .i64 k, .int .i64 a, .int .i64 c, .int .i64 0, .slice none 0 0]] W fun e w' => e = .returned (.bool true) ∧ Below W.heap.size W w') := Lib.hid fun k a c W h1 h2 h3 => walk_PlanAsks 0 k a c 0 none 0 0 [] W (Row.nil _ _ _ _) rfl ⟨by decide, h1, h2, h3, by decide⟩
              have HWX := Lib.hid hxa.1
              have HWY := Lib.hid hya.1
              have hpw : IntKind.i64.wrap ((p : Int) - 1) = (p : Int) - 1 := by rw [IntKind.wrap_i64]; omega
              have HWP : Hid ((Lit.int .i64 ((p : Int) - 1)).wf = true) := Lib.hid (by simp [Lit.wf, IntKind.min, IntKind.max, IntKind.signed, IntKind.bits]; omega)
              clear cp cq
              go_region_held3 (fun W => Below wr.heap.size wr W ∧ W.cell? ⟨w.heap.size, q, none⟩ = some (.int .i64 y) ∧ W.cell? ⟨w.heap.size, p, none⟩ = some (.int .i64 x))
                ((refine HK.out _ ?_
                  repeat' (first
                    | with_reducible exact Below.refl _ _
                    | with_reducible exact bel8
                    | with_reducible exact belh _ (by assumption)
                    | with_reducible apply below_drew
                    | with_reducible apply below_drewN
                    | fail)))
                (first
                  | (go_at_call 20; have bh := belh _ (by assumption); refine (HAS.out _ _ _ _ (by first | exact HWP.out | decide) HWY.out HWX.out).mono ?_; rintro e w8 ⟨rfl, b8⟩; have bel8 : Below wr.heap.size wr w8 := Below.trans bh (b8.mono bh.size))
                  | fail)
              have hbel9 := Lib.hid (hbel.out.trans (bel8.mono hbel.out.size))
              clear HK belh bel8 b8
              go_wp2
              go_roundw
              case rel => exact ⟨q + 1, by omega, by go_num, hbel9⟩
              case measure => simp [intOf]; omega
        · obtain rfl : q = 18 := by omega
          go_wp2
          go_roundw
          case rel => exact ⟨p + 1, by omega, by go_num, hbel⟩
          case measure => simp [intOf]; omega
    · obtain rfl : p = 18 := by omega
      have BELW := Lib.hid (HB0.out.trans (hbel.out.mono HB0.out.size))
      go_wp2_with fail
      refine (HKV.out _).mono ?_
      rintro e w5 ⟨rfl, b5⟩
      have bel5 := BELW.out.trans (b5.mono BELW.out.size)
      go_wp2_with fail
      refine (works10_yes _).mono ?_
      rintro e w6 ⟨rfl, b6⟩
      have bel6 := bel5.trans (b6.mono bel5.size)
      go_wp2
      go_ret
      exact ⟨rfl, bel6⟩
end Go.Proofs.YtcmbdhmhkfhjfaaGreat
