/-
  Texts of the proof of ReplyGets, joined.
-/
import Derived.Test.YtobhllcnljggiaaJReplyGetsE
import Derived.Test.YtobhllcnljggiaaJReplyGetsD
import Derived.Test.YtobhllcnljggiaaJReplyGetsA
import Derived.Laws.AppendOwn
import Derived.Test.YtobhllcnljggiaaJReplyGetsC
import Derived.Deep.RegionHeld3
namespace Go.Proofs.Ytobhllcnljggiaa
open Go.RowKit
set_option linter.unusedVariables false

theorem make_files (n : Nat) (hn : n ≤ 1000000) (W : World) :
    (Instr.makeSlice 27 (.int .i64 (n : Int)) (.int .i64 (n : Int))).run Try.prog W = .ok (.slice (some ⟨W.heap.size, 0, none⟩) n n) (W.alloc (.cells (Array.replicate n (Value.slice none 0 0)) 23)) := by
  obtain ⟨i, hi, hz, hs, hb⟩ := info_parts info_words
  have h := run_make (P := Try.prog) W 27 23 i (.slice none 0 0) Try.underlying27 hi hz .i64 .i64 n n (by omega) (by omega) (by rw [hb]; omega) (by omega)
  have e : madeCells (Value.slice none 0 0).cells (n * 1) = Array.replicate n (Value.slice none 0 0) := by
    apply Array.toList_inj.1
    rw [show (Value.slice none 0 0).cells = #[Value.slice none 0 0] from rfl, toList_madeCells_one, Nat.mul_one, Array.toList_replicate]
  rw [h, hs, Int.toNat_natCast, e]

/-- A block of n lists, the first k of which are the files that bytes say. -/
def FillK (w : World) (g2 n k : Nat) (fl ys : List Int) : Prop :=
  ∃ L : List Value, L.length = k ∧ w.heap[g2]? = some (.cells (L ++ List.replicate (n - k) (Value.slice none 0 0)).toArray 23 (0, 0)) ∧ ∀ i, i < k → ∃ gi, L[i]? = some (.slice (some ⟨gi, 0, none⟩) (fileAt fl ys i).length (fileAt fl ys i).length) ∧ g2 < gi ∧ W.Bk w gi (fileAt fl ys i)
theorem FillK.zero (w : World) (n : Nat) (fl ys : List Int) : FillK (w.alloc (.cells (Array.replicate n (Value.slice none 0 0)) 23)) w.heap.size n 0 fl ys :=
  ⟨[], rfl, by simpa using heap_alloc_new w (.cells (Array.replicate n (Value.slice none 0 0)) 23), fun i hi => absurd hi (by omega)⟩
theorem FillK.keep {w w' : World} {g2 n k : Nat} {fl ys : List Int} (h : FillK w g2 n k fl ys) (hk : ∀ g o, g2 ≤ g → w.heap[g]? = some o → w'.heap[g]? = some o) : FillK w' g2 n k fl ys := by
  obtain ⟨L, h1, h2, h3⟩ := h
  refine ⟨L, h1, hk _ _ (Nat.le_refl _) h2, fun i hi => ?_⟩
  obtain ⟨gi, g1, g2', g3⟩ := h3 i hi
  exact ⟨gi, g1, g2', hk _ _ (by omega) g3⟩
theorem FillK.below {w w' : World} {g2 n k : Nat} {fl ys : List Int} (h : FillK w g2 n k fl ys) (hb : Below w.heap.size w w') : FillK w' g2 n k fl ys :=
  h.keep fun g o _ ho => (hb.block g (block_lt ho)).trans ho
theorem FillK.far {w : World} {g2 n k : Nat} {fl ys : List Int} (h : FillK w g2 n k fl ys) {g : Nat} (hg : g < g2) (i : Nat) (v : Value) : FillK (w.setCell ⟨g, i, none⟩ v) g2 n k fl ys :=
  h.keep fun j o hj ho => (Below.heap_setCell w ⟨g, i, none⟩ v j (by simp; omega)).trans ho
theorem FillK.lt {w : World} {g2 n k : Nat} {fl ys : List Int} (h : FillK w g2 n k fl ys) : g2 < w.heap.size := by
  obtain ⟨L, h1, h2, h3⟩ := h
  exact block_lt h2
theorem FillK.cell {w : World} {g2 n k : Nat} {fl ys : List Int} (h : FillK w g2 n k fl ys) (hk : k < n) : w.cell? ⟨g2, k, none⟩ = some (.slice none 0 0) ∧ w.frozen? ⟨g2, k, none⟩ = false := by
  obtain ⟨L, h1, h2, h3⟩ := h
  refine ⟨?_, block_frozen w g2 k _ _ h2⟩
  rw [cell_of_row w g2 k _ _ _ h2]
  simp only [List.getElem?_toArray]
  rw [List.getElem?_append_right (by omega), List.getElem?_replicate]
  rw [if_pos (by omega)]
theorem FillK.step {w : World} {g2 n k : Nat} {fl ys : List Int} (h : FillK w g2 n k fl ys) (hk : k < n) {gn l : Nat} (hg : g2 < gn) (hl : (fileAt fl ys k).length = l) (hb : W.Bk w gn (fileAt fl ys k)) : FillK (w.setCell ⟨g2, k, none⟩ (.slice (some ⟨gn, 0, none⟩) l l)) g2 n (k + 1) fl ys := by
  obtain ⟨L, h1, h2, h3⟩ := h
  have other : ∀ j o, j ≠ g2 → w.heap[j]? = some o → (w.setCell ⟨g2, k, none⟩ (.slice (some ⟨gn, 0, none⟩) l l)).heap[j]? = some o := fun j o hj ho => (Below.heap_setCell w ⟨g2, k, none⟩ _ j (by simpa using hj)).trans ho
  refine ⟨L ++ [.slice (some ⟨gn, 0, none⟩) l l], by simp [h1], ?_, fun i hi => ?_⟩
  · rw [box_set h2 k _]
    congr 2
    apply Array.toList_inj.1
    rw [Array.toList_setIfInBounds]
    show (L ++ List.replicate (n - k) (Value.slice none 0 0)).set k _ = _
    rw [List.set_append_right _ _ (by omega), h1, Nat.sub_self, show n - k = (n - (k + 1)) + 1 by omega, List.replicate_succ, List.set_cons_zero]
    simp
  · by_cases e : i = k
    · subst e
      exact ⟨gn, by rw [List.getElem?_append_right (by omega), h1, Nat.sub_self, hl]; rfl, hg, other _ _ (by omega) hb⟩
    · obtain ⟨gi, g1, g3, g4⟩ := h3 i (by omega)
      exact ⟨gi, by rw [List.getElem?_append_left (by omega)]; exact g1, g3, other _ _ (by omega) g4⟩
theorem FillK.full {w : World} {g2 n base : Nat} {fl ys : List Int} (h : FillK w g2 n n fl ys) (hb : base ≤ g2) : FileK w base (some ⟨g2, 0, none⟩) n n (filesR fl ys n) := by
  obtain ⟨L, h1, h2, h3⟩ := h
  rw [Nat.sub_self, List.replicate_zero, List.append_nil] at h2
  refine .inr ⟨g2, L, rfl, rfl, hb, filesR_length _ _ _, h1, h2, fun i hi => ?_⟩
  obtain ⟨gi, g1, g3, g4⟩ := h3 i hi
  rw [filesR_nth _ _ _ _ hi]
  exact ⟨gi, g1, by omega, g4⟩

/-- Files, if there are any. -/
def whenF (u : Bool) (fs : List (List Int)) : List (List Int) := if u = true then fs else []
set_option maxHeartbeats 4000000 in
set_option maxRecDepth 100000 in
theorem readFiles_any (fl ys : List Int) (Ap : Option Addr) (lp cp b o m cap g B : Nat) (w : World) (hp : Row .i64 w B Ap fl) (hl : fl.length = 3 * lp) (h1 : ∀ i, i < lp → 1 ≤ nth fl (3 * i + 2)) (hm : posF fl lp = m) (hm2 : m ≤ 247) (hr : Row .u8 w B (some ⟨b, o, none⟩) ys) (hy : ys.length = m) (hcap : m ≤ cap) (hcb : cap ≤ 9223372036854775807)
    (hg : w.heap[g]? = some (.cells #[.slice (some ⟨b, o + 2, none⟩) (m - 2) (cap - 2)] 34 (0, 0))) (hB : B ≤ g) (hlp : lp ≤ 35) (hlp1 : 1 ≤ lp) :
    Calls Try.prog 97 #[.slice Ap lp cp, .func (.func 99) #[] #[.pointer (some ⟨g, 0, none⟩)]] w fun e w' => ∃ A n c, e = .returned (.tuple #[.slice A n c, .bool (headsR fl ys lp)]) ∧ FileK w' w.heap.size A n c (whenF (headsR fl ys lp) (filesR fl ys lp)) ∧ Below B w w' := by
  obtain ⟨u, hu⟩ : ∃ u, Hid (headsR fl ys lp = u) := ⟨_, Lib.hid rfl⟩
  rw [hu.out]
  have HP := Lib.hid hp
  have HL := Lib.hid hl
  have H1 := Lib.hid h1
  have HM := Lib.hid hm
  have HR := Lib.hid hr
  have HY := Lib.hid hy
  have hgw := block_lt hg
  have HBw : Hid (B ≤ w.heap.size) := Lib.hid (by omega)
  have hmk := make_files lp (by omega)
  have fill0 := Lib.hid (FillK.zero w lp fl ys)
  have bel0 : Below B w (w.alloc (.cells (Array.replicate lp (Value.slice none 0 0)) 23)) := (Below.refl _ _).alloc HBw.out _
  have hg0 := Lib.hid ((heap_alloc_old w (.cells (Array.replicate lp (Value.slice none 0 0)) 23) hgw).trans hg)
  clear hp hl h1 hm hr hy hg
  go_enter Try.func97, Try.ntmps97
  go_wp2
  clear hmk
  obtain ⟨g2, hg2⟩ : ∃ g2, w.heap.size = g2 := ⟨_, rfl⟩
  rw [hg2] at fill0 hgw
  rw [hg2]
  generalize w.alloc (.cells (Array.replicate lp (Value.slice none 0 0)) 23) = w1 at *
  go_loopw [7, 8, 9, 15] (fun _ _ _ i wr => ∃ (k : Nat) (A' : Option Addr), k ≤ lp ∧ i = .int .i64 k ∧ Hid (wr.heap[g]? = some (.cells #[.slice A' (m - posF fl k) (cap - posF fl k)] 34 (0, 0))) ∧ Hid (posF fl k < cap → A' = some ⟨b, o + posF fl k, none⟩) ∧ Hid (FillK wr g2 lp k fl ys) ∧ Hid (headsR fl ys k = true) ∧ Below B w wr) (fun _ _ _ i _ => lp - (intOf i).toNat)
  case atStart => exact ⟨0, _, by omega, rfl, hg0, Lib.hid (fun _ => rfl), fill0, Lib.hid rfl, bel0⟩
  case round =>
    clear bel0 hg0 fill0
    obtain ⟨k, A', hk, rfl, hgk, hA', fill, heads, bel⟩ := hrel
    by_cases hlt : k < lp
    · have hpl := posF_lt fl hlt
      have hmm := HM.out
      have hnn := H1.out k hlt
      have e0 : nth fl (3 * k + 2) = ((lenF fl k : Nat) : Int) := by rw [lenF]; omega
      have hl1 : 1 ≤ lenF fl k := by rw [lenF]; omega
      have HFL : Hid ((fileAt fl ys k).length = lenF fl k) := Lib.hid (fileAt_length _ _ _ (by rw [HY.out]; omega))
      have HFA : Hid (fileAt fl ys k = wwords ((ys.drop (posF fl k + 2)).take (2 * lenF fl k))) := Lib.hid rfl
      have HHA : Hid (headAt fl ys k = true ↔ nth ys (posF fl k) = ((1 + 2 * lenF fl k : Nat) : Int) ∧ nth ys (posF fl k + 1) = 6) := Lib.hid headAt_iff
      have HPS : Hid (posF fl (k + 1) = posF fl k + (2 + 2 * lenF fl k)) := Lib.hid rfl
      obtain ⟨b3, o3, hAp, hb3, hc1, hc2, hc3⟩ := (HP.out.below bel).three (k := k) (by have := HL.out; omega)
      subst hAp
      rw [e0] at hc3
      obtain rfl := hA'.out (by omega)
      clear e0 hnn hA'
      generalize lenF fl k = l at *
      generalize posF fl k = p at *
      generalize nth fl (3 * k) = y0 at *
      generalize nth fl (3 * k + 1) = y1 at *
      have hpm : p + (2 + 2 * l) ≤ m := by omega
      obtain ⟨b', o', hA, hbB, hd0⟩ := HR.out.at_ (i := p) (by have := HY.out; omega)
      injection hA with hA
      injection hA with hA1 hA2
      subst hA1 hA2
      obtain ⟨b', o', hA, _, hd1⟩ := HR.out.at_ (i := p + 1) (by have := HY.out; omega)
      injection hA with hA
      injection hA with hA1 hA2
      subst hA1 hA2
      rw [← Nat.add_assoc] at hd1
      have e1 : IntKind.i64.wrap (2 * (l : Int)) = 2 * (l : Int) := IntWalk.i64_in _ (by omega)
      have bA := bel_alloc wr (.cells #[.int .i64 y0, .int .i64 y1, .int .i64 l] 77)
      have fill1 := Lib.hid (fill.out.below bA)
      have hgk1 := Lib.hid ((bA.block g (by have := bel.size; omega)).trans hgk.out)
      have hpb := Lib.hid (heap_alloc_new wr (.cells #[.int .i64 y0, .int .i64 y1, .int .i64 l] 77))
      have bel1 : Below B w (wr.alloc (.cells #[.int .i64 y0, .int .i64 y1, .int .i64 l] 77)) := bel.alloc (by have := bel.size; have := HBw.out; omega) _
      have hfl := fill.out.lt
      clear hgk fill bA hpl hmm
      go_wp2_with fail
      generalize wr.alloc (.cells #[.int .i64 y0, .int .i64 y1, .int .i64 l] 77) = wa at *
      obtain ⟨gp, hgp⟩ : ∃ gp, wr.heap.size = gp := ⟨_, rfl⟩
      rw [hgp] at hpb hfl
      rw [hgp]
      clear hgp hc1 hc2 hc3
      refine (take_any b (o + p) (m - p) (cap - p) 2 g _ hgk1.out (by omega) (by omega) (by omega)).mono ?_
      rintro e w2' ⟨rfl, A2, hA2, rfl⟩
      obtain rfl := hA2 (by omega)
      have bel2 := below_setCell bel1 hB 0 (.slice (some ⟨b, o + p + 2, none⟩) (m - p - 2) (cap - p - 2))
      have fill2 := Lib.hid (fill1.out.far hgw 0 (.slice (some ⟨b, o + p + 2, none⟩) (m - p - 2) (cap - p - 2)))
      have hgk2 : Hid ((wa.setCell ⟨g, 0, none⟩ (.slice (some ⟨b, o + p + 2, none⟩) (m - p - 2) (cap - p - 2))).heap[g]? = some (.cells #[.slice (some ⟨b, o + p + 2, none⟩) (m - p - 2) (cap - p - 2)] 34 (0, 0))) := Lib.hid (box_set hgk1.out 0 _)
      have hpb2 : (wa.setCell ⟨g, 0, none⟩ (.slice (some ⟨b, o + p + 2, none⟩) (m - p - 2) (cap - p - 2))).heap[gp]? = some (.cells #[.int .i64 y0, .int .i64 y1, .int .i64 l] 77 (0, 0)) := (Below.heap_setCell wa ⟨g, 0, none⟩ _ gp (by simp; omega)).trans hpb.out
      clear hA2 bel1 fill1 hgk1 hpb
      generalize wa.setCell ⟨g, 0, none⟩ (.slice (some ⟨b, o + p + 2, none⟩) (m - p - 2) (cap - p - 2)) = w2 at *
      have hp2 := cell_of_row w2 gp 2 _ _ _ hpb2
      have hp2' : w2.cell? ⟨gp, 2, none⟩ = some (.int .i64 l) := hp2
      have HPB := Lib.hid hpb2
      have hd0' := (bel2.cell (p := ⟨b, o + p, none⟩) hbB).trans hd0
      have hd1' := (bel2.cell (p := ⟨b, o + p + 1, none⟩) hbB).trans hd1
      clear hp2 hpb2 hd0 hd1
      obtain ⟨x0, hx0⟩ : ∃ x, nth ys p = x := ⟨_, rfl⟩
      obtain ⟨x1, hx1⟩ : ∃ x, nth ys (p + 1) = x := ⟨_, rfl⟩
      rw [hx0] at HHA hd0'
      rw [hx1] at HHA hd1'
      clear hx0 hx1
      obtain ⟨s, hs⟩ : ∃ s : Int, ((1 + 2 * l : Nat) : Int) = s := ⟨_, rfl⟩
      have HSAY : Hid (∀ W, Calls Try.prog 89 #[.int .i64 l] W fun e w' => e = .returned (.int .u8 s) ∧ w' = W) := Lib.hid (fun W => by rw [← hs]; exact partSays_any l W (by omega))
      rw [hs] at HHA
      clear hs
      by_cases f0 : x0 = s
      · have u0 : (x0 != s) = false := by simp [f0]
        have u0' : (x0 == s) = true := by simp [f0]
        by_cases f1 : x1 = 6
        · have u1 : (x1 != 6) = false := by simp [f1]
          have u1' : (x1 == 6) = true := by simp [f1]
          have HEADS : Hid (headsR fl ys (k + 1) = true) := Lib.hid (by rw [headsR, heads.out, HHA.out.2 ⟨f0, f1⟩]; rfl)
          clear f0 f1 HHA
          go_wp2_with fail
          go_quiet ((go_at_call 89; refine Calls.quiet_of_same (HSAY.out _)))
          have bel3 := below_drewN bel2 nq
          have fill3 : Hid (FillK (w2.drewN nq) g2 lp k fl ys) := fill2
          have hgk3 : Hid ((w2.drewN nq).heap[g]? = some (.cells #[.slice (some ⟨b, o + p + 2, none⟩) (m - p - 2) (cap - p - 2)] 34 (0, 0))) := hgk2
          have hp3 : (w2.drewN nq).cell? ⟨gp, 2, none⟩ = some (.int .i64 l) := hp2'
          clear bel2 fill2 hgk2 hp2' hd0' hd1' HPB
          generalize w2.drewN nq = w3 at *
          go_wp2_with fail
          refine (take_at b (o + p + 2) (m - p - 2) (cap - p - 2) (2 * l) g _ (by omega) _ hgk3.out (by omega) (by omega) (by omega)).mono ?_
          rintro e w4' ⟨rfl, A4, hA4, rfl⟩
          have bel4 := below_setCell bel3 hB 0 (.slice A4 (m - p - 2 - 2 * l) (cap - p - 2 - 2 * l))
          have fill4 := Lib.hid (fill3.out.far hgw 0 (.slice A4 (m - p - 2 - 2 * l) (cap - p - 2 - 2 * l)))
          have hgk4 : Hid ((w3.setCell ⟨g, 0, none⟩ (.slice A4 (m - p - 2 - 2 * l) (cap - p - 2 - 2 * l))).heap[g]? = some (.cells #[.slice A4 (m - p - 2 - 2 * l) (cap - p - 2 - 2 * l)] 34 (0, 0))) := Lib.hid (box_set hgk3.out 0 _)
          have HA4 : Hid (posF fl (k + 1) < cap → A4 = some ⟨b, o + posF fl (k + 1), none⟩) := Lib.hid (fun h => by
            rw [HPS.out] at h ⊢
            rw [hA4 (by omega)]
            congr 2; omega)
          clear hA4 bel3 fill3 hgk3 hp3
          generalize w3.setCell ⟨g, 0, none⟩ (.slice A4 (m - p - 2 - 2 * l) (cap - p - 2 - 2 * l)) = w4 at *
          have HRX := Lib.hid ((((HR.out.below bel4).drop (p + 2)).front (2 * l)).more (show B ≤ w4.heap.size by have := bel4.size; have := HBw.out; omega))
          rw [← Nat.add_assoc] at HRX
          have HRL : Hid (((ys.drop (p + 2)).take (2 * l)).length = 2 * l) := Lib.hid (by rw [List.length_take, List.length_drop, HY.out]; omega)
          go_wp2_with fail
          refine (Words_ok _ (2 * l) (cap - p - 2) l ((ys.drop (p + 2)).take (2 * l)) _ HRX.out HRL.out (by omega) (by omega) rfl).mono ?_
          rintro e w5' ⟨rfl, rfl⟩
          rw [← HFA.out]
          have bA := bel_alloc w4 (.cells (blk .u16 (fileAt fl ys k)) 75)
          have fill5 := Lib.hid (fill4.out.below bA)
          have hn5 : Hid (W.Bk (w4.alloc (.cells (blk .u16 (fileAt fl ys k)) 75)) w4.heap.size (fileAt fl ys k)) := Lib.hid (heap_alloc_new w4 (.cells (blk .u16 (fileAt fl ys k)) 75))
          have hgk5 := Lib.hid ((bA.block g (block_lt hgk4.out)).trans hgk4.out)
          have bel5 : Below B w (w4.alloc (.cells (blk .u16 (fileAt fl ys k)) 75)) := bel4.alloc (by have := bel4.size; have := HBw.out; omega) _
          have hlt4 := fill4.out.lt
          clear fill4 hgk4 bel4 bA HRX HRL
          generalize w4.heap.size = g5 at *
          generalize w4.alloc (.cells (blk .u16 (fileAt fl ys k)) 75) = w5 at *
          obtain ⟨hcell, hfz⟩ := fill5.out.cell hlt
          have hkl : (k : Int) < (lp : Int) := by omega
          have fill6 := Lib.hid (fill5.out.step hlt hlt4 HFL.out hn5.out)
          have bel6 := below_setCell bel5 (show B ≤ g2 by omega) k (.slice (some ⟨g5, 0, none⟩) l l)
          have hgk6 : Hid ((w5.setCell ⟨g2, k, none⟩ (.slice (some ⟨g5, 0, none⟩) l l)).heap[g]? = some (.cells #[.slice A4 (m - posF fl (k + 1)) (cap - posF fl (k + 1))] 34 (0, 0))) := Lib.hid (by
            refine ((Below.heap_setCell w5 ⟨g2, k, none⟩ _ g (by simp; omega)).trans hgk5.out).trans ?_
            rw [HPS.out, show m - p - 2 - 2 * l = m - (p + (2 + 2 * l)) by omega, show cap - p - 2 - 2 * l = cap - (p + (2 + 2 * l)) by omega])
          clear fill5 hgk5 bel5
          go_wp2
          go_roundw
          case rel => exact ⟨k + 1, A4, by omega, by go_num, hgk6, HA4, fill6, HEADS, bel6⟩
          case measure => simp [intOf]; omega
        · have u1 : (x1 != 6) = true := by simpa using f1
          have u1' : (x1 == 6) = false := beq_false_of_ne f1
          have HU : Hid (u = false) := Lib.hid (by
            rw [← hu.out]
            refine headsR_no hlt ?_
            cases hh : headAt fl ys k with
            | false => rfl
            | true => exact absurd (HHA.out.1 hh).2 f1)
          clear f0 f1 HHA
          go_wp2_with fail
          go_quiet ((go_at_call 89; refine Calls.quiet_of_same (HSAY.out _)))
          have bel3 := below_drewN bel2 nq
          go_wp2
          go_ret2
          refine ⟨none, 0, 0, by rw [HU.out]; rfl, ?_, bel3⟩
          rw [HU.out]
          exact FileK.nil _ _
      · have u0 : (x0 != s) = true := by simpa using f0
        have u0' : (x0 == s) = false := beq_false_of_ne f0
        have HU : Hid (u = false) := Lib.hid (by
          rw [← hu.out]
          refine headsR_no hlt ?_
          cases hh : headAt fl ys k with
          | false => rfl
          | true => exact absurd (HHA.out.1 hh).1 f0)
        clear f0 HHA
        go_wp2_with fail
        go_quiet ((go_at_call 89; refine Calls.quiet_of_same (HSAY.out _)))
        have bel3 := below_drewN bel2 nq
        go_wp2
        go_ret2
        refine ⟨none, 0, 0, by rw [HU.out]; rfl, ?_, bel3⟩
        rw [HU.out]
        exact FileK.nil _ _
    · obtain rfl : k = lp := by omega
      have HU : Hid (u = true) := Lib.hid (by rw [← hu.out]; exact heads.out)
      have hfull := Lib.hid (fill.out.full (base := g2) (Nat.le_refl _))
      go_wp2
      go_ret2
      refine ⟨_, _, _, by rw [HU.out]; rfl, ?_, bel⟩
      rw [HU.out, hg2]
      exact hfull.out
end Go.Proofs.Ytobhllcnljggiaa
namespace Go.Proofs.Ytobhllcnljggiaa
open Go.RowKit
set_option linter.unusedVariables false

theorem TB.below3 {w0 w w' : World} {B : Nat} {o1 o2 : Obj} (h : TB w0 B o1 o2 w) (hb : Below (B + 2) w w') : TB w0 B o1 o2 w' := h.below2 hb (by omega)
set_option maxHeartbeats 2000000 in
set_option maxRecDepth 100000 in
theorem rpRead_file (a n : Int) (fl : List Int) (Ao As Ap : Option Addr) (lo co ls cs lp cp : Nat) (b o m cap : Nat) (ys : List Int) (w : World) (hr : Row .u8 w w.heap.size (some ⟨b, o, none⟩) ys) (hy : ys.length = m) (hcap : m ≤ cap) (hcb : cap ≤ 9223372036854775807) (hp : Row .i64 w w.heap.size Ap fl) (hl : fl.length = 3 * lp) (h2 : ∀ i, i < lp → 1 ≤ nth fl (3 * i + 2)) (hm : posF fl lp = m) (hm2 : m ≤ 247) (hlp : lp ≤ 35) (hlp1 : 1 ≤ lp) (h1 : nth ys 1 = ((m - 2 : Nat) : Int)) :
    Calls Try.prog 76 #[.agg #[.int .i64 20, .int .i64 a, .int .i64 n, .slice Ao lo co, .slice As ls cs, .slice Ap lp cp], .slice (some ⟨b, o, none⟩) m cap] w (RdK w ⟨0, [], [], whenF (headsR fl ys lp) (filesR fl ys lp)⟩ (.bool (headsR fl ys lp))) := by
  have HR := Lib.hid hr
  have HY := Lib.hid hy
  have HMF := Lib.hid hm
  have HM : Hid (2 < m) := Lib.hid (by have := posF_lt fl (show 0 < lp by omega); have h0 : posF fl 0 = 2 := rfl; omega)
  have HP := Lib.hid hp
  have HL := Lib.hid hl
  have H2 := Lib.hid h2
  have HW : Hid (wrB 20 = false) := Lib.hid (by decide)
  have hmm := HM.out
  obtain ⟨b', o', hA, hbB, hcell⟩ := hr.at_ (i := 1) (by omega)
  injection hA with hA
  injection hA with hA1 hA2
  subst hA1 hA2
  rw [h1] at hcell
  have t0 := TB.new2 w #[.int .i64 20, .int .i64 a, .int .i64 n, .slice Ao lo co, .slice As ls cs, .slice Ap lp cp] #[.int .i64 0, .slice none 0 0, .slice none 0 0, .slice none 0 0] 26 29
  obtain ⟨d, hd⟩ : ∃ d, m - 2 = d := ⟨_, rfl⟩
  rw [hd] at hcell
  have e0 : IntKind.i64.wrap (d : Int) = (d : Int) := IntWalk.i64_in _ (by omega)
  have em1 : IntKind.i64.wrap ((m : Int) - 2) = (d : Int) := by rw [IntWalk.i64_in _ (by omega)]; omega
  have tn : ((d : Int) != (d : Int)) = false := by simp
  have HC1 := Lib.hid hcell
  obtain ⟨u, hu⟩ : ∃ u, Hid (headsR fl ys lp = u) := ⟨_, Lib.hid rfl⟩
  obtain ⟨F, hF⟩ : ∃ F, Hid (whenF u (filesR fl ys lp) = F) := ⟨_, Lib.hid rfl⟩
  rw [hu.out, hF.out]
  clear hr hy hm h1 hcell hp hl h2 hmm
  go_enter Try.func76, Try.ntmps76
  go_wp2_with fail
  refine (Writes_any _ a n Ao As Ap lo co ls cs lp cp _).mono ?_
  rintro e w1 ⟨rfl, b1⟩
  rw [HW.out]
  have t1 := t0.below b1
  clear t0 b1
  go_wp2_with fail
  refine (taker_any (some ⟨b, o, none⟩) m cap _).mono ?_
  rintro e w2' ⟨rfl, rfl⟩
  have t2 := t1.alloc (.cells #[.slice (some ⟨b, o, none⟩) m cap] 34)
  have hg2 := Lib.hid (heap_alloc_new w1 (.cells #[.slice (some ⟨b, o, none⟩) m cap] 34))
  have hz := t1.lt
  generalize w1.heap.size = g at *
  clear t1
  generalize w1.alloc (.cells #[.slice (some ⟨b, o, none⟩) m cap] 34) = w2 at *
  go_wp2_with fail
  refine (take_any b o m cap 2 g _ hg2.out hcap (by have := HM.out; omega) hcb).mono ?_
  rintro e w3' ⟨rfl, A', hA', rfl⟩
  obtain rfl := hA' (by have := HM.out; omega)
  clear hA'
  have t3 := t2.far hz 0 (.slice (some ⟨b, o + 2, none⟩) (m - 2) (cap - 2))
  have hg3 : (w2.setCell ⟨g, 0, none⟩ (.slice (some ⟨b, o + 2, none⟩) (m - 2) (cap - 2))).heap[g]? = some (.cells #[.slice (some ⟨b, o + 2, none⟩) (m - 2) (cap - 2)] 34 (0, 0)) := box_set hg2.out 0 _
  have hc3 := (t3.bel.cell (p := ⟨b, o + 1, none⟩) hbB).trans HC1.out
  clear t2 hg2
  generalize w2.setCell ⟨g, 0, none⟩ (.slice (some ⟨b, o + 2, none⟩) (m - 2) (cap - 2)) = w3 at *
  have HG3 := Lib.hid hg3
  clear hg3
  obtain ⟨r0, r1, r2, r3, r4, r5, r6⟩ := t3.r6
  go_wp2_with fail
  clear r0 r1 r2 r3 r4 r5 r6
  refine (readFiles_any fl ys Ap lp cp b o m cap g (w.heap.size + 2) w3 ((HP.out.below t3.bel).more (by omega)) HL.out H2.out HMF.out hm2 ((HR.out.below t3.bel).more (by omega)) HY.out hcap hcb HG3.out (by omega) hlp hlp1).mono ?_
  rw [hu.out]
  rintro e w4 ⟨A4, n4, c4, rfl, fk, b4⟩
  rw [hF.out] at fk
  have t4 := t3.below3 b4
  have hz3 := t3.lt
  have FK := Lib.hid fk
  have P5 := Lib.hid (t4.put4 (.int .i64 0) (.slice none 0 0) (.slice none 0 0) (.slice A4 n4 c4))
  have P6 := Lib.hid (FK.out.keep (w' := put4 w4 (w.heap.size + 1) (.int .i64 0) (.slice none 0 0) (.slice none 0 0) (.slice A4 n4 c4)) (base' := w.heap.size) (by omega) (fun j o hj ho => (put4_other (by omega) (.int .i64 0) (.slice none 0 0) (.slice none 0 0) (.slice A4 n4 c4)).trans ho))
  obtain ⟨d0, d1, d2, d3, d4⟩ := t4.c4
  clear fk b4 t3 HG3 FK
  go_wp2
  (try simp only [Exit.inBlock, Exit.then])
  show bodyPost _ _ _ _ _ (put4 (w4) (w.heap.size + 1) (.int .i64 0) (.slice none 0 0) (.slice none 0 0) (.slice A4 n4 c4))
  generalize put4 (w4) (w.heap.size + 1) (.int .i64 0) (.slice none 0 0) (.slice none 0 0) (.slice A4 n4 c4) = w6 at *
  obtain ⟨x0, x1, x2, x3⟩ := cells4 P5.out.1
  refine bodyPost_ret (v := .tuple #[.agg #[.int .i64 0, .slice none 0 0, .slice none 0 0, .slice A4 n4 c4], .bool u]) (by simp [results, Try.results76, go_sem, x0, x1, x2, x3]) rfl ?_
  exact ⟨_, _, _, 0, 0, n4, 0, 0, c4, rfl, ⟨BitK.nil _ _, WordK.nil _ _, P6.out⟩, P5.out.2⟩

/-- An answer, if there is one. -/
def whenR (u : Bool) (r : Rep) : Rep := if u = true then r else Rep.zero
/-- read, of any bytes of the right size. -/
theorem rpRead_any (q : Req) (Ao As Ap : Option Addr) (lo ls lp co cs cp : Nat) (A : Option Addr) (m cap : Nat) (ys : List Int) (w : World) (h : Asked w w.heap.size q Ao As Ap lo ls lp) (hk : chkQ q = 0) (hr : Row .u8 w w.heap.size A ys) (hy : ys.length = m) (hm : m = sizeR q) (hcap : m ≤ cap) (hcb : cap ≤ 9223372036854775807) :
    Calls Try.prog 76 #[.agg #[.int .i64 q.c, .int .i64 q.a, .int .i64 q.n, .slice Ao lo co, .slice As ls cs, .slice Ap lp cp], .slice A m cap] w (RdK w (whenR (rdOkR q ys) (rdR q ys)) (.bool (rdOkR q ys))) := by
  have hcs := mm_pos (chk_code hk)
  have h3 : q.fl.length / 3 = lp := by have := h.lp; omega
  have count : wrB q.c = false → 2 ≤ m → m ≤ 1000000 → nth ys 1 ≠ ((m - 2 : Nat) : Int) → Calls Try.prog 76 #[.agg #[.int .i64 q.c, .int .i64 q.a, .int .i64 q.n, .slice Ao lo co, .slice As ls cs, .slice Ap lp cp], .slice A m cap] w (RdK w Rep.zero (.bool false)) := by
    intro g1 g2 g3 g4
    obtain ⟨b, o, rfl, _, _⟩ := hr.at_ (i := 0) (by omega)
    exact rpRead_count q.c q.a q.n Ao As Ap lo co ls cs lp cp b o m cap ys w g1 hr hy hcap hcb g2 g3 g4
  by_cases h1 : q.c = 1 ∨ q.c = 2
  · have hn := right_bits hk h1
    have hwr : wrB q.c = false := decide_eq_false (by omega)
    have hm2 : m = 2 + need q.n.toNat := by rw [hm, sizeR, if_pos h1]
    have hnd : 1 ≤ need q.n.toNat ∧ need q.n.toNat ≤ 255 := by unfold need; omega
    have eOk : rdOkR q ys = (decide (nth ys 1 = ((need q.n.toNat : Nat) : Int)) && !spareB (ys.drop 2) q.n.toNat) := by rw [rdOkR, if_pos h1]
    have eR : rdR q ys = ⟨0, unpk (ys.drop 2) q.n.toNat, [], []⟩ := by rw [rdR, if_pos h1]
    by_cases hc : nth ys 1 = ((need q.n.toNat : Nat) : Int)
    · obtain ⟨b, o, rfl, _, _⟩ := hr.at_ (i := 0) (by omega)
      have e : q.n = ((q.n.toNat : Nat) : Int) := by omega
      cases hs : spareB (ys.drop 2) q.n.toNat with
      | false =>
        rw [show rdOkR q ys = true by rw [eOk, decide_eq_true hc, hs]; rfl, eR]
        have hh := rpRead_bits_ok q.c q.a q.n.toNat (need q.n.toNat) Ao As Ap lo co ls cs lp cp b o m cap ys w h1 hr hy hcap hcb rfl hm2 hnd hc hs
        rw [← e] at hh
        exact hh
      | true =>
        rw [show rdOkR q ys = false by rw [eOk, hs]; simp]
        have hh := rpRead_bits_no q.c q.a q.n.toNat (need q.n.toNat) Ao As Ap lo co ls cs lp cp b o m cap ys w h1 hr hy hcap hcb rfl hm2 hnd hc hs
        rw [← e] at hh
        exact hh
    · rw [show rdOkR q ys = false by rw [eOk, decide_eq_false hc]; rfl]
      exact count hwr (by omega) (by omega) (by rw [show m - 2 = need q.n.toNat by omega]; exact hc)
  · by_cases h2 : q.c = 3 ∨ q.c = 4
    · have hn := right_words hk h2
      have hwr : wrB q.c = false := decide_eq_false (by omega)
      have hm2 : m = 2 + 2 * q.n.toNat := by rw [hm, sizeR, if_neg h1, if_pos h2]
      have eOk : rdOkR q ys = decide (nth ys 1 = ((2 * q.n.toNat : Nat) : Int)) := by rw [rdOkR, if_neg h1, if_pos h2]
      have eR : rdR q ys = ⟨0, [], wwords (ys.drop 2), []⟩ := by rw [rdR, if_neg h1, if_pos h2]
      by_cases hc : nth ys 1 = ((2 * q.n.toNat : Nat) : Int)
      · obtain ⟨b, o, rfl, _, _⟩ := hr.at_ (i := 0) (by omega)
        have e : q.n = ((q.n.toNat : Nat) : Int) := by omega
        rw [show rdOkR q ys = true by rw [eOk, decide_eq_true hc], eR]
        have hh := rpRead_words q.c q.a q.n.toNat Ao As Ap lo co ls cs lp cp b o m cap ys w h2 hr hy hm2 (by omega) hcap hcb (by rw [hc]; omega)
        rw [← e] at hh
        refine hh.mono ?_
        rintro e w' ⟨g, hg, he, hb, hbl⟩
        exact ⟨_, _, _, _, _, _, _, _, _, he, ⟨BitK.nil _ _, .inr ⟨g, rfl, rfl, hg, by show (wwords (ys.drop 2)).length = _; rw [wwords_length, List.length_drop]; omega, hb⟩, FileK.nil _ _⟩, hbl⟩
      · rw [show rdOkR q ys = false by rw [eOk, decide_eq_false hc]]
        exact count hwr (by omega) (by omega) (by rw [show m - 2 = 2 * q.n.toNat by omega]; exact hc)
    · by_cases h20 : q.c = 20
      · obtain ⟨f1, f2, f3⟩ := right_files hk h20
        rw [h3] at f1 f2 f3
        have hm2 : posF q.fl lp = m := by rw [hm, sizeR, if_neg h1, if_neg h2, if_pos h20, h3]
        have h02 := posF_two q.fl lp
        have eOk : rdOkR q ys = (decide (nth ys 1 = ((m - 2 : Nat) : Int)) && headsR q.fl ys lp) := by rw [rdOkR, if_neg h1, if_neg h2, if_pos h20, h3, hy]
        have eR : rdR q ys = ⟨0, [], [], filesR q.fl ys lp⟩ := by rw [rdR, if_neg h1, if_neg h2, if_pos h20, h3]
        by_cases hc : nth ys 1 = ((m - 2 : Nat) : Int)
        · obtain ⟨b, o, rfl, _, _⟩ := hr.at_ (i := 0) (by omega)
          have hh := rpRead_file q.a q.n q.fl Ao As Ap lo co ls cs lp cp b o m cap ys w hr hy hcap hcb h.fl h.lp f2 hm2 (by omega) (by omega) (by omega) hc
          rw [← h20] at hh
          rw [show rdOkR q ys = headsR q.fl ys lp by rw [eOk, decide_eq_true hc]; rfl, eR]
          have e2 : whenR (headsR q.fl ys lp) ⟨0, [], [], filesR q.fl ys lp⟩ = ⟨0, [], [], whenF (headsR q.fl ys lp) (filesR q.fl ys lp)⟩ := by
            cases headsR q.fl ys lp <;> rfl
          rw [e2]
          exact hh
        · rw [show rdOkR q ys = false by rw [eOk, decide_eq_false hc]; rfl]
          exact count (decide_eq_false (by omega)) (by omega) (by omega) hc
      · have hwr : wrB q.c = true := decide_eq_true (by rcases hcs with h | h | h | h | h | h | h | h | h <;> omega)
        have eOk : rdOkR q ys = decide (ys = (putL q).take 5) := by rw [rdOkR, if_neg h1, if_neg h2, if_neg h20]
        have eR : rdR q ys = Rep.zero := by rw [rdR, if_neg h1, if_neg h2, if_neg h20]
        have e2 : whenR (rdOkR q ys) (rdR q ys) = Rep.zero := by rw [eR]; cases rdOkR q ys <;> rfl
        rw [e2, eOk]
        exact rpRead_echo q Ao As Ap lo co ls cs lp cp 0 0 m cap ys w h hk hwr h20 A hr hy
end Go.Proofs.Ytobhllcnljggiaa
namespace Go.Proofs.Ytobhllcnljggiaa
open Go.RowKit
set_option linter.unusedVariables false

/-- What is wrong with bytes that have the request's code; that have an exception's; and what they say. -/
def ansE (q : Req) (ys : List Int) : Int := if ys.length < sizeR q then 1 else if sizeR q < ys.length then 2 else if rdOkR q ys = true then 0 else 4
def ansR (q : Req) (ys : List Int) : Rep := if ansE q ys = 0 then rdR q ys else Rep.zero
def excE (ys : List Int) : Int := if ys.length < 2 then 1 else if 2 < ys.length then 2 else if 1 ≤ nth ys 1 ∧ nth ys 1 ≤ 127 then 0 else 3
def excR (ys : List Int) : Rep := if excE ys = 0 then ⟨nth ys 1, [], [], []⟩ else Rep.zero

set_option maxHeartbeats 2000000 in
set_option maxRecDepth 100000 in
theorem getExcK_any (A : Option Addr) (m c : Nat) (ys : List Int) (w : World) (B : Nat) (hr : Row .u8 w B A ys) (hy : ys.length = m) :
    Calls Try.prog 49 #[.slice A m c] w (RdK w (excR ys) (.int .i64 (excE ys))) := by
  obtain ⟨K, hK⟩ : ∃ K : Int, Hid ((if (m : Int) < 2 then 1 else if 2 < (m : Int) then 2 else 0) = K) := ⟨_, Lib.hid rfl⟩
  have HS : Hid (∀ W, Calls Try.prog 73 #[.slice A m c, .int .i64 2] W fun e w' => e = .returned (.int .i64 K) ∧ w' = W) := Lib.hid (fun W => (checkSize_any A m c 2 W).mono fun e w' h => ⟨h.1.trans (by rw [hK.out]), h.2⟩)
  have t0 := Bx.new w (.cells #[.int .i64 0, .slice none 0 0, .slice none 0 0, .slice none 0 0] 29)
  by_cases h2 : m = 2
  · have hK0 : K = 0 := by rw [← hK.out, if_neg (by omega), if_neg (by omega)]
    subst hK0
    obtain ⟨b, o, rfl, hb, hc⟩ := hr.at_ (i := 1) (by omega)
    have hwf := wf_u8 (hr.wf_at (i := 1) (by omega))
    have hbw : b < w.heap.size := World.block_lt_of_cell? w ⟨b, o + 1, none⟩ hc
    obtain ⟨x, hx⟩ : ∃ x, nth ys 1 = x := ⟨_, rfl⟩
    rw [hx] at hc hwf
    have e0 : IntKind.i64.wrap x = x := IntWalk.i64_in _ (by omega)
    obtain ⟨u, hu⟩ : ∃ u, Hid (decide (1 ≤ x ∧ x ≤ 127) = u) := ⟨_, Lib.hid rfl⟩
    have bel := bel_alloc w (.cells #[.int .i64 x, .slice none 0 0, .slice none 0 0, .slice none 0 0] 29)
    have bel0 := bel_alloc w (.cells #[.int .i64 0, .slice none 0 0, .slice none 0 0, .slice none 0 0] 29)
    cases u with
    | true =>
      have hE : excE ys = 0 := by rw [excE, if_neg (by omega), if_neg (by omega), hx, if_pos (of_decide_eq_true hu.out)]
      have hR : excR ys = ⟨x, [], [], []⟩ := by rw [excR, if_pos hE, hx]
      rw [hE, hR]
      subst h2
      clear hr hy hx hE hR t0
      go_enter Try.func49, Try.ntmps49
      go_wp2_with fail
      refine (HS.out _).mono ?_
      rintro e w1 ⟨rfl, rfl⟩
      go_wp2_with fail
      refine (isExc_any x _).mono ?_
      rintro e w1 ⟨rfl, rfl⟩
      rw [hu.out]
      go_wp2
      (try simp only [Exit.inBlock, Exit.then])
      refine bodyPost_ret (v := .tuple #[.agg #[.int .i64 x, .slice none 0 0, .slice none 0 0, .slice none 0 0], .int .i64 0]) (by simp [results, Try.results49, go_sem]) rfl ?_
      exact RdK.exc rfl bel
    | false =>
      have hE : excE ys = 3 := by rw [excE, if_neg (by omega), if_neg (by omega), hx, if_neg (of_decide_eq_false hu.out)]
      have hR : excR ys = ⟨0, [], [], []⟩ := by rw [excR, if_neg (by rw [hE]; simp)]; rfl
      rw [hE, hR]
      subst h2
      clear hr hy hx hE hR t0
      go_enter Try.func49, Try.ntmps49
      go_wp2_with fail
      refine (HS.out _).mono ?_
      rintro e w1 ⟨rfl, rfl⟩
      go_wp2_with fail
      refine (isExc_any x _).mono ?_
      rintro e w1 ⟨rfl, rfl⟩
      rw [hu.out]
      go_wp2
      (try simp only [Exit.inBlock, Exit.then])
      refine bodyPost_ret (v := .tuple #[.agg #[.int .i64 0, .slice none 0 0, .slice none 0 0, .slice none 0 0], .int .i64 3]) (by simp [results, Try.results49, go_sem]) rfl ?_
      exact RdK.exc rfl bel0
  · have hE : excE ys = K := by
      rw [← hK.out, excE, hy]
      by_cases h : m < 2
      · rw [if_pos h, if_pos (show (m : Int) < 2 by omega)]
      · rw [if_neg h, if_pos (show 2 < m by omega), if_neg (show ¬ (m : Int) < 2 by omega), if_pos (show 2 < (m : Int) by omega)]
    have hK1 : K ≠ 0 := by
      rw [← hK.out]
      by_cases h : m < 2
      · rw [if_pos (by omega)]; simp
      · rw [if_neg (by omega), if_pos (by omega)]; simp
    have hR : excR ys = ⟨0, [], [], []⟩ := by rw [excR, if_neg (by rw [hE]; exact hK1)]; rfl
    have bel0 := bel_alloc w (.cells #[.int .i64 0, .slice none 0 0, .slice none 0 0, .slice none 0 0] 29)
    have u1 : (K != 0) = true := by simpa using hK1
    have u2 : (K == 0) = false := beq_false_of_ne hK1
    rw [hE, hR]
    clear hr hy hE hR t0 h2 hK1
    go_enter Try.func49, Try.ntmps49
    go_wp2_with fail
    refine (HS.out _).mono ?_
    rintro e w1 ⟨rfl, rfl⟩
    go_wp2
    (try simp only [Exit.inBlock, Exit.then])
    refine bodyPost_ret (v := .tuple #[.agg #[.int .i64 0, .slice none 0 0, .slice none 0 0, .slice none 0 0], .int .i64 K]) (by simp [results, Try.results49, go_sem]) rfl ?_
    exact RdK.exc rfl bel0

set_option maxHeartbeats 2000000 in
set_option maxRecDepth 100000 in
theorem rpAnswer_any (q : Req) (Ao As Ap : Option Addr) (lo ls lp co cs cp : Nat) (A : Option Addr) (m cap : Nat) (ys : List Int) (w : World) (h : Asked w w.heap.size q Ao As Ap lo ls lp) (hk : chkQ q = 0) (hr : Row .u8 w w.heap.size A ys) (hy : ys.length = m) (hcap : m ≤ cap) (hcb : cap ≤ 9223372036854775807) :
    Calls Try.prog 50 #[.agg #[.int .i64 q.c, .int .i64 q.a, .int .i64 q.n, .slice Ao lo co, .slice As ls cs, .slice Ap lp cp], .slice A m cap] w (RdK w (ansR q ys) (.int .i64 (ansE q ys))) := by
  have HR := Lib.hid hr
  have t0 := TB.new2 w #[.int .i64 q.c, .int .i64 q.a, .int .i64 q.n, .slice Ao lo co, .slice As ls cs, .slice Ap lp cp] #[.int .i64 0, .slice none 0 0, .slice none 0 0, .slice none 0 0] 26 29
  have H := Lib.hid h
  have HK := Lib.hid hk
  have HY := Lib.hid hy
  obtain ⟨S, hS⟩ : ∃ S, Hid (sizeR q = S) := ⟨_, Lib.hid rfl⟩
  obtain ⟨K, hK⟩ : ∃ K : Int, Hid ((if (m : Int) < ((S : Nat) : Int) then 1 else if ((S : Nat) : Int) < (m : Int) then 2 else 0) = K) := ⟨_, Lib.hid rfl⟩
  have HS : Hid (∀ W, Calls Try.prog 73 #[.slice A m cap, .int .i64 ((S : Nat) : Int)] W fun e w' => e = .returned (.int .i64 K) ∧ w' = W) := Lib.hid (fun W => (checkSize_any A m cap ((S : Nat) : Int) W).mono fun e w' h => ⟨h.1.trans (by rw [hK.out]), h.2⟩)
  have HZ := Lib.hid (rpSize_any q Ao As Ap lo ls lp co cs cp _ ((h.below t0.bel).more t0.bel.size) hk)
  rw [hS.out] at HZ
  clear hr h hk hy
  by_cases hm : m = S
  · have hK0 : K = 0 := by rw [← hK.out, if_neg (by omega), if_neg (by omega)]
    have HMS : Hid (m = sizeR q) := Lib.hid (by rw [hS.out]; exact hm)
    obtain ⟨u, hu⟩ : ∃ u, Hid (rdOkR q ys = u) := ⟨_, Lib.hid rfl⟩
    obtain ⟨R, hR⟩ : ∃ R, Hid (whenR u (rdR q ys) = R) := ⟨_, Lib.hid rfl⟩
    subst hK0
    clear hm
    cases u with
    | true =>
      have hE : ansE q ys = 0 := by have := HMS.out; have := HY.out; rw [ansE, if_neg (by omega), if_neg (by omega), if_pos hu.out]
      have hR2 : ansR q ys = R := by rw [ansR, if_pos hE, ← hR.out]; rfl
      rw [hE, hR2]
      clear hE hR2
      go_enter Try.func50, Try.ntmps50
      go_wp2_with fail
      refine HZ.out.mono ?_
      rintro e w1 ⟨rfl, b1⟩
      have t1 := t0.below b1
      clear t0 b1 HZ
      obtain ⟨d0, d1, d2, d3, d4⟩ := t1.c4
      obtain ⟨r0, r1, r2, r3, r4, r5, r6⟩ := t1.r6
      go_wp2_with fail
      refine (HS.out _).mono ?_
      rintro e w1' ⟨rfl, hw1⟩
      rw [hw1]
      clear hw1
      have HRD := Lib.hid (rpRead_any q Ao As Ap lo ls lp co cs cp A m cap ys w1 ((H.out.below t1.bel).more t1.bel.size) HK.out ((HR.out.below t1.bel).more t1.bel.size) HY.out HMS.out hcap hcb)
      rw [hu.out, hR.out] at HRD
      go_wp2_with fail
      clear d0 d1 d2 d3 d4 r0 r1 r2 r3 r4 r5 r6
      refine HRD.out.mono ?_
      rintro e w2 ⟨Bo, Bs, Bf, mo, ms, mf, eo, es, ef, rfl, rk, b2⟩
      have t2 := t1.below b2
      have hz1 := t1.lt
      have t3 := t2.alloc (.cells #[.int .i64 R.x, .slice Bo mo eo, .slice Bs ms es, .slice Bf mf ef] 29)
      have RK := Lib.hid ((rk.below (bel_alloc w2 (.cells #[.int .i64 R.x, .slice Bo mo eo, .slice Bs ms es, .slice Bf mf ef] 29))).put4 (g := w.heap.size + 1) (by omega) (.int .i64 R.x) (.slice Bo mo eo) (.slice Bs ms es) (.slice Bf mf ef))
      have hx3 := heap_alloc_new w2 (.cells #[.int .i64 R.x, .slice Bo mo eo, .slice Bs ms es, .slice Bf mf ef] 29)
      clear t1 b2 t2 rk HRD
      have P5 := Lib.hid (t3.put4 (.int .i64 R.x) (.slice Bo mo eo) (.slice Bs ms es) (.slice Bf mf ef))
      obtain ⟨y0, y1, y2, y3⟩ := cells4 hx3
      obtain ⟨d0, d1, d2, d3, d4⟩ := t3.c4
      clear hx3
      go_wp2
      (try simp only [Exit.inBlock, Exit.then])
      show bodyPost _ _ _ _ _ (put4 (w2.alloc (.cells #[.int .i64 R.x, .slice Bo mo eo, .slice Bs ms es, .slice Bf mf ef] 29)) (w.heap.size + 1) (.int .i64 R.x) (.slice Bo mo eo) (.slice Bs ms es) (.slice Bf mf ef))
      generalize put4 (w2.alloc (.cells #[.int .i64 R.x, .slice Bo mo eo, .slice Bs ms es, .slice Bf mf ef] 29)) (w.heap.size + 1) (.int .i64 R.x) (.slice Bo mo eo) (.slice Bs ms es) (.slice Bf mf ef) = w6 at *
      obtain ⟨x0, x1, x2, x3⟩ := cells4 P5.out.1
      refine bodyPost_ret (v := .tuple #[.agg #[.int .i64 R.x, .slice Bo mo eo, .slice Bs ms es, .slice Bf mf ef], .int .i64 0]) (by simp [results, Try.results50, go_sem, x0, x1, x2, x3]) rfl ?_
      exact ⟨Bo, Bs, Bf, mo, ms, mf, eo, es, ef, rfl, RK.out.mono (by omega), P5.out.2⟩
    | false =>
      have hE : ansE q ys = 4 := by have := HMS.out; have := HY.out; rw [ansE, if_neg (by omega), if_neg (by omega), if_neg (by rw [hu.out]; simp)]
      have hR2 : ansR q ys = ⟨0, [], [], []⟩ := by rw [ansR, if_neg (by rw [hE]; simp)]; rfl
      rw [hE, hR2]
      clear hE hR2
      go_enter Try.func50, Try.ntmps50
      go_wp2_with fail
      refine HZ.out.mono ?_
      rintro e w1 ⟨rfl, b1⟩
      have t1 := t0.below b1
      clear t0 b1 HZ
      obtain ⟨d0, d1, d2, d3, d4⟩ := t1.c4
      obtain ⟨r0, r1, r2, r3, r4, r5, r6⟩ := t1.r6
      go_wp2_with fail
      refine (HS.out _).mono ?_
      rintro e w1' ⟨rfl, hw1⟩
      rw [hw1]
      clear hw1
      have HRD := Lib.hid (rpRead_any q Ao As Ap lo ls lp co cs cp A m cap ys w1 ((H.out.below t1.bel).more t1.bel.size) HK.out ((HR.out.below t1.bel).more t1.bel.size) HY.out HMS.out hcap hcb)
      rw [hu.out, hR.out] at HRD
      go_wp2_with fail
      clear d0 d1 d2 d3 d4 r0 r1 r2 r3 r4 r5 r6
      refine HRD.out.mono ?_
      rintro e w2 ⟨Bo, Bs, Bf, mo, ms, mf, eo, es, ef, rfl, rk, b2⟩
      have t2 := t1.below b2
      have t3 := t2.alloc (.cells #[.int .i64 R.x, .slice Bo mo eo, .slice Bs ms es, .slice Bf mf ef] 29)
      clear t1 b2 t2 rk HRD
      have P5 := Lib.hid (t3.put4 (.int .i64 0) (.slice none 0 0) (.slice none 0 0) (.slice none 0 0))
      obtain ⟨d0, d1, d2, d3, d4⟩ := t3.c4
      go_wp2
      (try simp only [Exit.inBlock, Exit.then])
      show bodyPost _ _ _ _ _ (put4 (w2.alloc (.cells #[.int .i64 R.x, .slice Bo mo eo, .slice Bs ms es, .slice Bf mf ef] 29)) (w.heap.size + 1) (.int .i64 0) (.slice none 0 0) (.slice none 0 0) (.slice none 0 0))
      generalize put4 (w2.alloc (.cells #[.int .i64 R.x, .slice Bo mo eo, .slice Bs ms es, .slice Bf mf ef] 29)) (w.heap.size + 1) (.int .i64 0) (.slice none 0 0) (.slice none 0 0) (.slice none 0 0) = w6 at *
      obtain ⟨x0, x1, x2, x3⟩ := cells4 P5.out.1
      refine bodyPost_ret (v := .tuple #[.agg #[.int .i64 0, .slice none 0 0, .slice none 0 0, .slice none 0 0], .int .i64 4]) (by simp [results, Try.results50, go_sem, x0, x1, x2, x3]) rfl ?_
      exact RdK.exc rfl P5.out.2
  · have hE : ansE q ys = K := by
      have := HY.out
      rw [← hK.out, ansE, hS.out, this]
      by_cases h : m < S
      · rw [if_pos h, if_pos (show (m : Int) < (S : Int) by omega)]
      · rw [if_neg h, if_pos (show S < m by omega), if_neg (show ¬ (m : Int) < (S : Int) by omega), if_pos (show (S : Int) < (m : Int) by omega)]
    have hK1 : K ≠ 0 := by
      rw [← hK.out]
      by_cases h : m < S
      · rw [if_pos (by omega)]; simp
      · rw [if_neg (by omega), if_pos (by omega)]; simp
    have hR2 : ansR q ys = ⟨0, [], [], []⟩ := by rw [ansR, if_neg (by rw [hE]; exact hK1)]; rfl
    have u1 : (K != 0) = true := by simpa using hK1
    have u2 : (K == 0) = false := beq_false_of_ne hK1
    rw [hE, hR2]
    clear hE hR2 hm hK1
    go_enter Try.func50, Try.ntmps50
    go_wp2_with fail
    refine HZ.out.mono ?_
    rintro e w1 ⟨rfl, b1⟩
    have t1 := t0.below b1
    clear t0 b1 HZ
    obtain ⟨d0, d1, d2, d3, d4⟩ := t1.c4
    have P5 := Lib.hid (t1.put4 (.int .i64 0) (.slice none 0 0) (.slice none 0 0) (.slice none 0 0))
    go_wp2_with fail
    refine (HS.out _).mono ?_
    rintro e w1' ⟨rfl, hw1⟩
    rw [hw1]
    clear hw1
    go_wp2
    (try simp only [Exit.inBlock, Exit.then])
    show bodyPost _ _ _ _ _ (put4 (w1) (w.heap.size + 1) (.int .i64 0) (.slice none 0 0) (.slice none 0 0) (.slice none 0 0))
    generalize put4 (w1) (w.heap.size + 1) (.int .i64 0) (.slice none 0 0) (.slice none 0 0) (.slice none 0 0) = w6 at *
    obtain ⟨x0, x1, x2, x3⟩ := cells4 P5.out.1
    refine bodyPost_ret (v := .tuple #[.agg #[.int .i64 0, .slice none 0 0, .slice none 0 0, .slice none 0 0], .int .i64 K]) (by simp [results, Try.results50, go_sem, x0, x1, x2, x3]) rfl ?_
    exact RdK.exc rfl P5.out.2

set_option maxHeartbeats 1000000 in
set_option maxRecDepth 100000 in
theorem rpGetK_bad (q : Req) (Ao As Ap : Option Addr) (lo ls lp co cs cp : Nat) (A : Option Addr) (n c : Nat) (w : World) (h : Asked w w.heap.size q Ao As Ap lo ls lp) (hk : chkQ q ≠ 0) :
    Calls Try.prog 19 #[.agg #[.int .i64 q.c, .int .i64 q.a, .int .i64 q.n, .slice Ao lo co, .slice As ls cs, .slice Ap lp cp], .slice A n c] w (RdK w Rep.zero (.int .i64 (chkQ q))) := by
  have t0 := TB.new2 w #[.int .i64 q.c, .int .i64 q.a, .int .i64 q.n, .slice Ao lo co, .slice As ls cs, .slice Ap lp cp] #[.int .i64 0, .slice none 0 0, .slice none 0 0, .slice none 0 0] 26 29
  have hsz : w.heap.size ≤ ((w.alloc (.cells #[.int .i64 q.c, .int .i64 q.a, .int .i64 q.n, .slice Ao lo co, .slice As ls cs, .slice Ap lp cp] 26)).alloc (.cells #[.int .i64 0, .slice none 0 0, .slice none 0 0, .slice none 0 0] 29)).heap.size := t0.bel.size
  have HC := Lib.hid (Check_Q q Ao As Ap lo ls lp co cs cp _ ((h.below t0.bel).more hsz))
  obtain ⟨k, hk2⟩ : ∃ k, chkQ q = k := ⟨_, rfl⟩
  rw [hk2] at HC hk ⊢
  have u1 : (k != 0) = true := by simpa using hk
  have u2 : (k == 0) = false := beq_false_of_ne hk
  clear h hk hk2
  go_enter Try.func19, Try.ntmps19
  go_wp2_with fail
  refine HC.out.mono ?_
  rintro e w1 ⟨rfl, b1⟩
  have t1 := t0.below b1
  clear b1 t0 HC hsz
  obtain ⟨d0, d1, d2, d3, d4⟩ := t1.c4
  obtain ⟨r0, r1, r2, r3, r4, r5, r6⟩ := t1.r6
  have P5 := Lib.hid (t1.put4 (.int .i64 0) (.slice none 0 0) (.slice none 0 0) (.slice none 0 0))
  go_wp2
  (try simp only [Exit.inBlock, Exit.then])
  show bodyPost _ _ _ _ _ (put4 (w1) (w.heap.size + 1) (.int .i64 0) (.slice none 0 0) (.slice none 0 0) (.slice none 0 0))
  generalize put4 (w1) (w.heap.size + 1) (.int .i64 0) (.slice none 0 0) (.slice none 0 0) (.slice none 0 0) = w6 at *
  obtain ⟨x0, x1, x2, x3⟩ := cells4 P5.out.1
  refine bodyPost_ret (v := .tuple #[.agg #[.int .i64 0, .slice none 0 0, .slice none 0 0, .slice none 0 0], .int .i64 k]) (by simp [results, Try.results19, go_sem, x0, x1, x2, x3]) rfl ?_
  exact RdK.exc rfl P5.out.2

set_option maxHeartbeats 1000000 in
set_option maxRecDepth 100000 in
theorem rpGetK_none (q : Req) (Ao As Ap : Option Addr) (lo ls lp co cs cp : Nat) (A : Option Addr) (c : Nat) (w : World) (h : Asked w w.heap.size q Ao As Ap lo ls lp) (hk : chkQ q = 0) :
    Calls Try.prog 19 #[.agg #[.int .i64 q.c, .int .i64 q.a, .int .i64 q.n, .slice Ao lo co, .slice As ls cs, .slice Ap lp cp], .slice A 0 c] w (RdK w Rep.zero (.int .i64 1)) := by
  have t0 := TB.new2 w #[.int .i64 q.c, .int .i64 q.a, .int .i64 q.n, .slice Ao lo co, .slice As ls cs, .slice Ap lp cp] #[.int .i64 0, .slice none 0 0, .slice none 0 0, .slice none 0 0] 26 29
  have hsz : w.heap.size ≤ ((w.alloc (.cells #[.int .i64 q.c, .int .i64 q.a, .int .i64 q.n, .slice Ao lo co, .slice As ls cs, .slice Ap lp cp] 26)).alloc (.cells #[.int .i64 0, .slice none 0 0, .slice none 0 0, .slice none 0 0] 29)).heap.size := t0.bel.size
  have HC := Lib.hid (Check_Q q Ao As Ap lo ls lp co cs cp _ ((h.below t0.bel).more hsz))
  rw [hk] at HC
  clear h hk
  go_enter Try.func19, Try.ntmps19
  go_wp2_with fail
  refine HC.out.mono ?_
  rintro e w1 ⟨rfl, b1⟩
  have t1 := t0.below b1
  clear b1 t0 HC hsz
  obtain ⟨d0, d1, d2, d3, d4⟩ := t1.c4
  obtain ⟨r0, r1, r2, r3, r4, r5, r6⟩ := t1.r6
  have P5 := Lib.hid (t1.put4 (.int .i64 0) (.slice none 0 0) (.slice none 0 0) (.slice none 0 0))
  go_wp2
  (try simp only [Exit.inBlock, Exit.then])
  show bodyPost _ _ _ _ _ (put4 (w1) (w.heap.size + 1) (.int .i64 0) (.slice none 0 0) (.slice none 0 0) (.slice none 0 0))
  generalize put4 (w1) (w.heap.size + 1) (.int .i64 0) (.slice none 0 0) (.slice none 0 0) (.slice none 0 0) = w6 at *
  obtain ⟨x0, x1, x2, x3⟩ := cells4 P5.out.1
  refine bodyPost_ret (v := .tuple #[.agg #[.int .i64 0, .slice none 0 0, .slice none 0 0, .slice none 0 0], .int .i64 1]) (by simp [results, Try.results19, go_sem, x0, x1, x2, x3]) rfl ?_
  exact RdK.exc rfl P5.out.2

/-- What Get of bytes says, by their first one. -/
theorem getRE_exc {q : Req} {ys : List Int} (hk : chkQ q = 0) (h0 : ys.length ≠ 0) (h : nth ys 0 = q.c + 128) : getRE q ys = excE ys ∧ getR q ys = excR ys := by
  have e : getRE q ys = excE ys := by rw [getRE, if_neg (by rw [hk]; simp), if_neg h0, if_pos h]; rfl
  refine ⟨e, ?_⟩
  rw [getR, e, excR]
  by_cases hz : excE ys = 0
  · rw [if_neg (by rw [hz]; simp), if_pos h, if_pos hz]
  · rw [if_pos hz, if_neg hz]
theorem getRE_ans {q : Req} {ys : List Int} (hk : chkQ q = 0) (h0 : ys.length ≠ 0) (h : nth ys 0 = q.c) : getRE q ys = ansE q ys ∧ getR q ys = ansR q ys := by
  have e : getRE q ys = ansE q ys := by rw [getRE, if_neg (by rw [hk]; simp), if_neg h0, if_neg (by omega), if_pos h]; rfl
  refine ⟨e, ?_⟩
  rw [getR, e, ansR]
  by_cases hz : ansE q ys = 0
  · rw [if_neg (by rw [hz]; simp), if_neg (by omega), if_pos hz]
  · rw [if_pos hz, if_neg hz]
set_option maxHeartbeats 4000000 in
set_option maxRecDepth 100000 in
theorem rpGet_any (q : Req) (Ao As Ap : Option Addr) (lo ls lp co cs cp : Nat) (A : Option Addr) (m cap : Nat) (ys : List Int) (w : World) (h : Asked w w.heap.size q Ao As Ap lo ls lp) (hr : Row .u8 w w.heap.size A ys) (hy : ys.length = m) (hcap : m ≤ cap) (hcb : cap ≤ 9223372036854775807) :
    Calls Try.prog 19 #[.agg #[.int .i64 q.c, .int .i64 q.a, .int .i64 q.n, .slice Ao lo co, .slice As ls cs, .slice Ap lp cp], .slice A m cap] w (RdK w (getR q ys) (.int .i64 (getRE q ys))) := by
  by_cases hk : chkQ q = 0
  · by_cases hm0 : m = 0
    · subst hm0
      have e : getRE q ys = 1 := by rw [getRE, if_neg (by rw [hk]; simp), if_pos hy]
      rw [e, getR, if_pos (by rw [e]; simp)]
      exact rpGetK_none q Ao As Ap lo ls lp co cs cp A cap w h hk
    · have t0 := TB.new2 w #[.int .i64 q.c, .int .i64 q.a, .int .i64 q.n, .slice Ao lo co, .slice As ls cs, .slice Ap lp cp] #[.int .i64 0, .slice none 0 0, .slice none 0 0, .slice none 0 0] 26 29
      have HC := Lib.hid (Check_Q q Ao As Ap lo ls lp co cs cp _ ((h.below t0.bel).more t0.bel.size))
      rw [hk] at HC
      have hcr := mm_le _ (chk_code hk)
      have H := Lib.hid h
      have HK := Lib.hid hk
      have HR := Lib.hid hr
      have HY := Lib.hid hy
      have hmp : 0 < m := by omega
      have hmi : ((m : Int) == 0) = false := beq_false_of_ne (by omega)
      obtain ⟨b, o, rfl, hb, hc⟩ := hr.at_ (i := 0) (by omega)
      have hwf := wf_u8 (hr.wf_at (i := 0) (by omega))
      have hA1 := getRE_exc (ys := ys) hk (by omega)
      have hA2 := getRE_ans (ys := ys) hk (by omega)
      have hA3 : nth ys 0 ≠ q.c + 128 → nth ys 0 ≠ q.c → getRE q ys = 20 ∧ getR q ys = ⟨0, [], [], []⟩ := by
        intro g1 g2
        have e : getRE q ys = 20 := by rw [getRE, if_neg (by rw [hk]; simp), if_neg (by omega), if_neg g1, if_neg g2]
        exact ⟨e, by rw [getR, if_pos (by rw [e]; simp)]; rfl⟩
      obtain ⟨y, hy0⟩ : ∃ y, nth ys 0 = y := ⟨_, rfl⟩
      rw [hy0] at hc hwf hA1 hA2 hA3
      rw [Nat.add_zero] at hc
      have e0 : IntKind.i64.wrap y = y := IntWalk.i64_in _ (by omega)
      have e1 : IntKind.i64.wrap (q.c + 128) = q.c + 128 := IntWalk.i64_in _ (by omega)
      clear h hk hr hy hm0 hy0
      by_cases f1 : y = q.c + 128
      · obtain ⟨g1, g2⟩ := hA1 f1
        rw [g1, g2]
        have e2 : (y == q.c + 128) = true := by simp [f1]
        obtain ⟨E, hE⟩ : ∃ E, Hid (excE ys = E) := ⟨_, Lib.hid rfl⟩
        obtain ⟨R, hR⟩ : ∃ R, Hid (excR ys = R) := ⟨_, Lib.hid rfl⟩
        rw [hE.out, hR.out]
        clear f1 hA1 hA2 hA3 g1 g2
        go_enter Try.func19, Try.ntmps19
        go_wp2_with fail
        refine HC.out.mono ?_
        rintro e w1 ⟨rfl, b1⟩
        have t1 := t0.below b1
        clear b1 t0 HC
        obtain ⟨d0, d1, d2, d3, d4⟩ := t1.c4
        obtain ⟨r0, r1, r2, r3, r4, r5, r6⟩ := t1.r6
        have hc1 : w1.cell? ⟨b, o, none⟩ = some (.int .u8 y) := (t1.bel.cell (p := ⟨b, o, none⟩) hb).trans hc
        have HX := Lib.hid (getExcK_any _ m cap ys w1 _ (HR.out.tb t1) HY.out)
        rw [hE.out, hR.out] at HX
        go_wp2_with fail
        refine HX.out.mono ?_
        clear d0 d1 d2 d3 d4 r0 r1 r2 r3 r4 r5 r6 hc1
        rintro e w2 ⟨Bo, Bs, Bf, mo, ms, mf, eo, es, ef, rfl, rk, b2⟩
        have t2 := t1.below b2
        have hz1 := t1.lt
        have RK := Lib.hid (rk.put4 (g := w.heap.size + 1) (by omega) (.int .i64 R.x) (.slice Bo mo eo) (.slice Bs ms es) (.slice Bf mf ef))
        have P5 := Lib.hid (t2.put4 (.int .i64 R.x) (.slice Bo mo eo) (.slice Bs ms es) (.slice Bf mf ef))
        clear rk b2 HX
        obtain ⟨d0, d1, d2, d3, d4⟩ := t2.c4
        go_wp2
        (try simp only [Exit.inBlock, Exit.then])
        show bodyPost _ _ _ _ _ (put4 (w2) (w.heap.size + 1) (.int .i64 R.x) (.slice Bo mo eo) (.slice Bs ms es) (.slice Bf mf ef))
        generalize put4 (w2) (w.heap.size + 1) (.int .i64 R.x) (.slice Bo mo eo) (.slice Bs ms es) (.slice Bf mf ef) = w6 at *
        obtain ⟨x0, x1, x2, x3⟩ := cells4 P5.out.1
        refine bodyPost_ret (v := .tuple #[.agg #[.int .i64 R.x, .slice Bo mo eo, .slice Bs ms es, .slice Bf mf ef], .int .i64 E]) (by simp [results, Try.results19, go_sem, x0, x1, x2, x3]) rfl ?_
        exact ⟨Bo, Bs, Bf, mo, ms, mf, eo, es, ef, rfl, RK.out.mono (by omega), P5.out.2⟩
      · have e2 : (y == q.c + 128) = false := beq_false_of_ne f1
        by_cases f2 : y = q.c
        · obtain ⟨g1, g2⟩ := hA2 f2
          rw [g1, g2]
          have e3 : (y == q.c) = true := by simp [f2]
          obtain ⟨E, hE⟩ : ∃ E, Hid (ansE q ys = E) := ⟨_, Lib.hid rfl⟩
          obtain ⟨R, hR⟩ : ∃ R, Hid (ansR q ys = R) := ⟨_, Lib.hid rfl⟩
          rw [hE.out, hR.out]
          clear f1 f2 hA1 hA2 hA3 g1 g2
          go_enter Try.func19, Try.ntmps19
          go_wp2_with fail
          refine HC.out.mono ?_
          rintro e w1 ⟨rfl, b1⟩
          have t1 := t0.below b1
          clear b1 t0 HC
          obtain ⟨d0, d1, d2, d3, d4⟩ := t1.c4
          obtain ⟨r0, r1, r2, r3, r4, r5, r6⟩ := t1.r6
          have hc1 : w1.cell? ⟨b, o, none⟩ = some (.int .u8 y) := (t1.bel.cell (p := ⟨b, o, none⟩) hb).trans hc
          have HX := Lib.hid (rpAnswer_any q Ao As Ap lo ls lp co cs cp _ m cap ys w1 ((H.out.below t1.bel).more t1.bel.size) HK.out ((HR.out.below t1.bel).more t1.bel.size) HY.out hcap hcb)
          rw [hE.out, hR.out] at HX
          go_wp2_with fail
          refine HX.out.mono ?_
          clear d0 d1 d2 d3 d4 r0 r1 r2 r3 r4 r5 r6 hc1
          rintro e w2 ⟨Bo, Bs, Bf, mo, ms, mf, eo, es, ef, rfl, rk, b2⟩
          have t2 := t1.below b2
          have hz1 := t1.lt
          have RK := Lib.hid (rk.put4 (g := w.heap.size + 1) (by omega) (.int .i64 R.x) (.slice Bo mo eo) (.slice Bs ms es) (.slice Bf mf ef))
          have P5 := Lib.hid (t2.put4 (.int .i64 R.x) (.slice Bo mo eo) (.slice Bs ms es) (.slice Bf mf ef))
          clear rk b2 HX
          obtain ⟨d0, d1, d2, d3, d4⟩ := t2.c4
          go_wp2
          (try simp only [Exit.inBlock, Exit.then])
          show bodyPost _ _ _ _ _ (put4 (w2) (w.heap.size + 1) (.int .i64 R.x) (.slice Bo mo eo) (.slice Bs ms es) (.slice Bf mf ef))
          generalize put4 (w2) (w.heap.size + 1) (.int .i64 R.x) (.slice Bo mo eo) (.slice Bs ms es) (.slice Bf mf ef) = w6 at *
          obtain ⟨x0, x1, x2, x3⟩ := cells4 P5.out.1
          refine bodyPost_ret (v := .tuple #[.agg #[.int .i64 R.x, .slice Bo mo eo, .slice Bs ms es, .slice Bf mf ef], .int .i64 E]) (by simp [results, Try.results19, go_sem, x0, x1, x2, x3]) rfl ?_
          exact ⟨Bo, Bs, Bf, mo, ms, mf, eo, es, ef, rfl, RK.out.mono (by omega), P5.out.2⟩
        · obtain ⟨g1, g2⟩ := hA3 f1 f2
          rw [g1, g2]
          have e3 : (y == q.c) = false := beq_false_of_ne f2
          clear f1 f2 hA1 hA2 hA3 g1 g2
          go_enter Try.func19, Try.ntmps19
          go_wp2_with fail
          refine HC.out.mono ?_
          rintro e w1 ⟨rfl, b1⟩
          have t1 := t0.below b1
          clear b1 t0 HC
          obtain ⟨d0, d1, d2, d3, d4⟩ := t1.c4
          obtain ⟨r0, r1, r2, r3, r4, r5, r6⟩ := t1.r6
          have hc1 : w1.cell? ⟨b, o, none⟩ = some (.int .u8 y) := (t1.bel.cell (p := ⟨b, o, none⟩) hb).trans hc
          have P5 := Lib.hid (t1.put4 (.int .i64 0) (.slice none 0 0) (.slice none 0 0) (.slice none 0 0))
          go_wp2
          (try simp only [Exit.inBlock, Exit.then])
          show bodyPost _ _ _ _ _ (put4 (w1) (w.heap.size + 1) (.int .i64 0) (.slice none 0 0) (.slice none 0 0) (.slice none 0 0))
          generalize put4 (w1) (w.heap.size + 1) (.int .i64 0) (.slice none 0 0) (.slice none 0 0) (.slice none 0 0) = w6 at *
          obtain ⟨x0, x1, x2, x3⟩ := cells4 P5.out.1
          refine bodyPost_ret (v := .tuple #[.agg #[.int .i64 0, .slice none 0 0, .slice none 0 0, .slice none 0 0], .int .i64 20]) (by simp [results, Try.results19, go_sem, x0, x1, x2, x3]) rfl ?_
          exact RdK.exc rfl P5.out.2
  · have e : getRE q ys = chkQ q := by rw [getRE, if_pos hk]
    rw [e, getR, if_pos (by rw [e]; exact hk)]
    exact rpGetK_bad q Ao As Ap lo ls lp co cs cp A m cap w h hk
end Go.Proofs.Ytobhllcnljggiaa
namespace Go.Proofs.Ytobhllcnljggiaa
open Go.RowKit
set_option linter.unusedVariables false

/-- The slice v is nil and xs empty, or v begins a block of the call's own, whose cells are the integers xs, and others behind them. -/
def KOwn (k : IntKind) (e : TypeId) (w : World) (base : Nat) (v : Value) (xs : List Int) : Prop :=
  (v = .slice none 0 0 ∧ xs = []) ∨
  ∃ (g n cap : Nat) (r : List Int), v = .slice (some ⟨g, 0, none⟩) n cap ∧ base ≤ g ∧ xs.length = n ∧ w.heap[g]? = some (.cells (blk k (xs ++ r)) e (0, 0)) ∧ n ≤ cap ∧ cap ≤ maxLen ∧ xs.length + r.length = cap ∧ (∀ x ∈ r, (Lit.int k x).wf = true)
theorem KOwn.nil (k : IntKind) (e : TypeId) (w : World) (base : Nat) : KOwn k e w base (.slice none 0 0) [] := .inl ⟨rfl, rfl⟩
theorem KOwn.below {k : IntKind} {e : TypeId} {w w' : World} {base B : Nat} {v : Value} {xs : List Int} (h : KOwn k e w base v xs) (hb : Below B w w') (hB : w.heap.size ≤ B) : KOwn k e w' base v xs := by
  rcases h with h | ⟨g, n, cap, r, h1, h2, h3, h4, h5⟩
  · exact .inl h
  · exact .inr ⟨g, n, cap, r, h1, h2, h3, (hb.block g (by have := block_lt h4; omega)).trans h4, h5⟩
theorem KOwn.drewN {k : IntKind} {e : TypeId} {w : World} {base : Nat} {v : Value} {xs : List Int} (h : KOwn k e w base v xs) (n : Nat) : KOwn k e (w.drewN n) base v xs := h
theorem KOwn.mono {k : IntKind} {e : TypeId} {w : World} {base base' : Nat} {v : Value} {xs : List Int} (h : KOwn k e w base v xs) (hb : base' ≤ base) : KOwn k e w base' v xs := by
  rcases h with h | ⟨g, n, cap, r, h1, h2, h3⟩
  · exact .inl h
  · exact .inr ⟨g, n, cap, r, h1, by omega, h3⟩
theorem KOwn.block {k : IntKind} {e : TypeId} {w : World} {base : Nat} {v : Value} {xs : List Int} (h : KOwn k e w base v xs) : ∀ g, v.ownBlock = some g → base ≤ g ∧ g < w.heap.size := by
  intro g hg
  rcases h with ⟨rfl, _⟩ | ⟨g', n, cap, r, rfl, h2, h3, h4, h5⟩
  · cases hg
  · injection hg with hg
    subst hg
    exact ⟨h2, block_lt h4⟩
theorem KOwn.own {k : IntKind} {e : TypeId} {w : World} {base : Nat} {v : Value} {xs : List Int} (h : KOwn k e w base v xs) : Own k e w base v xs := by
  rcases h with ⟨rfl, rfl⟩ | ⟨g, n, cap, r, rfl, h2, h3, h4, h5, h6, h7, _⟩
  · exact Own.nil _ _ _ _
  · subst h3
    refine ⟨by simp, .inr ⟨g, cap, _, rfl, h2, h4, h5, h6, by rw [blk_size, List.length_append]; omega, ?_⟩⟩
    rw [Nat.mul_one]
    simp only [blk, List.map_append]
    rw [List.take_left' (by simp)]
theorem KOwn.row {k : IntKind} {e : TypeId} {w : World} {base : Nat} {v : Value} {xs : List Int} (h : KOwn k e w base v xs) (hw : ∀ x ∈ xs, (Lit.int k x).wf = true) :
    ∃ A c, v = .slice A xs.length c ∧ Row k w w.heap.size A xs ∧ xs.length ≤ c ∧ c ≤ maxLen := h.own.row hw
theorem KOwn.kept {k : IntKind} {e : TypeId} {w w' : World} {base : Nat} {v : Value} {xs : List Int} {row : Option Nat} (h : KOwn k e w base v xs) (hg : w.grownBy w' row) (hne : v.ownBlock = none ∨ v.ownBlock ≠ row) : KOwn k e w' base v xs := by
  rcases h with h | ⟨g, n, cap, r, rfl, h2, h3, h4, h5⟩
  · exact .inl h
  · refine .inr ⟨g, n, cap, r, rfl, h2, h3, (hg.block g (block_lt h4) ?_).trans h4, h5⟩
    rcases hne with h | h
    · cases h
    · exact h

section
variable {P : Program}
theorem zero_one (k : IntKind) (m : Nat) : Builtin.zeroCells (Value.int k 0).cells m = blk k (List.replicate m 0) := by
  have h := toList_madeCells_one (Value.int k 0) m
  apply Array.toList_inj.1
  show (madeCells (Value.int k 0).cells (m * 1)).toList = _
  rw [Nat.mul_one, show (Value.int k 0).cells = #[Value.int k 0] from rfl, h]
  simp [blk]
theorem run_append_full (w : World) (t : TypeId) (k : IntKind) (e : TypeId) (bytes : Nat) (ht : P.underlying t = some (.slice e)) (hi : (P.info? e).map (fun i => (i.zero, i.size, i.bytes)) = some (some (.int k 0), 1, bytes))
    (g n : Nat) (xs : List Int) (hg : w.heap[g]? = some (.cells (blk k xs) e (0, 0))) (hn : xs.length = n) (B : Nat) (A : Option Addr) (m c : Nat) (ys : List Int) (hr : Row k w B A ys) (hm : ys.length = m) (h1 : 1 ≤ m)
    (hb : (n + m) * bytes ≤ 140737488355328) (h63 : n + m ≤ maxLen) :
    ∃ cap, (∀ ty, (Builtin.append_ #[t, t] ty #[.slice (some ⟨g, 0, none⟩) n n, .slice A m c]).run P w = .ok (.slice (some ⟨w.heap.size, 0, none⟩) (n + m) cap) (w.drew.alloc (.cells (blk k (xs ++ ys ++ List.replicate (cap - (n + m)) 0)) e))) ∧ n + m ≤ cap ∧ cap ≤ maxLen := by
  obtain ⟨i, hi1, hz, hsz, hby⟩ := info_parts hi
  have h64 := h63
  simp only [maxLen] at h64
  obtain ⟨b, o, rfl, _, hc⟩ := hr.2 (by omega)
  have holds : ∀ j u, (xs.map (Value.int k))[j]? = some u → w.cell? ((⟨g, 0, none⟩ : Addr).add j) = some u := by
    intro j u hu
    rw [Go.WideShapes.add_plain, Nat.zero_add, cell_of_row w g j _ _ _ hg]
    simpa [blk] using hu
  have hnews : ∀ j u, (ys.map (Value.int k))[j]? = some u → w.cell? ((⟨b, o, none⟩ : Addr).add j) = some u := by
    intro j u hu
    rw [List.getElem?_map] at hu
    by_cases hj : j < ys.length
    · rw [List.getElem?_eq_getElem hj] at hu
      rw [Go.WideShapes.add_plain, hc j hj, nth_eq ys j hj]
      exact hu
    · rw [List.getElem?_eq_none (by omega)] at hu
      cases hu
  have hr := fun ty => run_append_grow (P := P) w t ty e i _ ht hi1 hz ⟨g, 0, none⟩ n n (xs.map (Value.int k)) (by rw [hsz]; simp; omega) holds ⟨b, o, none⟩ m c (ys.map (Value.int k)) (by rw [hsz]; simp; omega) hnews (by omega) (by omega) (growslice_fits (by omega) (by rw [hby]; omega))
  have hge := grownCap_ge w (n + m) n e
  refine ⟨grownCap w (n + m) n e, fun ty => ?_, hge, grownCap_le_maxLen w (n + m) n e h63⟩
  rw [hr ty, zero_one]
  congr 3
  apply Array.toList_inj.1
  simp [blk]
/-- An append whose outcome is known. -/
theorem wpList_append_run {ops : Array Oper} {rest : List Oper} {o : Oper} {a : Act} {Q : Exit → Act → World → Prop} (w : World) (hgd : o.guard = none) (s x : Operand) (t : TypeId)
    (ho : o.op = .call { callee := .builtin .append, args := #[s, x], argTypes := #[t, t] }) (v u v' : Value) (w' : World) (hs : a.eval s = v) (hx : a.eval x = u)
    (hrun : ∀ ty, (Builtin.append_ #[t, t] ty #[v, u]).run P w = .ok v' w') (h : wpList P ops Q rest (a.put o.dst v') w') : wpList P ops Q (o :: rest) a w := by
  refine wpList_plain hgd fun K hK => ?_
  unfold Oper.wp
  simp [execOp, ho, resolve, invoke, builtin, hs, hx, hrun, Result.andThen]
  exact hK _ _ h
theorem step_append_run {ops : Array Oper} {o : Oper} {a : Act} {K : Act → World → Prop} {Q : Exit → Act → World → Prop} {E : Prop} (w : World) (hgd : o.guard = none) (s x : Operand) (t : TypeId)
    (ho : o.op = .call { callee := .builtin .append, args := #[s, x], argTypes := #[t, t] }) (v u v' : Value) (w' : World) (hs : a.eval s = v) (hx : a.eval x = u)
    (hrun : ∀ ty, (Builtin.append_ #[t, t] ty #[v, u]).run P w = .ok v' w') (h : K (a.put o.dst v') w') :
    if Region.wanted o (yielded ops a.tmps) = true then Oper.wp P o a w K Q else E := by
  have hw : Region.wanted o (yielded ops a.tmps) = true := by simp [Region.wanted, hgd]
  rw [if_pos hw]
  unfold Oper.wp execOp
  simp only [ho, resolve, invoke, builtin, Sem.run_bind, Sem.run_pure, Result.andThen_ok, List.map_toArray, List.map_cons, List.map_nil, hs, hx, hrun]
  exact h
end
end Go.Proofs.Ytobhllcnljggiaa
namespace Go.Proofs.Ytobhllcnljggiaa
open Go.RowKit
set_option linter.unusedVariables false

/-- A slice that fills a block whose cells are the integers xs. -/
def KFull (k : IntKind) (e : TypeId) (w : World) (base : Nat) (v : Value) (xs : List Int) : Prop :=
  ∃ g n : Nat, v = .slice (some ⟨g, 0, none⟩) n n ∧ base ≤ g ∧ xs.length = n ∧ n ≤ maxLen ∧ w.heap[g]? = some (.cells (blk k xs) e (0, 0))
theorem KFull.laid {k : IntKind} {t : TypeId} {w : World} {base g : Nat} {l : List Int} {n : Nat} (hg : w.heap[g]? = some (.cells (blk k l) t (0, 0))) (hb : base ≤ g) (hl : l.length = n) (hm : n ≤ maxLen) : KFull k t w base (.slice (some ⟨g, 0, none⟩) n n) l :=
  ⟨g, n, rfl, hb, hl, hm, hg⟩
theorem KFull.kown {k : IntKind} {e : TypeId} {w : World} {base : Nat} {v : Value} {xs : List Int} (h : KFull k e w base v xs) : KOwn k e w base v xs := by
  obtain ⟨g, n, rfl, hb, hl, hm, hg⟩ := h
  exact .inr ⟨g, n, n, [], rfl, hb, hl, by rw [List.append_nil]; exact hg, Nat.le_refl _, hm, by simpa using hl, by simp⟩
theorem zerosK_wf (k : IntKind) (m : Nat) (hk : (Lit.int k 0).wf = true) : ∀ x ∈ List.replicate m (0 : Int), (Lit.int k x).wf = true := fun x hx => by rw [List.eq_of_mem_replicate hx]; exact hk
theorem wf_zero (k : IntKind) : (Lit.int k 0).wf = true := by cases k <;> decide
/-- What is taken of a list of the call's own. -/
theorem KOwn.front {k : IntKind} {e : TypeId} {w : World} {base n c m : Nat} {A : Option Addr} {xs : List Int} (h : KOwn k e w base (.slice A n c) xs) (hw : ∀ x ∈ xs, (Lit.int k x).wf = true) (hm : m ≤ xs.length) : KOwn k e w base (.slice A m c) (xs.take m) := by
  rcases h with ⟨hv, rfl⟩ | ⟨g, n', cap, r, hv, h1, h2, h3, h4, h5, h6, h7⟩
  · injection hv with a b c'
    subst a c'
    obtain rfl : m = 0 := by simpa using hm
    exact .inl ⟨rfl, rfl⟩
  · injection hv with a b c'
    subst a c'
    refine .inr ⟨g, m, c, xs.drop m ++ r, rfl, h1, by rw [List.length_take]; omega, by rw [← List.append_assoc, List.take_append_drop]; exact h3, by omega, h5, by simp; omega, fun x hx => ?_⟩
    rcases List.mem_append.1 hx with hx | hx
    · exact hw x (List.mem_of_mem_drop hx)
    · exact h7 x hx
def MakesK (w : World) (xs : List Int) (e : Ending) (w' : World) : Prop := ∃ v, e = .returned v ∧ KOwn .u8 5 w' w.heap.size v xs ∧ Below w.heap.size w w'
def MakesK2 (w : World) (xs : List Int) (e : Ending) (w' : World) : Prop := ∃ v, e = .returned (.tuple #[v, .int .i64 0]) ∧ KOwn .u8 5 w' w.heap.size v xs ∧ Below w.heap.size w w'
/-- A call returns a pair: a list of its own, its block known whole, and a number. -/
def GivesK (w : World) (l : List Int) (err : Int) (e : Ending) (w' : World) : Prop :=
  ∃ v, e = .returned (.tuple #[v, .int .i64 err]) ∧ KOwn .u8 5 w' w.heap.size v l ∧ Below w.heap.size w w'

section
variable {P : Program}
theorem run_append_rowK {ys : List Int} (h1 : 1 ≤ ys.length) (w : World) (base : Nat) (t : TypeId) (k : IntKind) (e : TypeId) (bytes : Nat) (ht : P.underlying t = some (.slice e)) (hi : (P.info? e).map (fun i => (i.zero, i.size, i.bytes)) = some (some (.int k 0), 1, bytes))
    (v : Value) (xs : List Int) (hown : KFull k e w base v xs) (B : Nat) (A : Option Addr) (m c : Nat) (hr : Row k w B A ys) (hm : ys.length = m)
    (hbytes : (xs.length + m) * bytes ≤ 140737488355328) (h63 : xs.length + m ≤ maxLen) (hbase : base ≤ w.heap.size) :
    ∃ v' w', (∀ ty, (Builtin.append_ #[t, t] ty #[v, .slice A m c]).run P w = .ok v' w') ∧ KOwn k e w' base v' (xs ++ ys) ∧ w.grownBy w' v.ownBlock := by
  obtain ⟨g, n, rfl, hb, hl, hmx, hg⟩ := hown
  subst hl
  obtain ⟨cap, h2, h3, h4⟩ := run_append_full (P := P) w t k e bytes ht hi g xs.length xs hg rfl B A m c ys hr hm (by omega) hbytes h63
  refine ⟨_, _, h2, .inr ⟨w.heap.size, xs.length + m, cap, List.replicate (cap - (xs.length + m)) 0, rfl, hbase, by rw [List.length_append, hm], ?_, h3, h4, by rw [List.length_append, List.length_replicate, hm]; omega, zerosK_wf k _ (wf_zero k)⟩, ?_⟩
  · exact heap_alloc_new w.drew _
  · have hbel : Below w.heap.size w (w.drew.alloc (.cells (blk k (xs ++ ys ++ List.replicate (cap - (xs.length + m)) 0)) e)) := (below_drew (Below.refl _ _)).alloc (by show _ ≤ w.heap.size; exact Nat.le_refl _) _
    exact ⟨hbel.os, hbel.tape, hbel.output, hbel.size, fun i hi _ => hbel.block i hi⟩
theorem step_append_rowK {ops : Array Oper} {o : Oper} {a : Act} {K : Act → World → Prop} {Q : Exit → Act → World → Prop} {E : Prop} {ys : List Int} (h1 : 1 ≤ ys.length) (w : World) (hgd : o.guard = none) (s x : Operand) (t : TypeId)
    (ho : o.op = .call { callee := .builtin .append, args := #[s, x], argTypes := #[t, t] })
    (base : Nat) (k : IntKind) (e : TypeId) (bytes : Nat) (ht : P.underlying t = some (.slice e)) (hi : (P.info? e).map (fun i => (i.zero, i.size, i.bytes)) = some (some (.int k 0), 1, bytes))
    (v : Value) (xs : List Int) (hs : a.eval s = v) (hown : KFull k e w base v xs) (B : Nat) (A : Option Addr) (m c : Nat) (ys' : List Int) (hx : a.eval x = .slice A m c) (hr : Row k w B A ys) (hm : ys.length = m)
    (hbytes : (xs.length + m) * bytes ≤ 140737488355328) (h63 : xs.length + m ≤ maxLen) (hbase : base ≤ w.heap.size)
    (h : ∀ v' w', KOwn k e w' base v' (xs ++ ys) → w.grownBy w' v.ownBlock → K (a.put o.dst v') w') :
    if Region.wanted o (yielded ops a.tmps) = true then Oper.wp P o a w K Q else E := by
  have hw : Region.wanted o (yielded ops a.tmps) = true := by simp [Region.wanted, hgd]
  rw [if_pos hw]
  obtain ⟨v', w', hrun, h1, h2⟩ := run_append_rowK (P := P) h1 w base t k e bytes ht hi v xs hown B A m c hr hm hbytes h63 hbase
  unfold Oper.wp execOp
  simp only [ho, resolve, invoke, builtin, Sem.run_bind, Sem.run_pure, Result.andThen_ok, List.map_toArray, List.map_cons, List.map_nil, hs, hx, hrun]
  exact h v' w' h1 h2
theorem wpList_append_rowK {ops : Array Oper} {rest : List Oper} {o : Oper} {a : Act} {Q : Exit → Act → World → Prop} {ys : List Int} (h1 : 1 ≤ ys.length) (w : World) (hgd : o.guard = none) (s x : Operand) (t : TypeId)
    (ho : o.op = .call { callee := .builtin .append, args := #[s, x], argTypes := #[t, t] })
    (base : Nat) (k : IntKind) (e : TypeId) (bytes : Nat) (ht : P.underlying t = some (.slice e)) (hi : (P.info? e).map (fun i => (i.zero, i.size, i.bytes)) = some (some (.int k 0), 1, bytes))
    (v : Value) (xs : List Int) (hs : a.eval s = v) (hown : KFull k e w base v xs)
    (B : Nat) (A : Option Addr) (m c : Nat) (ys' : List Int) (hx : a.eval x = .slice A m c) (hr : Row k w B A ys) (hm : ys.length = m)
    (hbytes : (xs.length + m) * bytes ≤ 140737488355328) (h63 : xs.length + m ≤ maxLen) (hbase : base ≤ w.heap.size)
    (h : ∀ v' w', KOwn k e w' base v' (xs ++ ys) → w.grownBy w' v.ownBlock → wpList P ops Q rest (a.put o.dst v') w') : wpList P ops Q (o :: rest) a w := by
  obtain ⟨v', w', hrun, h1, h2⟩ := run_append_rowK (P := P) h1 w base t k e bytes ht hi v xs hown B A m c hr hm hbytes h63 hbase
  exact wpList_append_run w hgd s x t ho v (.slice A m c) v' w' hs hx hrun (h v' w' h1 h2)
end

set_option maxHeartbeats 1000000 in
theorem rpCountedK_any (c : Int) (A : Option Addr) (m cap : Nat) (ys : List Int) (w : World) (hr : Row .u8 w w.heap.size A ys) (hm : ys.length = m) (hm1 : 1 ≤ ys.length) (hm2 : m ≤ 255) (hc : 0 ≤ c ∧ c < 256) :
    Calls Try.prog 59 #[.int .i64 c, .slice A m cap] w (MakesK w (c :: (m : Int) :: ys)) := by
  have e1 : IntKind.u8.wrap c = c := by rw [IntKind.wrap_u8]; omega
  have e2 : IntKind.u8.wrap (m : Int) = m := by rw [IntKind.wrap_u8]; omega
  have HR := Lib.hid (hr.alloc (Nat.le_refl _) (.cells (blk .u8 [c, (m : Int)]) 5))
  have HM := Lib.hid hm
  have hown := KFull.laid (k := .u8) (base := w.heap.size) (n := 2) (heap_alloc_new w (.cells (blk .u8 [c, (m : Int)]) 5)) (Nat.le_refl _) (show [c, (m : Int)].length = 2 from rfl) (by simp [maxLen])
  have bel := bel_alloc w (.cells (blk .u8 [c, (m : Int)]) 5)
  clear hr hm
  go_enter Try.func59, Try.ntmps59
  go_wp2_with (at_builtin; refine wpList_append_rowK hm1 _ rfl (.tmp 10) (.tmp 11) 34 rfl w.heap.size .u8 5 1 Try.underlying34 info_u8 (.slice (some ⟨w.heap.size, 0, none⟩) 2 2) [c, (m : Int)] rfl hown _ _ m cap ys rfl HR.out HM.out (by simp; omega) (by simp [maxLen]; omega) (by simp) ?_; intro v1 w1 hown1 hg1)
  go_ret
  exact ⟨_, rfl, hown1, bel.grown hg1 (by simp) (fun g e => by have e : some w.heap.size = some g := e; injection e with e; omega)⟩

set_option maxHeartbeats 1000000 in
set_option maxRecDepth 100000 in
theorem PutK_ok (q : Req) (Ao As Ap : Option Addr) (lo ls lp co cs cp : Nat) (w : World) (h : Asked w w.heap.size q Ao As Ap lo ls lp) (hk : chk q.c q.a q.n lo ls lp q.fl = 0) (h5 : 1 ≤ (tl q.c q.a q.n q.on q.set q.fl lo ls lp).length) :
    Calls Try.prog 90 #[.agg #[.int .i64 q.c, .int .i64 q.a, .int .i64 q.n, .slice Ao lo co, .slice As ls cs, .slice Ap lp cp]] w (MakesK2 w (pduOf q lo ls lp)) := by
  have H := Lib.hid (h.alloc (Nat.le_refl _) (.cells #[.int .i64 q.c, .int .i64 q.a, .int .i64 q.n, .slice Ao lo co, .slice As ls cs, .slice Ap lp cp] 26))
  have HC := Lib.hid (Check_any q Ao As Ap lo ls lp co cs cp (w.alloc (.cells #[.int .i64 q.c, .int .i64 q.a, .int .i64 q.n, .slice Ao lo co, .slice As ls cs, .slice Ap lp cp] 26)) (H.out.more (by simp)))
  rw [hk] at HC
  have hcb : 0 ≤ q.c ∧ q.c < 256 := by
    have := (chk_zero hk).1
    have := mm_pos this
    omega
  obtain ⟨⟨hlo, hls⟩, hlp⟩ := right_many hk
  have e1 : IntKind.u8.wrap q.c = q.c := by rw [IntKind.wrap_u8]; omega
  have hcw : Hid ((Lit.int .u8 q.c).wf = true) := Lib.hid (by have := wf_byte q.c.toNat (by omega); rwa [show ((q.c.toNat : Nat) : Int) = q.c by omega] at this)
  have HP : Hid (pduOf q lo ls lp = [q.c] ++ tl q.c q.a q.n q.on q.set q.fl lo ls lp) := Lib.hid rfl
  have HTL : Hid ((tl q.c q.a q.n q.on q.set q.fl lo ls lp).length ≤ 1000) := Lib.hid (by
    have := tl_length q.c q.a q.n q.on q.set q.fl lo ls lp
    have h1 := h.ls
    unfold need at this
    omega)
  have HTW := Lib.hid (tl_wf (c := q.c) (a := q.a) (n := q.n) (on := q.on) (set := q.set) (fl := q.fl) (lo := lo) (ls := ls) (lp := lp) (by unfold need; omega))
  have HK := Lib.hid hk
  have hx0 := Bx.new w (.cells #[.int .i64 q.c, .int .i64 q.a, .int .i64 q.n, .slice Ao lo co, .slice As ls cs, .slice Ap lp cp] 26)
  rw [HP.out]
  clear h hk
  go_enter Try.func90, Try.ntmps90
  go_wp2_with fail
  refine HC.out.mono ?_
  rintro e w1 ⟨rfl, bel⟩
  have h9 := hx0.below bel
  have HA := Lib.hid ((H.out.below (bel.mono (by simp))).more (show w.heap.size ≤ w1.heap.size from Nat.le_of_lt h9.lt))
  have hz9 := h9.lt
  clear HC H hx0 bel
  go_wp2_with fail
  go_region_held3 (fun w' => Bx w w.heap.size (.cells #[.int .i64 q.c, .int .i64 q.a, .int .i64 q.n, .slice Ao lo co, .slice As ls cs, .slice Ap lp cp] 26) w' ∧ w'.cell? ⟨w.heap.size, 0, none⟩ = some (.int .i64 q.c) ∧ w'.cell? ⟨w.heap.size, 1, none⟩ = some (.int .i64 q.a) ∧ w'.cell? ⟨w.heap.size, 2, none⟩ = some (.int .i64 q.n) ∧ w'.cell? ⟨w.heap.size, 3, none⟩ = some (.slice Ao lo co) ∧ w'.cell? ⟨w.heap.size, 4, none⟩ = some (.slice As ls cs) ∧ w'.cell? ⟨w.heap.size, 5, none⟩ = some (.slice Ap lp cp))
    ((first
      | exact ⟨h9.drew, h9.drew.six⟩
      | exact ⟨(h9.alloc _).drew, (h9.alloc _).drew.six⟩
      | exact ⟨h12, h12.six⟩
      | exact ⟨h10, h10.six⟩
      | exact ⟨h10.alloc _, (h10.alloc _).six⟩))
    (first
      | (go_at_call 98
         refine (behind_any q Ao As Ap lo ls lp co cs cp _ (by first | exact (HA.out.upAlloc _).upDrew | exact HA.out.upDrew) HK.out).mono ?_
         rintro e w2 ⟨v2, rfl, own2, b2⟩
         obtain ⟨A2, c2, rfl, row2, _, _⟩ := own2.row HTW.out
         have h10 : Bx w w.heap.size (.cells #[.int .i64 q.c, .int .i64 q.a, .int .i64 q.n, .slice Ao lo co, .slice As ls cs, .slice Ap lp cp] 26) w2 := by first | exact (h9.alloc _).drew.below b2 | exact h9.drew.below b2)
      | (refine step_append_rowK h5 w2 rfl _ _ 34 rfl (w.heap.size + 1) .u8 5 1 Try.underlying34 info_u8 (.slice (some ⟨w1.heap.size, 0, none⟩) 1 1) [q.c] rfl (KFull.laid (l := [q.c]) ((b2.block w1.heap.size (by simp)).trans (heap_alloc_new w1 _)) hz9 rfl (by simp [maxLen])) _ A2 _ c2 (tl q.c q.a q.n q.on q.set q.fl lo ls lp) rfl row2 rfl (by have := HTL.out; simp only [List.length_singleton]; omega) (by have := HTL.out; simp only [List.length_singleton, maxLen]; omega) (by have := h10.lt; omega) ?_
         intro v3 w3 own3 g3
         have h12 := h10.grown g3 (by simp [Value.ownBlock]; omega))
      | (refine step_append_rowK h5 (w2.alloc (.cells (blk .u8 [q.c]) 5)) rfl _ _ 34 rfl (w.heap.size + 1) .u8 5 1 Try.underlying34 info_u8 (.slice (some ⟨w2.heap.size, 0, none⟩) 1 1) [q.c] rfl (KFull.laid (l := [q.c]) (heap_alloc_new w2 _) h10.lt rfl (by simp [maxLen])) _ A2 _ c2 (tl q.c q.a q.n q.on q.set q.fl lo ls lp) rfl (row2.alloc (Nat.le_refl _) _) rfl (by have := HTL.out; simp only [List.length_singleton]; omega) (by have := HTL.out; simp only [List.length_singleton, maxLen]; omega) (by have := h10.lt; simp; omega) ?_
         intro v3 w3 own3 g3
         have hz10 := h10.lt
         have h12 := (h10.alloc _).grown g3 (by simp [Value.ownBlock]; omega)))
  all_goals
    go_wp2
    go_ret2
    exact ⟨v3, rfl, own3.mono (by omega), h12.2⟩

theorem tl_four {q : Req} {lo ls lp : Nat} (h5 : 5 ≤ (pduOf q lo ls lp).length) : 1 ≤ (tl q.c q.a q.n q.on q.set q.fl lo ls lp).length := by
  have : (pduOf q lo ls lp).length = (tl q.c q.a q.n q.on q.set q.fl lo ls lp).length + 1 := rfl
  omega
/-- Put of a right request that is none for files. -/
theorem PutK_yes (q : Req) (Ao As Ap : Option Addr) (lo ls lp co cs cp : Nat) (w : World) (hk : chkQ q = 0) (h5 : 5 ≤ (putL q).length) (n20 : q.c ≠ 20) (h : Asked w w.heap.size q Ao As Ap lo ls lp) :
    Calls Try.prog 90 #[.agg #[.int .i64 q.c, .int .i64 q.a, .int .i64 q.n, .slice Ao lo co, .slice As ls cs, .slice Ap lp cp]] w (MakesK2 w (putL q)) := by
  rw [putL, if_pos hk, ← pduQ_of h] at h5 ⊢
  exact PutK_ok q Ao As Ap lo ls lp co cs cp w h (by rw [chkQ_of h, hk]) (tl_four h5)

theorem echoK_any (q : Req) (Ao As Ap : Option Addr) (lo ls lp co cs cp : Nat) (w : World) (h : Asked w w.heap.size q Ao As Ap lo ls lp) (hk : chkQ q = 0) (h5 : 5 ≤ (putL q).length) (n20 : q.c ≠ 20) :
    Calls Try.prog 63 #[.agg #[.int .i64 q.c, .int .i64 q.a, .int .i64 q.n, .slice Ao lo co, .slice As ls cs, .slice Ap lp cp]] w (MakesK w ((putL q).take 5)) := by
  have bx := Bx.new w (.cells #[.int .i64 q.c, .int .i64 q.a, .int .i64 q.n, .slice Ao lo co, .slice As ls cs, .slice Ap lp cp] 26)
  have HP := Lib.hid (PutK_yes q Ao As Ap lo ls lp co cs cp _ hk h5 n20 (h.upAlloc (.cells #[.int .i64 q.c, .int .i64 q.a, .int .i64 q.n, .slice Ao lo co, .slice As ls cs, .slice Ap lp cp] 26)))
  have H5 := Lib.hid h5
  clear h hk h5
  go_enter Try.func63, Try.ntmps63
  go_wp2_with fail
  refine HP.out.mono ?_
  rintro e w1 ⟨v1, rfl, own1, b1⟩
  obtain ⟨A1, c1, rfl, _, hle, _⟩ := own1.row (putL_wf q)
  have OW := Lib.hid ((own1.front (putL_wf q) H5.out).mono (base' := w.heap.size) (by simp))
  have bel := (bx.below b1).2
  obtain ⟨n1, hn1⟩ : ∃ n, (putL q).length = n := ⟨_, rfl⟩
  rw [hn1] at hle
  rw [hn1]
  have hc5 : (5 : Int) ≤ (c1 : Int) := by have := H5.out; omega
  clear own1 b1 bx hn1 HP
  go_wp2
  go_ret
  exact ⟨_, rfl, OW.out, bel⟩

end Go.Proofs.Ytobhllcnljggiaa
namespace Go.Proofs.Ytobhllcnljggiaa
open Go.RowKit
set_option linter.unusedVariables false

/-- A right answer that is no exception has something in its list. -/
theorem rep_one {q : Req} {r : Rep} (h : chkR q r = 0) (hx : r.x = 0) : (q.c = 1 ∨ q.c = 2 → 1 ≤ r.on.length) ∧ (q.c = 3 ∨ q.c = 4 → 1 ≤ r.set.length) ∧ (q.c = 20 → 1 ≤ r.fs.length) := by
  obtain ⟨h1, h2⟩ := chkR_zero h hx
  have hz := (chk_zero h1).2.2.2.1
  unfold manyB at h2
  refine ⟨fun hc => ?_, fun hc => ?_, fun hc => ?_⟩
  · rw [if_pos hc] at h2
    have h2 := of_decide_eq_true h2
    rcases hc with hc | hc <;> rw [hc] at hz <;> simp [many, mm] at hz <;> omega
  · rw [if_neg (show ¬ (q.c = 1 ∨ q.c = 2) by omega), if_pos hc] at h2
    have h2 := of_decide_eq_true h2
    rcases hc with hc | hc <;> rw [hc] at hz <;> simp [many, mm] at hz <;> omega
  · rw [if_neg (show ¬ (q.c = 1 ∨ q.c = 2) by omega), if_neg (show ¬ (q.c = 3 ∨ q.c = 4) by omega), if_pos hc] at h2
    obtain ⟨hl, _⟩ := fits_true h2
    rw [hc] at hz
    simp [many, mm] at hz
    omega
theorem fbytes_one (fs : List (List Int)) (k : Nat) (h : 1 ≤ k) : 1 ≤ (fbytes fs k).length := by
  obtain ⟨j, rfl⟩ : ∃ j, k = j + 1 := ⟨k - 1, by omega⟩
  rw [fbytes, List.length_append, List.length_append]
  simp only [List.length_cons, List.length_nil]
  omega
set_option maxHeartbeats 1000000 in
set_option maxRecDepth 100000 in
theorem rpFormK_bits (q : Req) (r : Rep) (Ao As Ap Bo Bs Bf : Option Addr) (lo ls lp co cs cp mo ms mf eo es ef : Nat) (w : World) (h : Asked w w.heap.size q Ao As Ap lo ls lp) (hr : Repd w w.heap.size r Bo Bs Bf mo ms mf) (hc : q.c = 1 ∨ q.c = 2) (hm : mo ≤ 2000) (hp1 : 1 ≤ mo) :
    Calls Try.prog 32 #[.agg #[.int .i64 q.c, .int .i64 q.a, .int .i64 q.n, .slice Ao lo co, .slice As ls cs, .slice Ap lp cp], .agg #[.int .i64 r.x, .slice Bo mo eo, .slice Bs ms es, .slice Bf mf ef]] w (MakesK w (q.c :: ((need mo : Nat) : Int) :: pk r.on (need mo))) := by
  obtain ⟨c, a, n, on, set, fl⟩ := q
  simp only at *
  have t0 := TB.new2 w #[.int .i64 c, .int .i64 a, .int .i64 n, .slice Ao lo co, .slice As ls cs, .slice Ap lp cp] #[.int .i64 r.x, .slice Bo mo eo, .slice Bs ms es, .slice Bf mf ef] 26 29
  have HSET := Lib.hid hr.on
  have HMS := Lib.hid hr.mo
  obtain ⟨m2, hm2⟩ : ∃ m2, need mo = m2 := ⟨_, rfl⟩
  have hm3 : m2 ≤ 255 := by rw [← hm2]; unfold need; omega
  have HM2 := Lib.hid hm2
  rw [hm2]
  have HWL : Hid ((pk r.on m2).length = m2) := Lib.hid (pk_length _ _)
  have HP1 : Hid (1 ≤ (pk r.on m2).length) := Lib.hid (by rw [HWL.out, ← hm2]; unfold need; omega)
  clear h hr hm2
  rcases hc with rfl | rfl
  · go_enter Try.func32, Try.ntmps32
    go_wp2_with fail
    go_region_held3 (fun w' => TB w w.heap.size (.cells #[.int .i64 1, .int .i64 a, .int .i64 n, .slice Ao lo co, .slice As ls cs, .slice Ap lp cp] 26 (0, 0)) (.cells #[.int .i64 r.x, .slice Bo mo eo, .slice Bs ms es, .slice Bf mf ef] 29 (0, 0)) w' ∧ w'.cell? ⟨w.heap.size, 0, none⟩ = some (.int .i64 1) ∧ w'.cell? ⟨w.heap.size + 1, 0, none⟩ = some (.int .i64 r.x) ∧ w'.cell? ⟨w.heap.size + 1, 1, none⟩ = some (.slice Bo mo eo) ∧ w'.cell? ⟨w.heap.size + 1, 2, none⟩ = some (.slice Bs ms es) ∧ w'.cell? ⟨w.heap.size + 1, 3, none⟩ = some (.slice Bf mf ef))
      ((first
        | exact ⟨t0.drew, t0.drew.r6.1, t0.drew.c4.1, t0.drew.c4.2.1, t0.drew.c4.2.2.1, t0.drew.c4.2.2.2.1⟩
        | exact ⟨t2, t2.r6.1, t2.c4.1, t2.c4.2.1, t2.c4.2.2.1, t2.c4.2.2.2.1⟩
        | exact ⟨t1, t1.r6.1, t1.c4.1, t1.c4.2.1, t1.c4.2.2.1, t1.c4.2.2.2.1⟩))
      (first
        | (go_at_call 60; refine (Bits_row Bo mo eo (w.heap.size + 1 + 1) r.on _ (by simp) ((HSET.out.below t0.drew.bel).more (by omega)) HMS.out (by omega)).mono ?_; rw [HM2.out]; rintro e w1 ⟨rfl, g1, b1⟩; have t1 := t0.drew.below2 b1 (by omega); have hg1 := block_lt g1)
        | (go_at_call 59; refine (rpCountedK_any _ _ m2 m2 (pk r.on m2) _ ((Row.of_block g1 (pk r.on m2) (pk_wf _ _) (List.prefix_refl _)).more hg1) HWL.out HP1.out hm3 (by omega)).mono ?_; rintro e w2 ⟨v2, rfl, own2, b2⟩; have t2 := t1.below b2))
    go_wp2
    go_ret
    exact ⟨_, rfl, own2.mono (by have := t1.lt; omega), t2.bel⟩
  · go_enter Try.func32, Try.ntmps32
    go_wp2_with fail
    go_region_held3 (fun w' => TB w w.heap.size (.cells #[.int .i64 2, .int .i64 a, .int .i64 n, .slice Ao lo co, .slice As ls cs, .slice Ap lp cp] 26 (0, 0)) (.cells #[.int .i64 r.x, .slice Bo mo eo, .slice Bs ms es, .slice Bf mf ef] 29 (0, 0)) w' ∧ w'.cell? ⟨w.heap.size, 0, none⟩ = some (.int .i64 2) ∧ w'.cell? ⟨w.heap.size + 1, 0, none⟩ = some (.int .i64 r.x) ∧ w'.cell? ⟨w.heap.size + 1, 1, none⟩ = some (.slice Bo mo eo) ∧ w'.cell? ⟨w.heap.size + 1, 2, none⟩ = some (.slice Bs ms es) ∧ w'.cell? ⟨w.heap.size + 1, 3, none⟩ = some (.slice Bf mf ef))
      ((first
        | exact ⟨t0.drew, t0.drew.r6.1, t0.drew.c4.1, t0.drew.c4.2.1, t0.drew.c4.2.2.1, t0.drew.c4.2.2.2.1⟩
        | exact ⟨t2, t2.r6.1, t2.c4.1, t2.c4.2.1, t2.c4.2.2.1, t2.c4.2.2.2.1⟩
        | exact ⟨t1, t1.r6.1, t1.c4.1, t1.c4.2.1, t1.c4.2.2.1, t1.c4.2.2.2.1⟩))
      (first
        | (go_at_call 60; refine (Bits_row Bo mo eo (w.heap.size + 1 + 1) r.on _ (by simp) ((HSET.out.below t0.drew.bel).more (by omega)) HMS.out (by omega)).mono ?_; rw [HM2.out]; rintro e w1 ⟨rfl, g1, b1⟩; have t1 := t0.drew.below2 b1 (by omega); have hg1 := block_lt g1)
        | (go_at_call 59; refine (rpCountedK_any _ _ m2 m2 (pk r.on m2) _ ((Row.of_block g1 (pk r.on m2) (pk_wf _ _) (List.prefix_refl _)).more hg1) HWL.out HP1.out hm3 (by omega)).mono ?_; rintro e w2 ⟨v2, rfl, own2, b2⟩; have t2 := t1.below b2))
    go_wp2
    go_ret
    exact ⟨_, rfl, own2.mono (by have := t1.lt; omega), t2.bel⟩

set_option maxHeartbeats 1000000 in
set_option maxRecDepth 100000 in
theorem rpFormK_words (q : Req) (r : Rep) (Ao As Ap Bo Bs Bf : Option Addr) (lo ls lp co cs cp mo ms mf eo es ef : Nat) (w : World) (h : Asked w w.heap.size q Ao As Ap lo ls lp) (hr : Repd w w.heap.size r Bo Bs Bf mo ms mf) (hc : q.c = 3 ∨ q.c = 4) (hm : ms ≤ 125) (hp1 : 1 ≤ ms) :
    Calls Try.prog 32 #[.agg #[.int .i64 q.c, .int .i64 q.a, .int .i64 q.n, .slice Ao lo co, .slice As ls cs, .slice Ap lp cp], .agg #[.int .i64 r.x, .slice Bo mo eo, .slice Bs ms es, .slice Bf mf ef]] w (MakesK w (q.c :: 2 * (ms : Int) :: wbytes r.set)) := by
  obtain ⟨c, a, n, on, set, fl⟩ := q
  simp only at *
  have t0 := TB.new2 w #[.int .i64 c, .int .i64 a, .int .i64 n, .slice Ao lo co, .slice As ls cs, .slice Ap lp cp] #[.int .i64 r.x, .slice Bo mo eo, .slice Bs ms es, .slice Bf mf ef] 26 29
  have HSET := Lib.hid hr.set
  have HMS := Lib.hid hr.ms
  have HWL : Hid ((wbytes r.set).length = 2 * ms) := Lib.hid (by rw [wbytes_length, hr.ms])
  have hcast : ((2 * ms : Nat) : Int) = 2 * (ms : Int) := by omega
  obtain ⟨m2, hm2⟩ : ∃ m2, 2 * ms = m2 := ⟨_, rfl⟩
  rw [hm2] at HWL hcast
  rw [← hcast]
  have hm3 : m2 ≤ 255 := by omega
  have HM2 := Lib.hid hm2
  have HP1 : Hid (1 ≤ (wbytes r.set).length) := Lib.hid (by rw [HWL.out]; omega)
  clear h hr hm2 hcast
  rcases hc with rfl | rfl
  · go_enter Try.func32, Try.ntmps32
    go_wp2_with fail
    go_region_held3 (fun w' => TB w w.heap.size (.cells #[.int .i64 3, .int .i64 a, .int .i64 n, .slice Ao lo co, .slice As ls cs, .slice Ap lp cp] 26 (0, 0)) (.cells #[.int .i64 r.x, .slice Bo mo eo, .slice Bs ms es, .slice Bf mf ef] 29 (0, 0)) w' ∧ w'.cell? ⟨w.heap.size, 0, none⟩ = some (.int .i64 3) ∧ w'.cell? ⟨w.heap.size + 1, 0, none⟩ = some (.int .i64 r.x) ∧ w'.cell? ⟨w.heap.size + 1, 1, none⟩ = some (.slice Bo mo eo) ∧ w'.cell? ⟨w.heap.size + 1, 2, none⟩ = some (.slice Bs ms es) ∧ w'.cell? ⟨w.heap.size + 1, 3, none⟩ = some (.slice Bf mf ef))
      ((first
        | exact ⟨t0.drew, t0.drew.r6.1, t0.drew.c4.1, t0.drew.c4.2.1, t0.drew.c4.2.2.1, t0.drew.c4.2.2.2.1⟩
        | exact ⟨t2, t2.r6.1, t2.c4.1, t2.c4.2.1, t2.c4.2.2.1, t2.c4.2.2.2.1⟩
        | exact ⟨t1, t1.r6.1, t1.c4.1, t1.c4.2.1, t1.c4.2.2.1, t1.c4.2.2.2.1⟩))
      (first
        | (go_at_call 61; refine (Bytes_row Bs ms es (w.heap.size + 1 + 1) r.set _ (by simp) ((HSET.out.below t0.drew.bel).more (by omega)) HMS.out (by omega)).mono ?_; rintro e w1 ⟨rfl, g1, b1⟩; rw [HM2.out]; have t1 := t0.drew.below2 b1 (by omega); have hg1 := block_lt g1)
        | (go_at_call 59; refine (rpCountedK_any _ _ m2 m2 (wbytes r.set) _ ((Row.of_block g1 (wbytes r.set) (wbytes_wf r.set) (List.prefix_refl _)).more hg1) HWL.out HP1.out hm3 (by omega)).mono ?_; rintro e w2 ⟨v2, rfl, own2, b2⟩; have t2 := t1.below b2))
    go_wp2
    go_ret
    exact ⟨_, rfl, own2.mono (by have := t1.lt; omega), t2.bel⟩
  · go_enter Try.func32, Try.ntmps32
    go_wp2_with fail
    go_region_held3 (fun w' => TB w w.heap.size (.cells #[.int .i64 4, .int .i64 a, .int .i64 n, .slice Ao lo co, .slice As ls cs, .slice Ap lp cp] 26 (0, 0)) (.cells #[.int .i64 r.x, .slice Bo mo eo, .slice Bs ms es, .slice Bf mf ef] 29 (0, 0)) w' ∧ w'.cell? ⟨w.heap.size, 0, none⟩ = some (.int .i64 4) ∧ w'.cell? ⟨w.heap.size + 1, 0, none⟩ = some (.int .i64 r.x) ∧ w'.cell? ⟨w.heap.size + 1, 1, none⟩ = some (.slice Bo mo eo) ∧ w'.cell? ⟨w.heap.size + 1, 2, none⟩ = some (.slice Bs ms es) ∧ w'.cell? ⟨w.heap.size + 1, 3, none⟩ = some (.slice Bf mf ef))
      ((first
        | exact ⟨t0.drew, t0.drew.r6.1, t0.drew.c4.1, t0.drew.c4.2.1, t0.drew.c4.2.2.1, t0.drew.c4.2.2.2.1⟩
        | exact ⟨t2, t2.r6.1, t2.c4.1, t2.c4.2.1, t2.c4.2.2.1, t2.c4.2.2.2.1⟩
        | exact ⟨t1, t1.r6.1, t1.c4.1, t1.c4.2.1, t1.c4.2.2.1, t1.c4.2.2.2.1⟩))
      (first
        | (go_at_call 61; refine (Bytes_row Bs ms es (w.heap.size + 1 + 1) r.set _ (by simp) ((HSET.out.below t0.drew.bel).more (by omega)) HMS.out (by omega)).mono ?_; rintro e w1 ⟨rfl, g1, b1⟩; rw [HM2.out]; have t1 := t0.drew.below2 b1 (by omega); have hg1 := block_lt g1)
        | (go_at_call 59; refine (rpCountedK_any _ _ m2 m2 (wbytes r.set) _ ((Row.of_block g1 (wbytes r.set) (wbytes_wf r.set) (List.prefix_refl _)).more hg1) HWL.out HP1.out hm3 (by omega)).mono ?_; rintro e w2 ⟨v2, rfl, own2, b2⟩; have t2 := t1.below b2))
    go_wp2
    go_ret
    exact ⟨_, rfl, own2.mono (by have := t1.lt; omega), t2.bel⟩

set_option maxHeartbeats 1000000 in
set_option maxRecDepth 100000 in
theorem rpFormK_file (q : Req) (r : Rep) (Ao As Ap Bo Bs Bf : Option Addr) (lo ls lp co cs cp mo ms mf eo es ef : Nat) (w : World) (h : Asked w w.heap.size q Ao As Ap lo ls lp) (hr : Repd w w.heap.size r Bo Bs Bf mo ms mf) (hc : q.c = 20) (hm : mf ≤ 100) (hl : ∀ i, i < mf → (nthF r.fs i).length ≤ 127) (hf : (fbytes r.fs mf).length ≤ 255) (hf1 : 1 ≤ (fbytes r.fs mf).length) :
    Calls Try.prog 32 #[.agg #[.int .i64 q.c, .int .i64 q.a, .int .i64 q.n, .slice Ao lo co, .slice As ls cs, .slice Ap lp cp], .agg #[.int .i64 r.x, .slice Bo mo eo, .slice Bs ms es, .slice Bf mf ef]] w (MakesK w (20 :: (((fbytes r.fs mf).length : Nat) : Int) :: fbytes r.fs mf)) := by
  obtain ⟨c, a, n, on, set, fl⟩ := q
  simp only at *
  subst hc
  have t0 := TB.new2 w #[.int .i64 20, .int .i64 a, .int .i64 n, .slice Ao lo co, .slice As ls cs, .slice Ap lp cp] #[.int .i64 r.x, .slice Bo mo eo, .slice Bs ms es, .slice Bf mf ef] 26 29
  have HFS := Lib.hid hr.fs
  have HMF := Lib.hid hr.mf
  have HL := Lib.hid hl
  have HW := Lib.hid (fbytes_wf r.fs mf hl)
  obtain ⟨m2, hm2⟩ : ∃ m2, (fbytes r.fs mf).length = m2 := ⟨_, rfl⟩
  have hm3 : m2 ≤ 255 := by omega
  have HM2 := Lib.hid hm2
  rw [hm2]
  obtain ⟨F, hF⟩ : ∃ F, Hid (fbytes r.fs mf = F) := ⟨_, Lib.hid rfl⟩
  rw [hF.out] at HM2 HW ⊢
  have HP1 : Hid (1 ≤ F.length) := Lib.hid (by rw [HM2.out, ← hm2]; exact hf1)
  clear h hr hm2 hl hf hf1
  go_enter Try.func32, Try.ntmps32
  go_wp2_with fail
  go_region_held3 (fun w' => TB w w.heap.size (.cells #[.int .i64 20, .int .i64 a, .int .i64 n, .slice Ao lo co, .slice As ls cs, .slice Ap lp cp] 26 (0, 0)) (.cells #[.int .i64 r.x, .slice Bo mo eo, .slice Bs ms es, .slice Bf mf ef] 29 (0, 0)) w' ∧ w'.cell? ⟨w.heap.size, 0, none⟩ = some (.int .i64 20) ∧ w'.cell? ⟨w.heap.size + 1, 0, none⟩ = some (.int .i64 r.x) ∧ w'.cell? ⟨w.heap.size + 1, 1, none⟩ = some (.slice Bo mo eo) ∧ w'.cell? ⟨w.heap.size + 1, 2, none⟩ = some (.slice Bs ms es) ∧ w'.cell? ⟨w.heap.size + 1, 3, none⟩ = some (.slice Bf mf ef))
    ((first
      | exact ⟨t0.drew, t0.drew.r6.1, t0.drew.c4.1, t0.drew.c4.2.1, t0.drew.c4.2.2.1, t0.drew.c4.2.2.2.1⟩
      | exact ⟨t2, t2.r6.1, t2.c4.1, t2.c4.2.1, t2.c4.2.2.1, t2.c4.2.2.2.1⟩
      | exact ⟨t1, t1.r6.1, t1.c4.1, t1.c4.2.1, t1.c4.2.2.1, t1.c4.2.2.2.1⟩))
    (first
      | (go_at_call 62; refine (fileBytes_any Bf mf ef r.fs _ ((HFS.out.below t0.drew.bel).more t0.drew.bel.size) HMF.out hm HL.out).mono ?_; rw [hF.out]; rintro e w1 ⟨v1, rfl, own1, b1⟩; have t1 := t0.drew.below b1; obtain ⟨A1, c1, hv1, row1, _, _⟩ := own1.row HW.out; rw [HM2.out] at hv1; subst hv1)
      | (go_at_call 59; refine (rpCountedK_any _ _ m2 c1 F _ row1 HM2.out HP1.out hm3 (by omega)).mono ?_; rintro e w2 ⟨v2, rfl, own2, b2⟩; have t2 := t1.below b2))
  go_wp2
  go_ret
  exact ⟨_, rfl, own2.mono (by have := t1.lt; omega), t2.bel⟩

set_option maxHeartbeats 1000000 in
set_option maxRecDepth 100000 in
theorem rpFormK_echo (q : Req) (r : Rep) (Ao As Ap Bo Bs Bf : Option Addr) (lo ls lp co cs cp mo ms mf eo es ef : Nat) (w : World) (h : Asked w w.heap.size q Ao As Ap lo ls lp) (hr : Repd w w.heap.size r Bo Bs Bf mo ms mf) (hk : chkQ q = 0) (h5 : 5 ≤ (putL q).length) (n1 : q.c ≠ 1) (n2 : q.c ≠ 2) (n3 : q.c ≠ 3) (n4 : q.c ≠ 4) (n20 : q.c ≠ 20) :
    Calls Try.prog 32 #[.agg #[.int .i64 q.c, .int .i64 q.a, .int .i64 q.n, .slice Ao lo co, .slice As ls cs, .slice Ap lp cp], .agg #[.int .i64 r.x, .slice Bo mo eo, .slice Bs ms es, .slice Bf mf ef]] w (MakesK w ((putL q).take 5)) := by
  have t0 := TB.new2 w #[.int .i64 q.c, .int .i64 q.a, .int .i64 q.n, .slice Ao lo co, .slice As ls cs, .slice Ap lp cp] #[.int .i64 r.x, .slice Bo mo eo, .slice Bs ms es, .slice Bf mf ef] 26 29
  have HE := Lib.hid (echoK_any q Ao As Ap lo ls lp co cs cp _ ((h.below t0.bel).more t0.bel.size) hk h5 n20)
  have b1 : (q.c == 1) = false := beq_false_of_ne n1
  have b2 : (q.c == 2) = false := beq_false_of_ne n2
  have b3 : (q.c == 3) = false := beq_false_of_ne n3
  have b4 : (q.c == 4) = false := beq_false_of_ne n4
  have b20 : (q.c == 20) = false := beq_false_of_ne n20
  have hsz := t0.bel.size
  have bel := t0.bel
  clear h hr hk h5 n1 n2 n3 n4 n20 t0
  go_enter Try.func32, Try.ntmps32
  go_wp2_with fail
  refine HE.out.mono ?_
  rintro e w2 ⟨v2, rfl, own2, b2⟩
  go_wp2
  go_ret
  exact ⟨_, rfl, own2.mono hsz, bel.trans (b2.mono hsz)⟩

theorem rpFormK_any (q : Req) (r : Rep) (Ao As Ap Bo Bs Bf : Option Addr) (lo ls lp co cs cp mo ms mf eo es ef : Nat) (w : World) (h : Asked w w.heap.size q Ao As Ap lo ls lp) (hr : Repd w w.heap.size r Bo Bs Bf mo ms mf) (hk : chkR q r = 0) (hx : r.x = 0) :
    Calls Try.prog 32 #[.agg #[.int .i64 q.c, .int .i64 q.a, .int .i64 q.n, .slice Ao lo co, .slice As ls cs, .slice Ap lp cp], .agg #[.int .i64 r.x, .slice Bo mo eo, .slice Bs ms es, .slice Bf mf ef]] w (MakesK w (formR q r)) := by
  have hq := (chkR_zero hk hx).1
  unfold formR
  by_cases h1 : q.c = 1 ∨ q.c = 2
  · rw [if_pos h1, hr.mo]
    exact rpFormK_bits q r Ao As Ap Bo Bs Bf lo ls lp co cs cp mo ms mf eo es ef w h hr h1 (by have := rep_bits hk hx h1; have := hr.mo; omega) (by have := (rep_one hk hx).1 h1; have := hr.mo; omega)
  · rw [if_neg h1]
    by_cases h2 : q.c = 3 ∨ q.c = 4
    · rw [if_pos h2, hr.ms]
      exact rpFormK_words q r Ao As Ap Bo Bs Bf lo ls lp co cs cp mo ms mf eo es ef w h hr h2 (by have := rep_words hk hx h2; have := hr.ms; omega) (by have := (rep_one hk hx).2.1 h2; have := hr.ms; omega)
    · rw [if_neg h2]
      by_cases h3 : q.c = 20
      · obtain ⟨f1, f2, f3⟩ := rep_files hk hx h3
        rw [hr.mf] at f1 f2 f3
        rw [if_pos h3, hr.mf]
        exact rpFormK_file q r Ao As Ap Bo Bs Bf lo ls lp co cs cp mo ms mf eo es ef w h hr h3 (by omega) f2 f3 (fbytes_one r.fs mf (by have := (rep_one hk hx).2.2 h3; have := hr.mf; omega))
      · rw [if_neg h3]
        exact rpFormK_echo q r Ao As Ap Bo Bs Bf lo ls lp co cs cp mo ms mf eo es ef w h hr hq (putL_five hq h3) (by omega) (by omega) (by omega) (by omega) h3
end Go.Proofs.Ytobhllcnljggiaa
namespace Go.Proofs.Ytobhllcnljggiaa
open Go.RowKit
set_option linter.unusedVariables false

set_option maxHeartbeats 2000000 in
theorem rpPutK_any (q : Req) (r : Rep) (Ao As Ap Bo Bs Bf : Option Addr) (lo ls lp co cs cp mo ms mf eo es ef : Nat) (w : World) (h : Asked w w.heap.size q Ao As Ap lo ls lp) (hr : Repd w w.heap.size r Bo Bs Bf mo ms mf) (hb : lp ≤ 100000) :
    Calls Try.prog 11 #[.agg #[.int .i64 q.c, .int .i64 q.a, .int .i64 q.n, .slice Ao lo co, .slice As ls cs, .slice Ap lp cp], .agg #[.int .i64 r.x, .slice Bo mo eo, .slice Bs ms es, .slice Bf mf ef]] w (GivesK w (putR q r) (chkR q r)) := by
  have t0 := TB.new2 w #[.int .i64 q.c, .int .i64 q.a, .int .i64 q.n, .slice Ao lo co, .slice As ls cs, .slice Ap lp cp] #[.int .i64 r.x, .slice Bo mo eo, .slice Bs ms es, .slice Bf mf ef] 26 29
  have hsz : w.heap.size ≤ ((w.alloc (.cells #[.int .i64 q.c, .int .i64 q.a, .int .i64 q.n, .slice Ao lo co, .slice As ls cs, .slice Ap lp cp] 26)).alloc (.cells #[.int .i64 r.x, .slice Bo mo eo, .slice Bs ms es, .slice Bf mf ef] 29)).heap.size := t0.bel.size
  have H := Lib.hid ((h.below t0.bel).more hsz)
  have HR := Lib.hid ((hr.below t0.bel).more hsz)
  have HC := Lib.hid (rpCheck_any q r Ao As Ap Bo Bs Bf lo ls lp co cs cp mo ms mf eo es ef _ H.out HR.out hb)
  clear h hr
  obtain ⟨E, hE⟩ : ∃ E, Hid (chkR q r = E) := ⟨_, Lib.hid rfl⟩
  rw [hE.out] at HC ⊢
  by_cases hE0 : E = 0
  · subst hE0
    by_cases hx : r.x = 0
    · have HL : Hid (putR q r = formR q r) := Lib.hid (by unfold putR; rw [if_neg (show ¬ chkR q r ≠ 0 by rw [hE.out]; simp), if_neg (show ¬ r.x ≠ 0 by simp [hx])])
      rw [HL.out]
      have u1 : (r.x != 0) = false := by simp [hx]
      have u2 : (r.x == 0) = true := by simp [hx]
      have HX := Lib.hid hx
      clear hx
      go_enter Try.func11, Try.ntmps11
      go_wp2_with fail
      refine HC.out.mono ?_
      rintro e w1 ⟨rfl, b1⟩
      have t1 := t0.below b1
      have hlt := t1.lt
      have HF := Lib.hid (rpFormK_any q r Ao As Ap Bo Bs Bf lo ls lp co cs cp mo ms mf eo es ef w1 (H.out.up b1) (HR.out.up b1) hE.out HX.out)
      clear b1 t0 HC hsz
      obtain ⟨d0, d1, d2, d3, d4⟩ := t1.c4
      obtain ⟨r0, r1, r2, r3, r4, r5, r6⟩ := t1.r6
      go_wp2_with fail
      refine HF.out.mono ?_
      rintro e w2 ⟨v2, rfl, own2, b2⟩
      have t2 := t1.below b2
      go_wp2
      go_ret2
      exact ⟨_, rfl, own2.mono (by omega), t2.bel⟩
    · have HL : Hid (putR q r = [q.c + 128, r.x]) := Lib.hid (by unfold putR; rw [if_neg (show ¬ chkR q r ≠ 0 by rw [hE.out]; simp), if_pos hx])
      rw [HL.out]
      have hq : chkQ q = 0 := by
        have h2 := hE.out
        unfold chkR at h2
        by_cases hk : chkQ q ≠ 0
        · rw [if_pos hk] at h2; exact h2
        · simpa using hk
      have hxr : 1 ≤ r.x ∧ r.x ≤ 127 := by
        have h2 := hE.out
        unfold chkR at h2
        rw [if_neg (show ¬ chkQ q ≠ 0 by rw [hq]; simp), if_pos hx] at h2
        split at h2
        · assumption
        · cases h2
      have hcr := mm_le _ (chk_code hq)
      have u1 : (r.x != 0) = true := by simpa using hx
      have u2 : (r.x == 0) = false := beq_false_of_ne hx
      have e1 : IntKind.i64.wrap (q.c + 128) = q.c + 128 := IntWalk.i64_in _ (by omega)
      have e2 : IntKind.u8.wrap (q.c + 128) = q.c + 128 := by rw [IntKind.wrap_u8]; omega
      have e3 : IntKind.u8.wrap r.x = r.x := by rw [IntKind.wrap_u8]; omega
      clear hq hx
      go_enter Try.func11, Try.ntmps11
      go_wp2_with fail
      refine HC.out.mono ?_
      rintro e w1 ⟨rfl, b1⟩
      have t1 := t0.below b1
      have hlt := t1.lt
      clear b1 t0 HC hsz
      obtain ⟨d0, d1, d2, d3, d4⟩ := t1.c4
      obtain ⟨r0, r1, r2, r3, r4, r5, r6⟩ := t1.r6
      go_wp2
      go_ret2
      exact ⟨_, rfl, KFull.kown (KFull.laid (heap_alloc_new w1 (.cells (blk .u8 [q.c + 128, r.x]) 5)) (by omega) rfl (by simp [maxLen])), t1.bel.alloc (by omega) _⟩
  · have HL : Hid (putR q r = []) := Lib.hid (by unfold putR; rw [if_pos (show chkR q r ≠ 0 by rw [hE.out]; exact hE0)])
    rw [HL.out]
    have u1 : (E != 0) = true := by simpa using hE0
    have u2 : (E == 0) = false := beq_false_of_ne hE0
    clear hE0
    go_enter Try.func11, Try.ntmps11
    go_wp2_with fail
    refine HC.out.mono ?_
    rintro e w1 ⟨rfl, b1⟩
    have t1 := t0.below b1
    go_wp2
    go_ret2
    exact ⟨_, rfl, KOwn.nil _ _ _ _, t1.bel⟩
end Go.Proofs.Ytobhllcnljggiaa
namespace Go.Proofs.Ytobhllcnljggiaa
open Go.RowKit
set_option linter.unusedVariables false

theorem getR_wf {q : Req} {ys : List Int} (hw : ∀ x ∈ ys, (Lit.int .u8 x).wf = true) : (∀ x ∈ (getR q ys).set, (Lit.int .u16 x).wf = true) ∧ ∀ xs ∈ (getR q ys).fs, ∀ x ∈ xs, (Lit.int .u16 x).wf = true := by
  unfold getR
  split
  · exact ⟨(fun x hx => by cases hx), (fun xs hx => by cases hx)⟩
  · split
    · exact ⟨(fun x hx => by cases hx), (fun xs hx => by cases hx)⟩
    · exact rdR_wf hw
theorem getR_zero {q : Req} {ys : List Int} (h : getRE q ys ≠ 0) : getR q ys = Rep.zero := by rw [getR, if_pos h]
/-- What a right answer's lists are no longer than. -/
theorem getR_len {q : Req} {ys : List Int} (h : getRE q ys = 0) : ((getR q ys).on.length ≤ 2000 ∧ (getR q ys).set.length ≤ ys.length) ∧ (getR q ys).fs.length ≤ 35 ∧ ∀ i, i < (getR q ys).fs.length → (nthF (getR q ys).fs i).length ≤ ys.length := by
  obtain ⟨hq, h0, hh⟩ := getRE_zero h
  rw [getR, if_neg (by rw [h]; simp)]
  rcases hh with ⟨e1, _⟩ | ⟨e1, e2, e3⟩
  · rw [if_pos e1]
    exact ⟨⟨by simp, by simp⟩, by simp, fun i hi => by simp at hi⟩
  · rw [if_neg (by omega), rdR]
    split
    · rename_i hc
      have := right_bits hq hc
      refine ⟨⟨?_, by simp⟩, by simp, fun i hi => by simp at hi⟩
      show (unpk _ _).length ≤ 2000
      rw [unpk_length]; omega
    · split
      · refine ⟨⟨by simp, ?_⟩, by simp, fun i hi => by simp at hi⟩
        show (wwords _).length ≤ _
        rw [wwords_length, List.length_drop]; omega
      · split
        · rename_i hc
          have := right_files hq hc
          refine ⟨⟨by simp, by simp⟩, ?_, fun i hi => ?_⟩
          · show (filesR _ _ _).length ≤ 35
            rw [filesR_length]; omega
          · change i < (filesR _ _ _).length at hi
            rw [filesR_length] at hi
            show (nthF (filesR _ _ _) i).length ≤ _
            rw [filesR_nth _ _ _ _ hi, fileAt, wwords_length, List.length_take, List.length_drop]; omega
        · exact ⟨⟨by simp [Rep.zero], by simp [Rep.zero]⟩, by simp [Rep.zero], fun i hi => by simp [Rep.zero] at hi⟩

set_option maxHeartbeats 2000000 in
set_option maxRecDepth 100000 in
theorem walk_ReplyForms (q : Req) (Ao As Ap : Option Addr) (lo ls lp co cs cp : Nat) (a1 : Option Addr) (l1 c1 : Nat) (x1 : List Int) (w : World) (h : Asked w w.heap.size q Ao As Ap lo ls lp) (hi : (Lit.int .i64 q.c).wf = true ∧ (Lit.int .i64 q.a).wf = true ∧ (Lit.int .i64 q.n).wf = true)
    (w1 : Row .u8 w w.heap.size a1 x1) (n1 : x1.length = l1) (s1 : l1 ≤ c1) (m1 : c1 ≤ 140737488351232) :
    Calls Try.prog 6 #[.agg #[.int .i64 q.c, .int .i64 q.a, .int .i64 q.n, .slice Ao lo co, .slice As ls cs, .slice Ap lp cp], .slice a1 l1 c1] w fun e w' => e = .returned (.bool true) ∧ Below w.heap.size w w' := by
  have bx := Bx.new w (.cells #[.int .i64 q.c, .int .i64 q.a, .int .i64 q.n, .slice Ao lo co, .slice As ls cs, .slice Ap lp cp] 26)
  have H := Lib.hid (h.upAlloc (.cells #[.int .i64 q.c, .int .i64 q.a, .int .i64 q.n, .slice Ao lo co, .slice As ls cs, .slice Ap lp cp] 26))
  have HW := Lib.hid w1
  have HN := Lib.hid n1
  have h3 : q.fl.length % 3 = 0 := by have := h.lp; omega
  have hwf := w1.1
  clear h hi w1 n1
  by_cases hlong : 70000 < lo ∨ 70000 < ls ∨ 70000 < lp
  · have hlong' := Lib.hid hlong
    clear hlong
    go_enter Try.func6, Try.ntmps6
    go_wp2_with fail
    refine (LongAsk_yes q.c q.a q.n Ao As Ap lo co ls cs lp cp _ hlong'.out).mono ?_
    rintro e w1 ⟨rfl, b1⟩
    have bel1 := (bx.below b1).2
    go_wp2_with fail
    refine (works_yes _).mono ?_
    rintro e w2 ⟨rfl, b2⟩
    go_wp2
    go_ret
    exact ⟨rfl, bel1.trans (b2.mono bel1.size)⟩
  have hlo : lo ≤ 70000 := by omega
  have hls : ls ≤ 70000 := by omega
  have hlp : lp ≤ 70000 := by omega
  clear hlong
  by_cases hmore : 70000 < l1
  · have hm2 : (70000 : Int) < (l1 : Int) := by omega
    go_enter Try.func6, Try.ntmps6
    go_wp2_with fail
    refine (LongAsk_no q.c q.a q.n Ao As Ap lo co ls cs lp cp _ hlo hls hlp).mono ?_
    rintro e w1 ⟨rfl, b1⟩
    have bel1 := (bx.below b1).2
    go_wp2_with fail
    refine (works_yes _).mono ?_
    rintro e w2 ⟨rfl, b2⟩
    go_wp2
    go_ret
    exact ⟨rfl, bel1.trans (b2.mono bel1.size)⟩
  have hm2 : ¬ (70000 : Int) < (l1 : Int) := by omega
  have hRW := getR_wf (q := q) hwf
  have hRZ := getR_zero (q := q) (ys := x1)
  have hRB := putR_getR (q := q) hwf h3
  have hRL := getR_len (q := q) (ys := x1)
  go_enter Try.func6, Try.ntmps6
  go_wp2_with fail
  refine (LongAsk_no q.c q.a q.n Ao As Ap lo co ls cs lp cp _ hlo hls hlp).mono ?_
  rintro e w1 ⟨rfl, b1⟩
  have bx1 := bx.below b1
  have H1 := Lib.hid (H.out.up b1)
  clear bx b1 H
  obtain ⟨d0, d1, d2, d3, d4, d5⟩ := bx1.six
  have HG := Lib.hid (rpGet_any q Ao As Ap lo ls lp co cs cp a1 l1 c1 x1 w1 H1.out ((HW.out.below bx1.2).more (Nat.le_of_lt bx1.lt)) HN.out s1 (by omega))
  obtain ⟨R, hR⟩ : ∃ R, Hid (getR q x1 = R) := ⟨_, Lib.hid rfl⟩
  obtain ⟨E, hE⟩ : ∃ E, Hid (getRE q x1 = E) := ⟨_, Lib.hid rfl⟩
  rw [hR.out, hE.out] at HG
  rw [hR.out] at hRW
  rw [hR.out, hE.out] at hRZ hRB hRL
  have HRW := Lib.hid hRW
  clear hRW
  go_wp2_with fail
  clear d0 d1 d2 d3 d4 d5
  refine HG.out.mono ?_
  rintro e w2 ⟨Bo, Bs, Bf, mo, ms, mf, eo, es, ef, rfl, rk, b2⟩
  have bx2 := bx1.below b2
  have bA := bel_alloc w2 (.cells #[.int .i64 R.x, .slice Bo mo eo, .slice Bs ms es, .slice Bf mf ef] 29)
  have bx3 := bx2.below bA
  have H3 := Lib.hid ((H1.out.up b2).up bA)
  have RD := Lib.hid ((rk.repd HRW.out.1 HRW.out.2).up bA)
  have hbox := Lib.hid (heap_alloc_new w2 (.cells #[.int .i64 R.x, .slice Bo mo eo, .slice Bs ms es, .slice Bf mf ef] 29))
  clear HG rk b2 bA H1 bx1 bx2
  by_cases hE0 : E = 0
  · subst hE0
    obtain ⟨hk0, hput⟩ := hRB rfl
    have HK0 := Lib.hid hk0
    have HPUT := Lib.hid hput
    have HRL := Lib.hid (hRL rfl)
    clear hRZ hRB hRL hk0 hput
    obtain ⟨w3, hw3⟩ : ∃ w3, w2.alloc (.cells #[.int .i64 R.x, .slice Bo mo eo, .slice Bs ms es, .slice Bf mf ef] 29) = w3 := ⟨_, rfl⟩
    obtain ⟨g3, hg3⟩ : ∃ g, w2.heap.size = g := ⟨_, rfl⟩
    rw [hw3] at bx3 H3 RD hbox
    rw [hg3] at hbox
    obtain ⟨d0, d1, d2, d3, d4, d5⟩ := bx3.six
    obtain ⟨y0, y1, y2, y3⟩ := cells4 hbox.out
    have HP := Lib.hid (rpPutK_any q R Ao As Ap Bo Bs Bf lo ls lp co cs cp mo ms mf eo es ef w3 H3.out RD.out (by omega))
    rw [HK0.out, HPUT.out] at HP
    go_wp2_with fail
    clear d0 d1 d2 d3 d4 d5 y0 y1 y2 y3
    refine HP.out.mono ?_
    rintro e w4 ⟨v4, rfl, own4, b4⟩
    obtain ⟨A4, n4, c4, rfl, row4, l4⟩ := own4.own.view3 hwf
    have bx4 := bx3.below b4
    have H4 := Lib.hid (H3.out.up b4)
    have RD4 := Lib.hid (RD.out.up b4)
    have R4 := Lib.hid row4
    have HL4 := Lib.hid l4
    have hbox4 := Lib.hid ((b4.block g3 (block_lt hbox.out)).trans hbox.out)
    obtain ⟨d0, d1, d2, d3, d4, d5⟩ := bx4.six
    obtain ⟨y0, y1, y2, y3⟩ := cells4 hbox4.out
    have HC := Lib.hid (rpCheck_any q R Ao As Ap Bo Bs Bf lo ls lp co cs cp mo ms mf eo es ef w4 H4.out RD4.out (by omega))
    rw [HK0.out] at HC
    clear bx3 b4 H3 RD own4 row4 l4 hbox HP hw3 hg3
    go_wp2_with fail
    clear d0 d1 d2 d3 d4 d5 y0 y1 y2 y3
    refine HC.out.mono ?_
    rintro e w5 ⟨rfl, b5⟩
    have bx5 := bx4.below b5
    have R5 := Lib.hid ((R4.out.below b5).more b5.size)
    have RX := Lib.hid ((HW.out.below bx5.2).more (Nat.le_of_lt bx5.lt))
    have hn : n4 = l1 := HL4.out.symm.trans HN.out
    subst hn
    clear bx4 b5 R4 RD4 HC H4
    go_wp2_with fail
    refine (same_yes_u8 A4 a1 n4 c4 c1 x1 w5 _ _ R5.out RX.out HL4.out (by omega)).mono ?_
    rintro e w6 ⟨rfl, m6, rfl⟩
    have bel6 := below_drewN bx5.2 m6
    go_wp2_with fail
    refine (works_yes _).mono ?_
    rintro e w7 ⟨rfl, b7⟩
    go_wp2
    go_ret
    exact ⟨rfl, Below.trans (bel6.mono (Nat.le_of_eq rfl)) (b7.mono (by have := bx5.lt; show w.heap.size ≤ w5.heap.size; omega))⟩
  · have hz : R = Rep.zero := hRZ hE0
    subst hz
    obtain rfl : mo = 0 := RD.out.mo.symm
    obtain rfl : ms = 0 := RD.out.ms.symm
    obtain rfl : mf = 0 := RD.out.mf.symm
    have u1 : (E != 0) = true := by simpa using hE0
    have u2 : (E == 0) = false := beq_false_of_ne hE0
    clear hRZ hRB hRL hE0
    go_wp2_with fail
    refine (SameReply_yes 0 [] [] [] Bo Bs Bf none none none 0 0 0 eo es ef 0 0 0 _ (L.Row.nil _ _ _ _) (Row.nil _ _ _ _) (L.Row.nil _ _ _ _) (Row.nil _ _ _ _) (FRow.nil _ _ _) (FRow.nil _ _ _) rfl rfl rfl (by omega) (by omega) (by omega) (fun i hi => by omega)).mono ?_
    rintro e w4 ⟨rfl, b4⟩
    have bel4 := (bx3.below b4).2
    have hz4 := (bx3.below b4).lt
    go_wp2_with fail
    refine (works_yes _).mono ?_
    rintro e w5 ⟨rfl, b5⟩
    go_wp2
    go_ret
    exact ⟨rfl, (bel4.mono (Nat.le_refl _)).trans (b5.mono (by omega))⟩
end Go.Proofs.Ytobhllcnljggiaa
