/-
  The walk of ScaleKnown.
-/
import Derived.Test.YtcnidddneiekfaaScaleValuesWalk
import Derived.Test.YtcnidddneiekfaaScaleNearestWalk
import Derived.Test.YtcnidddneiekfaaScaleTurnedWalk
import Derived.Test.YtcnidddneiekfaaScaleWordsWalk
import Derived.Test.YtcnidddneiekfaaScaleBackWalk
import Derived.Test.YtcnidddneiekfaaScaleRawsWalk
namespace Go.Proofs.Ytcnidddneiekfaa
open Go.RowKit
set_option linter.unusedVariables false

def facs : List Int := [-9223372036854775808, -1000001, -1000000, -1, 0, 1, 2, 999999, 1000000, 1000001, 9223372036854775807]
def adds : List Int := [-1099511627777, -1099511627776, -1, 0, 1099511627776, 1099511627777]
def nums : List Int := [-9223372036854775808, -2147483649, -2147483648, -32769, -32768, -1, 0, 1, 5, 32767, 32768, 65535, 65536, 2147483647, 2147483648, 4294967295, 4294967296, 9223372036854775807]
theorem facs_wf : ∀ x ∈ facs, (Lit.int .i64 x).wf = true := by decide
theorem adds_wf : ∀ x ∈ adds, (Lit.int .i64 x).wf = true := by decide
theorem nums_wf : ∀ x ∈ nums, (Lit.int .i64 x).wf = true := by decide
/-- Three blocks of the call's own; what lies below is as it was. -/
def Tri (w0 : World) (g : Nat) (w : World) : Prop := Below g w0 w ∧ w.heap[g]? = some (.cells (blk .i64 facs) 3 (0, 0)) ∧ w.heap[g + 1]? = some (.cells (blk .i64 adds) 3 (0, 0)) ∧ w.heap[g + 2]? = some (.cells (blk .i64 nums) 3 (0, 0))
theorem Tri.lt {w0 w : World} {g : Nat} (h : Tri w0 g w) : g + 2 < w.heap.size := block_lt h.2.2.2
theorem Tri.below {w0 w w' : World} {g : Nat} (h : Tri w0 g w) (hb : Below w.heap.size w w') : Tri w0 g w' := by
  have := h.lt
  exact ⟨h.1.trans (hb.mono (by omega)), (hb.block g (by omega)).trans h.2.1, (hb.block (g + 1) (by omega)).trans h.2.2.1, (hb.block (g + 2) (by omega)).trans h.2.2.2⟩
theorem Tri.drew {w0 w : World} {g : Nat} (h : Tri w0 g w) : Tri w0 g w.drew := h.below ⟨rfl, rfl, rfl, Nat.le_refl _, fun _ _ => rfl⟩
theorem Tri.alloc {w0 w : World} {g : Nat} (h : Tri w0 g w) (o : Obj) : Tri w0 g (w.alloc o) := h.below (bel_alloc w o)
theorem Tri.fac {w0 w : World} {g : Nat} (h : Tri w0 g w) (i : Nat) (hi : i < 11) : w.cell? ⟨g, i, none⟩ = some (.int .i64 (nth facs i)) := by
  rw [cell_of_row w g i _ _ _ h.2.1, blk_get _ _ _ (show i < facs.length from hi)]
theorem Tri.add {w0 w : World} {g : Nat} (h : Tri w0 g w) (i : Nat) (hi : i < 6) : w.cell? ⟨g + 1, i, none⟩ = some (.int .i64 (nth adds i)) := by
  rw [cell_of_row w (g + 1) i _ _ _ h.2.2.1, blk_get _ _ _ (show i < adds.length from hi)]
theorem Tri.num {w0 w : World} {g : Nat} (h : Tri w0 g w) (i : Nat) (hi : i < 18) : w.cell? ⟨g + 2, i, none⟩ = some (.int .i64 (nth nums i)) := by
  rw [cell_of_row w (g + 2) i _ _ _ h.2.2.2, blk_get _ _ _ (show i < nums.length from hi)]
theorem Tri.begin (w : World) : Tri w w.heap.size (((w.alloc (.cells (blk .i64 facs) 3)).alloc (.cells (blk .i64 adds) 3)).alloc (.cells (blk .i64 nums) 3)) := by
  have h1 := heap_alloc_new w (.cells (blk .i64 facs) 3)
  have h2 := heap_alloc_two w (.cells (blk .i64 facs) 3) (.cells (blk .i64 adds) 3)
  have s1 : (w.alloc (.cells (blk .i64 facs) 3)).heap.size = w.heap.size + 1 := by simp
  have s2 : ((w.alloc (.cells (blk .i64 facs) 3)).alloc (.cells (blk .i64 adds) 3)).heap.size = w.heap.size + 2 := by simp
  have b1 := bel_alloc w (.cells (blk .i64 facs) 3)
  have b2 := bel_alloc (w.alloc (.cells (blk .i64 facs) 3)) (.cells (blk .i64 adds) 3)
  have b3 := bel_alloc ((w.alloc (.cells (blk .i64 facs) 3)).alloc (.cells (blk .i64 adds) 3)) (.cells (blk .i64 nums) 3)
  have h3 := heap_alloc_new ((w.alloc (.cells (blk .i64 facs) 3)).alloc (.cells (blk .i64 adds) 3)) (.cells (blk .i64 nums) 3)
  rw [s2] at h3 b3
  rw [s1] at b2
  exact ⟨b1.trans ((b2.mono (by omega)).trans (b3.mono (by omega))), (b3.block _ (by omega)).trans ((b2.block _ (by omega)).trans h1), (b3.block _ (by omega)).trans h2, h3⟩
theorem fac_wf (i : Nat) (h : i < 11) : (Lit.int .i64 (nth facs i)).wf = true := facs_wf _ (nth_mem _ _ h)
theorem add_wf (i : Nat) (h : i < 6) : (Lit.int .i64 (nth adds i)).wf = true := adds_wf _ (nth_mem _ _ h)
theorem num_wf (i : Nat) (h : i < 18) : (Lit.int .i64 (nth nums i)).wf = true := nums_wf _ (nth_mem _ _ h)

/-- With a scale's box behind them. -/
def TriB (w0 : World) (g gb : Nat) (o : Obj) (w : World) : Prop := Tri w0 g w ∧ w.heap[gb]? = some o
theorem TriB.below {w0 w w' : World} {g gb : Nat} {o : Obj} (h : TriB w0 g gb o w) (hb : Below w.heap.size w w') : TriB w0 g gb o w' := ⟨h.1.below hb, (hb.block gb (block_lt h.2)).trans h.2⟩
theorem TriB.drew {w0 w : World} {g gb : Nat} {o : Obj} (h : TriB w0 g gb o w) : TriB w0 g gb o w.drew := h.below ⟨rfl, rfl, rfl, Nat.le_refl _, fun _ _ => rfl⟩
theorem TriB.alloc {w0 w : World} {g gb : Nat} {o : Obj} (h : TriB w0 g gb o w) (o' : Obj) : TriB w0 g gb o (w.alloc o') := h.below (bel_alloc w o')
/-- What a region on a number of nums loads. -/
theorem TriB.cells {w0 w : World} {g gb : Nat} {t : TypeId} {v0 v1 v2 v3 v4 v5 : Value} (h : TriB w0 g gb (.cells #[v0, v1, v2, v3, v4, v5] t (0, 0)) w) (i : Nat) (hi : i < 18) :
    w.cell? ⟨gb, 0, none⟩ = some v0 ∧ w.cell? ⟨gb, 1, none⟩ = some v1 ∧ w.cell? ⟨gb, 2, none⟩ = some v2 ∧ w.cell? ⟨gb, 3, none⟩ = some v3 ∧ w.cell? ⟨gb, 4, none⟩ = some v4 ∧ w.cell? ⟨gb, 5, none⟩ = some v5 ∧ w.cell? ⟨g + 1 + 1, i, none⟩ = some (.int .i64 (nth nums i)) :=
  ⟨cell_of_row _ _ 0 _ _ _ h.2, cell_of_row _ _ 1 _ _ _ h.2, cell_of_row _ _ 2 _ _ _ h.2, cell_of_row _ _ 3 _ _ _ h.2, cell_of_row _ _ 4 _ _ _ h.2, cell_of_row _ _ 5 _ _ _ h.2, h.1.num i hi⟩
def YesB (w0 : World) (g gb : Nat) (o : Obj) (e : Ending) (w' : World) : Prop := e = .returned (.bool true) ∧ TriB w0 g gb o w'
section
variable {w0 w : World} {g gb : Nat} {o : Obj} {wd sg sw : Bool} {mu di ad n : Int} (h : TriB w0 g gb o w) (hf : (⟨wd, sg, sw, mu, di, ad⟩ : Sc).fits) (wn : (Lit.int .i64 n).wf = true)
include h hf wn
theorem tb_values : Calls Try.prog 5 #[.agg #[.bool wd, .bool sg, .bool sw, .int .i64 mu, .int .i64 di, .int .i64 ad], .int .i64 n] w (YesB w0 g gb o) :=
  (walk_ScaleValues (⟨wd, sg, sw, mu, di, ad⟩ : Sc) n w hf wn).mono fun e w' ⟨he, hb⟩ => ⟨he, h.below hb⟩
theorem tb_nearest : Calls Try.prog 7 #[.agg #[.bool wd, .bool sg, .bool sw, .int .i64 mu, .int .i64 di, .int .i64 ad], .int .i64 n] w (YesB w0 g gb o) :=
  (walk_ScaleNearest (⟨wd, sg, sw, mu, di, ad⟩ : Sc) n w hf wn).mono fun e w' ⟨he, hb⟩ => ⟨he, h.below hb⟩
theorem tb_turned : Calls Try.prog 9 #[.agg #[.bool wd, .bool sg, .bool sw, .int .i64 mu, .int .i64 di, .int .i64 ad], .int .i64 n] w (YesB w0 g gb o) :=
  (walk_ScaleTurned (⟨wd, sg, sw, mu, di, ad⟩ : Sc) n w hf wn).mono fun e w' ⟨he, hb⟩ => ⟨he, h.below hb⟩
theorem tb_words : Calls Try.prog 4 #[.agg #[.bool wd, .bool sg, .bool sw, .int .i64 mu, .int .i64 di, .int .i64 ad], .int .i64 n] w (YesB w0 g gb o) :=
  (walk_ScaleWords (⟨wd, sg, sw, mu, di, ad⟩ : Sc) n w hf wn).mono fun e w' ⟨he, hb⟩ => ⟨he, h.below hb⟩
theorem tb_back (xs : List Int) (m : Nat) (hx : ∀ x ∈ xs, (Lit.int .u16 x).wf = true) (hl : xs.length = m) (hm : m ≤ 3) : Calls Try.prog 6 #[.agg #[.bool wd, .bool sg, .bool sw, .int .i64 mu, .int .i64 di, .int .i64 ad], .int .i64 n, .slice (some ⟨w.heap.size, 0, none⟩) m m] (w.alloc (.cells (blk .u16 xs) 41)) (YesB w0 g gb o) :=
  (walk_ScaleBack (⟨wd, sg, sw, mu, di, ad⟩ : Sc) n _ m m xs _ hf wn (row_words w _ xs hx) hl (Nat.le_refl _) (by omega)).mono fun e w' ⟨he, hb⟩ => ⟨he, (h.alloc _).below hb⟩
end
theorem tb_back1 {w0 w : World} {g gb : Nat} {o : Obj} {wd sg sw : Bool} {mu di ad n : Int} (h : TriB w0 g gb o w) (hf : (⟨wd, sg, sw, mu, di, ad⟩ : Sc).fits) (wn : (Lit.int .i64 n).wf = true) : Calls Try.prog 6 #[.agg #[.bool wd, .bool sg, .bool sw, .int .i64 mu, .int .i64 di, .int .i64 ad], .int .i64 n, .slice (some ⟨w.heap.size, 0, none⟩) 1 1] (w.alloc (.cells #[.int .u16 32768] 41)) (YesB w0 g gb o) :=
  tb_back h hf wn [32768] 1 (by decide) rfl (by omega)
theorem tb_back2 {w0 w : World} {g gb : Nat} {o : Obj} {wd sg sw : Bool} {mu di ad n : Int} (h : TriB w0 g gb o w) (hf : (⟨wd, sg, sw, mu, di, ad⟩ : Sc).fits) (wn : (Lit.int .i64 n).wf = true) : Calls Try.prog 6 #[.agg #[.bool wd, .bool sg, .bool sw, .int .i64 mu, .int .i64 di, .int .i64 ad], .int .i64 n, .slice (some ⟨w.heap.size, 0, none⟩) 2 2] (w.alloc (.cells #[.int .u16 32767, .int .u16 65535] 41)) (YesB w0 g gb o) :=
  tb_back h hf wn [32767, 65535] 2 (by decide) rfl (by omega)
theorem tb_raws {w0 w : World} {g gb : Nat} {o : Obj} {wd sg sw : Bool} {mu di ad : Int} (h : TriB w0 g gb o w) (hf : (⟨wd, sg, sw, mu, di, ad⟩ : Sc).fits) (xs : List Int) (m : Nat) (hx : ∀ x ∈ xs, (Lit.int .u16 x).wf = true) (hl : xs.length = m) (hm : m ≤ 3) :
    Calls Try.prog 3 #[.agg #[.bool wd, .bool sg, .bool sw, .int .i64 mu, .int .i64 di, .int .i64 ad], .slice (some ⟨w.heap.size, 0, none⟩) m m] (w.alloc (.cells (blk .u16 xs) 41)) (YesB w0 g gb o) :=
  (walk_ScaleRaws (⟨wd, sg, sw, mu, di, ad⟩ : Sc) _ m m xs _ hf (row_words w _ xs hx) hl (Nat.le_refl _) (by omega)).mono fun e w' ⟨he, hb⟩ => ⟨he, (h.alloc _).below hb⟩
theorem tb_nil {w0 w : World} {g gb : Nat} {o : Obj} {wd sg sw : Bool} {mu di ad : Int} (h : TriB w0 g gb o w) (hf : (⟨wd, sg, sw, mu, di, ad⟩ : Sc).fits) :
    Calls Try.prog 3 #[.agg #[.bool wd, .bool sg, .bool sw, .int .i64 mu, .int .i64 di, .int .i64 ad], .slice none 0 0] w (YesB w0 g gb o) :=
  (walk_ScaleRaws (⟨wd, sg, sw, mu, di, ad⟩ : Sc) _ 0 0 [] w hf (Row.nil _ _ _ _) rfl (Nat.le_refl _) (by omega)).mono fun e w' ⟨he, hb⟩ => ⟨he, h.below hb⟩
theorem fits_of {wd sg sw : Bool} {mu di ad : Int} (h1 : (Lit.int .i64 mu).wf = true) (h2 : (Lit.int .i64 di).wf = true) (h3 : (Lit.int .i64 ad).wf = true) : (⟨wd, sg, sw, mu, di, ad⟩ : Sc).fits := ⟨wf_i64 h1, wf_i64 h2, wf_i64 h3⟩

set_option maxHeartbeats 4000000 in
set_option maxRecDepth 100000 in
theorem walk_ScaleKnown (w : World) : Calls Try.prog 10 #[] w fun e w' => e = .returned (.bool true) ∧ Below w.heap.size w w' := by
  have h0 := Tri.begin w
  simp only [blk, facs, adds, nums, List.map] at h0
  go_enter Try.func10, Try.ntmps10
  go_wp2_with fail
  generalize (((w.alloc _).alloc _).alloc _ : World) = wz at *
  generalize hg : w.heap.size = g at *
  go_loopw [4] (fun i wr => ∃ a : Nat, a ≤ 11 ∧ i = .int .i64 a ∧ Tri w g wr) (fun i _ => 11 - (intOf i).toNat)
  case atStart => exact ⟨0, by omega, rfl, h0⟩
  case round =>
    obtain ⟨a, ha, rfl, h1⟩ := hrel
    by_cases hlt : a < 11
    · have hlt' : (a : Int) < 11 := by omega
      go_wp2_with fail
      go_loopw [5] (fun i wr => ∃ b : Nat, b ≤ 11 ∧ i = .int .i64 b ∧ Tri w g wr) (fun i _ => 11 - (intOf i).toNat)
      case atStart => exact ⟨0, by omega, rfl, h1⟩
      case round =>
        obtain ⟨b, hb, rfl, h2⟩ := hrel
        by_cases hltb : b < 11
        · have hltb' : (b : Int) < 11 := by omega
          obtain ⟨r, hr⟩ : ∃ r : Nat, (a + b) % 6 = r := ⟨_, rfl⟩
          have hr6 : r < 6 := by omega
          have hrI : ((a : Int) + (b : Int)) % 6 = (r : Int) := by omega
          have hrT : ((a : Int) + (b : Int)).tmod 6 = (r : Int) := by rw [Int.tmod_eq_emod_of_nonneg (by omega)]; exact hrI
          have hrW : IntKind.i64.wrap ((a : Int) + (b : Int)) = (a : Int) + (b : Int) := IntWalk.i64_in _ (by omega)
          have hr0 : (0 : Int) ≤ (r : Int) := by omega
          have hr1 : (r : Int) < 6 := by omega
          clear hr
          go_wp2_with fail
          go_region_held3 (fun w' => Tri w g w' ∧ w'.cell? ⟨g, a, none⟩ = some (.int .i64 (nth facs a)) ∧ w'.cell? ⟨g, b, none⟩ = some (.int .i64 (nth facs b)) ∧ w'.cell? ⟨g + 1, r, none⟩ = some (.int .i64 (nth adds r)))
            (first
              | exact ⟨h2.drew, h2.drew.fac a hlt, h2.drew.fac b hltb, h2.drew.add r hr6⟩
              | exact ⟨(h2.drew.alloc _), (h2.drew.alloc _).fac a hlt, (h2.drew.alloc _).fac b hltb, (h2.drew.alloc _).add r hr6⟩
              | fail)
            (fail)
          have hB : TriB w g wr.heap.size (.cells #[.bool false, .bool false, .bool false, .int .i64 (nth facs a), .int .i64 (nth facs b), .int .i64 (nth adds r)] 23 (0, 0)) ((wr.alloc (.cells #[.bool false, .bool false, .bool false, .int .i64 (nth facs a), .int .i64 (nth facs b), .int .i64 (nth adds r)] 23)).drew) := ⟨(h2.alloc _).drew, heap_alloc_new wr _⟩
          have hfit : (⟨false, false, false, nth facs a, nth facs b, nth adds r⟩ : Sc).fits := fits_of (fac_wf a hlt) (fac_wf b hltb) (add_wf r hr6)
          clear h2 h1 h0 hrI hrT hrW hr0 hr1
          generalize nth facs a = mu at *
          generalize nth facs b = di at *
          generalize nth adds r = ad at *
          generalize ((wr.alloc _).drew : World) = wb at *
          generalize wr.heap.size = gb at *
          go_wp2_with fail
          go_loopw [7] (fun i wr => ∃ m : Nat, m ≤ 18 ∧ i = .int .i64 m ∧ TriB w g gb (.cells #[.bool false, .bool false, .bool false, .int .i64 mu, .int .i64 di, .int .i64 ad] 23 (0, 0)) wr) (fun i _ => 18 - (intOf i).toNat)
          case atStart => exact ⟨0, by omega, rfl, hB⟩
          case round =>
            clear hB
            obtain ⟨m, hm, rfl, h3⟩ := hrel
            by_cases hltm : m < 18
            · have hltm' : (m : Int) < 18 := by omega
              have wn := num_wf m hltm
              go_wp2_with fail
              go_region_held3 (fun w' => TriB w g gb (.cells #[.bool false, .bool false, .bool false, .int .i64 mu, .int .i64 di, .int .i64 ad] 23 (0, 0)) w' ∧ w'.cell? ⟨gb, 0, none⟩ = some (.bool false) ∧ w'.cell? ⟨gb, 1, none⟩ = some (.bool false) ∧ w'.cell? ⟨gb, 2, none⟩ = some (.bool false) ∧ w'.cell? ⟨gb, 3, none⟩ = some (.int .i64 mu) ∧ w'.cell? ⟨gb, 4, none⟩ = some (.int .i64 di) ∧ w'.cell? ⟨gb, 5, none⟩ = some (.int .i64 ad) ∧ w'.cell? ⟨g + 1 + 1, m, none⟩ = some (.int .i64 (nth nums m)))
                (with_reducible first
                  | exact ⟨h3.drew, h3.drew.cells m hltm⟩
                  | exact ⟨h4, h4.cells m hltm⟩
                  | exact ⟨h5, h5.cells m hltm⟩
                  | exact ⟨h6, h6.cells m hltm⟩
                  | fail)
                (first
                  | (go_at_call 5; refine (tb_values h3.drew hfit wn).mono ?_; rintro e w4 ⟨rfl, h4⟩)
                  | (go_at_call 7; refine (tb_nearest h4 hfit wn).mono ?_; rintro e w5 ⟨rfl, h5⟩)
                  | (go_at_call 9; refine (tb_turned h5 hfit wn).mono ?_; rintro e w6 ⟨rfl, h6⟩)
                  | fail)
              go_wp2
              go_roundw
              case rel => exact ⟨m + 1, by omega, by go_num, h6⟩
              case measure => simp [intOf]; omega
            · have h4 := h3.1
              go_wp2
              go_roundw
              case rel => exact ⟨b + 1, by omega, by go_num, h4⟩
              case measure => simp [intOf]; omega
        · have h4 := h2
          go_wp2
          go_roundw
          case rel => exact ⟨a + 1, by omega, by go_num, h4⟩
          case measure => simp [intOf]; omega
    · clear h0
      go_wp2_with fail
      go_loopw [8] (fun i wr => ∃ b : Nat, b ≤ 8 ∧ i = .int .i64 b ∧ Tri w g wr) (fun i _ => 8 - (intOf i).toNat)
      case atStart => exact ⟨0, by omega, rfl, h1⟩
      case round =>
        clear h1
        obtain ⟨b, hb, rfl, h2⟩ := hrel
        by_cases hltb : b < 8
        · have hltb' : (b : Int) < 8 := by omega
          obtain ⟨x0, hx0⟩ : ∃ x, (bits .and .i64 (b : Int) 1 != 0) = x := ⟨_, rfl⟩
          obtain ⟨x1, hx1⟩ : ∃ x, (bits .and .i64 (b : Int) 2 != 0) = x := ⟨_, rfl⟩
          obtain ⟨x2, hx2⟩ : ∃ x, (bits .and .i64 (b : Int) 4 != 0) = x := ⟨_, rfl⟩
          have hB : TriB w g wr.heap.size (.cells #[.bool x0, .bool x1, .bool x2, .int .i64 1, .int .i64 1, .int .i64 0] 23 (0, 0)) (wr.alloc (.cells #[.bool x0, .bool x1, .bool x2, .int .i64 1, .int .i64 1, .int .i64 0] 23)) := ⟨h2.alloc _, heap_alloc_new wr _⟩
          have hfit : (⟨x0, x1, x2, 1, 1, 0⟩ : Sc).fits := fits_of (mu := 1) (di := 1) (ad := 0) (by decide) (by decide) (by decide)
          clear h2
          go_wp2_with fail
          clear hx0 hx1 hx2
          generalize (wr.alloc _ : World) = wb at *
          generalize wr.heap.size = gb at *
          go_loopw [10] (fun i wr => ∃ m : Nat, m ≤ 18 ∧ i = .int .i64 m ∧ TriB w g gb (.cells #[.bool x0, .bool x1, .bool x2, .int .i64 1, .int .i64 1, .int .i64 0] 23 (0, 0)) wr) (fun i _ => 18 - (intOf i).toNat)
          case atStart => exact ⟨0, by omega, rfl, hB⟩
          case round =>
            clear hB
            obtain ⟨m, hm, rfl, h3⟩ := hrel
            by_cases hltm : m < 18
            · have hltm' : (m : Int) < 18 := by omega
              have wn := num_wf m hltm
              go_wp2_with fail
              go_region_held3 (fun w' => TriB w g gb (.cells #[.bool x0, .bool x1, .bool x2, .int .i64 1, .int .i64 1, .int .i64 0] 23 (0, 0)) w' ∧ w'.cell? ⟨gb, 0, none⟩ = some (.bool x0) ∧ w'.cell? ⟨gb, 1, none⟩ = some (.bool x1) ∧ w'.cell? ⟨gb, 2, none⟩ = some (.bool x2) ∧ w'.cell? ⟨gb, 3, none⟩ = some (.int .i64 1) ∧ w'.cell? ⟨gb, 4, none⟩ = some (.int .i64 1) ∧ w'.cell? ⟨gb, 5, none⟩ = some (.int .i64 0) ∧ w'.cell? ⟨g + 1 + 1, m, none⟩ = some (.int .i64 (nth nums m)))
                (with_reducible first
                  | exact ⟨h3.drew, h3.drew.cells m hltm⟩
                  | exact ⟨h4, h4.cells m hltm⟩
                  | exact ⟨h5, h5.cells m hltm⟩
                  | exact ⟨h6, h6.cells m hltm⟩
                  | exact ⟨h4.alloc _, (h4.alloc _).cells m hltm⟩
                  | exact ⟨h5.alloc _, (h5.alloc _).cells m hltm⟩
                  | fail)
                (first
                  | (go_at_call 4; refine (tb_words h3.drew hfit wn).mono ?_; rintro e w4 ⟨rfl, h4⟩)
                  | (go_at_call 6; refine (tb_back2 h5 hfit wn).mono ?_; rintro e w6 ⟨rfl, h6⟩)
                  | (go_at_call 6; refine (tb_back1 h4 hfit wn).mono ?_; rintro e w5 ⟨rfl, h5⟩)
                  | fail)
              go_wp2
              go_roundw
              case rel => exact ⟨m + 1, by omega, by go_num, h6⟩
              case measure => simp [intOf]; omega
            · have h4 := h3
              have cells1 := h4.cells 0 (by omega)
              obtain ⟨d0, d1, d2, d3, d4, d5, _⟩ := cells1
              go_wp2_with fail
              refine (tb_nil h4 hfit).mono ?_
              rintro e w4 ⟨rfl, h5⟩
              clear d0 d1 d2 d3 d4 d5 h4 h3
              obtain ⟨d0, d1, d2, d3, d4, d5, _⟩ := h5.cells 0 (by omega)
              have a1 := h5.alloc (.cells (blk .u16 [65535]) 41)
              go_wp2_with fail
              refine (tb_raws h5 hfit [65535] 1 (by decide) rfl (by omega)).mono ?_
              rintro e w5 ⟨rfl, h6⟩
              clear d0 d1 d2 d3 d4 d5 h5 a1
              obtain ⟨d0, d1, d2, d3, d4, d5, _⟩ := h6.cells 0 (by omega)
              go_wp2_with fail
              refine (tb_raws h6 hfit [32768, 0] 2 (by decide) rfl (by omega)).mono ?_
              rintro e w6 ⟨rfl, h7⟩
              clear d0 d1 d2 d3 d4 d5 h6
              obtain ⟨d0, d1, d2, d3, d4, d5, _⟩ := h7.cells 0 (by omega)
              go_wp2_with fail
              refine (tb_raws h7 hfit [65535, 65534] 2 (by decide) rfl (by omega)).mono ?_
              rintro e w7 ⟨rfl, h8⟩
              clear d0 d1 d2 d3 d4 d5 h7
              obtain ⟨d0, d1, d2, d3, d4, d5, _⟩ := h8.cells 0 (by omega)
              go_wp2_with fail
              refine (tb_raws h8 hfit [1, 2, 3] 3 (by decide) rfl (by omega)).mono ?_
              rintro e w8 ⟨rfl, h9⟩
              clear d0 d1 d2 d3 d4 d5 h8
              have h10 := h9.1
              go_wp2
              go_roundw
              case rel => exact ⟨b + 1, by omega, by go_num, h10⟩
              case measure => simp [intOf]; omega
        · have h4 := h2
          clear h2
          go_wp2_with fail
          go_loopw [11] (fun i wr => ∃ b : Nat, b ≤ 6 ∧ i = .int .i64 b ∧ Tri w g wr) (fun i _ => 6 - (intOf i).toNat)
          case atStart => exact ⟨0, by omega, rfl, h4⟩
          case round =>
            clear h4
            obtain ⟨r, hr6, rfl, h5⟩ := hrel
            by_cases hltr : r < 6
            · have hltr' : (r : Int) < 6 := by omega
              have c0 := h5.add r hltr
              have HA : Hid (∀ w', Tri w g w' → w'.cell? ⟨g + 1, r, none⟩ = some (.int .i64 (nth adds r))) := Lib.hid (fun w' h => h.add r hltr)
              have hfit : (⟨false, false, false, 1, 1, nth adds r⟩ : Sc).fits := fits_of (by decide) (by decide) (add_wf r hltr)
              generalize nth adds r = ad at *
              go_wp2_with fail
              refine (walk_ScaleValues ⟨false, false, false, 1, 1, ad⟩ 4294967295 _ hfit (by decide)).mono ?_
              rintro e w6 ⟨rfl, b6⟩
              have h6 := h5.below b6
              have c1 := HA.out w6 h6
              clear b6 c0 h5
              go_wp2_with fail
              refine (walk_ScaleRaws ⟨false, false, false, 1, 1, ad⟩ _ 1 1 [1] (w6.alloc (.cells (blk .u16 [1]) 41)) hfit (row_words w6 _ [1] (by decide)) rfl (by omega) (by omega)).mono ?_
              rintro e w7 ⟨rfl, b7⟩
              have h7 := (h6.alloc (.cells (blk .u16 [1]) 41)).below b7
              clear b7 c1 h6
              go_wp2
              go_roundw
              case rel => exact ⟨r + 1, by omega, by go_num, h7⟩
              case measure => simp [intOf]; omega
            · have bel := h5.1
              have hgs : g ≤ wr.heap.size := by have := h5.lt; omega
              clear h5
              go_wp2_with fail
              refine (works_yes _).mono ?_
              rintro e w8 ⟨rfl, b8⟩
              go_wp2
              go_ret
              exact ⟨rfl, by rw [hg]; exact bel.trans (b8.mono hgs)⟩
end Go.Proofs.Ytcnidddneiekfaa
