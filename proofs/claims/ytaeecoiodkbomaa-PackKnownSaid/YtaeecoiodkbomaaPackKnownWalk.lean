/-
  The walk of PackKnown.
-/
import Derived.Test.YtaeecoiodkbomaaPackGetsWalk
import Derived.Test.YtaeecoiodkbomaaPackPutsWalk
import Derived.Test.YtaeecoiodkbomaaPackBitsWalk
import Derived.Test.YtaeecoiodkbomaaPackWordsWalk
namespace Go.Proofs.Ytaeecoiodkbomaa
open Go.RowKit
set_option linter.unusedVariables false

def endsL : List Int := [-9223372036854775808, -1, 0, 1, 2, 7, 8, 9, 15, 16, 17, 9223372036854775807]
def tenL : List Int := [9, 1, 2, 255, 128, 7, 0, 0, 0, 5]
theorem ends_wf : ∀ x ∈ endsL, (Lit.int .i64 x).wf = true := by decide
theorem ten_wf : ∀ x ∈ tenL, (Lit.int .u8 x).wf = true := by decide

theorem Row.pre {k : IntKind} {w : World} {B : Nat} {A : Option Addr} {xs : List Int} (h : Row k w B A xs) (m : Nat) : Row k w B A (xs.take m) := by
  refine ⟨fun x hx => h.1 x (List.mem_of_mem_take hx), fun hn => ?_⟩
  rw [List.length_take] at hn
  obtain ⟨b, o, e, hb, hc⟩ := h.2 (by omega)
  refine ⟨b, o, e, hb, fun i hi => ?_⟩
  rw [List.length_take] at hi
  rw [hc i (by omega), nth_eq _ _ (by omega), nth_eq _ _ (by rw [List.length_take]; omega), List.getElem_take]
/-- Two blocks of the call's own: the ends, and ten bytes; what lies below is as it was. -/
def Two (w0 : World) (g : Nat) (w : World) : Prop := Below g w0 w ∧ Row .i64 w w.heap.size (some ⟨g, 0, none⟩) endsL ∧ Row .u8 w w.heap.size (some ⟨g + 1, 0, none⟩) tenL ∧ g + 1 < w.heap.size
theorem Two.below {w0 w w' : World} {g : Nat} (h : Two w0 g w) (hb : Below w.heap.size w w') : Two w0 g w' :=
  ⟨h.1.trans (hb.mono (by have := h.2.2.2; omega)), (h.2.1.below hb).more hb.size, (h.2.2.1.below hb).more hb.size, by have := h.2.2.2; have := hb.size; omega⟩
theorem Two.drewN {w0 w : World} {g : Nat} (h : Two w0 g w) (n : Nat) : Two w0 g (w.drewN n) := h.below (bel_drewN w n)
theorem Two.drew {w0 w : World} {g : Nat} (h : Two w0 g w) : Two w0 g w.drew := h.below ⟨rfl, rfl, rfl, Nat.le_refl _, fun _ _ => rfl⟩
theorem Two.alloc {w0 w : World} {g : Nat} (h : Two w0 g w) (o : Obj) : Two w0 g (w.alloc o) := h.below ((Below.refl _ _).alloc (Nat.le_refl _) o)
theorem Two.at_ {w0 w : World} {g : Nat} (h : Two w0 g w) (i : Nat) (hi : i < 12) : w.cell? ⟨g, i, none⟩ = some (.int .i64 (nth endsL i)) := by
  obtain ⟨b, o, e, _, hc⟩ := h.2.1.at_ (i := i) (show i < endsL.length from hi)
  injection e with e
  injection e with e1 e2
  subst e1 e2
  rw [Nat.zero_add] at hc
  exact hc
theorem Two.begin (w : World) : Two w w.heap.size ((w.alloc (.cells (blk .i64 endsL) 3)).alloc (.cells (blk .u8 tenL) 5)) := by
  have h1 := (Row.new .i64 w 3 endsL endsL ends_wf (List.prefix_refl _)).alloc (by simp) (.cells (blk .u8 tenL) 5)
  have h2 := Row.new .u8 (w.alloc (.cells (blk .i64 endsL) 3)) 5 tenL tenL ten_wf (List.prefix_refl _)
  have hs : (w.alloc (.cells (blk .i64 endsL) 3)).heap.size = w.heap.size + 1 := by simp
  rw [hs] at h2
  have hs2 : ((w.alloc (.cells (blk .i64 endsL) 3)).alloc (.cells (blk .u8 tenL) 5)).heap.size = w.heap.size + 2 := by simp
  refine ⟨((Below.refl _ _).alloc (Nat.le_refl _) _).alloc (by rw [hs]; omega) _, h1.more (by rw [hs2]; omega), h2.more (by rw [hs2]; omega), by rw [hs2]; omega⟩
theorem endsAt_wf (i : Nat) (h : i < 12) : (Lit.int .i64 (nth endsL i)).wf = true := ends_wf _ (nth_mem _ _ h)
theorem gets_two {w0 w : World} {g : Nat} (h : Two w0 g w) (i k : Nat) (hi : i < 12) (hk : k < 12) :
    Calls Try.prog 4 #[.slice (some ⟨g + 1, 0, none⟩) 10 10, .int .i64 (nth endsL i), .int .i64 (nth endsL k)] w fun e w' => e = .returned (.bool true) ∧ Two w0 g w' :=
  (walk_PackGets _ 10 10 tenL _ _ w h.2.2.1 rfl (by decide) (by decide) (endsAt_wf i hi) (endsAt_wf k hk)).mono fun e w' ⟨he, hb⟩ => ⟨he, h.below hb⟩
theorem puts_two {w0 w : World} {g : Nat} (h : Two w0 g w) (i : Nat) (v : Int) (hi : i < 12) (hv : (Lit.int .u64 v).wf = true) :
    Calls Try.prog 3 #[.slice (some ⟨g + 1, 0, none⟩) 2 10, .int .u64 v, .int .i64 (nth endsL i)] w fun e w' => e = .returned (.bool true) ∧ Two w0 g w' :=
  (walk_PackPuts _ 2 10 (tenL.take 2) _ _ w (h.2.2.1.pre 2) rfl (by decide) (by decide) hv (endsAt_wf i hi)).mono fun e w' ⟨he, hb⟩ => ⟨he, h.below hb⟩
theorem puts_nil {w0 w : World} {g : Nat} (h : Two w0 g w) (i : Nat) (v : Int) (hi : i < 12) (hv : (Lit.int .u64 v).wf = true) :
    Calls Try.prog 3 #[.slice none 0 0, .int .u64 v, .int .i64 (nth endsL i)] w fun e w' => e = .returned (.bool true) ∧ Two w0 g w' :=
  (walk_PackPuts _ 0 0 [] _ _ w (Row.nil _ _ _ _) rfl (by decide) (by decide) hv (endsAt_wf i hi)).mono fun e w' ⟨he, hb⟩ => ⟨he, h.below hb⟩
theorem puts_or {w0 w : World} {g : Nat} (h : Two w0 g w) (i : Nat) (A : Option Addr) (l c : Nat) (v : Int) (hi : i < 12) (hv : (Lit.int .u64 v).wf = true) (ho : A = some ⟨g + 1, 0, none⟩ ∧ l = 2 ∧ c = 10 ∨ A = none ∧ l = 0 ∧ c = 0) :
    Calls Try.prog 3 #[.slice A l c, .int .u64 v, .int .i64 (nth endsL i)] w fun e w' => e = .returned (.bool true) ∧ Two w0 g w' := by
  rcases ho with ⟨rfl, rfl, rfl⟩ | ⟨rfl, rfl, rfl⟩
  · exact puts_two h i v hi hv
  · exact puts_nil h i v hi hv
def three : List Bool := [true, false, true]
theorem rowL_lit (w : World) (l : List Bool) : L.Row () (w.alloc (.cells (L.blk () l) 4)) (w.alloc (.cells (L.blk () l) 4)).heap.size (some ⟨w.heap.size, 0, none⟩) l :=
  (L.Row.new () w _ l l (fun _ _ => rfl) (List.prefix_refl _)).more (by simp)
theorem row_lit (w : World) (l : List Int) (hl : ∀ x ∈ l, (Lit.int .u8 x).wf = true) : Row .u8 (w.alloc (.cells (blk .u8 l) 5)) (w.alloc (.cells (blk .u8 l) 5)).heap.size (some ⟨w.heap.size, 0, none⟩) l :=
  (Row.new .u8 w _ l l hl (List.prefix_refl _)).more (by simp)
theorem bits_or {w0 w : World} {g : Nat} (i : Nat) (A A' : Option Addr) (l c l' c' : Nat) (hi : i < 12) (ho : (∃ u, Two w0 g u ∧ w = u.alloc (.cells #[.bool true, .bool false, .bool true] 4) ∧ A = some ⟨u.heap.size, 0, none⟩ ∧ l = 3 ∧ c = 3 ∧ A' = some ⟨g + 1, 9, none⟩ ∧ l' = 1 ∧ c' = 1)
      ∨ ∃ u, Two w0 g u ∧ w = u.alloc (.cells #[.int .u8 255, .int .u8 1] 5) ∧ A' = some ⟨u.heap.size, 0, none⟩ ∧ l' = 2 ∧ c' = 2 ∧ A = none ∧ l = 0 ∧ c = 0) :
    Calls Try.prog 5 #[.slice A l c, .slice A' l' c', .int .i64 (nth endsL i)] w fun e w' => e = .returned (.bool true) ∧ Two w0 g w' := by
  rcases ho with ⟨u, h, rfl, rfl, rfl, rfl, rfl, rfl, rfl⟩ | ⟨u, h, rfl, rfl, rfl, rfl, rfl, rfl, rfl⟩
  · exact (walk_PackBits _ 3 3 three _ 1 1 (tenL.drop 9) _ _ (rowL_lit u three) rfl (by decide) (by decide) ((h.alloc _).2.2.1.drop 9) rfl (by decide) (by decide) (endsAt_wf i hi)).mono fun e w' ⟨he, hb⟩ => ⟨he, (h.alloc _).below hb⟩
  · exact (walk_PackBits _ 0 0 [] _ 2 2 [255, 1] _ _ (L.Row.nil _ _ _ _) rfl (by decide) (by decide) (row_lit u [255, 1] (by decide)) rfl (by decide) (by decide) (endsAt_wf i hi)).mono fun e w' ⟨he, hb⟩ => ⟨he, (h.alloc _).below hb⟩
theorem wrap64_wf (x : Int) : (Lit.int .u64 (IntKind.u64.wrap x)).wf = true := by
  have : IntKind.u64.wrap x = x % 18446744073709551616 := by simp [IntKind.wrap, IntKind.signed, IntKind.bits]
  rw [this]
  simp [Lit.wf, IntKind.min, IntKind.max, IntKind.signed, IntKind.bits]; omega

theorem bel_lit {w w' : World} {o : Obj} (h' : Below (w.alloc o).heap.size (w.alloc o) w') : Below w.heap.size w w' :=
  ((Below.refl _ _).alloc (Nat.le_refl _) o).trans (h'.mono (by simp))
def nineL : List Bool := [true, true, true, true, true, true, true, true, true]
theorem nine_pk : pk nineL (need 9) = [255, 1] := by decide
def NinePost (w : World) (e : Ending) (w' : World) : Prop :=
  e = .returned (.slice (some ⟨w.heap.size + 1, 0, none⟩) 2 2) ∧ Row .u8 w' w'.heap.size (some ⟨w.heap.size + 1, 0, none⟩) [255, 1] ∧ L.Row () w' w'.heap.size (some ⟨w.heap.size, 0, none⟩) nineL ∧ Below w.heap.size w w'
theorem nine_bits (w : World) : Calls Try.prog 22 #[.slice (some ⟨w.heap.size, 0, none⟩) 9 9] (w.alloc (.cells #[.bool true, .bool true, .bool true, .bool true, .bool true, .bool true, .bool true, .bool true, .bool true] 4)) (NinePost w) :=
  (Bits_any _ 9 9 nineL (w.alloc (.cells (L.blk () nineL) 4)) (rowL_lit w nineL) rfl (by decide)).mono fun e w' h => by
    rw [nine_pk] at h
    obtain ⟨he, li, hb⟩ := h.li
    have hs : (w.alloc (.cells (L.blk () nineL) 4)).heap.size = w.heap.size + 1 := by simp
    rw [hs] at he li
    exact ⟨he, li.row rfl (by decide), ((rowL_lit w nineL).below hb).more hb.size, bel_lit hb⟩
def Yes (w : World) (e : Ending) (w' : World) : Prop := e = .returned (.bool true) ∧ Below w.heap.size w w'
theorem nine_same (w : World) (A : Option Addr) (h : Row .u8 w w.heap.size A [255, 1]) : Calls Try.prog 16 #[.slice A 2 2, .slice (some ⟨w.heap.size, 0, none⟩) 2 2] (w.alloc (.cells #[.int .u8 255, .int .u8 1] 5)) (Yes w) :=
  (same_yes_u8 A _ 2 2 2 [255, 1] (w.alloc (.cells (blk .u8 [255, 1]) 5)) _ _ (h.alloc (Nat.le_refl _) _) (row_lit w [255, 1] (by decide)) rfl (by decide)).mono fun e w' ⟨he, m, hw⟩ => ⟨he, by subst hw; exact bel_lit ⟨rfl, rfl, rfl, Nat.le_refl _, fun _ _ => rfl⟩⟩
theorem nine_law (w : World) (A : Option Addr) (h : L.Row () w w.heap.size A nineL) : Calls Try.prog 5 #[.slice A 9 9, .slice (some ⟨w.heap.size, 0, none⟩) 1 1, .int .i64 3] (w.alloc (.cells #[.int .u8 5] 5)) (Yes w) :=
  (walk_PackBits A 9 9 nineL _ 1 1 [5] 3 (w.alloc (.cells (blk .u8 [5]) 5)) ((h.alloc (Nat.le_refl _) _).more (by simp)) rfl (by decide) (by decide) (row_lit w [5] (by decide)) rfl (by decide) (by decide) (by decide)).mono fun e w' ⟨he, hb⟩ => ⟨he, bel_lit hb⟩
theorem nil_law (w : World) : Calls Try.prog 5 #[.slice none 0 0, .slice none 0 0, .int .i64 0] w (Yes w) :=
  walk_PackBits _ 0 0 [] _ 0 0 [] 0 w (L.Row.nil _ _ _ _) rfl (by decide) (by decide) (Row.nil _ _ _ _) rfl (by decide) (by decide) (by decide)
theorem words1_law (w : World) : Calls Try.prog 6 #[.slice (some ⟨w.heap.size, 0, none⟩) 2 2, .slice (some ⟨w.heap.size + 1, 0, none⟩) 1 1] ((w.alloc (.cells #[.int .u16 1, .int .u16 512] 56)).alloc (.cells #[.int .u8 0] 5)) (Yes w) := by
  have h1 := (Row.new .u16 w 56 [1, 512] [1, 512] (by decide) (List.prefix_refl _)).alloc (by simp) (.cells (blk .u8 [0]) 5)
  have h2 := row_lit (w.alloc (.cells (blk .u16 [1, 512]) 56)) [0] (by decide)
  have hs : (w.alloc (.cells (blk .u16 [1, 512]) 56)).heap.size = w.heap.size + 1 := by simp
  have hs2 : ((w.alloc (.cells (blk .u16 [1, 512]) 56)).alloc (.cells (blk .u8 [0]) 5)).heap.size = w.heap.size + 2 := by simp
  rw [hs] at h2
  exact (walk_PackWords _ 2 2 [1, 512] _ 1 1 [0] _ (h1.more (by rw [hs2]; omega)) rfl (by decide) (by decide) h2 rfl (by decide) (by decide)).mono fun e w' ⟨he, hb⟩ => ⟨he, bel_lit ((bel_lit hb))⟩
theorem words2_law (w : World) : Calls Try.prog 6 #[.slice none 0 0, .slice (some ⟨w.heap.size, 0, none⟩) 4 4] (w.alloc (.cells #[.int .u8 0, .int .u8 1, .int .u8 2, .int .u8 0] 5)) (Yes w) :=
  (walk_PackWords _ 0 0 [] _ 4 4 [0, 1, 2, 0] (w.alloc (.cells (blk .u8 [0, 1, 2, 0]) 5)) (Row.nil _ _ _ _) rfl (by decide) (by decide) (row_lit w [0, 1, 2, 0] (by decide)) rfl (by decide) (by decide)).mono fun e w' ⟨he, hb⟩ => ⟨he, bel_lit hb⟩
theorem puts1_law (w : World) : Calls Try.prog 3 #[.slice none 0 0, .int .u64 18446744073709551615, .int .i64 8] w (Yes w) :=
  walk_PackPuts _ 0 0 [] _ _ w (Row.nil _ _ _ _) rfl (by decide) (by decide) (by decide) (by decide)
theorem puts2_law (w : World) : Calls Try.prog 3 #[.slice none 0 0, .int .u64 72057594037927936, .int .i64 7] w (Yes w) :=
  walk_PackPuts _ 0 0 [] _ _ w (Row.nil _ _ _ _) rfl (by decide) (by decide) (by decide) (by decide)
set_option maxHeartbeats 4000000 in
set_option maxRecDepth 100000 in
theorem walk_PackKnown (w : World) : Calls Try.prog 11 #[] w fun e w' => e = .returned (.bool true) ∧ Below w.heap.size w w' := by
  have h0 := Two.begin w
  have hend : ∀ w', Two w w.heap.size w' → Hid (Below w.heap.size w w') := fun w' h => Lib.hid h.1
  simp only [blk, endsL, tenL, List.map] at h0
  go_enter Try.func11, Try.ntmps11
  go_wp2_with fail
  generalize ((w.alloc _).alloc _ : World) = wz at *
  generalize hg : w.heap.size = g at *
  go_loopw [3] (fun i wr => ∃ a : Nat, a ≤ 12 ∧ i = .int .i64 a ∧ Two w g wr) (fun i _ => 12 - (intOf i).toNat)
  case atStart => exact ⟨0, by omega, rfl, h0⟩
  case round =>
    obtain ⟨a, ha, rfl, h1⟩ := hrel
    by_cases hlt : a < 12
    · have hlt' : (a : Int) < 12 := by omega
      go_wp2_with fail
      go_loopw [4] (fun i wr => ∃ b : Nat, b ≤ 12 ∧ i = .int .i64 b ∧ Two w g wr) (fun i _ => 12 - (intOf i).toNat)
      case atStart => exact ⟨0, by omega, rfl, h1⟩
      case round =>
        obtain ⟨b, hb, rfl, h2⟩ := hrel
        by_cases hltb : b < 12
        · have hltb' : (b : Int) < 12 := by omega
          go_wp2_with fail
          go_region_held3 (fun w' => Two w g w' ∧ w'.cell? ⟨g, a, none⟩ = some (.int .i64 (nth endsL a)) ∧ w'.cell? ⟨g, b, none⟩ = some (.int .i64 (nth endsL b)))
            ((first
              | exact ⟨h2.drew, h2.drew.at_ a hlt, h2.drew.at_ b hltb⟩
              | exact ⟨h9, h9.at_ a hlt, h9.at_ b hltb⟩))
            (first
              | (go_at_call 4; refine (gets_two (w0 := w) (g := g) (by go_split_ands; assumption) a b hlt hltb).mono ?_; rintro e w' ⟨rfl, h9⟩)
              | (go_at_call 3; refine (puts_or (w0 := w) (g := g) (by go_split_ands; assumption) a _ _ _ _ hlt (wrap64_wf _) (by simp)).mono ?_; rintro e w' ⟨rfl, h9⟩))
          go_wp2
          go_roundw
          case rel => exact ⟨b + 1, by omega, by go_num, h9⟩
          case measure => simp [intOf]; omega
        · go_wp2_with fail
          go_region_held3 (fun w' => Two w g w' ∧ w'.cell? ⟨g, a, none⟩ = some (.int .i64 (nth endsL a)))
            ((first
              | exact ⟨h2.drew, h2.drew.at_ a hlt⟩
              | exact ⟨h9, h9.at_ a hlt⟩
              | (go_split_ands; exact ⟨Two.alloc (by assumption) _, Two.at_ (Two.alloc (by assumption) _) a hlt⟩)))
            (first
              | (go_at_call 5; refine (bits_or (w0 := w) (g := g) a _ _ _ _ _ _ hlt (by go_split_ands; first | exact .inl ⟨_, h2.drew, rfl, rfl, rfl, rfl, rfl, rfl, rfl⟩ | exact .inr ⟨_, h9, rfl, rfl, rfl, rfl, rfl, rfl, rfl⟩)).mono ?_; rintro e w' ⟨rfl, h9⟩))
          go_wp2
          go_roundw
          case rel => exact ⟨a + 1, by omega, by go_num, h9⟩
          case measure => simp [intOf]; omega
    · have b0 := h1.1
      have hgs := h1.2.2.2
      clear h1 h0 hend
      go_wp2_with fail
      refine (nine_bits _).mono ?_
      rintro e w1 ⟨rfl, r1, q1, b1⟩
      have bel1 := b0.trans (b1.mono (by omega))
      have z1 : g ≤ w1.heap.size := by have := b1.size; omega
      clear b0 b1
      go_wp2_with fail
      refine (nine_same _ _ r1).mono ?_
      rintro e w2 ⟨rfl, b2⟩
      have bel2 := bel1.trans (b2.mono z1)
      have q2 := (q1.below b2).more b2.size
      have z2 : g ≤ w2.heap.size := by have := b2.size; omega
      clear b2 bel1 r1 q1
      go_wp2_with fail
      refine (nine_law _ _ q2).mono ?_
      rintro e w3 ⟨rfl, b3⟩
      have bel3 := bel2.trans (b3.mono z2)
      have z3 : g ≤ w3.heap.size := by have := b3.size; omega
      clear b3 bel2 q2
      go_wp2_with fail
      refine (nil_law _).mono ?_
      rintro e w4 ⟨rfl, b4⟩
      have bel4 := bel3.trans (b4.mono z3)
      have z4 : g ≤ w4.heap.size := by have := b4.size; omega
      clear b4 bel3
      go_wp2_with fail
      refine (words1_law _).mono ?_
      rintro e w5 ⟨rfl, b5⟩
      have bel5 := bel4.trans (b5.mono z4)
      have z5 : g ≤ w5.heap.size := by have := b5.size; omega
      clear b5 bel4
      go_wp2_with fail
      refine (words2_law _).mono ?_
      rintro e w6 ⟨rfl, b6⟩
      have bel6 := bel5.trans (b6.mono z5)
      have z6 : g ≤ w6.heap.size := by have := b6.size; omega
      clear b6 bel5
      go_wp2_with fail
      refine (puts1_law _).mono ?_
      rintro e w7 ⟨rfl, b7⟩
      have bel7 := bel6.trans (b7.mono z6)
      have z7 : g ≤ w7.heap.size := by have := b7.size; omega
      clear b7 bel6
      go_wp2_with fail
      refine (puts2_law _).mono ?_
      rintro e w8 ⟨rfl, b8⟩
      have bel8 := bel7.trans (b8.mono z7)
      have z8 : g ≤ w8.heap.size := by have := b8.size; omega
      clear b8 bel7
      go_wp2_with fail
      refine (works_yes _).mono ?_
      rintro e w9 ⟨rfl, b9⟩
      have bel9 := bel8.trans (b9.mono z8)
      go_wp2
      go_ret
      exact ⟨rfl, by rw [hg]; exact bel9⟩
end Go.Proofs.Ytaeecoiodkbomaa
