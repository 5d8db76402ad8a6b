/-
  Contracts of Words of package scale and of the document's answer to it.
-/
import Derived.Test.YtcnidddneiekfaaScWorks
import Derived.Test.YtcnidddneiekfaaHoldW
import Derived.Test.YtcnidddneiekfaaMore
namespace Go.Proofs.Ytcnidddneiekfaa
open Go.RowKit
set_option linter.unusedVariables false

theorem Bx.setFar {w0 w : World} {g g1 : Nat} {o : Obj} (h : Bx w0 g o w) (hg : g < g1) (i : Nat) (v : Value) : Bx w0 g o (w.setCell ⟨g1, i, none⟩ v) :=
  ⟨(Below.heap_setCell w ⟨g1, i, none⟩ v g (by simp; omega)).trans h.1, below_setCell h.2 (Nat.le_of_lt hg) i v⟩
theorem layS_len (s : Sc) (n : Int) : (layS s n).length = cntS s := by
  unfold layS cntS; cases s.wide <;> cases s.swap <;> rfl
theorem wf16 {n : Int} (h : 0 ≤ n ∧ n < 65536) : (Lit.int .u16 n).wf = true := by
  simp [Lit.wf, IntKind.min, IntKind.max, IntKind.signed, IntKind.bits]; omega
theorem layS_wf (s : Sc) (n : Int) : ∀ x ∈ layS s n, (Lit.int .u16 x).wf = true := by
  intro x hx
  unfold layS at hx
  obtain ⟨wd, sg, sw, mu, di, ad⟩ := s
  cases wd <;> cases sw <;> simp only [if_true, Bool.false_eq_true, if_false, List.mem_cons, List.not_mem_nil, or_false] at hx
  all_goals first | (rcases hx with rfl | rfl <;> exact wf16 ⟨by omega, by omega⟩) | (subst hx; exact wf16 ⟨by omega, by omega⟩)
theorem wordsS_wf (s : Sc) (n : Int) : ∀ x ∈ wordsS s n, (Lit.int .u16 x).wf = true := by
  unfold wordsS; split
  · exact layS_wf s n
  · intro x hx; cases hx
/-- The word of a number at a place. -/
theorem layS_at (wd sg sw : Bool) (mu di ad : Int) (n : Int) (k : Nat) (hk : k < cntS (⟨wd, sg, sw, mu, di, ad⟩ : Sc)) (hsw : sw = true → wd = true) : nth (layS (⟨wd, sg, sw, mu, di, ad⟩ : Sc) n) k = n / 2 ^ shfS wd sw k % 65536 := by
  have hk2 : k = 0 ∨ (k = 1 ∧ wd = true) := by cases wd <;> simp [cntS] at hk <;> simp <;> omega
  rcases hk2 with rfl | ⟨rfl, rfl⟩
  · cases wd
    · cases sw
      · simp [layS, shfS, nth]
      · cases hsw rfl
    · cases sw
      · simp [layS, shfS, nth]
      · simp [layS, shfS, nth]
  · cases sw
    · simp [layS, shfS, nth]
    · simp [layS, shfS, nth]
/-- A call returns a pair: a list of words that is nil or fills a new block, and a number. -/
def GivesW (w : World) (l : List Int) (err : Int) (e : Ending) (w' : World) : Prop :=
  ∃ A m g, e = .returned (.tuple #[.slice A m m, .int .i64 err]) ∧ l.length = m ∧ w.heap.size ≤ g ∧ W.Li w' A m g l [] ∧ Below w.heap.size w w'

set_option maxHeartbeats 2000000 in
theorem Words_any (wd sg sw : Bool) (mu di ad : Int) (n : Int) (hn : -9223372036854775808 ≤ n ∧ n < 9223372036854775808) (w : World) : Calls Try.prog 18 #[.agg #[.bool wd, .bool sg, .bool sw, .int .i64 mu, .int .i64 di, .int .i64 ad], .int .i64 n] w (GivesW w (wordsS (⟨wd, sg, sw, mu, di, ad⟩ : Sc) n) (wordsE (⟨wd, sg, sw, mu, di, ad⟩ : Sc) n)) := by
  have bx0 := Bx.new w (.cells #[.bool wd, .bool sg, .bool sw, .int .i64 mu, .int .i64 di, .int .i64 ad] 23)
  have hlb := low_bound wd sg sw mu di ad
  by_cases hok : Sc.Ok (⟨wd, sg, sw, mu, di, ad⟩ : Sc)
  · have HC := Lib.hid (chkS_yes hok)
    obtain ⟨lo, hlo⟩ : ∃ l, Hid (lowS (⟨wd, sg, sw, mu, di, ad⟩ : Sc) = l) := ⟨_, Lib.hid rfl⟩
    obtain ⟨m, hm⟩ : ∃ m, Hid (many (⟨wd, sg, sw, mu, di, ad⟩ : Sc) = m) := ⟨_, Lib.hid rfl⟩
    rw [hlo.out, hm.out] at hlb
    have hle : lo ≤ lo + m - 1 := by omega
    by_cases hin : lo ≤ n ∧ n ≤ lo + m - 1
    · have HB : Hid (liesB n lo (lo + m - 1) = true) := Lib.hid (decide_eq_true hin)
      have HE : Hid (wordsE (⟨wd, sg, sw, mu, di, ad⟩ : Sc) n = 0) := Lib.hid (by unfold wordsE; rw [if_pos hok, hlo.out, hm.out, if_pos hin])
      have HW : Hid (wordsS (⟨wd, sg, sw, mu, di, ad⟩ : Sc) n = layS (⟨wd, sg, sw, mu, di, ad⟩ : Sc) n) := Lib.hid (by unfold wordsS; rw [if_pos HE.out])
      have hsw : sw = true → wd = true := hok.2.2.2.2
      obtain ⟨c, hc⟩ : ∃ c, Hid (cntS (⟨wd, sg, sw, mu, di, ad⟩ : Sc) = c) := ⟨_, Lib.hid rfl⟩
      have hc2 : 1 ≤ c ∧ c ≤ 2 := by rw [← hc.out]; cases wd <;> simp [cntS]
      have HLEN : Hid ((layS (⟨wd, sg, sw, mu, di, ad⟩ : Sc) n).length = c) := Lib.hid (by rw [layS_len, hc.out])
      have HAT := Lib.hid (fun k (hk : k < c) => layS_at wd sg sw mu di ad n k (by rw [hc.out]; exact hk) hsw)
      have hmk := W.make_u16 c (by omega)
      clear hok hsw
      go_enter Try.func18, Try.ntmps18
      go_wp2_with fail
      refine (Check_any wd sg sw mu di ad _).mono ?_
      rintro e w1 ⟨rfl, b1⟩
      rw [HC.out]
      have bx1 := bx0.below b1
      obtain ⟨d0, d1, d2, d3, d4, d5⟩ := bx1.six
      go_wp2_with fail
      go_region_held3 (fun w' => Bx w w.heap.size (.cells #[.bool wd, .bool sg, .bool sw, .int .i64 mu, .int .i64 di, .int .i64 ad] 23 (0, 0)) w' ∧ w'.cell? ⟨w.heap.size, 0, none⟩ = some (.bool wd) ∧ w'.cell? ⟨w.heap.size, 1, none⟩ = some (.bool sg) ∧ w'.cell? ⟨w.heap.size, 2, none⟩ = some (.bool sw) ∧ w'.cell? ⟨w.heap.size, 3, none⟩ = some (.int .i64 mu) ∧ w'.cell? ⟨w.heap.size, 4, none⟩ = some (.int .i64 di) ∧ w'.cell? ⟨w.heap.size, 5, none⟩ = some (.int .i64 ad))
        (with_reducible first
          | exact ⟨bx1.drew, bx1.drew.six⟩
          | exact ⟨h2, h2.six⟩
          | exact ⟨h3, h3.six⟩)
        (first
          | (go_at_call 30; refine (lowest_any wd sg sw mu di ad _).mono ?_; rintro e w2 ⟨rfl, b2⟩; rw [hlo.out]; have h2 := bx1.drew.below b2)
          | (go_at_call 26; refine (highest_any wd sg sw mu di ad _).mono ?_; rintro e w3 ⟨rfl, b3⟩; rw [hlo.out, hm.out]; have h3 := h2.below b3)
          | (go_at_call 29; refine (lies_at hle HB _).mono ?_; rintro e w4 ⟨rfl, rfl⟩))
      clear d0 d1 d2 d3 d4 d5 h2 b1 b2 b3 bx1 bx0
      obtain ⟨d0, d1, d2, d3, d4, d5⟩ := h3.six
      go_wp2_with fail
      refine (count_any wd sg sw mu di ad _).mono ?_
      rintro e w5 ⟨rfl, b5⟩
      rw [hc.out]
      have bx5 := h3.below b5
      clear d0 d1 d2 d3 d4 d5 b5 h3
      have g0 := heap_alloc_new w5 (.cells (blk .u16 (List.replicate c 0)) 41)
      have bx6 := bx5.alloc (.cells (blk .u16 (List.replicate c 0)) 41)
      obtain ⟨g, hg⟩ : ∃ g, Hid (w5.heap.size = g) := ⟨_, Lib.hid rfl⟩
      have hgw : w.heap.size < g := by rw [← hg.out]; exact bx5.lt
      rw [hg.out] at g0
      have hg' := hg.out
      clear bx5
      go_wp2
      go_loopw [8, 26] (fun _ i wr => ∃ k : Nat, k ≤ c ∧ i = .int .i64 k ∧ wr.heap[g]? = some (.cells (blk .u16 ((layS (⟨wd, sg, sw, mu, di, ad⟩ : Sc) n).take k ++ List.replicate (c - k) 0)) 41 (0, 0)) ∧ Bx w w.heap.size (.cells #[.bool wd, .bool sg, .bool sw, .int .i64 mu, .int .i64 di, .int .i64 ad] 23 (0, 0)) wr) (fun _ i _ => c - (intOf i).toNat)
      case atStart => exact ⟨0, by omega, rfl, by simpa using g0, bx6⟩
      case round =>
        clear bx6 g0 hmk
        obtain ⟨k, hk, rfl, k2, bx3⟩ := hrel
        obtain ⟨d0, d1, d2, d3, d4, d5⟩ := bx3.six
        by_cases hlt : k < c
        · go_wp2_with fail
          refine (shift_any wd sg sw mu di ad k (by rw [hc.out]; exact hlt) _).mono ?_
          rintro e w6 ⟨rfl, b6⟩
          have bx4 := bx3.below b6
          have k3 := (b6.block g (block_lt k2)).trans k2
          obtain ⟨sh, hsh⟩ : ∃ sh, Hid (shfS wd sw k = sh) := ⟨_, Lib.hid rfl⟩
          have hsb : sh < 64 := by
            rw [← hsh.out]; rcases (show k = 0 ∨ k = 1 by omega) with rfl | rfl <;> cases sw <;> cases wd <;> decide
          have hat := HAT.out k hlt
          rw [hsh.out] at hat
          rw [hsh.out]
          have hlen : ((layS (⟨wd, sg, sw, mu, di, ad⟩ : Sc) n).take k).length = k := by rw [List.length_take, HLEN.out]; omega
          have hcell := fill_cell .u16 ((layS (⟨wd, sg, sw, mu, di, ad⟩ : Sc) n).take k) (c - k) k 0 hlen (by omega)
          have hc2 : w6.cell? ⟨g, k, none⟩ = some (.int .u16 0) := by rw [cell_of_row w6 g k _ _ _ k3]; exact hcell
          have hfz := block_frozen w6 g k _ _ k3
          have HST := Lib.hid (set_step ((layS (⟨wd, sg, sw, mu, di, ad⟩ : Sc) n).take k) (c - (k + 1)) k 0 (nth (layS (⟨wd, sg, sw, mu, di, ad⟩ : Sc) n) k) hlen)
          have HTK := Lib.hid (take_step (layS (⟨wd, sg, sw, mu, di, ad⟩ : Sc) n) k (by rw [HLEN.out]; exact hlt))
          have k4 := block_setCell w6 g k .u16 41 _ (IntKind.u16.wrap (n / 2 ^ sh)) k3
          have bx5 := bx4.setFar hgw k (.int .u16 (IntKind.u16.wrap (n / 2 ^ sh)))
          have HVW : Hid (IntKind.u16.wrap (n / 2 ^ sh) = nth (layS (⟨wd, sg, sw, mu, di, ad⟩ : Sc) n) k) := Lib.hid (by rw [hat, IntKind.wrap_u16])
          clear hat
          clear d0 d1 d2 d3 d4 d5 b6 bx3 bx4 k2 hcell
          go_wp2
          go_roundw
          case rel => exact ⟨k + 1, by omega, by go_num, by rw [k4, HVW.out, show c - k = (c - (k + 1)) + 1 by omega, HST.out, ← HTK.out], bx5⟩
          case measure => simp [intOf]; omega
        · obtain rfl : k = c := by omega
          have hx : (layS (⟨wd, sg, sw, mu, di, ad⟩ : Sc) n).take k = layS (⟨wd, sg, sw, mu, di, ad⟩ : Sc) n := List.take_of_length_le (by rw [HLEN.out]; omega)
          rw [hx, Nat.sub_self] at k2
          clear hx
          have bel3 := bx3.2
          go_wp2
          go_ret2
          exact ⟨some ⟨g, 0, none⟩, k, g, by rw [HE.out]; rfl, by rw [HW.out, HLEN.out], by omega, .inr ⟨rfl, by rw [HW.out]; exact k2⟩, bel3⟩
    · have HB : Hid (liesB n lo (lo + m - 1) = false) := Lib.hid (decide_eq_false hin)
      have HE : Hid (wordsE (⟨wd, sg, sw, mu, di, ad⟩ : Sc) n = 3) := Lib.hid (by unfold wordsE; rw [if_pos hok, hlo.out, hm.out, if_neg hin])
      have HW : Hid (wordsS (⟨wd, sg, sw, mu, di, ad⟩ : Sc) n = []) := Lib.hid (by unfold wordsS; rw [if_neg (by rw [HE.out]; omega)])
      clear hok hin
      go_enter Try.func18, Try.ntmps18
      go_wp2_with fail
      refine (Check_any wd sg sw mu di ad _).mono ?_
      rintro e w1 ⟨rfl, b1⟩
      rw [HC.out]
      have bx1 := bx0.below b1
      obtain ⟨d0, d1, d2, d3, d4, d5⟩ := bx1.six
      go_wp2_with fail
      go_region_held3 (fun w' => Bx w w.heap.size (.cells #[.bool wd, .bool sg, .bool sw, .int .i64 mu, .int .i64 di, .int .i64 ad] 23 (0, 0)) w' ∧ w'.cell? ⟨w.heap.size, 0, none⟩ = some (.bool wd) ∧ w'.cell? ⟨w.heap.size, 1, none⟩ = some (.bool sg) ∧ w'.cell? ⟨w.heap.size, 2, none⟩ = some (.bool sw) ∧ w'.cell? ⟨w.heap.size, 3, none⟩ = some (.int .i64 mu) ∧ w'.cell? ⟨w.heap.size, 4, none⟩ = some (.int .i64 di) ∧ w'.cell? ⟨w.heap.size, 5, none⟩ = some (.int .i64 ad))
        (with_reducible first
          | exact ⟨bx1.drew, bx1.drew.six⟩
          | exact ⟨h2, h2.six⟩
          | exact ⟨h3, h3.six⟩)
        (first
          | (go_at_call 30; refine (lowest_any wd sg sw mu di ad _).mono ?_; rintro e w2 ⟨rfl, b2⟩; rw [hlo.out]; have h2 := bx1.drew.below b2)
          | (go_at_call 26; refine (highest_any wd sg sw mu di ad _).mono ?_; rintro e w3 ⟨rfl, b3⟩; rw [hlo.out, hm.out]; have h3 := h2.below b3)
          | (go_at_call 29; refine (lies_at hle HB _).mono ?_; rintro e w4 ⟨rfl, rfl⟩))
      have bel3 := h3.2
      go_wp2
      go_ret2
      exact ⟨none, 0, w.heap.size, by rw [HE.out]; rfl, by rw [HW.out]; rfl, Nat.le_refl _, .inl ⟨rfl, rfl⟩, bel3⟩
  · have HC := Lib.hid (chkS_no hok)
    have HE : Hid (wordsE (⟨wd, sg, sw, mu, di, ad⟩ : Sc) n = 25) := Lib.hid (by unfold wordsE; rw [if_neg hok])
    have HW : Hid (wordsS (⟨wd, sg, sw, mu, di, ad⟩ : Sc) n = []) := Lib.hid (by unfold wordsS; rw [if_neg (by rw [HE.out]; omega)])
    clear hok
    go_enter Try.func18, Try.ntmps18
    go_wp2_with fail
    refine (Check_any wd sg sw mu di ad _).mono ?_
    rintro e w1 ⟨rfl, b1⟩
    rw [HC.out]
    have bel1 := (bx0.below b1).2
    go_wp2
    go_ret2
    exact ⟨none, 0, w.heap.size, by rw [HE.out]; rfl, by rw [HW.out]; rfl, Nat.le_refl _, .inl ⟨rfl, rfl⟩, bel1⟩
end Go.Proofs.Ytcnidddneiekfaa
