/-
  Contracts of the document's Bits and Unbits.
-/
import Derived.Test.YtaeecoiodkbomaaPkBits
namespace Go.Proofs.Ytaeecoiodkbomaa
open Go.RowKit
set_option linter.unusedVariables false

/-- A row of the call's own that is not empty: its block, its cells, and what a store makes of it. -/
theorem Own.cells {k : IntKind} {e : TypeId} {w : World} {base : Nat} {v : Value} {xs : List Int} (h : Own k e w base v xs) (hp : 0 < xs.length) :
    ∃ g cap, v = .slice (some ⟨g, 0, none⟩) xs.length cap ∧ base ≤ g ∧ g < w.heap.size ∧ xs.length ≤ cap ∧ (∀ i, i < xs.length → w.cell? ⟨g, i, none⟩ = some (.int k (nth xs i))) ∧ (∀ i, w.frozen? ⟨g, i, none⟩ = false)
      ∧ ∀ (w' : World) i x, w'.heap = w.heap → i < xs.length → Own k e (w'.setCell ⟨g, i, none⟩ (.int k x)) base v (xs.set i x) := by
  rcases h.2 with ⟨rfl, h0⟩ | ⟨g, cap, cur, rfl, hb, hg, h1, h2, h3, h4⟩
  · omega
  · refine ⟨g, cap, rfl, hb, block_lt hg, h1, fun i hi => ?_, fun i => block_frozen w g i _ _ hg, fun w' i x hw hi => ?_⟩
    · rw [cell_of_row w g i cur e (0, 0) hg]
      have : (cur.toList.take (xs.length * 1))[i]? = (xs.map (Value.int k))[i]? := by rw [h4]
      rw [List.getElem?_take_of_lt (by omega)] at this
      rw [← Array.getElem?_toList, this, List.getElem?_map, List.getElem?_eq_getElem hi, nth_eq xs i hi]
      rfl
    · unfold Own
      rw [List.length_set]
      refine ⟨by simp, .inr ⟨g, cap, cur.setIfInBounds i (.int k x), rfl, hb, ?_, h1, h2, by simpa using h3, ?_⟩⟩
      · simp [World.setCell, Array.getElem?_modify, hw, hg]
      · rw [Array.toList_setIfInBounds, List.take_set, h4, List.map_set]
theorem need_more (k : Nat) (h : k % 8 = 0) : need (k + 1) = need k + 1 := by unfold need; omega
theorem need_same (k : Nat) (h : k % 8 ≠ 0) : need (k + 1) = need k := by unfold need; omega
theorem pk_grow (bs : List Bool) (k : Nat) (h : k % 8 = 0) : pk (bs.take k) (need k) ++ [0] = pk (bs.take k) (need (k + 1)) := by
  rw [need_more k h, pk, pk, List.range_succ, List.map_append, List.map_singleton]
  congr 2
  rw [bsum_stop (bs.take k) (need k) 0 8 (by omega) (fun r _ => nth_take_off _ _ _ (by unfold need; omega))]
  rfl
set_option maxHeartbeats 1000000 in
theorem refBits_any (A : Option Addr) (n c : Nat) (bs : List Bool) (w : World) (hr : L.Row () w w.heap.size A bs) (hn : bs.length = n) (hb : n ≤ 1000000) :
    Calls Try.prog 23 #[.slice A n c] w (Makes .u8 5 w (pk bs (need n))) := by
  have hn' := Lib.hid hn
  clear hn
  go_enter Try.func23, Try.ntmps23
  go_wp2
  go_loopw [3, 4] (fun t i wr => ∃ k : Nat, k ≤ n ∧ i = .int .i64 k ∧ Own .u8 5 wr w.heap.size t (pk (bs.take k) (need k)) ∧ Below w.heap.size w wr) (fun _ i _ => n - (intOf i).toNat)
  case atStart => exact ⟨0, by omega, rfl, Own.nil _ _ _ _, Below.refl _ _⟩
  case round =>
    obtain ⟨k, hk, rfl, hown, hbel⟩ := hrel
    by_cases hlt : k < n
    · obtain ⟨b, o, rfl, hb1, hc1⟩ := (hr.below hbel).at_ (i := k) (by have := hn'.out; omega)
      obtain ⟨v, hv⟩ : ∃ v, Hid (L.nth bs k = v) := ⟨_, Lib.hid rfl⟩
      rw [hv.out] at hc1
      have hsz := hbel.size
      have hnl : Hid ((pk (bs.take k) (need k)).length ≤ 1000000) := Lib.hid (by rw [pk_length]; unfold need; omega)
      by_cases h8 : k % 8 = 0
      · have e8 : ((k : Int) % 8 == 0) = true := by simp; omega
        have one1 := Row.one .u8 wr 5 0 (by decide)
        have hgr := Lib.hid (pk_grow bs k h8)
        clear h8
        cases v with
        | false =>
          have hoff := Lib.hid (pk_off bs k (need (k + 1)) hv.out)
          go_wp2_with (at_builtin; refine wpList_append_row _ rfl _ _ 22 rfl w.heap.size .u8 5 1 Try.underlying22 info_u8 u3 _ rfl (hown.alloc _) _ _ 1 1 [0] rfl one1 rfl (by have := hnl.out; omega) (by have := hnl.out; simp only [maxLen]; omega) (by simp; omega) ?_; intro v1 w1 hown1 hg1; have hbel1 := Below.own1 hbel hsz hown hg1; have hc2 := (hbel1.cell (p := ⟨b, o + k, none⟩) hb1).trans ((hbel.cell (p := ⟨b, o + k, none⟩) hb1).symm.trans hc1); rw [hgr.out, ← hoff.out] at hown1; clear hg1)
          go_roundw
          case rel => exact ⟨k + 1, by omega, by go_num, hown1, hbel1⟩
          case measure => simp [intOf]; omega
        | true =>
          go_wp2_with (at_builtin; refine wpList_append_row _ rfl _ _ 22 rfl w.heap.size .u8 5 1 Try.underlying22 info_u8 u3 _ rfl (hown.alloc _) _ _ 1 1 [0] rfl one1 rfl (by have := hnl.out; omega) (by have := hnl.out; simp only [maxLen]; omega) (by simp; omega) ?_; intro v1 w1 hown1 hg1; have hbel1 := Below.own1 hbel hsz hown hg1; have hc9 := (hbel1.cell (p := ⟨b, o + k, none⟩) hb1).trans ((hbel.cell (p := ⟨b, o + k, none⟩) hb1).symm.trans hc1); rw [hgr.out] at hown1; clear hg1)
          have hk8 : k / 8 < need (k + 1) := by unfold need; omega
          have hlow := pk_low bs k
          have hpl : (pk (bs.take k) (need (k + 1))).length = need (k + 1) := pk_length _ _
          obtain ⟨g, cap, rfl, hg0, hg1, hg2, hcs, hfz, hset⟩ := hown1.cells (by rw [hpl]; omega)
          have hcap : k / 8 < cap := by rw [hpl] at hg2; omega
          have hc2 := hcs (k / 8) (by rw [hpl]; exact hk8)
          rw [pk_nth _ _ _ hk8] at hc2
          have hfz := hfz (k / 8)
          have hnew := hset w1.drew (k / 8) ((bsum (bs.take k) (k / 8) 8 + 2 ^ (k % 8) : Nat) : Int) rfl (by rw [hpl]; exact hk8)
          rw [pk_on bs k _ hk8 hv.out] at hnew
          have HN := Lib.hid hnew
          have belD : Below w.heap.size w w1.drew := ⟨hbel1.os, hbel1.tape, hbel1.output, hbel1.size, hbel1.block⟩
          have bel2 := belD.setCell hg0 (p := ⟨g, k / 8, none⟩) (.int .u8 ((bsum (bs.take k) (k / 8) 8 + 2 ^ (k % 8) : Nat) : Int))
          have hp8 : 2 ^ (k % 8) ≤ 128 := Nat.pow_le_pow_right (n := 2) (by omega) (show k % 8 ≤ 7 by omega)
          have hlt8 : bsum (bs.take k) (k / 8) 8 + 2 ^ (k % 8) < 256 := by omega
          rw [hpl] at *
          have hln : k / 8 < need (k + 1) := hk8
          clear hcs hset belD hnew hlow hg2 hown1
          generalize bsum (bs.take k) (k / 8) 8 = a at *
          obtain ⟨r, hr8⟩ : ∃ r, k % 8 = r := ⟨_, rfl⟩
          obtain ⟨j, hj⟩ : ∃ j, k / 8 = j := ⟨_, rfl⟩
          have e6 : (k : Int) % 8 = ((r : Nat) : Int) := by omega
          have e7 : (k : Int).tmod 8 = ((r : Nat) : Int) := by rw [Int.tmod_eq_emod_of_nonneg (by omega)]; omega
          have hr9 : r < 8 := by omega
          have e1 : (k : Int) / 8 = (j : Int) := by omega
          have e3 : (k : Int).tdiv 8 = (j : Int) := by rw [Int.tdiv_eq_ediv_of_nonneg (by omega)]; omega
          have e4 : (0 : Int) ≤ (j : Int) := by omega
          have e9 : IntKind.i64.wrap (j : Int) = (j : Int) := IntWalk.i64_in _ (by omega)
          have e10 : IntKind.i64.wrap (r : Int) = (r : Int) := IntWalk.i64_in _ (by omega)
          rw [hr8] at hp8 hlt8 HN bel2
          rw [hj] at hc2 hfz HN bel2 hk8 hln hcap
          clear hr8 hj
          obtain ⟨d, hd⟩ : ∃ d, Hid (need (k + 1) = d) := ⟨_, Lib.hid rfl⟩
          rw [hd.out] at HN hk8 hln ⊢
          have e2 : (j : Int) < (d : Int) := by omega
          obtain ⟨q, hq⟩ : ∃ q : Nat, 2 ^ r = q := ⟨_, rfl⟩
          have HQ := Lib.hid hq
          rw [hq] at hp8 hlt8 HN bel2
          clear hq
          have e5 : IntKind.u8.wrap (q : Int) = (q : Int) := by rw [IntKind.wrap_u8]; omega
          have e8 : IntKind.u8.wrap ((a : Int) + (q : Int)) = ((a + q : Nat) : Int) := by rw [IntKind.wrap_u8]; omega
          go_wp2
          go_region_law ((go_simp; go_at_call 47; refine (refWeight_any r _ hr9).mono ?_; rintro e w' ⟨rfl, rfl⟩; rw [HQ.out]))
          all_goals
            go_wp2
            go_roundw
            case rel => exact ⟨k + 1, by omega, by go_num, by rw [hd.out]; exact HN.out, bel2⟩
            case measure => simp [intOf]; omega
      · have e8 : ((k : Int) % 8 == 0) = false := beq_false_of_ne (by omega)
        rw [← need_same k h8] at hown
        clear h8
        cases v with
        | false =>
          have hoff := Lib.hid (pk_off bs k (need (k + 1)) hv.out)
          rw [← hoff.out] at hown
          go_wp2
          go_roundw
          case rel => exact ⟨k + 1, by omega, by go_num, hown, hbel⟩
          case measure => simp [intOf]; omega
        | true =>
          have hk8 : k / 8 < need (k + 1) := by unfold need; omega
          have hlow := pk_low bs k
          have hpl : (pk (bs.take k) (need (k + 1))).length = need (k + 1) := pk_length _ _
          obtain ⟨g, cap, rfl, hg0, hg1, hg2, hcs, hfz, hset⟩ := hown.cells (by rw [hpl]; omega)
          have hcap : k / 8 < cap := by rw [hpl] at hg2; omega
          have hc2 := hcs (k / 8) (by rw [hpl]; exact hk8)
          rw [pk_nth _ _ _ hk8] at hc2
          have hfz := hfz (k / 8)
          have hnew := hset wr.drew (k / 8) ((bsum (bs.take k) (k / 8) 8 + 2 ^ (k % 8) : Nat) : Int) rfl (by rw [hpl]; exact hk8)
          rw [pk_on bs k _ hk8 hv.out] at hnew
          have HN := Lib.hid hnew
          have belD : Below w.heap.size w wr.drew := ⟨hbel.os, hbel.tape, hbel.output, hbel.size, hbel.block⟩
          have bel2 := belD.setCell hg0 (p := ⟨g, k / 8, none⟩) (.int .u8 ((bsum (bs.take k) (k / 8) 8 + 2 ^ (k % 8) : Nat) : Int))
          have hp8 : 2 ^ (k % 8) ≤ 128 := Nat.pow_le_pow_right (n := 2) (by omega) (show k % 8 ≤ 7 by omega)
          have hlt8 : bsum (bs.take k) (k / 8) 8 + 2 ^ (k % 8) < 256 := by omega
          rw [hpl] at *
          have hln : k / 8 < need (k + 1) := hk8
          clear hcs hset belD hnew hlow hg2 hown
          generalize bsum (bs.take k) (k / 8) 8 = a at *
          obtain ⟨r, hr8⟩ : ∃ r, k % 8 = r := ⟨_, rfl⟩
          obtain ⟨j, hj⟩ : ∃ j, k / 8 = j := ⟨_, rfl⟩
          have e6 : (k : Int) % 8 = ((r : Nat) : Int) := by omega
          have e7 : (k : Int).tmod 8 = ((r : Nat) : Int) := by rw [Int.tmod_eq_emod_of_nonneg (by omega)]; omega
          have hr9 : r < 8 := by omega
          have e1 : (k : Int) / 8 = (j : Int) := by omega
          have e3 : (k : Int).tdiv 8 = (j : Int) := by rw [Int.tdiv_eq_ediv_of_nonneg (by omega)]; omega
          have e4 : (0 : Int) ≤ (j : Int) := by omega
          have e9 : IntKind.i64.wrap (j : Int) = (j : Int) := IntWalk.i64_in _ (by omega)
          have e10 : IntKind.i64.wrap (r : Int) = (r : Int) := IntWalk.i64_in _ (by omega)
          rw [hr8] at hp8 hlt8 HN bel2
          rw [hj] at hc2 hfz HN bel2 hk8 hln hcap
          clear hr8 hj
          obtain ⟨d, hd⟩ : ∃ d, Hid (need (k + 1) = d) := ⟨_, Lib.hid rfl⟩
          rw [hd.out] at HN hk8 hln ⊢
          have e2 : (j : Int) < (d : Int) := by omega
          obtain ⟨q, hq⟩ : ∃ q : Nat, 2 ^ r = q := ⟨_, rfl⟩
          have HQ := Lib.hid hq
          rw [hq] at hp8 hlt8 HN bel2
          clear hq
          have e5 : IntKind.u8.wrap (q : Int) = (q : Int) := by rw [IntKind.wrap_u8]; omega
          have e8 : IntKind.u8.wrap ((a : Int) + (q : Int)) = ((a + q : Nat) : Int) := by rw [IntKind.wrap_u8]; omega
          go_wp2
          go_region_law ((go_simp; go_at_call 47; refine (refWeight_any r _ hr9).mono ?_; rintro e w' ⟨rfl, rfl⟩; rw [HQ.out]))
          all_goals
            go_wp2
            go_roundw
            case rel => exact ⟨k + 1, by omega, by go_num, by rw [hd.out]; exact HN.out, bel2⟩
            case measure => simp [intOf]; omega
    · obtain rfl : k = n := by omega
      have hx : bs.take k = bs := List.take_of_length_le (by have := hn'.out; omega)
      rw [hx] at hown
      clear hx
      go_wp2
      go_ret
      exact ⟨_, rfl, hown, hbel⟩
end Go.Proofs.Ytaeecoiodkbomaa
