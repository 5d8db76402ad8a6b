/-
  Contract of the document's Split of layer 5.
-/
import Derived.Test.YtmbjcmagadekpaaFrSplit
import Derived.Test.YtmbjcmagadekpaaFrRefGet2
namespace Go.Proofs.Ytmbjcmagadekpaa
open Go.RowKit
set_option linter.unusedVariables false

/-- Get of what is left, where nothing is left. -/
theorem refGet_left (A : Option Addr) (m c : Nat) (hm : m = 0) (w : World) :
    Calls Try.prog 38 #[.slice A m c] w fun e w' => ∃ A1 c1, e = .returned (.tuple #[.agg #[.int .u16 0, .int .u8 0, .slice A1 0 c1], .int .i64 0, .int .i64 1]) ∧ Below w.heap.size w w' := by
  subst hm
  refine (refGet_small A 0 c [] w rfl (by omega)).mono fun e w' ⟨v, he, hk, hb⟩ => ?_
  obtain ⟨A1, c1, rfl, _, _, _⟩ := hk.row (show ∀ x ∈ (frGot []).l, (Lit.int .u8 x).wf = true from fun x hx => by cases hx)
  exact ⟨A1, c1, he, hb⟩

set_option maxHeartbeats 4000000 in
set_option maxRecDepth 100000 in
theorem refSplit_any (A : Option Addr) (n c : Nat) (b : List Int) (w : World) (hr : Row .u8 w w.heap.size A b) (hn : b.length = n) (hc : n ≤ c) (hb : n ≤ 30000000000000) :
    Calls Try.prog 40 #[.slice A n c] w (Splits w b) := by
  have HR := Lib.hid hr
  have HN := Lib.hid hn
  clear hr hn
  go_enter Try.func40, Try.ntmps40
  go_wp2
  go_loopw [5, 6] (fun v q wr => ∃ (k : Nat) (fs : List Tc), k ≤ n ∧ q = .int .i64 k ∧ SplPre b fs k ∧ TOwn wr w.heap.size v fs ∧ Below w.heap.size w wr ∧ 8 * fs.length ≤ k) (fun _ q _ => n + 1 - (intOf q).toNat)
  case atStart => exact ⟨0, [], by omega, rfl, SplPre.zero b, TOwn.nil _ _, Below.refl _ _, by simp⟩
  case round =>
    obtain ⟨k, fs, hk, rfl, pre, own, bel, hlen⟩ := hrel
    by_cases hlt : k < n
    · obtain ⟨b0, o0, rfl, _, _⟩ := HR.out.at_ (i := 0) (by have := HN.out; omega)
      have rk := Lib.hid (((HR.out.drop k).below bel).more bel.size)
      have HKL : Hid ((b.drop k).length = n - k) := Lib.hid (by rw [List.length_drop, HN.out])
      have hkc : ¬ c = k := by omega
      have i1 : (k : Int) ≤ (n : Int) := by omega
      have i2 : (n : Int) ≤ (c : Int) := by omega
      obtain ⟨f, hf⟩ : ∃ f, Hid (frGot (b.drop k) = f) := ⟨_, Lib.hid rfl⟩
      obtain ⟨q, hq⟩ : ∃ q, Hid (frLen (b.drop k) = q) := ⟨_, Lib.hid rfl⟩
      have hql : q ≤ n - k := by rw [← hq.out, ← HKL.out]; exact frLen_le _
      have HFW : Hid (f.Wf) := Lib.hid (by rw [← hf.out]; exact frGot_wf (fun x hx => HR.out.1 x (List.mem_of_mem_drop hx)))
      go_wp2_with fail
      refine (refGet_any (some ⟨b0, o0 + k, none⟩) (n - k) _ (b.drop k) _ rk.out HKL.out (by omega) (by omega)).mono ?_
      rintro e w1 ⟨v1, rfl, k1, b1⟩
      rw [hf.out] at k1 ⊢
      rw [hq.out]
      obtain ⟨A1, c1, rfl, _, _, _⟩ := k1.row HFW.out.l
      have bel1 := bel.trans (b1.mono bel.size)
      have own1 := own.below b1 (Nat.le_refl _)
      have hsz1 := bel1.size
      have k2 := k1.mono bel.size
      clear b1 own bel k1 rk
      rcases frErr_cases (b.drop k) with h0 | h0 | h0
      · rw [h0]
        have pre2 := Lib.hid (pre.step h0)
        rw [hf.out, hq.out] at pre2
        have hq8 : 8 ≤ q := by rw [← hq.out]; exact frLen_pos h0
        clear h0
        obtain ⟨id, u, l⟩ := f
        have own2 := Lib.hid (own1.below ((bel_alloc w1 (.cells #[.int .u16 id, .int .u8 u, .slice A1 l.length c1] 57)).alloc (by simp) (.cells #[.int .u16 id, .int .u8 u, .slice A1 l.length c1] 57)) (Nat.le_refl _))
        have k3 := Lib.hid (k2.below ((bel_alloc w1 (.cells #[.int .u16 id, .int .u8 u, .slice A1 l.length c1] 57)).alloc (by simp) (.cells #[.int .u16 id, .int .u8 u, .slice A1 l.length c1] 57)) (Nat.le_refl _))
        have bel3 := Lib.hid ((bel1.alloc hsz1 (.cells #[.int .u16 id, .int .u8 u, .slice A1 l.length c1] 57)).alloc (by simp; omega) (.cells #[.int .u16 id, .int .u8 u, .slice A1 l.length c1] 57))
        have HBX := Lib.hid (box_tcp (w1.alloc (.cells #[.int .u16 id, .int .u8 u, .slice A1 l.length c1] 57)) 57 (.int .u16 id) (.int .u8 u) (.slice A1 l.length c1))
        rw [show (w1.alloc (.cells #[.int .u16 id, .int .u8 u, .slice A1 l.length c1] 57)).heap.size = w1.heap.size + 1 by simp] at HBX
        clear own1 k2 bel1
        go_wp2_with (at_builtin; refine wpList_append_tcp _ rfl _ _ 61 rfl w.heap.size Try.underlying61 info_tcp _ fs rfl own2.out ⟨w1.heap.size + 1, 0, none⟩ 1 ⟨id, u, l⟩ A1 l.length c1 rfl k3.out HBX.out (by omega) (by simp; omega) ?_; intro v2 w2 own4 g4)
        have bel4 := Below.town bel3.out (by simp; omega) own2.out (Nat.le_refl _) g4
        clear own2 k3 bel3 HBX g4
        go_wp2
        go_roundw
        case rel => exact ⟨k + q, fs ++ [⟨id, u, l⟩], by omega, by go_num, pre2.out, own4, bel4, by rw [List.length_append]; simp; omega⟩
        case measure => simp [intOf]; omega
      · rw [h0]
        have HS := Lib.hid (pre.stop (by rw [h0]; decide))
        rw [h0, if_pos rfl] at HS
        clear h0
        go_wp2
        (try rw [Exit.noGoto_ret])
        go_ret3
        exact ⟨fs, k, _, _, HS.out, rfl, own1.below (bel_alloc w1 _) (Nat.le_refl _), bel1.alloc hsz1 _⟩
      · rw [h0]
        have HS := Lib.hid (pre.stop (by rw [h0]; decide))
        rw [h0, if_neg (by decide)] at HS
        clear h0
        go_wp2
        (try rw [Exit.noGoto_ret])
        go_ret3
        exact ⟨fs, k, _, _, HS.out, rfl, own1.below (bel_alloc w1 _) (Nat.le_refl _), bel1.alloc hsz1 _⟩
    · obtain rfl : k = n := by omega
      have hd : b.drop k = [] := List.drop_eq_nil_of_le (by have := HN.out; omega)
      have HS := Lib.hid (pre.stop (by rw [hd]; decide))
      rw [hd, frErr_nil, if_pos rfl] at HS
      have hsz := bel.size
      have i2 : (k : Int) ≤ (c : Int) := by omega
      clear hd hlt pre
      rcases A with _ | ⟨ab, ao, asp⟩
      all_goals
        by_cases hkc : c = k
        all_goals
          go_wp2_with fail
          refine (refGet_left _ _ _ (by omega) _).mono ?_
          rintro e w1 ⟨A1, c1, rfl, b1⟩
          have bel1 := bel.trans (b1.mono hsz)
          have own1 := own.below b1 (Nat.le_refl _)
          have hsz1 := bel1.size
          go_wp2
          (try rw [Exit.noGoto_ret])
          go_ret3
          exact ⟨fs, k, _, _, HS.out, rfl, own1.below (bel_alloc w1 _) (Nat.le_refl _), bel1.alloc hsz1 _⟩
end Go.Proofs.Ytmbjcmagadekpaa
