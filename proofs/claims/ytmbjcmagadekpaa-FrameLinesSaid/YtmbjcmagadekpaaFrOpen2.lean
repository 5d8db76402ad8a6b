/-
  The document's OpenRtu, of a frame that is right.
-/
import Derived.Test.YtmbjcmagadekpaaFrOpen
namespace Go.Proofs.Ytmbjcmagadekpaa
open Go.RowKit
set_option linter.unusedVariables false

set_option maxHeartbeats 1000000 in
theorem refOrt_yes (A : Option Addr) (n c : Nat) (b : List Int) (w : World) (hr : Row .u8 w w.heap.size A b) (hn : b.length = n) (hc : n ≤ c) (h4 : 4 ≤ n) (h : n ≤ 256) (hs : right16 b) (hu : 1 ≤ nth b 0 ∧ nth b 0 ≤ 247) :
    Calls Try.prog 34 #[.slice A n c] w (OrtOwn w b) := by
  have HE := Lib.hid (ort_zero (b := b) (by omega) (by omega) hs hu)
  have HO := Lib.hid (refOpen_right_16 A n c b w hr hn hc (by omega) (by omega) hs)
  have HU : Hid (ortU b = nth b 0) := Lib.hid (by rw [ortU, HE.out]; rfl)
  have HLL : Hid (ortL b = (b.take (n - 2)).drop 1) := Lib.hid (by rw [ortL, HE.out, if_pos rfl, hn])
  have HW := Lib.hid (hr.front (n - 2)).1
  have HL : Hid ((b.take (n - 2)).length = n - 2) := Lib.hid (by rw [List.length_take]; omega)
  have H0 : Hid (nth (b.take (n - 2)) 0 = nth b 0) := Lib.hid (nthTake b _ _ (by omega))
  obtain ⟨k, hk⟩ : ∃ k, n - 2 = k := ⟨_, rfl⟩
  rw [hk] at HO HLL HW HL H0
  have HD : Hid (((b.take k).drop 1).length = k - 1) := Lib.hid (by rw [List.length_drop, HL.out])
  have hk2 : 2 ≤ k := by omega
  have hk3 : k ≤ 254 := by omega
  have hlt : (1 : Int) ≤ (k : Int) := by omega
  have hlt0 : (0 : Int) < (k : Int) := by omega
  have hu1 : ¬ nth b 0 < 1 := by omega
  have hu2 : ¬ 247 < nth b 0 := by omega
  clear hn hr hs hu hk
  go_enter Try.func34, Try.ntmps34
  go_wp2_with fail
  refine HO.out.mono ?_
  rintro e w1 ⟨v, rfl, own, b1⟩
  obtain ⟨A1, c1, rfl, row1, hle, hle3⟩ := own.row HW.out
  obtain ⟨b0, o0, rfl, hb0, hc0⟩ := row1.at_ (i := 0) (by rw [HL.out]; omega)
  rw [H0.out, Nat.add_zero] at hc0
  have HR := Lib.hid (row1.drop 1)
  rw [HL.out] at hle
  have hle1 : (k : Int) ≤ (c1 : Int) := by omega
  have hle2 : ¬ c1 = 1 := by omega
  rw [HL.out]
  clear own row1
  go_wp2_with fail
  have hz1 := below_drew (bel_alloc w1 (.cells #[] 5))
  go_region_held3 (fun w' => Below w1.heap.size w1 w' ∧ w'.cell? ⟨b0, o0, none⟩ = some (.int .u8 (nth b 0)))
    ((first
      | exact ⟨below_drew (Below.refl _ _), hc0⟩
      | exact ⟨hz1, (hz1.cell (p := ⟨b0, o0, none⟩) hb0).trans hc0⟩
      | exact ⟨b3, (b3.cell (p := ⟨b0, o0, none⟩) hb0).trans hc0⟩))
    ((refine step_append_row ((w1.alloc (.cells #[] 5)).drew) rfl _ _ 34 rfl w1.heap.size .u8 5 1 Try.underlying34 info_u8 (.slice (some ⟨w1.heap.size, 0, none⟩) 0 0) [] rfl (Own.laid (l := []) (heap_alloc_new w1 _) (Nat.le_refl _) rfl (by simp [maxLen])) _ _ (k - 1) _ ((b.take k).drop 1) rfl (HR.out.below hz1) HD.out (by simp; omega) (by simp [maxLen]; omega) hz1.size ?_
      intro v3 w3 own3 g3
      have b3 : Below w1.heap.size w1 w3 := hz1.grown g3 hz1.size (fun q e => by have e : some w1.heap.size = some q := e; injection e with e; omega)))
  all_goals
    go_wp2
    go_ret3
    refine ⟨v3, ?_, ?_, b1.trans (b3.mono b1.size)⟩
    · rw [HU.out, HE.out]; rfl
    · rw [HLL.out]; exact own3.mono b1.size
theorem refOrt_any (A : Option Addr) (n c : Nat) (b : List Int) (w : World) (hr : Row .u8 w w.heap.size A b) (hn : b.length = n) (hc : n ≤ c) :
    Calls Try.prog 34 #[.slice A n c] w (OrtOwn w b) := by
  by_cases h4 : n < 4
  · exact refOrt_small A n c b w hn h4
  · by_cases h : 256 < n
    · exact refOrt_big A n c b w hn h
    · by_cases hs : right16 b
      · by_cases hu : 1 ≤ nth b 0 ∧ nth b 0 ≤ 247
        · exact refOrt_yes A n c b w hr hn hc (by omega) (by omega) hs hu
        · exact refOrt_addr A n c b w hr hn hc (by omega) (by omega) hs hu
      · exact refOrt_sum A n c b w hr hn hc (by omega) (by omega) hs
end Go.Proofs.Ytmbjcmagadekpaa
