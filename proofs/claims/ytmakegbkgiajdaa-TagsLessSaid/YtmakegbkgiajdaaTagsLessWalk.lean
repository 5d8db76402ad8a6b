/-
  The walk of TagsLess.
-/
import Derived.Test.YtmakegbkgiajdaaTgKnown
import Derived.Test.YtmakegbkgiajdaaTgRise
import Derived.Test.YtmakegbkgiajdaaTgOwn
namespace Go.Proofs.Ytmakegbkgiajdaa
open Go.RowKit
set_option linter.unusedVariables false
attribute [local go_sem ↓] ldTag_fold

theorem less_many (A : Option Addr) (n c : Nat) (z : Int) (w : World) (h : 64 < n) :
    Calls Try.prog 6 #[.slice A n c, .int .u64 z] w fun e w' => e = .returned (.bool true) ∧ Below w.heap.size w w' := by
  have h2 : (n : Int) > 64 := by omega
  go_enter Try.func6, Try.ntmps6
  go_wp2_with fail
  refine (known9_yes _).mono ?_
  rintro e w4 ⟨rfl, b4⟩
  go_wp2
  go_ret
  exact ⟨rfl, b4⟩

theorem VRow.fst {w : World} {B : Nat} {A : Option Addr} {l : List Tg} (h : VRow w B A (flatV tgC l)) (k : Nat) : VRow w B A (flatV tgC (l.take k)) := h.front (flatV_take l k)
set_option maxHeartbeats 1000000 in
/-- Of a list that is wrong first at a place. -/
theorem less_wrong (A : Option Addr) (n c : Nat) (l : List Tg) (z : Int) (w : World) (hr : VRow w w.heap.size A (flatV tgC l)) (hn : l.length = n) (hok : ∀ t ∈ l, Tg.Ok t) (h64 : n ≤ 64) (hle : n ≤ c) (hm : c ≤ 4611686018427387904)
    (e : Int) (i : Nat) (he : e ≠ 0) (hi : i < n) (hc : chkAll l = (e, (i : Int))) (h1 : chkAll (l.take i) = (0, 0)) (h2 : chkAll (l.take (i + 1)) = (e, (i : Int))) :
    Calls Try.prog 6 #[.slice A n c, .int .u64 z] w fun e w' => e = .returned (.bool true) ∧ Below w.heap.size w w' := by
  have HOK := Lib.hid hok
  have HN := Lib.hid hn
  have HC := Lib.hid hc
  have H1 := Lib.hid h1
  have H2 := Lib.hid h2
  have HO1 : ∀ k, ∀ t ∈ l.take k, Tg.Ok t := fun k t ht => hok t (List.mem_of_mem_take ht)
  have HOK1 := Lib.hid HO1
  have he2 : (e == 0) = false := by simp [he]
  have n1 : ¬ (n : Int) > 64 := by omega
  have n2 : (0 : Int) ≤ (i : Int) := by omega
  have n3 : (i : Int) ≤ (c : Int) := by omega
  have n4 : IntKind.i64.wrap ((i : Int) + 1) = (i : Int) + 1 := by rw [IntKind.wrap_i64]; omega
  have n5 : (0 : Int) ≤ (i : Int) + 1 := by omega
  have n6 : (i : Int) + 1 ≤ (c : Int) := by omega
  have n7 : ((i : Int) + 1).toNat = i + 1 := by omega
  clear hok hn hc h1 h2 HO1
  go_enter Try.func6, Try.ntmps6
  go_wp2_with fail
  refine (CheckAll9_any _ n c l w hr HN.out (by omega) HOK.out).mono ?_
  rintro e w2 ⟨rfl, b2⟩
  rw [HC.out]
  have hr2 := (hr.below b2).more b2.size
  go_wp2_with fail
  refine (CheckAll9_any _ i c (l.take i) w2 (hr2.fst i) (by rw [List.length_take]; have := HN.out; omega) (by omega) (HOK1.out i)).mono ?_
  rintro e w3 ⟨rfl, b3⟩
  rw [H1.out]
  have bel3 := b2.trans (b3.mono b2.size)
  have hr3 := (hr.below bel3).more bel3.size
  clear b2 b3 hr2
  go_wp2_with fail
  refine (CheckAll9_any _ (i + 1) c (l.take (i + 1)) w3 (hr3.fst (i + 1)) (by rw [List.length_take]; have := HN.out; omega) (by omega) (HOK1.out (i + 1))).mono ?_
  rintro e w4 ⟨rfl, b4⟩
  rw [H2.out]
  have bel4 := bel3.trans (b4.mono bel3.size)
  clear b4 hr3 bel3
  go_wp2_with fail
  refine (known9_yes _).mono ?_
  rintro e w5 ⟨rfl, b5⟩
  go_wp2
  go_ret
  exact ⟨rfl, bel4.trans (b5.mono bel4.size)⟩

set_option maxHeartbeats 2000000 in
theorem less_table (A : Option Addr) (n c : Nat) (l : List Tg) (z : Int) (w : World) (hr : VRow w w.heap.size A (flatV tgC l)) (hn : l.length = n) (hok : ∀ t ∈ l, Tg.Ok t) (h64 : n ≤ 64) (hz : (Lit.int .u64 z).wf = true)
    (hc : chkAll l = (0, 0)) (ht : TabT l) :
    Calls Try.prog 6 #[.slice A n c, .int .u64 z] w fun e w' => e = .returned (.bool true) ∧ Below w.heap.size w w' := by
  have HOK := Lib.hid hok
  have HN := Lib.hid hn
  have HC := Lib.hid hc
  have HT := Lib.hid ht
  have n1 : ¬ (n : Int) > 64 := by omega
  clear hok hn hc ht
  go_enter Try.func6, Try.ntmps6
  go_wp2_with fail
  refine (CheckAll9_any _ n c l w hr HN.out (by omega) HOK.out).mono ?_
  rintro e w2 ⟨rfl, b2⟩
  rw [HC.out]
  go_wp2_with fail
  go_loopw [11, 12] (fun v i wr => ∃ (k : Nat) (m : List Tg), k ≤ n ∧ i = .int .i64 k ∧ Hid (m.Sublist (l.take k)) ∧ Hid (TgOwn wr w.heap.size v m) ∧ Hid (Below w.heap.size w wr)) (fun _ i _ => n - (intOf i).toNat)
  case atStart => exact ⟨0, [], by omega, rfl, Lib.hid (List.Sublist.refl _), Lib.hid (TgOwn.nil _ _), Lib.hid b2⟩
  case round =>
    obtain ⟨k, m, hk, rfl, hsub, hown, hbel⟩ := hrel
    clear b2
    by_cases hlt : k < n
    · have hkl : k < l.length := by have := HN.out; omega
      have hlt' : (k : Int) < (n : Int) := by omega
      have hk0 : (0 : Int) ≤ k := by omega
      obtain ⟨b, o, rfl, hb0, hld0, hnm0⟩ := (hr.below hbel.out).load hkl
      have HT1 := Lib.hid (take_tg l k hkl)
      generalize l[k] = t at *
      obtain ⟨nm, un, ki, ad, ev, we, sg, sw, mu, di, aa, de, qu, ul, uh, la, lo, hi, hy⟩ := t
      simp only [tgV, tgC] at hld0
      clear hnm0
      have hsz := hbel.out.size
      have hml : Hid ((m.length + 1) * 128 ≤ 140737488355328) := Lib.hid (by have := hsub.out.length_le; rw [List.length_take] at this; omega)
      have hbox := box_tag wr ⟨nm, un, ki, ad, ev, we, sg, sw, mu, di, aa, de, qu, ul, uh, la, lo, hi, hy⟩
      have HO2 := Lib.hid (hown.out.alloc (.cells (tgC ⟨nm, un, ki, ad, ev, we, sg, sw, mu, di, aa, de, qu, ul, uh, la, lo, hi, hy⟩).toArray 29))
      go_wp2_with (at_builtin; refine wpList_append_tg _ rfl _ _ rfl w.heap.size _ m rfl HO2.out _ 1 ⟨nm, un, ki, ad, ev, we, sg, sw, mu, di, aa, de, qu, ul, uh, la, lo, hi, hy⟩ rfl hbox hml.out (by simp; omega) ?_; intro v1 w1 hown1 hg1)
      · go_roundw
        case rel => exact ⟨k + 1, m ++ [⟨nm, un, ki, ad, ev, we, sg, sw, mu, di, aa, de, qu, ul, uh, la, lo, hi, hy⟩], by omega, by go_num, Lib.hid (by rw [HT1.out]; exact hsub.out.append (List.Sublist.refl _)), Lib.hid hown1, Lib.hid (Below.tgown hbel.out hsz hown.out hg1)⟩
        case measure => simp [intOf]; omega
      · go_roundw
        case rel => exact ⟨k + 1, m, by omega, by go_num, Lib.hid (by rw [HT1.out]; exact hsub.out.trans (List.sublist_append_left _ _)), hown, hbel⟩
        case measure => simp [intOf]; omega
    · obtain rfl : k = n := by omega
      have hsubl : Hid (m.Sublist l) := Lib.hid (by have := hsub.out; rwa [List.take_of_length_le (by have := HN.out; omega)] at this)
      obtain ⟨A2, c2, rfl, row2, hle2, hmx2⟩ := hown.out.row
      have HTM := Lib.hid (tab_part HT.out hsubl.out)
      have HCM := Lib.hid (of_tab HTM.out)
      have HOM : Hid (∀ t ∈ m, Tg.Ok t) := Lib.hid fun t ht => HOK.out t (hsubl.out.subset ht)
      have hm64 : m.length ≤ 64 := HTM.out.1
      clear hown hsub
      go_wp2_with fail
      refine (CheckAll9_any A2 m.length c2 m wr row2 rfl (by omega) HOM.out).mono ?_
      rintro e w3 ⟨rfl, b3⟩
      rw [HCM.out]
      go_wp2_with fail
      refine (known9_yes _).mono ?_
      rintro e w4 ⟨rfl, b4⟩
      go_wp2
      go_ret
      exact ⟨rfl, hbel.out.trans ((b3.trans (b4.mono b3.size)).mono hbel.out.size)⟩
theorem walk_TagsLess (A : Option Addr) (n c : Nat) (l : List Tg) (z : Int) (w : World) (hr : VRow w w.heap.size A (flatV tgC l)) (hn : l.length = n) (hok : ∀ t ∈ l, Tg.Ok t) (hle : n ≤ c) (hm : c * 128 ≤ 140737488351232) (hz : (Lit.int .u64 z).wf = true) :
    Calls Try.prog 6 #[.slice A n c, .int .u64 z] w fun e w' => e = .returned (.bool true) ∧ Below w.heap.size w w' := by
  by_cases h64 : 64 < n
  · exact less_many A n c z w h64
  obtain ⟨⟨e, k⟩, hc⟩ : ∃ r, chkAll l = r := ⟨_, rfl⟩
  by_cases he : e = 0
  · subst he
    obtain ⟨rfl, ht⟩ := tab_of hc
    exact less_table A n c l z w hr hn hok (by omega) hz hc ht
  · obtain ⟨i, rfl, hi, h1, h2⟩ := first_wrong (by omega) hc he
    exact less_wrong A n c l z w hr hn hok (by omega) hle (by omega) e i he (by omega) hc h1 h2
end Go.Proofs.Ytmakegbkgiajdaa
