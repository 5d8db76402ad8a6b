/-
  Texts of the proof of PlanReads, joined.
-/
import Derived.Test.YtcmbdhmhkfhjfaaJPlanReadsF
import Derived.Deep.RegionHeld3
import Derived.BigRegion
import Derived.Deep.CutRange
namespace Go.Proofs.Ytcmbdhmhkfhjfaa
open Go.RowKit Go.Lib
set_option linter.unusedVariables false
set_option maxRecDepth 100000
attribute [local go_sem ↓] ldTag_fold stTag_fold bxTag_fold
attribute [local go_sem] bxTag_run

theorem compare_any (x y : Int) (w : World) : Calls Try.prog 46 #[.int .i64 x, .int .i64 y] w fun e w' => e = .returned (.int .i64 (Lib.compareInt x y)) ∧ w' = w := AnyG.cmp_Compare_int Try.cmpInts x y w
def orL : List Int → Int
  | [] => 0
  | x :: xs => if x = 0 then orL xs else x
theorem orL_step (xs : List Int) (k : Nat) (h : k < xs.length) : orL (xs.drop k) = if nth xs k = 0 then orL (xs.drop (k + 1)) else nth xs k := by
  rw [List.drop_eq_getElem_cons h, nth_eq xs k h]
  rfl
theorem or_any (A : Option Addr) (n c : Nat) (xs : List Int) (w : World) (hr : Row .i64 w w.heap.size A xs) (hn : xs.length = n) (hb : n ≤ 1000) : Calls Try.prog 45 #[.slice A n c] w fun e w' => e = .returned (.int .i64 (orL xs)) ∧ w' = w := by
  have HR := Lib.hid hr
  have HN := Lib.hid hn
  clear hr hn
  go_enter Try.func45, Try.ntmps45
  go_wp2
  go_loopw [8] (fun i wr => ∃ k : Nat, k ≤ n ∧ i = .int .i64 k ∧ Hid (orL xs = orL (xs.drop k)) ∧ wr = w) (fun i _ => n - (intOf i).toNat)
  case atStart => exact ⟨0, by omega, rfl, Lib.hid (by rw [List.drop_zero]), rfl⟩
  case round =>
    obtain ⟨k, hk, rfl, hor, rfl⟩ := hrel
    by_cases hlt : k < n
    · obtain ⟨b, o, rfl, hb1, hc1⟩ := HR.out.at_ (i := k) (by rw [HN.out]; exact hlt)
      have hst := orL_step xs k (by rw [HN.out]; exact hlt)
      generalize nth xs k = x at *
      by_cases hx : x = 0
      · have e0 : (x != 0) = false := by simp [hx]
        have e0' : (x == 0) = true := by simp [hx]
        have HS : Hid (orL xs = orL (xs.drop (k + 1))) := Lib.hid (by rw [hor.out, hst, if_pos hx])
        clear hx hst
        go_wp2
        go_roundw
        case rel => exact ⟨k + 1, by omega, by go_num, HS, trivial⟩
        case measure => simp [intOf]; omega
      · have e0 : (x != 0) = true := by simpa using hx
        have e0' : (x == 0) = false := beq_false_of_ne hx
        have HS : Hid (orL xs = x) := Lib.hid (by rw [hor.out, hst, if_neg hx])
        clear hx hst
        go_wp2
        go_ret
        exact ⟨by rw [HS.out]; rfl, rfl⟩
    · obtain rfl : k = n := by omega
      have HS : Hid (orL xs = 0) := Lib.hid (by rw [hor.out, List.drop_of_length_le (by rw [HN.out]; exact Nat.le_refl _)]; rfl)
      go_wp2
      go_ret
      exact ⟨by rw [HS.out]; rfl, rfl⟩

/-- How two tags stand to each other in the order of polling. -/
def cmpT (a b : Tg) (i k : Nat) : Int := orL [Lib.compareInt a.un b.un, Lib.compareInt a.ev b.ev, Lib.compareInt a.ki b.ki, Lib.compareInt a.ad b.ad, Lib.compareInt i k]
theorem compare_zero {x y : Int} : Lib.compareInt x y = 0 ↔ x = y := by unfold Lib.compareInt; split <;> (try split) <;> omega
theorem compare_neg {x y : Int} : Lib.compareInt x y < 0 ↔ x < y := by unfold Lib.compareInt; split <;> (try split) <;> omega
theorem cmpT_ahead (a b : Tg) (i k : Nat) : cmpT a b i k < 0 ↔ aheadP a b i k := by
  unfold cmpT aheadP
  simp only [orL, compare_zero]
  split
  · rename_i h1
    split
    · rename_i h2
      split
      · rename_i h3
        split
        · rename_i h4
          split
          · rename_i h5; constructor
            · intro h; omega
            · intro h; omega
          · rw [compare_neg]; omega
        · rw [compare_neg]; omega
      · rw [compare_neg]; omega
    · rw [compare_neg]; omega
  · rw [compare_neg]; omega

/-- A world that is past another one: nothing of its blocks is other, and it has drawn no less. -/
structure Past (w w9 : World) : Prop where
  bel : Below w.heap.size w w9
  dr : w.drawn ≤ w9.drawn
theorem Past.refl (w : World) : Past w w := ⟨Below.refl _ _, Nat.le_refl _⟩
theorem Past.drew {w w9 : World} (h : Past w w9) : Past w w9.drew := ⟨below_drew h.bel, Nat.le_trans h.dr (Nat.le_succ _)⟩
theorem Past.drewN {w w9 : World} (h : Past w w9) (n : Nat) : Past w (w9.drewN n) := ⟨below_drewN h.bel n, Nat.le_trans h.dr (Nat.le_add_right _ _)⟩
theorem Past.alloc {w w9 : World} (h : Past w w9) (o : Obj) : Past w (w9.alloc o) := ⟨h.bel.alloc h.bel.size o, h.dr⟩
theorem Past.grow {w w9 : World} (h : Past w w9) : ∃ q os', w9 = Go.Sort.grow (w.drewN q) os' := by
  refine ⟨w9.drawn - w.drawn, w9.heap.extract w.heap.size w9.heap.size, ?_⟩
  obtain ⟨⟨h1, h2, h3, h4, h5⟩, h6⟩ := h
  obtain ⟨hp, tp, dn, os, op⟩ := w
  obtain ⟨hp9, tp9, dn9, os9, op9⟩ := w9
  simp only at h1 h2 h3 h4 h5 h6
  subst h1 h2 h3
  simp only [Go.Sort.grow, World.drewN, World.mk.injEq, true_and, and_true]
  refine ⟨?_, by omega⟩
  apply Array.ext_getElem?
  intro k
  rw [Array.getElem?_append]
  split
  · rename_i hk; exact h5 k hk
  · rename_i hk
    rw [Array.getElem?_extract]
    by_cases hk9 : k < hp9.size
    · rw [if_pos (by omega)]; congr 1; omega
    · rw [if_neg (by omega)]; exact Array.getElem?_eq_none (by omega)
end Go.Proofs.Ytcmbdhmhkfhjfaa
namespace Go.Proofs.Ytcmbdhmhkfhjfaa
open Go.RowKit Go.Lib
set_option linter.unusedVariables false
set_option maxRecDepth 100000
attribute [local go_sem ↓] ldTag_fold stTag_fold bxTag_fold
attribute [local go_sem] bxTag_run

def zBox : Obj := .cells #[.string ⟨#[]⟩, .int .i64 0, .int .i64 0, .int .i64 0, .int .i64 0, .bool false, .bool false, .bool false, .int .i64 0, .int .i64 0, .int .i64 0, .int .i64 0, .int .i64 0, .bool false, .bool false, .bool false, .int .i64 0, .int .i64 0, .int .i64 0] 49 (0, 0)
def tBox (t : Tg) : Obj := .cells (tgC t).toArray 49 (0, 0)
theorem made1 (X : World) (t : Tg) : (stTag (.pointer (some ⟨X.heap.size, 0, none⟩)) (tgV t)).run Try.prog (X.alloc zBox) = .ok () (X.alloc (tBox t)) := made_tag X t
theorem made2 (X : World) (o : Obj) (t : Tg) : (stTag (.pointer (some ⟨X.heap.size + 1, 0, none⟩)) (tgV t)).run Try.prog ((X.alloc o).alloc zBox) = .ok () ((X.alloc o).alloc (tBox t)) := by
  have h := made_tag (X.alloc o) t
  rw [World.size_alloc] at h
  exact h
theorem setCells_past (o : Obj) (b : Nat) (vs : List Value) : ∀ (w : World) (i : Nat), b < w.heap.size → (w.alloc o).setCells b i vs = (w.setCells b i vs).alloc o := by
  induction vs with
  | nil => intro w i _; rfl
  | cons v vs ih =>
    intro w i hb
    rw [World.setCells, World.setCells, World.setCell_alloc_past o b i v hb]
    exact ih _ _ (by rw [World.size_setCell]; exact hb)
theorem made3 (X : World) (o : Obj) (t : Tg) : (stTag (.pointer (some ⟨X.heap.size, 0, none⟩)) (tgV t)).run Try.prog ((X.alloc zBox).alloc o) = .ok () ((X.alloc (tBox t)).alloc o) := by
  have h := stTag_run (w := (X.alloc zBox).alloc o) (b := X.heap.size) (o := 0) t (World.there_alloc (there_alloc_size X 49 (tgC zT).toArray 0 19 (Nat.le_refl _)) o)
  rw [setCells_past _ _ _ _ _ (by simp)] at h
  unfold zBox at h
  rw [show (Obj.cells #[.string ⟨#[]⟩, .int .i64 0, .int .i64 0, .int .i64 0, .int .i64 0, .bool false, .bool false, .bool false, .int .i64 0, .int .i64 0, .int .i64 0, .int .i64 0, .int .i64 0, .bool false, .bool false, .bool false, .int .i64 0, .int .i64 0, .int .i64 0] 49 (0, 0)) = .cells (tgC zT).toArray 49 (0, 0) from rfl, setCells_alloc, setL_whole (tgC zT).toArray (tgC t) rfl] at h
  exact h
theorem setCells_drew (b : Nat) (vs : List Value) : ∀ (w : World) (i : Nat), w.drew.setCells b i vs = (w.setCells b i vs).drew := by
  induction vs with
  | nil => intro w i; rfl
  | cons v vs ih => intro w i; exact ih (w.setCell ⟨b, i, none⟩ v) (i + 1)
theorem there_z2 (X : World) (o : Obj) : ((X.alloc o).alloc zBox).there (X.heap.size + 1) 0 19 := by
  have h := there_alloc_size (X.alloc o) 49 (tgC zT).toArray 0 19 (Nat.le_refl _)
  rw [World.size_alloc] at h
  exact h
theorem madeD (W W' : World) (b : Nat) (t : Tg) (h1 : W.there b 0 19) (h2 : (stTag (.pointer (some ⟨b, 0, none⟩)) (tgV t)).run Try.prog W = .ok () W') : (stTag (.pointer (some ⟨b, 0, none⟩)) (tgV t)).run Try.prog W.drew = .ok () W'.drew := by
  rw [stTag_run t h1] at h2
  injection h2 with _ h2
  rw [stTag_run t (by exact (World.there_drew W b 0 19).2 h1), setCells_drew, h2]
theorem made1d (X : World) (t : Tg) : (stTag (.pointer (some ⟨X.heap.size, 0, none⟩)) (tgV t)).run Try.prog (X.alloc zBox).drew = .ok () (X.alloc (tBox t)).drew := madeD _ _ _ t (there_alloc_size X 49 (tgC zT).toArray 0 19 (Nat.le_refl _)) (made1 X t)
theorem made2d (X : World) (o : Obj) (t : Tg) : (stTag (.pointer (some ⟨X.heap.size + 1, 0, none⟩)) (tgV t)).run Try.prog ((X.alloc o).alloc zBox).drew = .ok () ((X.alloc o).alloc (tBox t)).drew := madeD _ _ _ t (there_z2 X o) (made2 X o t)
theorem made3d (X : World) (o : Obj) (t : Tg) : (stTag (.pointer (some ⟨X.heap.size, 0, none⟩)) (tgV t)).run Try.prog ((X.alloc zBox).alloc o).drew = .ok () ((X.alloc (tBox t)).alloc o).drew := madeD _ _ _ t (World.there_alloc (there_alloc_size X 49 (tgC zT).toArray 0 19 (Nat.le_refl _)) o) (made3 X o t)
attribute [local go_sem] made1 made2 made3 made1d made2d made3d
theorem zBox_fold : Obj.cells #[.string ⟨#[]⟩, .int .i64 0, .int .i64 0, .int .i64 0, .int .i64 0, .bool false, .bool false, .bool false, .int .i64 0, .int .i64 0, .int .i64 0, .int .i64 0, .int .i64 0, .bool false, .bool false, .bool false, .int .i64 0, .int .i64 0, .int .i64 0] 49 (0, 0) = zBox := rfl
attribute [local go_sem] zBox_fold

theorem past_trans {a b c : World} (h : Past a b) (k : Past b c) : Past a c := ⟨h.bel.trans (k.bel.mono h.bel.size), Nat.le_trans h.dr k.dr⟩
theorem cmp_wf (x y : Int) : (Lit.int .i64 (Lib.compareInt x y)).wf = true := by unfold Lib.compareInt; split <;> (try split) <;> decide
set_option maxHeartbeats 4000000 in
theorem less_any (A : Option Addr) (n c : Nat) (l : List Tg) (gb : Nat) (i k : Nat) (w : World) (hr : VRow w w.heap.size A (flatV tgC l)) (hn : l.length = n) (hb : n ≤ 4611686018427387904) (hi : i < n) (hk : k < n) (hc : w.cell? ⟨gb, 0, none⟩ = some (.slice A n c)) (hgb : gb < w.heap.size) :
    Calls Try.prog 44 #[.int .i64 (i : Int), .int .i64 (k : Int), .pointer (some ⟨gb, 0, none⟩)] w fun e w' => e = .returned (.int .i64 (cmpT (tgAt l i) (tgAt l k) i k)) ∧ Past w w' := by
  have HRI : Hid (∀ W : World, Past w W → ∃ b o, A = some ⟨b, o, none⟩ ∧ (ldTag (.pointer (some ⟨b, o + i * 19, none⟩))).run Try.prog W = .ok (tgV (tgAt l i)) W ∧ (ldTag (.pointer (some ⟨b, o + k * 19, none⟩))).run Try.prog W = .ok (tgV (tgAt l k)) W) := Lib.hid fun W hW => by
    have hr2 := (hr.below hW.bel).more hW.bel.size
    obtain ⟨b, o, rfl, _, h1⟩ := hr2.five (i := i) (by omega)
    obtain ⟨b', o', e2, _, h2⟩ := hr2.five (i := k) (by omega)
    injection e2 with e2
    injection e2 with e2 e3
    subst e2 e3
    exact ⟨_, _, rfl, h1, h2⟩
  obtain ⟨b, o, rfl, _, _⟩ := HRI.out w (Past.refl w)
  have HK : Hid (∀ W : World, Past w W → (Past w W ∧ W.cell? ⟨gb, 0, none⟩ = some (.slice (some ⟨b, o, none⟩) n c) ∧ (ldTag (.pointer (some ⟨b, o + i * 19, none⟩))).run Try.prog W = .ok (tgV (tgAt l i)) W ∧ (ldTag (.pointer (some ⟨b, o + k * 19, none⟩))).run Try.prog W = .ok (tgV (tgAt l k)) W)) := Lib.hid fun W hW => by
    obtain ⟨b', o', e, h1, h2⟩ := HRI.out W hW
    injection e with e
    injection e with e1 e2
    subst e1 e2
    exact ⟨hW, cellB hW.bel hgb hc, h1, h2⟩
  have hi' : (i : Int) < n := by omega
  have hk' : (k : Int) < n := by omega
  have hi0 : (0 : Int) ≤ i := by omega
  have hk0 : (0 : Int) ≤ k := by omega
  clear HRI hr hn
  generalize tgAt l i = ta at *
  generalize tgAt l k = tb at *
  go_enter Try.func44, Try.ntmps44
  go_wp2
  go_cut [6, 7] from 8 to 16 (fun s t wx => ∃ ga gc, s = .pointer (some ⟨ga, 0, none⟩) ∧ t = .pointer (some ⟨gc, 0, none⟩) ∧ Hid (wx.heap[ga]? = some (tBox ta) ∧ wx.heap[gc]? = some (tBox tb) ∧ Past w wx))
  case first =>
    have belh : ∀ W : World, (Past w W ∧ W.cell? ⟨gb, 0, none⟩ = some (.slice (some ⟨b, o, none⟩) n c) ∧ (ldTag (.pointer (some ⟨b, o + i * 19, none⟩))).run Try.prog W = .ok (tgV ta) W ∧ (ldTag (.pointer (some ⟨b, o + k * 19, none⟩))).run Try.prog W = .ok (tgV tb) W) → Past w W := fun W h => h.1
    go_region_held3 (fun W => Past w W ∧ W.cell? ⟨gb, 0, none⟩ = some (.slice (some ⟨b, o, none⟩) n c) ∧ (ldTag (.pointer (some ⟨b, o + i * 19, none⟩))).run Try.prog W = .ok (tgV ta) W ∧ (ldTag (.pointer (some ⟨b, o + k * 19, none⟩))).run Try.prog W = .ok (tgV tb) W)
      ((refine HK.out _ ?_
        repeat' (first
          | with_reducible exact Past.refl _
          | with_reducible exact belh _ (by assumption)
          | with_reducible apply Past.drew
          | with_reducible apply Past.drewN
          | with_reducible apply Past.alloc
          | fail)))
      (first | fail)
    · (try go_wp2)
      go_meet
      exact ⟨_, _, rfl, rfl, Lib.hid ⟨two_fst w (tBox ta) (tBox tb), heap_alloc_two w (tBox ta) (tBox tb), (((Past.refl w).alloc _).alloc _).drew⟩⟩
    · (try go_wp2)
      go_meet
      exact ⟨_, _, rfl, rfl, Lib.hid ⟨heap_alloc_two w (tBox tb) (tBox ta), two_fst w (tBox tb) (tBox ta), (((Past.refl w).alloc _).alloc _).drew⟩⟩
  case rest =>
    obtain ⟨ga, gc, rfl, rfl, hcut⟩ := hcut
    obtain ⟨hxa, hxb, hp⟩ := hcut.out
    have HP := Lib.hid hp
    have HK2 : Hid (∀ W : World, Past wc W → (Past wc W ∧ (W.cell? ⟨ga, 1, none⟩ = some (.int .i64 ta.un) ∧ W.cell? ⟨ga, 2, none⟩ = some (.int .i64 ta.ki) ∧ W.cell? ⟨ga, 3, none⟩ = some (.int .i64 ta.ad) ∧ W.cell? ⟨ga, 4, none⟩ = some (.int .i64 ta.ev)) ∧ (W.cell? ⟨gc, 1, none⟩ = some (.int .i64 tb.un) ∧ W.cell? ⟨gc, 2, none⟩ = some (.int .i64 tb.ki) ∧ W.cell? ⟨gc, 3, none⟩ = some (.int .i64 tb.ad) ∧ W.cell? ⟨gc, 4, none⟩ = some (.int .i64 tb.ev)))) := Lib.hid fun W hW => ⟨hW, (tgBox (keepB hW.bel hxa)).2, (tgBox (keepB hW.bel hxb)).2⟩
    have belh : ∀ W : World, (Past wc W ∧ (W.cell? ⟨ga, 1, none⟩ = some (.int .i64 ta.un) ∧ W.cell? ⟨ga, 2, none⟩ = some (.int .i64 ta.ki) ∧ W.cell? ⟨ga, 3, none⟩ = some (.int .i64 ta.ad) ∧ W.cell? ⟨ga, 4, none⟩ = some (.int .i64 ta.ev)) ∧ (W.cell? ⟨gc, 1, none⟩ = some (.int .i64 tb.un) ∧ W.cell? ⟨gc, 2, none⟩ = some (.int .i64 tb.ki) ∧ W.cell? ⟨gc, 3, none⟩ = some (.int .i64 tb.ad) ∧ W.cell? ⟨gc, 4, none⟩ = some (.int .i64 tb.ev))) → Past wc W := fun W h => h.1
    have HC : Hid (∀ (x y : Int) (W : World), Calls Try.prog 46 #[.int .i64 x, .int .i64 y] W fun e w' => e = .returned (.int .i64 (Lib.compareInt x y)) ∧ w' = W) := Lib.hid compare_any
    have HT : Hid (∀ w' : World, Past wc w' → Ending.returned (.int .i64 (orL [Lib.compareInt ta.un tb.un, Lib.compareInt ta.ev tb.ev, Lib.compareInt ta.ki tb.ki, Lib.compareInt ta.ad tb.ad, Lib.compareInt i k])) = Ending.returned (.int .i64 (cmpT ta tb i k)) ∧ Past w w') := Lib.hid fun w' hw => ⟨rfl, past_trans HP.out hw⟩
    have HWF := Lib.hid (And.intro (cmp_wf ta.un tb.un) (And.intro (cmp_wf ta.ev tb.ev) (And.intro (cmp_wf ta.ki tb.ki) (And.intro (cmp_wf ta.ad tb.ad) (cmp_wf i k)))))
    clear HK hc hxa hxb hp hcut
    have HO : Hid (∀ W : World, Calls Try.prog 45 #[.slice (some ⟨W.heap.size, 0, none⟩) 5 5] (W.alloc (.cells #[.int .i64 (Lib.compareInt ta.un tb.un), .int .i64 (Lib.compareInt ta.ev tb.ev), .int .i64 (Lib.compareInt ta.ki tb.ki), .int .i64 (Lib.compareInt ta.ad tb.ad), .int .i64 (Lib.compareInt i k)] 3)).drew fun e w' => e = .returned (.int .i64 (orL [Lib.compareInt ta.un tb.un, Lib.compareInt ta.ev tb.ev, Lib.compareInt ta.ki tb.ki, Lib.compareInt ta.ad tb.ad, Lib.compareInt i k])) ∧ w' = (W.alloc (.cells #[.int .i64 (Lib.compareInt ta.un tb.un), .int .i64 (Lib.compareInt ta.ev tb.ev), .int .i64 (Lib.compareInt ta.ki tb.ki), .int .i64 (Lib.compareInt ta.ad tb.ad), .int .i64 (Lib.compareInt i k)] 3)).drew) := Lib.hid fun W => by
      obtain ⟨w1, w2, w3, w4, w5⟩ := HWF.out
      refine or_any _ 5 5 [Lib.compareInt ta.un tb.un, Lib.compareInt ta.ev tb.ev, Lib.compareInt ta.ki tb.ki, Lib.compareInt ta.ad tb.ad, Lib.compareInt i k] _ (Row.drewN (n := 1) ((Row.new .i64 W 3 [Lib.compareInt ta.un tb.un, Lib.compareInt ta.ev tb.ev, Lib.compareInt ta.ki tb.ki, Lib.compareInt ta.ad tb.ad, Lib.compareInt i k] [Lib.compareInt ta.un tb.un, Lib.compareInt ta.ev tb.ev, Lib.compareInt ta.ki tb.ki, Lib.compareInt ta.ad tb.ad, Lib.compareInt i k] (by
        intro x hx
        simp only [List.mem_cons, List.not_mem_nil, or_false] at hx
        rcases hx with rfl | rfl | rfl | rfl | rfl <;> assumption) (List.prefix_refl _)).more (by simp))) rfl (by omega)
    generalize Lib.compareInt = cf at *
    go_wp2
    go_region_held3 (fun W => Past wc W ∧ (W.cell? ⟨ga, 1, none⟩ = some (.int .i64 ta.un) ∧ W.cell? ⟨ga, 2, none⟩ = some (.int .i64 ta.ki) ∧ W.cell? ⟨ga, 3, none⟩ = some (.int .i64 ta.ad) ∧ W.cell? ⟨ga, 4, none⟩ = some (.int .i64 ta.ev)) ∧ (W.cell? ⟨gc, 1, none⟩ = some (.int .i64 tb.un) ∧ W.cell? ⟨gc, 2, none⟩ = some (.int .i64 tb.ki) ∧ W.cell? ⟨gc, 3, none⟩ = some (.int .i64 tb.ad) ∧ W.cell? ⟨gc, 4, none⟩ = some (.int .i64 tb.ev)))
      ((refine HK2.out _ ?_
        repeat' (first
          | with_reducible exact Past.refl _
          | with_reducible exact belh _ (by assumption)
          | with_reducible apply Past.drew
          | with_reducible apply Past.drewN
          | with_reducible apply Past.alloc
          | fail)))
      (first
        | (go_at_call 46; refine (HC.out _ _ _).mono ?_; rintro e w5 ⟨rfl, rfl⟩)
        | (go_at_call 45; have hpz := belh _ (by assumption); refine (HO.out _).mono ?_; rintro e w6 ⟨rfl, rfl⟩)
        | fail)
    go_wp2
    go_ret
    exact HT.out _ (((Past.refl wc).alloc _).drew)
end Go.Proofs.Ytcmbdhmhkfhjfaa
namespace Go.Proofs.Ytcmbdhmhkfhjfaa
open Go.RowKit Go.Lib
set_option linter.unusedVariables false
set_option maxRecDepth 100000

def encF {m : Nat} (x : Fin (m + 1)) : Value := .int .i64 ((x.val : Nat) : Int)
def cfF (l : List Tg) {m : Nat} (x y : Fin (m + 1)) : Int := cmpT (tgAt l x.val) (tgAt l y.val) x.val y.val
theorem ltF (l : List Tg) {m : Nat} (x y : Fin (m + 1)) : ltOf (cfF l) x y = aheadB l x.val y.val := by
  unfold ltOf cfF
  by_cases h : cmpT (tgAt l x.val) (tgAt l y.val) x.val y.val < 0
  · rw [decide_eq_true h, ahead_iff.2 ((cmpT_ahead _ _ _ _).1 h)]
  · rw [decide_eq_false h]
    cases hb : aheadB l x.val y.val with
    | false => rfl
    | true => exact absurd ((cmpT_ahead _ _ _ _).2 (ahead_iff.1 hb)) h
theorem ahead_false {l : List Tg} {i k : Nat} (h : aheadB l i k = false) : i = k ∨ aheadB l k i = true := by
  by_cases e : i = k
  · exact .inl e
  · rcases ahead_total l e with h2 | h2
    · rw [h] at h2; cases h2
    · exact .inr h2
theorem swoF (l : List Tg) (m : Nat) : Go.Sort.SWO (ltOf (cfF l (m := m))) where
  irrefl x := by rw [ltF]; exact ahead_irrefl _ _
  trans x y z h1 h2 := by rw [ltF] at *; exact ahead_trans h1 h2
  ntrans x y z h1 h2 := by
    rw [ltF] at *
    cases h : aheadB l x.val z.val with
    | false => rfl
    | true =>
      exfalso
      rcases ahead_false h1 with e | h1'
      · rw [e, h2] at h; cases h
      · rcases ahead_false h2 with e | h2'
        · rw [← e, h1] at h; cases h
        · exact ahead_asymm h (ahead_trans h2' h1')
theorem sortWorld_below {α : Type} [Inhabited α] (enc : α → Value) (w : World) (b off q : Nat) (d : Array α) (os : Array Obj) {B : Nat} (hB : B ≤ b) (hB2 : B ≤ w.heap.size) : Below B w (sortWorld enc w b off q d os) := by
  refine ⟨rfl, rfl, rfl, ?_, fun k hk => ?_⟩
  · simp [sortWorld, Go.Sort.grow, Go.Sort.putRow, Go.Sort.mapBlock, Go.Sort.ahead]
  · by_cases hs : k < w.heap.size
    · simp only [sortWorld, Go.Sort.grow, Go.Sort.putRow, Go.Sort.mapBlock, Go.Sort.ahead, Array.getElem?_append, Array.size_modify, hs, if_true, Array.getElem?_modify]
      rw [if_neg (by omega)]
    · omega
theorem order_lays (A : Option Addr) (m c : Nat) (l : List Tg) (gb b : Nat) (w : World) (hr : VRow w gb A (flatV tgC l)) (hn : l.length = m + 1) (hb : m + 1 ≤ 4611686018427387904) (hc : w.cell? ⟨gb, 0, none⟩ = some (.slice A (m + 1) c)) (hgb : gb < b) (hbs : b < w.heap.size) :
    CmpLays1 Try.prog 44 #[.pointer (some ⟨gb, 0, none⟩)] (encF (m := m)) (cfF l) b 0 (m + 1) w := by
  intro q os dk hs x y
  have bel : Below (gb + 1) w (sortWorld encF w b 0 q dk os) := sortWorld_below encF w b 0 q dk os (by omega) (by omega)
  have hsz := bel.size
  refine (less_any A (m + 1) c l gb x.val y.val _ ((hr.below (bel.mono (by omega))).more (by omega)) hn hb x.isLt y.isLt ((World.cell?_of_block (bel.block gb (by omega))).trans hc) (by omega)).mono ?_
  rintro e w' ⟨rfl, hp⟩
  exact ⟨rfl, hp.grow⟩
theorem fin_range (n : Nat) : (List.finRange n).map Fin.val = List.range n := by
  apply List.ext_getElem (by simp)
  intro i h1 h2
  simp
/-- What a sort leaves is the order of polling. -/
theorem sorted_ord (l : List Tg) (m : Nat) (hn : l.length = m + 1) (d d' : Array (Fin (m + 1))) (hd : d.toList = List.finRange (m + 1)) (hp : Go.Sort.PermIn 0 (m + 1) d d') (hs : Go.Sort.SortedIn (ltOf (cfF l)) 0 (m + 1) d') : d'.size = m + 1 ∧ d'.toList.map Fin.val = ordT l := by
  obtain ⟨hsz, _, hperm⟩ := hp
  have hds : d.size = m + 1 := by rw [← Array.length_toList, hd, List.length_finRange]
  have e1 : d'.extract 0 (m + 1) = d' := by have h := @Array.extract_size _ d'; rwa [show d'.size = m + 1 by omega] at h
  have e2 : d.extract 0 (m + 1) = d := by have h := @Array.extract_size _ d; rwa [hds] at h
  rw [e1, e2, hd] at hperm
  have hpr : (d'.toList.map Fin.val).Perm (List.range l.length) := by
    have := hperm.map Fin.val
    rw [fin_range] at this
    rw [hn]; exact this
  refine ⟨by omega, ordT_only hpr ?_⟩
  have hnd : (d'.toList.map Fin.val).Nodup := hpr.nodup_iff.2 List.nodup_range
  rw [List.pairwise_iff_getElem]
  intro i j hi hj hij
  have hi' : i < d'.size := by simpa using hi
  have hj' : j < d'.size := by simpa using hj
  have h := hs i j (by omega) hij (by omega)
  rw [getElem!_pos d' i hi', getElem!_pos d' j hj', ltF] at h
  have hne : (d'[i]).val ≠ (d'[j]).val := by
    have := (List.nodup_iff_pairwise_ne.1 hnd)
    rw [List.pairwise_iff_getElem] at this
    have h2 := this i j hi hj hij
    simpa using h2
  have hi2 : (d'.toList.map Fin.val)[i] = (d'[i]).val := by simp
  have hj2 : (d'.toList.map Fin.val)[j] = (d'[j]).val := by simp
  rw [hi2, hj2]
  rcases ahead_false h with e | h
  · exact absurd e.symm hne
  · exact h

theorem intL_rng (k : Nat) : intL (List.range (k + 1)) = intL (List.range k) ++ [(k : Int)] := by rw [List.range_succ, intL_snoc]
theorem intL_ordwf {l : List Tg} (h : l.length ≤ 64) : ∀ x ∈ intL (ordT l), (Lit.int .i64 x).wf = true := fun x hx => by
  obtain ⟨k, hk, rfl⟩ := List.mem_map.1 hx
  have := ordT_lt hk
  simp [Lit.wf, IntKind.min, IntKind.max, IntKind.signed, IntKind.bits]; omega
/-- What the call of the sort leaves. -/
def Sorted10 (w1 : World) (n gb : Nat) (l : List Tg) (e : Ending) (w' : World) : Prop := e = .returned (.tuple #[]) ∧ Row .i64 w' w'.heap.size (some ⟨gb + 1, 0, none⟩) (intL (ordT l)) ∧ Below (gb + 1) w1 w'
theorem sort_any (A : Option Addr) (n c : Nat) (l : List Tg) (gb : Nat) (cells : List Int) (w : World) (hr : VRow w gb A (flatV tgC l)) (hn : l.length = n) (hb : n ≤ 64) (hc : w.cell? ⟨gb, 0, none⟩ = some (.slice A n c)) (hx : w.heap[gb + 1]? = some (.cells (blk .i64 (intL (List.range n))) 3 (0, 0))) :
    Calls Try.prog 43 #[.slice (some ⟨gb + 1, 0, none⟩) n n, .func (.func 44) #[] #[.pointer (some ⟨gb, 0, none⟩)]] w (Sorted10 w n gb l) := by
  have hwf := intL_ordwf (l := l) (by omega)
  cases n with
  | zero =>
    refine (AnyF.slices_SortFunc_none { Try.sortInts with } (some ⟨gb + 1, 0, none⟩) 0 _ w).mono ?_
    rintro e w' ⟨rfl, rfl⟩
    have hl : l = [] := List.eq_nil_of_length_eq_zero hn
    subst hl
    exact ⟨rfl, Row.nil _ _ _ _, Below.refl _ _⟩
  | succ m =>
    obtain ⟨d0, hd0⟩ : ∃ d0 : Array (Fin (m + 1)), d0.toList = List.finRange (m + 1) := ⟨(List.finRange (m + 1)).toArray, by simp⟩
    have hds : d0.size = m + 1 := by rw [← Array.length_toList, hd0, List.length_finRange]
    have hbs := block_lt hx
    have eg : ∀ args w, (callFunc 44 args).run Try.prog w = .ok (.enter 44 args) w := enters_of Try.func44 (by kernel_rfl) rfl
    have hH : Go.Sort.Holds (encF (m := m)) w (gb + 1) 0 d0 := by
      intro j hj
      refine ⟨?_, block_frozen w _ _ _ _ hx⟩
      have hj' : j < m + 1 := by omega
      rw [cell_of_row w (gb + 1) (0 + j) _ _ _ hx, Nat.zero_add, blk_get _ _ _ (by rw [intL_len, List.length_range]; exact hj'), getElem!_pos d0 j hj]
      have he : d0[j] = (⟨j, hj'⟩ : Fin (m + 1)) := by
        rw [← Array.getElem_toList]
        simp [hd0]
      rw [he, nth_eq _ _ (by rw [intL_len, List.length_range]; exact hj')]
      simp [intL, encF]
    have hcon := Any.slices_SortFunc Try.sortInts (encF (m := m)) (fun _ => rfl) (cfF l) (swoF l m) 44 #[.pointer (some ⟨gb, 0, none⟩)] (gb + 1) 0 (m + 1) d0 w eg (by rw [hds]; exact order_lays A m c l gb (gb + 1) w hr hn (by omega) hc (by omega) hbs) hH hbs (by omega)
    rw [hds] at hcon
    refine hcon.mono ?_
    rintro e w' ⟨rfl, d', q, os, hp, hs, rfl⟩
    obtain ⟨hsz, hord⟩ := sorted_ord l m hn d0 d' hd0 hp hs
    have hSW : SW (encF (m := m)) w (gb + 1) 0 d' (sortWorld encF w (gb + 1) 0 q d' os) := ⟨q, os, rfl⟩
    have hh := hSW.holds hbs hH (by omega)
    have bel := sortWorld_below (encF (m := m)) w (gb + 1) 0 q d' os (B := gb + 1) (Nat.le_refl _) (by omega)
    refine ⟨rfl, ⟨hwf, fun _ => ⟨gb + 1, 0, rfl, Nat.lt_of_lt_of_le hbs bel.size, fun i hi => ?_⟩⟩, bel⟩
    have hi' : i < d'.size := by rw [intL_len, ordT_len, hn] at hi; omega
    rw [(hh i hi').1, getElem!_pos d' i hi', nth_eq _ _ hi]
    simp only [intL, ← hord, encF, List.getElem_map, Array.getElem_toList]
set_option maxHeartbeats 1000000 in
theorem order_any (A : Option Addr) (n c : Nat) (l : List Tg) (w : World) (hr : VRow w w.heap.size A (flatV tgC l)) (hn : l.length = n) (hb : n ≤ 64) :
    Calls Try.prog 24 #[.slice A n c] w fun e w' => ∃ A2 c2, e = .returned (.slice A2 n c2) ∧ Row .i64 w' w'.heap.size A2 (intL (ordT l)) ∧ Below w.heap.size w w' := by
  have hmk := I.make_i64 n (by omega)
  have HR := Lib.hid hr
  have HN := Lib.hid hn
  have bel0 := bel_alloc w (.cells #[.slice A n c] 36)
  have hz1 : (w.alloc (.cells #[.slice A n c] 36)).heap.size = w.heap.size + 1 := by simp
  clear hr hn
  go_enter Try.func24, Try.ntmps24
  go_wp2
  go_loopw [10] (fun i wr => ∃ k : Nat, k ≤ n ∧ i = .int .i64 k ∧ wr = (w.alloc (.cells #[.slice A n c] 36)).alloc (.cells (blk .i64 (intL (List.range k) ++ List.replicate (n - k) 0)) 3)) (fun i _ => n - (intOf i).toNat)
  case atStart => exact ⟨0, by omega, rfl, by simp [intL]⟩
  case round =>
    obtain ⟨k, hk, rfl, rfl⟩ := hrel
    by_cases hlt : k < n
    · have hc2 := fill_cell .i64 (intL (List.range k)) (n - k) k 0 (by rw [intL_len, List.length_range]) (by omega)
      have HS := Lib.hid (set_step (intL (List.range k)) (n - (k + 1)) k 0 (k : Int) (by rw [intL_len, List.length_range]))
      go_wp2
      go_roundw
      case rel => exact ⟨k + 1, by omega, by go_num, by rw [blk_set, show n - k = (n - (k + 1)) + 1 by omega, HS.out, intL_rng]⟩
      case measure => simp [intOf]; omega
    · obtain rfl : k = n := by omega
      have hx1 := heap_alloc_two w (.cells #[.slice A k c] 36) (.cells (blk .i64 (intL (List.range k) ++ List.replicate (k - k) 0)) 3)
      rw [Nat.sub_self, List.replicate_zero, List.append_nil] at hx1 ⊢
      have hx0 := two_fst w (.cells #[.slice A k c] 36) (.cells (blk .i64 (intL (List.range k))) 3)
      have bel1 := bel0.alloc (by omega) (.cells (blk .i64 (intL (List.range k))) 3)
      have HC := Lib.hid (sort_any A k c l w.heap.size [] _ ((HR.out.below bel1)) HN.out hb (cell_of_row _ _ 0 _ _ _ hx0) hx1)
      have HB := Lib.hid bel1
      clear hx1 hx0 bel0 bel1 hmk
      generalize (w.alloc (.cells #[.slice A k c] 36)).alloc (.cells (blk .i64 (intL (List.range k))) 3) = w1 at *
      go_wp2_with (go_at_call 43; refine HC.out.mono ?_; rintro e w' ⟨rfl, hrow, hbl⟩)
      go_ret
      exact ⟨_, _, rfl, hrow, HB.out.trans (hbl.mono (by omega))⟩
end Go.Proofs.Ytcmbdhmhkfhjfaa
namespace Go.Proofs.Ytcmbdhmhkfhjfaa
open Go.RowKit
set_option linter.unusedVariables false
set_option maxRecDepth 100000
attribute [local go_sem ↓] ldTag_fold stTag_fold bxTag_fold
attribute [local go_sem] bxTag_run

theorem width_t (t : Tg) (w : World) : Calls Try.prog 13 #[tgV t] w fun e w' => e = .returned (.int .i64 (widT t)) ∧ Below w.heap.size w w' := by
  obtain ⟨nm, un, ki, ad, ev, we, sg, sw, mu, di, aa, de, qu, ul, uh, la, lo, hi, hy⟩ := t
  exact Width9_any nm un ki ad ev we sg sw mu di aa de qu ul uh la lo hi hy w
theorem ret_eq {a b : Int} (h : a = b) : Ending.returned (.int .i64 a) = Ending.returned (.int .i64 b) := by rw [h]
set_option maxHeartbeats 2000000 in
theorem count10_any (pu pk pa pc pe : Int) (Pt : Option Addr) (pn pm : Nat) (tg : List Int) (t : Tg) (w : World) (hpa : 0 ≤ pa ∧ pa ≤ 65536) (hpc : 0 ≤ pc ∧ pc ≤ 65536) (hta : 0 ≤ t.ad ∧ t.ad ≤ 65536) :
    Calls Try.prog 26 #[tgV t, .agg #[.int .i64 pu, .int .i64 pk, .int .i64 pa, .int .i64 pc, .int .i64 pe, .slice Pt pn pm]] w fun e w' => e = .returned (.int .i64 (cntJ ⟨pu, pk, pa, pc, pe, tg⟩ t)) ∧ Below w.heap.size w w' := by
  have hx0 := two_fst w (.cells (tgC t).toArray 49) (.cells #[.int .i64 pu, .int .i64 pk, .int .i64 pa, .int .i64 pc, .int .i64 pe, .slice Pt pn pm] 24)
  have hx1 := heap_alloc_two w (.cells (tgC t).toArray 49) (.cells #[.int .i64 pu, .int .i64 pk, .int .i64 pa, .int .i64 pc, .int .i64 pe, .slice Pt pn pm] 24)
  have bel0 := Lib.hid ((bel_alloc w (.cells (tgC t).toArray 49)).alloc (by simp) (.cells #[.int .i64 pu, .int .i64 pk, .int .i64 pa, .int .i64 pc, .int .i64 pe, .slice Pt pn pm] 24))
  have hw := widT_le t
  have hwr1 : IntKind.i64.wrap (t.ad + widT t) = t.ad + widT t := by rw [IntKind.wrap_i64]; omega
  have hwr2 : IntKind.i64.wrap (t.ad + widT t - pa) = t.ad + widT t - pa := by rw [IntKind.wrap_i64]; omega
  have HW : Hid (∀ W : World, Calls Try.prog 13 #[tgV t] W fun e w' => e = .returned (.int .i64 (widT t)) ∧ Below W.heap.size W w') := Lib.hid fun W => width_t t W
  have HM : Hid ((t.ad + widT t - pa < pc ∧ cntJ ⟨pu, pk, pa, pc, pe, tg⟩ t = pc) ∨ (¬ t.ad + widT t - pa < pc ∧ cntJ ⟨pu, pk, pa, pc, pe, tg⟩ t = t.ad + widT t - pa)) := Lib.hid (by
    show (t.ad + widT t - pa < pc ∧ (if t.ad + widT t - pa < pc then pc else t.ad + widT t - pa) = pc) ∨ (¬ t.ad + widT t - pa < pc ∧ (if t.ad + widT t - pa < pc then pc else t.ad + widT t - pa) = t.ad + widT t - pa)
    split <;> omega)
  generalize widT t = wd at *
  generalize cntJ ⟨pu, pk, pa, pc, pe, tg⟩ t = r at *
  go_enter Try.func26, Try.ntmps26
  go_wp2
  have HK : Hid (∀ w9 : World, Below ((w.alloc (.cells (tgC t).toArray 49)).alloc (.cells #[.int .i64 pu, .int .i64 pk, .int .i64 pa, .int .i64 pc, .int .i64 pe, .slice Pt pn pm] 24)).heap.size ((w.alloc (.cells (tgC t).toArray 49)).alloc (.cells #[.int .i64 pu, .int .i64 pk, .int .i64 pa, .int .i64 pc, .int .i64 pe, .slice Pt pn pm] 24)) w9 → (Below ((w.alloc (.cells (tgC t).toArray 49)).alloc (.cells #[.int .i64 pu, .int .i64 pk, .int .i64 pa, .int .i64 pc, .int .i64 pe, .slice Pt pn pm] 24)).heap.size ((w.alloc (.cells (tgC t).toArray 49)).alloc (.cells #[.int .i64 pu, .int .i64 pk, .int .i64 pa, .int .i64 pc, .int .i64 pe, .slice Pt pn pm] 24)) w9 ∧ w9.cell? ⟨w.heap.size, 3, none⟩ = some (.int .i64 t.ad) ∧ (ldTag (.pointer (some ⟨w.heap.size, 0, none⟩))).run Try.prog w9 = .ok (tgV t) w9 ∧ (w9.cell? ⟨w.heap.size + 1, 2, none⟩ = some (.int .i64 pa) ∧ w9.cell? ⟨w.heap.size + 1, 3, none⟩ = some (.int .i64 pc)))) := Lib.hid fun w9 hw => ⟨hw, (tgBox (keepB hw hx0)).2.2.2.1, tgBox_ld (keepB hw hx0), ⟨(of6 (keepB hw hx1)).2.2.1, (of6 (keepB hw hx1)).2.2.2.1⟩⟩
  generalize (w.alloc (.cells (tgC t).toArray 49)).alloc (.cells #[.int .i64 pu, .int .i64 pk, .int .i64 pa, .int .i64 pc, .int .i64 pe, .slice Pt pn pm] 24) = w0 at *
  have belh : ∀ w9 : World, (Below w0.heap.size w0 w9 ∧ w9.cell? ⟨w.heap.size, 3, none⟩ = some (.int .i64 t.ad) ∧ (ldTag (.pointer (some ⟨w.heap.size, 0, none⟩))).run Try.prog w9 = .ok (tgV t) w9 ∧ (w9.cell? ⟨w.heap.size + 1, 2, none⟩ = some (.int .i64 pa) ∧ w9.cell? ⟨w.heap.size + 1, 3, none⟩ = some (.int .i64 pc))) → Below w0.heap.size w0 w9 := fun w9 h => h.1
  go_region_held3 (fun w9 => Below w0.heap.size w0 w9 ∧ w9.cell? ⟨w.heap.size, 3, none⟩ = some (.int .i64 t.ad) ∧ (ldTag (.pointer (some ⟨w.heap.size, 0, none⟩))).run Try.prog w9 = .ok (tgV t) w9 ∧ (w9.cell? ⟨w.heap.size + 1, 2, none⟩ = some (.int .i64 pa) ∧ w9.cell? ⟨w.heap.size + 1, 3, none⟩ = some (.int .i64 pc)))
    ((refine HK.out _ ?_
      repeat' (first
        | with_reducible exact Below.refl _ _
        | with_reducible exact bel5
        | with_reducible exact belh _ (by assumption)
        | with_reducible apply below_drew
        | with_reducible apply below_drewN
        | fail)))
    (first
      | (go_at_call 13; have bh := belh _ (by assumption); refine (HW.out _).mono ?_; rintro e w5 ⟨rfl, b5⟩; have bel5 : Below w0.heap.size w0 w5 := Below.trans bh (b5.mono bh.size))
      | fail)
  have BEL := Lib.hid (bel0.out.trans (bel5.mono bel0.out.size))
  clear HK belh bel5 hx0 hx1 bel0 HW
  go_wp2
  all_goals
    go_ret
    refine ⟨ret_eq ?_, BEL.out⟩
    have hm := HM.out
    omega
end Go.Proofs.Ytcmbdhmhkfhjfaa
