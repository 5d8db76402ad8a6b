/-
  Texts of the proof of SegsOpens, joined.
-/
import Derived.Test.YtbdhhmhlcdganaaGreatDoorJSegsOpensC
import Derived.Test.YtbdhhmhlcdganaaGreatDoorJSegsOpensB
import Derived.Test.YtbdhhmhlcdganaaGreatDoorJSegsOpensA
import Derived.Deep.RegionLaw
import Derived.Test.YtbdhhmhlcdganaaGreatDoorProg
import Derived.IntWalk
import Derived.Maps.RangeWalk
import Derived.Sort.KeysCollected
import Derived.LoopTactic
import Derived.Deep.QuietTactic
namespace Go.Proofs.YtbdhhmhlcdganaaGreatDoor
open Go.RowKit
set_option linter.unusedVariables false
set_option maxRecDepth 100000

theorem row_one (w : World) (a : Int) (h : ∀ x ∈ [a], (Lit.int .u8 x).wf = true) : Row .u8 (w.alloc (.cells #[.int .u8 a] 5)) (w.alloc (.cells #[.int .u8 a] 5)).heap.size (some ⟨w.heap.size, 0, none⟩) [a] := by
  have hx : (w.alloc (.cells #[.int .u8 a] 5)).heap[w.heap.size]? = some (.cells (blk .u8 [a]) 5 (0, 0)) := heap_alloc_new w _
  exact (Row.of_block hx [a] h (List.prefix_refl _)).more (block_lt hx)
theorem new_blocks {G G' : Nat → Prop} {w W W' : World} (f : Frm G W W') (m : ∀ b, G' b → G b ∨ W.heap.size ≤ b) (hG : ∀ b, G b → w.heap.size ≤ b) (hb : Below w.heap.size w W) : (∀ b, G' b → w.heap.size ≤ b) ∧ Below w.heap.size w W' :=
  ⟨fun b hb' => (m b hb').elim (hG b) (fun e => Nat.le_trans hb.size e), f.below hb hb.size hG⟩
set_option maxHeartbeats 2000000 in
theorem works14 {D : DevP} {K : LogP} (Y : DevOkG D) (X : LogOk D K) (w : World) (gl : Gl w) : Calls Tryz.prog 7 #[] w fun e w' => e = .returned (.bool true) ∧ Below w.heap.size w w' := by
  obtain ⟨d0, d1, d2, d3, d4, d5, f0, f1, f2, f3, f4, f5⟩ := wk14
  have H0 : Hid (Calls Tryz.prog 9 #[.int .i64 4096] w fun e w' => ∃ g G, e = .returned (.tuple #[.pointer (some ⟨g, 0, none⟩), .int .i64 0]) ∧ D w' G g (newD 4096) ∧ Below w.heap.size w w' ∧ ∀ b, G b → w.heap.size ≤ b) := Lib.hid (Y.newYes 4096 w gl (by omega))
  have HO : Hid (∀ (W : World) (G : Nat → Prop) (g : Nat), D W G g (newD 4096) → Calls Tryz.prog 10 #[.pointer (some ⟨g, 0, none⟩)] W fun e w' => ∃ q, LStp K G g q d0 ⟨1, 0, [], 0⟩ (.tuple #[.pointer (some ⟨q, 0, none⟩), .int .i64 0]) W e w') := Lib.hid (fun W G g h => X.openYes h (new_ok 4096 (by omega)) f0)
  have HA : Hid (∀ (W : World) (G : Nat → Prop) (g q : Nat), K W G g q d0 ⟨1, 0, [], 0⟩ → Calls Tryz.prog 21 #[.pointer (some ⟨q, 0, none⟩), .slice (some ⟨W.heap.size, 0, none⟩) 1 1] (W.alloc (.cells #[.int .u8 1] 5)) (LStp K G g q d1 ⟨1, 0, [[[1]]], 0⟩ (.tuple #[.int .i64 0, .int .i64 0]) (W.alloc (.cells #[.int .u8 1] 5)))) := Lib.hid (fun W G g q h =>
    X.append (some ⟨W.heap.size, 0, none⟩) 1 1 [1] (X.below h (bel_alloc W _)) (row_one W 1 (by decide)) rfl (by omega) (by omega) (by omega) (fun a ha _ e => by injection ha with ha; subst ha; exact Nat.lt_irrefl _ (X.lt h _ e)) f1)
  have HB : Hid (∀ (W : World) (G : Nat → Prop) (g q : Nat), K W G g q d1 ⟨1, 0, [[[1]]], 0⟩ → Calls Tryz.prog 21 #[.pointer (some ⟨q, 0, none⟩), .slice none 0 0] W (LStp K G g q d2 ⟨1, 0, [[[1], []]], 0⟩ (.tuple #[.int .i64 1, .int .i64 0]) W)) := Lib.hid (fun W G g q h =>
    X.append none 0 0 [] h (Row.nil _ _ _ _) rfl (by omega) (by omega) (by omega) (fun a ha _ e => by cases ha) f2)
  have HS : Hid (∀ (W : World) (G : Nat → Prop) (g q : Nat), K W G g q d2 ⟨1, 0, [[[1], []]], 0⟩ → Calls Tryz.prog 30 #[.pointer (some ⟨q, 0, none⟩)] W (LStp K G g q d3 ⟨1, 0, [[[1], []]], 2⟩ (.int .i64 0) W)) := Lib.hid (fun W G g q h => X.sync h f3)
  have HC : Hid (∀ (W : World) (G : Nat → Prop) (g q : Nat), K W G g q d3 ⟨1, 0, [[[1], []]], 2⟩ → Calls Tryz.prog 21 #[.pointer (some ⟨q, 0, none⟩), .slice (some ⟨W.heap.size, 0, none⟩) 1 1] (W.alloc (.cells #[.int .u8 2] 5)) (LStp K G g q d4 ⟨1, 0, [[[1], [], [2]]], 2⟩ (.tuple #[.int .i64 2, .int .i64 0]) (W.alloc (.cells #[.int .u8 2] 5)))) := Lib.hid (fun W G g q h =>
    X.append (some ⟨W.heap.size, 0, none⟩) 1 1 [2] (X.below h (bel_alloc W _)) (row_one W 2 (by decide)) rfl (by omega) (by omega) (by omega) (fun a ha _ e => by injection ha with ha; subst ha; exact Nat.lt_irrefl _ (X.lt h _ e)) f4)
  have HN : Hid (∀ (W : World) (G : Nat → Prop) (g q : Nat), K W G g q d4 ⟨1, 0, [[[1], [], [2]]], 2⟩ → (Calls Tryz.prog 18 #[.pointer (some ⟨q, 0, none⟩)] W fun e w' => e = .returned (.int .i64 3) ∧ Below W.heap.size W w') ∧ (Calls Tryz.prog 15 #[.pointer (some ⟨q, 0, none⟩)] W fun e w' => e = .returned (.int .i64 2) ∧ Below W.heap.size W w')) := Lib.hid (fun W G g q h => ⟨X.next h, X.safe h⟩)
  have HW : Hid (∀ (W : World) (G : Nat → Prop) (g q : Nat), K W G g q d4 ⟨1, 0, [[[1], [], [2]]], 2⟩ → Calls Tryz.prog 17 #[.pointer (some ⟨g, 0, none⟩), .int .i64 0] W (Stp D G g (wakeD d4 0) (.tuple #[]) W)) := Lib.hid (fun W G g q h => by
    obtain ⟨ok, Gd, hd, hs⟩ := X.dev h
    refine (Y.wake 0 hd ok (by omega)).mono ?_
    rintro e w' ⟨he, G', h1, h2, h3⟩
    exact ⟨he, G', h1, h2.mono hs, fun b hb => (h3 b hb).imp (hs b) id⟩)
  have OK4 : Hid (∀ (W : World) (G : Nat → Prop) (g q : Nat), K W G g q d4 ⟨1, 0, [[[1], [], [2]]], 2⟩ → Dv.Ok (wakeD d4 0)) := Lib.hid (fun W G g q h => wake_ok (X.dev h).1 0)
  have HP : Hid (∀ (W : World) (G : Nat → Prop) (g : Nat), D W G g (wakeD d4 0) → Dv.Ok (wakeD d4 0) → Calls Tryz.prog 10 #[.pointer (some ⟨g, 0, none⟩)] W fun e w' => ∃ q, LStp K G g q d5 ⟨1, 0, [[[1], []]], 2⟩ (.tuple #[.pointer (some ⟨q, 0, none⟩), .int .i64 0]) W e w') := Lib.hid (fun W G g h ok => X.openYes h ok f5)
  have HM : Hid (∀ (W : World) (G : Nat → Prop) (g q : Nat), K W G g q d5 ⟨1, 0, [[[1], []]], 2⟩ → (Calls Tryz.prog 18 #[.pointer (some ⟨q, 0, none⟩)] W fun e w' => e = .returned (.int .i64 2) ∧ Below W.heap.size W w') ∧ (Calls Tryz.prog 15 #[.pointer (some ⟨q, 0, none⟩)] W fun e w' => e = .returned (.int .i64 2) ∧ Below W.heap.size W w') ∧ (Calls Tryz.prog 19 #[.pointer (some ⟨q, 0, none⟩)] W fun e w' => e = .returned (.int .i64 0) ∧ Below W.heap.size W w') ∧ (Calls Tryz.prog 31 #[.pointer (some ⟨q, 0, none⟩), .int .i64 0] W fun e w' => ∃ v, e = .returned (.tuple #[v, .int .i64 0]) ∧ KOwn .u8 5 w' W.heap.size v [1] ∧ Below W.heap.size W w')) := Lib.hid (fun W G g q h => ⟨X.next h, X.safe h, X.first h, X.get 0 h (by omega)⟩)
  have HK : Hid (∀ (W W' : World) (G : Nat → Prop) (g q : Nat) (d : Dv) (l : Lg), K W G g q d l → Below W.heap.size W W' → K W' G g q d l) := Lib.hid (fun W W' G g q d l h hb => X.below h hb)
  generalize hd4 : wakeD d4 0 = dw at *
  clear f0 f1 f2 f3 f4 f5 X Y hd4
  go_enter Tryz.func7, Tryz.ntmps7
  go_wp2_with fail
  refine H0.out.mono ?_
  rintro e w1 ⟨g, G, rfl, h1, b1, n1⟩
  go_wp2_with fail
  refine (HO.out w1 G g h1).mono ?_
  rintro e w2 ⟨q, rfl, G2, k2, f2, m2⟩
  obtain ⟨n2, b2⟩ := new_blocks f2 m2 n1 b1
  clear f2 m2 n1 b1 h1
  go_wp2_with fail
  refine (HA.out w2 G2 g q k2).mono ?_
  rintro e w3 ⟨rfl, G3, k3, f3, m3⟩
  obtain ⟨n3, b3⟩ := new_blocks f3 m3 n2 (b2.alloc b2.size _)
  clear f3 m3 n2 b2 k2
  go_wp2_with fail
  refine (HB.out w3 G3 g q k3).mono ?_
  rintro e w4 ⟨rfl, G4, k4, f4, m4⟩
  obtain ⟨n4, b4⟩ := new_blocks f4 m4 n3 b3
  clear f4 m4 n3 b3 k3
  go_wp2_with fail
  refine (HS.out w4 G4 g q k4).mono ?_
  rintro e w5 ⟨rfl, G5, k5, f5, m5⟩
  obtain ⟨n5, b5⟩ := new_blocks f5 m5 n4 b4
  clear f5 m5 n4 b4 k4
  go_wp2_with fail
  refine (HC.out w5 G5 g q k5).mono ?_
  rintro e w6 ⟨rfl, G6, k6, f6, m6⟩
  obtain ⟨n6, b6⟩ := new_blocks f6 m6 n5 (b5.alloc b5.size _)
  clear f6 m6 n5 b5 k5
  go_wp2_with fail
  refine (HN.out w6 G6 g q k6).1.mono ?_
  rintro e w7 ⟨rfl, e7⟩
  have k7 := HK.out _ _ _ _ _ _ _ k6 e7
  have b7 := b6.trans (e7.mono b6.size)
  clear k6 b6 e7
  go_wp2_with fail
  refine (HN.out w7 G6 g q k7).2.mono ?_
  rintro e w8 ⟨rfl, e8⟩
  have k8 := HK.out _ _ _ _ _ _ _ k7 e8
  have b8 := b7.trans (e8.mono b7.size)
  clear k7 b7 e8
  go_wp2_with fail
  refine (HW.out w8 G6 g q k8).mono ?_
  rintro e w9 ⟨rfl, G9, h9, f9, m9⟩
  have ok9 := OK4.out _ _ _ _ k8
  obtain ⟨n9, b9⟩ := new_blocks f9 m9 n6 b8
  clear f9 m9 n6 b8 k8
  go_wp2_with fail
  refine (HP.out w9 G9 g h9 ok9).mono ?_
  rintro e w10 ⟨q2, rfl, G10, k10, f10, m10⟩
  obtain ⟨n10, b10⟩ := new_blocks f10 m10 n9 b9
  clear f10 m10 n9 b9 h9
  go_wp2_with fail
  refine (HM.out w10 G10 g q2 k10).1.mono ?_
  rintro e w11 ⟨rfl, e11⟩
  have k11 := HK.out _ _ _ _ _ _ _ k10 e11
  have b11 := b10.trans (e11.mono b10.size)
  clear k10 b10 e11
  go_wp2_with fail
  refine (HM.out w11 G10 g q2 k11).2.1.mono ?_
  rintro e w12 ⟨rfl, e12⟩
  have k12 := HK.out _ _ _ _ _ _ _ k11 e12
  have b12 := b11.trans (e12.mono b11.size)
  clear k11 b11 e12
  go_wp2_with fail
  refine (HM.out w12 G10 g q2 k12).2.2.1.mono ?_
  rintro e w13 ⟨rfl, e13⟩
  have k13 := HK.out _ _ _ _ _ _ _ k12 e13
  have b13 := b12.trans (e13.mono b12.size)
  clear k12 b12 e13
  go_wp2_with fail
  refine (HM.out w13 G10 g q2 k13).2.2.2.mono ?_
  rintro e w14 ⟨v, rfl, own, e14⟩
  have b14 := b13.trans (e14.mono b13.size)
  obtain ⟨A6, c6, rfl, row6, _, _⟩ := own.own.row (by decide)
  have bel7 := b14.alloc b14.size (.cells #[.int .u8 1] 5)
  have row7 := row6.below (bel_alloc w14 (.cells #[.int .u8 1] 5))
  clear own row6 e14 b13 k13 b14
  go_wp2_with fail
  refine (same_yes_u8 A6 _ _ c6 _ [1] _ _ _ row7 (row_one w14 1 (by decide)) rfl (by decide)).mono ?_
  rintro e w15 ⟨rfl, m15, rfl⟩
  go_wp2
  go_ret
  exact ⟨rfl, below_drewN bel7 m15⟩
end Go.Proofs.YtbdhhmhlcdganaaGreatDoor
namespace Go.Proofs.YtbdhhmhlcdganaaGreatDoor
open Go.RowKit
set_option linter.unusedVariables false
set_option maxRecDepth 100000

def cut60 (ls : List (List Int)) : List (List Int) := (ls.take 60).map (List.take 1024)
def RwOwn (w0 w : World) (v : Value) (ls : List (List Int)) : Prop :=
  ∃ L : List Value, w.ownsRow w0.heap.size 47 1 v ls.length L ∧ ∀ i, i < ls.length → ∃ A c, L[i]? = some (.slice A (nthB ls i).length c) ∧ Row .u8 w0 w0.heap.size A (nthB ls i) ∧ (nthB ls i).length ≤ c ∧ c ≤ maxLen
theorem RwOwn.nil (w0 w : World) : RwOwn w0 w (.slice none 0 0) [] := ⟨[], World.ownsRow_nil _ _ _ _, fun i hi => absurd hi (by simp)⟩
theorem RwOwn.brow {w0 w : World} {v : Value} {ls : List (List Int)} (h : RwOwn w0 w v ls) (hb : Below w0.heap.size w0 w) : ∃ A c, v = .slice A ls.length c ∧ ls.length ≤ c ∧ BRow w w.heap.size A ls := by
  obtain ⟨L, h1, h2⟩ := h
  obtain ⟨A, c, e, hr, hc, _⟩ := VRow.of_own h1
  refine ⟨A, c, e, hc, fun h0 => ?_⟩
  obtain ⟨A0, c0, hL0, _⟩ := h2 0 h0
  have hLp : 0 < L.length := (List.getElem?_eq_some_iff.1 hL0).1
  obtain ⟨b, o, hA, hlt, hcell⟩ := hr hLp
  refine ⟨b, o, hA, hlt, fun i hi => ?_⟩
  obtain ⟨Ai, ci, hLi, hri, hle, hmx⟩ := h2 i hi
  exact ⟨Ai, ci, hcell i _ hLi, (hri.below hb).more hb.size, hle, hmx⟩
def RwMakes (w : World) (ls : List (List Int)) (e : Ending) (w' : World) : Prop := ∃ v, e = .returned v ∧ RwOwn w w' v ls ∧ Below w.heap.size w w'

end Go.Proofs.YtbdhhmhlcdganaaGreatDoor
namespace Go.Proofs.YtbdhhmhlcdganaaGreatDoor
open Go.RowKit
set_option linter.unusedVariables false

def pick (k : Int) (n : Nat) : Nat := (if k.tmod n < 0 then k.tmod n + n else k.tmod n).toNat
theorem pick_lt (k : Int) (n : Nat) (h : 1 ≤ n) : pick k n < n := by
  have h1 := Int.tmod_lt_of_pos k (show (0 : Int) < n by omega)
  have h2 : -(n : Int) < k.tmod n := by
    have := Int.lt_tmod_of_pos k (show (0 : Int) < n by omega)
    omega
  unfold pick
  split <;> omega
theorem pick_eq (k : Int) (n : Nat) (h : 1 ≤ n) : ((pick k n : Nat) : Int) = if k.tmod n < 0 then k.tmod n + n else k.tmod n := by
  have h2 : -(n : Int) < k.tmod n := by
    have := Int.lt_tmod_of_pos k (show (0 : Int) < n by omega)
    omega
  unfold pick
  split <;> omega
theorem Pick_any (k : Int) (n : Nat) (w : World) (h1 : 1 ≤ n) (hn : n ≤ 140737488355328) :
    Calls Tryz.prog 12 #[.int .i64 k, .int .i64 n] w fun e w' => e = .returned (.int .i64 (pick k n : Nat)) ∧ w = w' := by
  have hp := pick_eq k n h1
  have hlt := Int.tmod_lt_of_pos k (show (0 : Int) < n by omega)
  have hgt : -(n : Int) < k.tmod n := by
    have := Int.lt_tmod_of_pos k (show (0 : Int) < n by omega)
    omega
  obtain ⟨p, hpp⟩ : ∃ p : Int, Hid (((pick k n : Nat) : Int) = p) := ⟨_, Lib.hid rfl⟩
  rw [hpp.out] at hp ⊢
  have HP := Lib.hid hp
  have t1 : ¬ ((n : Int) < 1) := by omega
  clear hp hpp
  by_cases hneg : k.tmod n < 0
  · have hq : Hid (p = k.tmod n + n) := Lib.hid (by rw [HP.out, if_pos hneg])
    go_enter Tryz.func12, Tryz.ntmps12
    go_wp2
    go_ret
    exact ⟨by rw [hq.out]; rfl, rfl⟩
  · have hq : Hid (p = k.tmod n) := Lib.hid (by rw [HP.out, if_neg hneg])
    go_enter Tryz.func12, Tryz.ntmps12
    go_wp2
    go_ret
    exact ⟨by rw [hq.out]; rfl, rfl⟩
end Go.Proofs.YtbdhhmhlcdganaaGreatDoor
namespace Go.Proofs.YtbdhhmhlcdganaaGreatDoor
open Go.RowKit
set_option linter.unusedVariables false
set_option maxRecDepth 100000

def GreatTo (n : Nat) (l : List Lm) (w : World) (e : Ending) (w' : World) : Prop := ∃ b : Bool, e = .returned (.bool b) ∧ w = w' ∧ (b = false → n ≤ 100 ∧ ∀ m ∈ l, m.n ≤ 4096)
theorem great_any (A : Option Addr) (n c : Nat) (l : List Lm) (w : World) (hr : VRow w w.heap.size A (flatV lmC l)) (hn : l.length = n) (hb : n ≤ 4611686018427387904) :
    Calls Tryz.prog 8 #[.slice A n c] w (GreatTo n l w) := by
  by_cases hbig : (n : Int) > 100
  · clear hr
    go_enter Tryz.func8, Tryz.ntmps8
    go_wp2
    go_ret
    exact ⟨true, rfl, rfl, fun h => nomatch h⟩
  have HN := Lib.hid hn
  have HR := Lib.hid hr
  have hn2 : n ≤ 100 := by omega
  clear hn hr hb
  go_enter Tryz.func8, Tryz.ntmps8
  go_wp2
  go_loop [3] (fun i => ∃ k : Nat, k ≤ n ∧ i = .int .i64 k ∧ Hid (∀ j (hj : j < l.length), j < k → l[j].n ≤ 4096)) (fun i => n - (intOf i).toNat)
  case atStart => exact ⟨0, by omega, rfl, Lib.hid (fun j _ hj => absurd hj (by omega))⟩
  case round =>
    obtain ⟨k, hk, rfl, hall⟩ := hrel
    by_cases hlt : k < n
    · have hkl : k < l.length := by have := HN.out; omega
      obtain ⟨b, o, rfl, hb1, hc⟩ := HR.out.elem lmC_len (by omega) hkl
      have c0 := hc 0 _ rfl
      have HNX : Hid (l[k].n ≤ 4096 → ∀ j (hj : j < l.length), j < k + 1 → l[j].n ≤ 4096) := Lib.hid (fun h j hj hj2 => by
        by_cases e : j = k
        · subst e; exact h
        · exact hall.out j hj (by omega))
      clear hc hb1
      generalize l[k] = t at *
      obtain ⟨A', n', c', bs'⟩ := t
      simp only at c0
      rw [Nat.mul_one, Nat.add_zero] at c0
      by_cases g1 : (n' : Int) > 4096
      · go_wp2
        go_ret
        exact ⟨true, rfl, rfl, fun h => nomatch h⟩
      go_wp2
      go_round
      case rel => exact ⟨k + 1, by omega, by go_num, Lib.hid (HNX.out (by show n' ≤ _; omega))⟩
      case measure => simp [intOf]; omega
    · obtain rfl : k = n := by omega
      go_wp2
      go_ret
      exact ⟨false, rfl, rfl, fun _ => ⟨hn2, fun m hm => by
        obtain ⟨j, hj, rfl⟩ := List.mem_iff_getElem.1 hm
        exact hall.out j hj (by have := HN.out; omega)⟩⟩
theorem SgIs.few {d : Dv} {l : Lg} (h : SgIs d l) : l.segs.length ≤ 64 := few_files h.ok l.n l.segs.length fun i hi => by
  obtain ⟨y, h1, _⟩ := h.at_ i hi
  rw [h1]; simp
theorem RwOwn.frm {F : Nat → Prop} {w0 w w' : World} {v : Value} {ls : List (List Int)} (h : RwOwn w0 w v ls) (hf : Frm F w w') (hn : ∀ b, v.ownBlock = some b → ¬ F b) : RwOwn w0 w' v ls := by
  obtain ⟨L, h1, h2⟩ := h
  refine ⟨L, ⟨h1.1, ?_⟩, h2⟩
  rcases h1.2 with h3 | ⟨g, cap, cur, hv, h4, h5, h6⟩
  · exact .inl h3
  · exact .inr ⟨g, cap, cur, hv, h4, (hf.block g (block_lt h5) (hn g (by rw [hv]; rfl))).trans h5, h6⟩
theorem RwOwn.app2 {w0 W : World} {v : Value} {ls : List (List Int)} (h : RwOwn w0 W v ls) (hb : Below w0.heap.size w0 W) (hlen : ls.length ≤ 1000) (g : Nat) (A : Option Addr) (m c : Nat) (p : List Int) (hg : W.heap[g]? = some (.cells #[.slice A m c] 47 (0, 0))) (hp : Row .u8 w0 w0.heap.size A p) (hm : p.length = m) (hc : m ≤ c) (hcm : c ≤ maxLen) :
    ∃ v' w', (∀ ty, (Builtin.append_ #[22, 22] ty #[v, .slice (some ⟨g, 0, none⟩) 1 1]).run Tryz.prog W = .ok v' w') ∧ RwOwn w0 w' v' (ls ++ [p]) ∧ Below w0.heap.size w0 w' ∧ Frm (fun b => v.ownBlock = some b) W w' := by
  obtain ⟨i, hi1, hz, hsz, hby⟩ := info_parts info_l8
  obtain ⟨L, h1, h2⟩ := h
  have hnews : ∀ j u, [Value.slice A m c][j]? = some u → W.cell? ((⟨g, 0, none⟩ : Addr).add j) = some u := by
    intro j u hu
    rw [Go.WideShapes.add_plain, Nat.zero_add, cell_of_row W g j _ _ _ hg]
    simpa using hu
  obtain ⟨v', w', hrun, r1, r2, _⟩ := run_append_own (P := Tryz.prog) W w0.heap.size 22 0 47 i _ 1 24 Tryz.underlying22 hi1 hz hsz hby rfl (by omega) v ls.length L h1 ⟨g, 0, none⟩ 1 1 [.slice A m c] rfl hnews (by simp [Value.oneCell']) (by unfold maxLen; omega) (by omega) hb.size
  have hLl : L.length = ls.length := by have := h1.1; omega
  refine ⟨v', w', fun ty => hrun, ⟨L ++ [.slice A m c], by rw [List.length_append]; exact r1, fun j hj => ?_⟩, hb.grown r2 hb.size fun q e => (World.ownsRow.lt h1 q e).1, ⟨r2.os, r2.tape, r2.output, r2.size, fun k hk hn => r2.block k hk (fun e => hn e.symm)⟩⟩
  rw [List.length_append] at hj
  by_cases hlt : j < ls.length
  · obtain ⟨Aj, cj, hLj, hr⟩ := h2 j hlt
    have he : nthB (ls ++ [p]) j = nthB ls j := by rw [nthB_eq _ _ (by rw [List.length_append]; omega), nthB_eq _ _ hlt, List.getElem_append_left hlt]
    rw [he]
    exact ⟨Aj, cj, by rw [List.getElem?_append_left (by omega)]; exact hLj, hr⟩
  · obtain rfl : j = ls.length := by simp at hj; omega
    have he : nthB (ls ++ [p]) ls.length = p := by rw [nthB_eq _ _ (by simp)]; simp
    rw [he, hm]
    exact ⟨A, c, by rw [← hLl]; simp, hp, hc, hcm⟩
theorem RwOwn.app_block {w0 W w' : World} {v v' : Value} {ls : List (List Int)} (h : RwOwn w0 W v ls) (hlen : ls.length ≤ 1000) (g : Nat) (A : Option Addr) (m c : Nat) (hg : W.heap[g]? = some (.cells #[.slice A m c] 47 (0, 0))) {ty : TypeId}
    (hrun : (Builtin.append_ #[22, 22] ty #[v, .slice (some ⟨g, 0, none⟩) 1 1]).run Tryz.prog W = .ok v' w') : ∀ b, v'.ownBlock = some b → v.ownBlock = some b ∨ W.heap.size ≤ b := by
  obtain ⟨i, hi1, hz, hsz, hby⟩ := info_parts info_l8
  obtain ⟨L, h1, h2⟩ := h
  have hnews : ∀ j u, [Value.slice A m c][j]? = some u → W.cell? ((⟨g, 0, none⟩ : Addr).add j) = some u := by
    intro j u hu
    rw [Go.WideShapes.add_plain, Nat.zero_add, cell_of_row W g j _ _ _ hg]
    simpa using hu
  have hnl : [Value.slice A m c].length = 1 * i.size := by rw [hsz]; rfl
  have hLl : L.length = ls.length := by have := h1.1; omega
  rcases h1.2 with ⟨rfl, h0⟩ | ⟨q, cap, cur, rfl, hb, hq, h4, h5, h6, h7⟩
  · have r := run_append_nil (P := Tryz.prog) W 22 ty 47 i _ Tryz.underlying22 hi1 hz ⟨g, 0, none⟩ 1 1 [.slice A m c] hnl hnews (by omega) (by omega) (by rw [hby]; omega)
    rw [hrun] at r
    injection r with e1 e2
    subst e1
    intro b hb
    injection hb with hb
    have hb2 : W.heap.size = b := hb
    exact .inr (by omega)
  · by_cases hroom : ls.length + 1 ≤ cap
    · have r := run_append_room (P := Tryz.prog) W 22 ty 47 i Tryz.underlying22 hi1 q ls.length cap cur hq ⟨g, 0, none⟩ 1 1 [.slice A m c] hnl hnews (by simp [Value.oneCell']) hroom (by rw [h6, hsz]; simp; omega)
      rw [hrun] at r
      injection r with e1 e2
      subst e1
      intro b hb
      exact .inl hb
    · have holds : ∀ j u, L[j]? = some u → W.cell? ((⟨q, 0, none⟩ : Addr).add j) = some u := World.ownsRow.cells h1 (g := q) rfl
      have hc : cap ≤ 1001 := by omega
      have r := run_append_grow (P := Tryz.prog) W 22 ty 47 i _ Tryz.underlying22 hi1 hz ⟨q, 0, none⟩ ls.length cap L (by rw [hsz, Nat.mul_one]; exact hLl) holds ⟨g, 0, none⟩ 1 1 [.slice A m c] hnl hnews (by omega) (by omega) (growslice_fits (by omega) (by rw [hby]; omega))
      rw [hrun] at r
      injection r with e1 e2
      subst e1
      intro b hb
      injection hb with hb
      have hb2 : W.heap.size = b := hb
      exact .inr (by omega)
structure FullTo (K : LogP) (g q : Nat) (G : Nat → Prop) (d : Dv) (l : Lg) (all : List (List Int)) (k : Nat) (v : Value) (w wr : World) : Prop where
  log : K wr G g q d l
  new : ∀ b, G b → w.heap.size ≤ b
  bel : Below w.heap.size w wr
  own : RwOwn w wr v all
  off : ∀ b, v.ownBlock = some b → ¬ G b
  is : SgIs d l
  n1 : l.n = 1
  f0 : l.first = 0
  fl : l.segs.flatten = all
  len : all.length ≤ k
  mem : ∀ p ∈ all, p.length ≤ 1024
theorem FullTo.below {D : DevP} {K : LogP} (X : LogOk D K) {g q : Nat} {G : Nat → Prop} {d : Dv} {l : Lg} {all : List (List Int)} {k : Nat} {v : Value} {w wr W : World} (h : FullTo K g q G d l all k v w wr) (hb : Below wr.heap.size wr W) : FullTo K g q G d l all k v w W :=
  ⟨X.below h.log hb, h.new, h.bel.trans (hb.mono h.bel.size), h.own.frm (F := fun _ => False) (Frm.of_below hb) (fun _ _ e => e), h.off, h.is, h.n1, h.f0, h.fl, h.len, h.mem⟩
theorem RwOwn.block {w0 w : World} {v : Value} {ls : List (List Int)} (h : RwOwn w0 w v ls) : ∀ b, v.ownBlock = some b → w0.heap.size ≤ b ∧ b < w.heap.size := by
  obtain ⟨L, h1, _⟩ := h
  exact World.ownsRow.lt h1
theorem FullTo.step {K : LogP} {g q : Nat} {G : Nat → Prop} {d d' : Dv} {l l' : Lg} {all : List (List Int)} {k k' : Nat} {v r : Value} {w wr W : World} {e : Ending} (h : FullTo K g q G d l all k v w wr) (s : LStp K G g q d' l' r wr e W) (is : SgIs d' l') (n1 : l'.n = 1) (f0 : l'.first = 0) (fl : l'.segs.flatten = all) (hk : k ≤ k') : ∃ G', FullTo K g q G' d' l' all k' v w W := by
  obtain ⟨_, G', s1, s2, s3⟩ := s
  refine ⟨G', s1, fun b hb => (s3 b hb).elim (h.new b) (fun e => Nat.le_trans h.bel.size e), s2.below h.bel h.bel.size h.new, h.own.frm s2 h.off, fun b hb e => (s3 b e).elim (h.off b hb) (fun e => ?_), is, n1, f0, fl, Nat.le_trans h.len hk, h.mem⟩
  have := (h.own.block b hb).2
  omega
theorem FullTo.grow {D : DevP} {K : LogP} (X : LogOk D K) {w : World} (gl : Gl w) {g q : Nat} {G : Nat → Prop} {d d' : Dv} {l l' : Lg} {all : List (List Int)} {k : Nat} {v r : Value} {wr W W2 : World} {e : Ending} (h : FullTo K g q G d l all k v w wr) (hk : k ≤ 1000) (s : LStp K G g q d' l' r wr e W) (is : SgIs d' l') (n1 : l'.n = 1) (f0 : l'.first = 0)
    {p : List Int} (fl : l'.segs.flatten = all ++ [p]) (hW : Below W.heap.size W W2) (gg : Nat) (A : Option Addr) (m c : Nat) (hg : W2.heap[gg]? = some (.cells #[.slice A m c] 47 (0, 0))) (hp : Row .u8 w w.heap.size A p) (hm : p.length = m) (hc : m ≤ c) (hcm : c ≤ maxLen) (hpl : p.length ≤ 1024) :
    ∃ G' v' w', (∀ ty, (Builtin.append_ #[22, 22] ty #[v, .slice (some ⟨gg, 0, none⟩) 1 1]).run Tryz.prog W2 = .ok v' w') ∧ FullTo K g q G' d' l' (all ++ [p]) (k + 1) v' w w' := by
  obtain ⟨_, G', s1, s2, s3⟩ := s
  have hlen := h.len
  have bW : Below w.heap.size w W := s2.below h.bel h.bel.size h.new
  have o1 : RwOwn w W v all := h.own.frm s2 h.off
  have o2 : RwOwn w W2 v all := o1.frm (F := fun _ => False) (Frm.of_below hW) (fun _ _ e => e)
  have bW2 : Below w.heap.size w W2 := bW.trans (hW.mono bW.size)
  have offW : ∀ b, v.ownBlock = some b → ¬ G' b := fun b hb e => (s3 b e).elim (h.off b hb) (fun e => by have := (h.own.block b hb).2; omega)
  obtain ⟨v', w', r1, r2, r3, r4⟩ := o2.app2 bW2 (by omega) gg A m c p hg hp hm hc hcm
  have k2 := X.below s1 hW
  have k3 : K w' G' g q d' l' := X.frm k2 r4 (fun b hb e => offW b e hb) (gl.below r3)
  refine ⟨G', v', w', r1, k3, fun b hb => (s3 b hb).elim (h.new b) (fun e => Nat.le_trans h.bel.size e), r3, r2, fun b hb e => ?_, is, n1, f0, fl, by simp; omega, fun x hx => ?_⟩
  · rcases o2.app_block (by omega) gg A m c hg (r1 0) b hb with e' | e'
    · exact offW b e' e
    · have := X.lt k2 b e
      omega
  · rcases List.mem_append.1 hx with hx | hx
    · exact h.mem x hx
    · rw [List.mem_singleton.1 hx]; exact hpl
end Go.Proofs.YtbdhhmhlcdganaaGreatDoor
namespace Go.Proofs.YtbdhhmhlcdganaaGreatDoor
open Go.RowKit
set_option linter.unusedVariables false
set_option maxRecDepth 100000

theorem appD_else {d : Dv} (ok : Dv.Ok d) (t : ByteArray) (b : List Int) (hb : ∀ x ∈ b, (Lit.int .u8 x).wf = true) {s : ByteArray} (h : s ≠ t) : lkF (appD d t b).1 s = lkF d s := by
  obtain ⟨d', e, q, _, h1⟩ := app_step ok t b hb
  rw [q]
  rcases h1 with ⟨hn, _⟩ | ⟨_, _, _, _, _, hlk⟩
  · show lkF d' s = _
    rw [hn.lk]
  · show lkF d' s = _
    rw [hlk, if_neg h]
theorem app_else {d : Dv} {l : Lg} (h : SgIs d l) (p : List Int) (hw : ∀ x ∈ p, (Lit.int .u8 x).wf = true) {s : ByteArray} (hs : ∀ m, s ≠ segN m) : lkF (appG d l p).1 s = none ↔ lkF d s = none := by
  unfold appG
  split
  · exact Iff.rfl
  split
  · exact Iff.rfl
  split
  · exact Iff.rfl
  rename_i _ hp _
  have hcw := ckL_wf (p := p) (by omega) hw
  split
  · obtain ⟨d1, l1, e1, q1, s1, s2, s3, s4, s5, s6, s7, s8, s9, s10⟩ := sync_is h
    rw [q1]
    simp only
    split
    · have := appD_else s5.ok (segN (putN l)) (ckL p) hcw (hs (putN l))
      split
      · show lkF (appD d1 _ _).1 s = none ↔ _
        rw [this]; exact s8 s
      · show lkF (appD d1 _ _).1 s = none ↔ _
        rw [this]; exact s8 s
    · exact s8 s
  · unfold putG
    have := appD_else h.ok (segN (putN l)) (ckL p) hcw (hs (putN l))
    split
    · show lkF (appD d _ _).1 s = none ↔ _
      rw [this]
    · show lkF (appD d _ _).1 s = none ↔ _
      rw [this]
def PwOn (d d' : Dv) : Prop := d.left = -1 ∧ d.off = false → d'.left = -1 ∧ d'.off = false
theorem PwOn.trans {a b c : Dv} (h : PwOn a b) (h' : PwOn b c) : PwOn a c := fun x => h' (h x)
theorem fill_step {d : Dv} {l : Lg} {all : List (List Int)} (h : SgIs d l) (hl : l.n = 1) (hf : l.first = 0) (ha : l.segs.flatten = all) (hd : lkF d headN = none) (p : List Int) (hw : ∀ x ∈ p, (Lit.int .u8 x).wf = true) :
    ∃ d' l' a E, appG d l p = (d', l', a, E) ∧ SgIs d' l' ∧ l'.n = 1 ∧ l'.first = 0 ∧ lkF d' headN = none ∧ PwOn d d' ∧
      ((E = 0 ∧ a = (all.length : Int) ∧ l'.segs.flatten = all ++ [p] ∧ p.length ≤ 1024) ∨ (E ≠ 0 ∧ l'.segs.flatten = all)) := by
  have he := (app_else h p hw (fun m e => segN_head m e.symm)).2 hd
  obtain ⟨d', l', a, E, q, r1, r2, r3, r4, r5, r6, r7⟩ := app_is h p hw
  rw [q] at he
  have hnx : nextG l = all.length := by unfold nextG; rw [hf, cntS_flat, ha]; omega
  refine ⟨d', l', a, E, q, r1, by rw [r2, hl], by rw [r3, hf], he, fun ⟨h1, h2⟩ => ⟨r6 h1, ?_⟩, ?_⟩
  · rcases r7 with ⟨rfl, r8, r9, r10, r11, r12, r13⟩ | ⟨r8, rfl, r10, r11, r12⟩
    · exact r12
    · rcases r12 with ⟨rfl, _, rfl⟩ | ⟨rfl, r13, r14⟩ | ⟨rfl, _, r13⟩ | ⟨rfl, r13, rfl⟩
      · exact h2
      · exact r13
      · rcases r13 with r13 | r13
        · rw [h2] at r13; cases r13
        · omega
      · exact h2
  · rcases r7 with ⟨rfl, r8, r9, r10, r11, r12, r13⟩ | ⟨r8, rfl, r10, r11, r12⟩
    · exact .inl ⟨rfl, by rw [r8, hnx], by rw [r9, addS_flat, ha], r10⟩
    · exact .inr ⟨r8, by rw [r10, ha]⟩
theorem fill_sync {d : Dv} {l : Lg} (h : SgIs d l) (hd : lkF d headN = none) :
    ∃ d' l' E, syncG d l = (d', l', E) ∧ SgIs d' l' ∧ l'.n = l.n ∧ l'.first = l.first ∧ l'.segs = l.segs ∧ lkF d' headN = none ∧ PwOn d d' ∧ ((E = 0 ∧ l'.safe = nextG l') ∨ E = 10) := by
  obtain ⟨d1, l1, e1, q1, s1, s2, s3, s4, s5, s6, s7, s8, s9, s10⟩ := sync_is h
  refine ⟨d1, l1, e1, q1, s5, s2, s3, s1, (s8 _).2 hd, fun ⟨h1, h2⟩ => ⟨s10 h1, ?_⟩, ?_⟩
  · rcases s9 with ⟨_, _, _, h3⟩ | ⟨_, _, _, h3⟩
    · exact h3
    · rcases h3 with h3 | h3
      · rw [h2] at h3; cases h3
      · omega
  · rcases s9 with ⟨rfl, h3, _, _⟩ | ⟨rfl, _⟩
    · exact .inl ⟨rfl, by rw [h3]; unfold nextG; rw [s1, s3]⟩
    · exact .inr rfl
def FillTo (K : LogP) (g q : Nat) (d0 : Dv) (k : Nat) (A0 : Option Addr) (n0 c0 : Nat) (w wr : World) : Prop := ∃ G d l all, FullTo K g q G d l all k (.slice A0 n0 c0) w wr ∧ lkF d headN = none ∧ PwOn d0 d ∧ n0 = all.length
set_option maxHeartbeats 8000000 in
theorem fill_any {D : DevP} {K : LogP} (X : LogOk D K) {w : World} (gl : Gl w) (A : Option Addr) (n c : Nat) (l : List Lm) (SA : Option Addr) (sn sc : Nat) (ss : List Bool) (w0 : World) (hr : VRow w w.heap.size A (flatV lmC l)) (hn : l.length = n) (hb : n ≤ 100) (hok : ∀ m ∈ l, Lm.Ok w w.heap.size m) (hsm : ∀ m ∈ l, m.n ≤ 4096)
    (hsr : L.Row () w w.heap.size SA ss) (hsn : ss.length = sn) (hsb : sn ≤ 140737488351232) {g q : Nat} {G : Nat → Prop} {d : Dv} {lg : Lg} (hfu : FullTo K g q G d lg [] 0 (.slice none 0 0) w w0) (hd : lkF d headN = none) :
    Calls Tryz.prog 13 #[.pointer (some ⟨q, 0, none⟩), .slice A n c, .slice SA sn sc] w0 fun e w' => ∃ A0 n0 c0, e = .returned (.tuple #[.slice A0 n0 c0, .bool true]) ∧ FillTo K g q d n A0 n0 c0 w w' := by
  have HI : Hid (FillTo K g q d 0 none 0 0 w w0) := Lib.hid ⟨G, d, lg, [], hfu, hd, fun x => x, rfl⟩
  have HR := Lib.hid hr
  have HN := Lib.hid hn
  have HO := Lib.hid hok
  have HX := Lib.hid X
  have HGL := Lib.hid gl
  have HSM := Lib.hid hsm
  have HSR := Lib.hid hsr
  have HSN := Lib.hid hsn
  clear hr hn hok X hsm hsr hsn hfu hd gl
  have HSY : Hid (∀ k A0 n0 c0 W, FillTo K g q d k A0 n0 c0 w W → Calls Tryz.prog 30 #[.pointer (some ⟨q, 0, none⟩)] W fun e w' => ∃ E, e = .returned (.int .i64 E) ∧ FillTo K g q d k A0 n0 c0 w w' ∧ ((E = 0 ∧ ∃ s : Int, (∀ W, Below w'.heap.size w' W → Calls Tryz.prog 15 #[.pointer (some ⟨q, 0, none⟩)] W fun e w2 => e = .returned (.int .i64 s) ∧ Below W.heap.size W w2) ∧ (∀ W, Below w'.heap.size w' W → Calls Tryz.prog 18 #[.pointer (some ⟨q, 0, none⟩)] W fun e w2 => e = .returned (.int .i64 s) ∧ Below W.heap.size W w2)) ∨ E = 10)) := Lib.hid fun k A0 n0 c0 W ⟨G1, d1, l1, all, f1, f2, f3, f4⟩ => by
    obtain ⟨d2, l2, E, q2, s1, s2, s3, s4, s5, s6, s7⟩ := fill_sync f1.is f2
    refine (HX.out.sync f1.log q2).mono ?_
    rintro e w' hst
    have he := hst.1
    have hk := hst.2
    obtain ⟨G2, f5⟩ := f1.step hst s1 (by rw [s2, f1.n1]) (by rw [s3, f1.f0]) (by rw [s4, f1.fl]) (Nat.le_refl k)
    refine ⟨E, he, ⟨G2, d2, l2, all, f5, s5, f3.trans s6, f4⟩, ?_⟩
    rcases s7 with ⟨rfl, s8⟩ | rfl
    · refine .inl ⟨rfl, (l2.safe : Int), fun W hW => HX.out.safe (HX.out.below f5.log hW), fun W hW => ?_⟩
      have := HX.out.next (HX.out.below f5.log hW)
      rw [← s8] at this
      exact this
    · exact .inr rfl
  have HFB : Hid (∀ k A0 n0 c0 W W', FillTo K g q d k A0 n0 c0 w W → Below W.heap.size W W' → FillTo K g q d k A0 n0 c0 w W') := Lib.hid fun k A0 n0 c0 W W' ⟨G1, d1, l1, all, f1, f2, f3, f4⟩ hb => ⟨G1, d1, l1, all, f1.below HX.out hb, f2, f3, f4⟩
  have HBE : Hid (∀ k A0 n0 c0 W, FillTo K g q d k A0 n0 c0 w W → Below w.heap.size w W) := Lib.hid fun k A0 n0 c0 W ⟨G1, d1, l1, all, f1, f2, f3, f4⟩ => f1.bel
  go_enter Tryz.func13, Tryz.ntmps13
  go_wp2
  go_loopw [8, 9, 10, 11] (fun v i _ _ wr => ∃ k : Nat, k ≤ n ∧ i = .int .i64 k ∧ ∃ A0 n0 c0, v = .slice A0 n0 c0 ∧ Hid (FillTo K g q d k A0 n0 c0 w wr)) (fun _ i _ _ _ => n - (intOf i).toNat)
  case atStart => exact ⟨0, by omega, rfl, none, 0, 0, rfl, HI⟩
  case round =>
    obtain ⟨k, hk, rfl, A0, n0, c0, rfl, hrel⟩ := hrel
    clear HI
    by_cases hlt : k < n
    · have hkl : k < l.length := by rw [HN.out]; exact hlt
      obtain ⟨b, o, rfl, hbw, hc⟩ := HR.out.elem lmC_len (by omega) hkl
      have hm := HO.out _ (List.getElem_mem hkl)
      have hsm := HSM.out _ (List.getElem_mem hkl)
      obtain ⟨m, hmm⟩ : ∃ m, l[k] = m := ⟨_, rfl⟩
      rw [hmm] at hc hm hsm
      obtain ⟨A', n', c', bs⟩ := m
      have HC := Lib.hid (hc 0 _ rfl)
      have e0 := ((HBE.out _ _ _ _ _ hrel.out).cell (p := ⟨b, o + k * 1 + 0, none⟩) hbw).trans HC.out
      have hmr := hm.row
      have hml := hm.len
      have hle := hm.le
      have hcap := hm.cap
      simp only at e0 hmr hml hle hcap hsm
      rw [Nat.mul_one, Nat.add_zero] at e0 HC
      have i3 : (k : Int) < (n : Int) := by omega
      have HAPP : Hid (Calls Tryz.prog 21 #[.pointer (some ⟨q, 0, none⟩), .slice A' n' c'] wr fun e w' => ∃ a1 E1, e = .returned (.tuple #[.int .i64 a1, .int .i64 E1]) ∧ Below w.heap.size w w' ∧ ((E1 = 0 ∧ a1 = (n0 : Int) ∧ n0 ≤ k ∧ ∀ W, Below w'.heap.size w' W → ∃ A1 n1 q1 w2, (∀ ty, (Builtin.append_ #[22, 22] ty #[.slice A0 n0 c0, .slice (some ⟨W.heap.size, 0, none⟩) 1 1]).run Tryz.prog (W.alloc (.cells #[.slice A' n' c'] 47)) = .ok (.slice A1 n1 q1) w2) ∧ FillTo K g q d (k + 1) A1 n1 q1 w w2) ∨ (E1 ≠ 0 ∧ FillTo K g q d (k + 1) A0 n0 c0 w w'))) := Lib.hid (by
        obtain ⟨G1, d1, l1, all, f1, f2, f3, f4⟩ := hrel.out
        have hlen := f1.len
        obtain ⟨d2, l2, a2, E2, q2, s1, s2, s3, s4, s5, s6⟩ := fill_step f1.is f1.n1 f1.f0 f1.fl f2 bs hmr.1
        refine (HX.out.append A' n' c' bs f1.log ((hmr.below f1.bel).more f1.bel.size) hml hle hcap hsm (fun a ha hp e => by
          obtain ⟨b', o', e1, e2, _⟩ := hmr.2 (by rw [hml]; exact hp)
          rw [ha] at e1
          injection e1 with e1
          subst e1
          have := f1.new _ e
          simp only at this
          omega) q2).mono ?_
        rintro e w' hst
        refine ⟨a2, E2, hst.1, ?_, ?_⟩
        · obtain ⟨_, G3, _, h2, _⟩ := hst
          exact h2.below f1.bel f1.bel.size f1.new
        · rcases s6 with ⟨rfl, rfl, s7, s8⟩ | ⟨s7, s8⟩
          · refine .inl ⟨rfl, by rw [f4], by omega, fun W hW => ?_⟩
            have hW2 := hW.alloc hW.size (.cells #[.slice A' n' c'] 47)
            obtain ⟨G', v', w2, r1, r2⟩ := f1.grow HX.out HGL.out (by omega) hst s1 s2 s3 s7 hW2 W.heap.size A' n' c' (heap_alloc_new W _) hmr hml hle (by unfold maxLen; omega) s8
            obtain ⟨A1, c1, rfl, _⟩ := r2.own.brow r2.bel
            exact ⟨A1, _, c1, w2, r1, ⟨_, _, _, _, r2, s4, f3.trans s5, rfl⟩⟩
          · obtain ⟨G', h⟩ := f1.step hst s1 s2 s3 s8 (Nat.le_succ k)
            exact .inr ⟨s7, ⟨_, _, _, _, h, s4, f3.trans s5, f4⟩⟩)
      clear hmm hc hm hmr hml hrel hsm hle hcap
      go_wp2_with fail
      refine HAPP.out.mono ?_
      rintro e w2 ⟨a1, E1, rfl, b2, hE⟩
      have HB2 := Lib.hid b2
      have e2 := (b2.cell (p := ⟨b, o + k, none⟩) hbw).trans HC.out
      clear e0 b2 HAPP
      rcases hE with ⟨rfl, rfl, hn0, hgr⟩ | ⟨hE, hfi⟩
      · obtain ⟨A1, n1, q1, w3, hrun, hfi⟩ := hgr w2 (Below.refl _ _)
        have HF := Lib.hid hfi
        have hE1b : (0 : Int) = 0 := rfl
        clear hgr hfi
        have HS3 := Lib.hid (HSY.out _ _ _ _ _ HF.out)
        by_cases hks : k < sn
        · have hks1 : decide ((k : Int) < (sn : Int)) = true := decide_eq_true (by omega)
          have hks2 : (k : Int) < (sn : Int) := by omega
          have hkss : k < ss.length := by have := HSN.out; omega
          obtain ⟨sb, so, rfl, hsbw, hsc⟩ := HSR.out.2 (by omega)
          have s0 := ((HBE.out _ _ _ _ _ HF.out).cell (p := ⟨sb, so + k, none⟩) hsbw).trans (hsc k hkss)
          clear hsc
          generalize L.nth ss k = want at s0
          cases want with
          | false =>
            go_wp2_with (at_builtin; refine wpList_append_run _ rfl _ _ 22 rfl _ _ _ _ rfl rfl hrun ?_)
            go_roundw
            case rel => exact ⟨k + 1, by omega, by go_num, A1, n1, q1, rfl, HF⟩
            case measure => simp [intOf]; omega
          | true =>
            go_wp2_with (at_builtin; refine wpList_append_run _ rfl _ _ 22 rfl _ _ _ _ rfl rfl hrun ?_)
            refine HS3.out.mono ?_
            rintro e w4 ⟨E4, rfl, f4, h4⟩
            clear s0 e2
            rcases h4 with ⟨rfl, s, hsa, hne⟩ | rfl
            · have HF4 := Lib.hid f4
              have HSA := Lib.hid (hsa w4 (Below.refl _ _))
              have HNE := Lib.hid hne
              clear f4 hsa hne HF
              go_wp2_with fail
              refine HSA.out.mono ?_
              rintro e w5 ⟨rfl, b5⟩
              have HN5 := Lib.hid (HNE.out w5 b5)
              have HF5 := Lib.hid (HFB.out _ _ _ _ _ _ HF4.out b5)
              clear b5 HF4 HNE HSA
              go_wp2_with fail
              refine HN5.out.mono ?_
              rintro e w6 ⟨rfl, b6⟩
              have HF6 := Lib.hid (HFB.out _ _ _ _ _ _ HF5.out b6)
              clear b6 HF5 HN5
              go_wp2
              go_roundw
              case rel => exact ⟨k + 1, by omega, by go_num, A1, n1, q1, rfl, HF6⟩
              case measure => simp [intOf]; omega
            · have HF4 := Lib.hid f4
              clear f4 HF
              go_wp2
              go_roundw
              case rel => exact ⟨k + 1, by omega, by go_num, A1, n1, q1, rfl, HF4⟩
              case measure => simp [intOf]; omega
        · have hks1 : decide ((k : Int) < (sn : Int)) = false := decide_eq_false (by omega)
          go_wp2_with (at_builtin; refine wpList_append_run _ rfl _ _ 22 rfl _ _ _ _ rfl rfl hrun ?_)
          go_roundw
          case rel => exact ⟨k + 1, by omega, by go_num, A1, n1, q1, rfl, HF⟩
          case measure => simp [intOf]; omega
      · have HF := Lib.hid hfi
        have hE1b : (E1 == 0) = false := beq_false_of_ne hE
        clear hfi
        have HS3 := Lib.hid (HSY.out _ _ _ _ _ HF.out)
        by_cases hks : k < sn
        · have hks1 : decide ((k : Int) < (sn : Int)) = true := decide_eq_true (by omega)
          have hks2 : (k : Int) < (sn : Int) := by omega
          have hkss : k < ss.length := by have := HSN.out; omega
          obtain ⟨sb, so, rfl, hsbw, hsc⟩ := HSR.out.2 (by omega)
          have s0 := ((HBE.out _ _ _ _ _ HF.out).cell (p := ⟨sb, so + k, none⟩) hsbw).trans (hsc k hkss)
          clear hsc
          generalize L.nth ss k = want at s0
          cases want with
          | false =>
            go_wp2
            go_roundw
            case rel => exact ⟨k + 1, by omega, by go_num, A0, n0, c0, rfl, HF⟩
            case measure => simp [intOf]; omega
          | true =>
            go_wp2_with fail
            refine HS3.out.mono ?_
            rintro e w4 ⟨E4, rfl, f4, h4⟩
            clear s0 e2
            rcases h4 with ⟨rfl, s, hsa, hne⟩ | rfl
            · have HF4 := Lib.hid f4
              have HSA := Lib.hid (hsa w4 (Below.refl _ _))
              have HNE := Lib.hid hne
              clear f4 hsa hne HF
              go_wp2_with fail
              refine HSA.out.mono ?_
              rintro e w5 ⟨rfl, b5⟩
              have HN5 := Lib.hid (HNE.out w5 b5)
              have HF5 := Lib.hid (HFB.out _ _ _ _ _ _ HF4.out b5)
              clear b5 HF4 HNE HSA
              go_wp2_with fail
              refine HN5.out.mono ?_
              rintro e w6 ⟨rfl, b6⟩
              have HF6 := Lib.hid (HFB.out _ _ _ _ _ _ HF5.out b6)
              clear b6 HF5 HN5
              go_wp2
              go_roundw
              case rel => exact ⟨k + 1, by omega, by go_num, A0, n0, c0, rfl, HF6⟩
              case measure => simp [intOf]; omega
            · have HF4 := Lib.hid f4
              clear f4 HF
              go_wp2
              go_roundw
              case rel => exact ⟨k + 1, by omega, by go_num, A0, n0, c0, rfl, HF4⟩
              case measure => simp [intOf]; omega
        · have hks1 : decide ((k : Int) < (sn : Int)) = false := decide_eq_false (by omega)
          go_wp2
          go_roundw
          case rel => exact ⟨k + 1, by omega, by go_num, A0, n0, c0, rfl, HF⟩
          case measure => simp [intOf]; omega
    · obtain rfl : k = n := by omega
      have i3 : ¬ (k : Int) < (k : Int) := by omega
      go_wp2
      go_ret2
      exact ⟨A0, n0, c0, rfl, hrel.out⟩
end Go.Proofs.YtbdhhmhlcdganaaGreatDoor
namespace Go.Proofs.YtbdhhmhlcdganaaGreatDoor
open Go.RowKit
set_option linter.unusedVariables false

set_option maxHeartbeats 1000000 in
theorem SameRows_yes (A A' : Option Addr) (n c c' : Nat) (ls : List (List Int)) (w : World) (B B' : Nat) (hr : BRow w B A ls) (hr' : BRow w B' A' ls) (hn : ls.length = n) (hb : n ≤ 1073741824) (hl : ∀ i, i < n → (nthB ls i).length ≤ 70368744177664) :
    Calls Tryz.prog 25 #[.slice A n c, .slice A' n c'] w fun e w' => e = .returned (.bool true) ∧ ∃ m, w' = w.drewN m := by
  have HR := Lib.hid hr
  have HR' := Lib.hid hr'
  have HN := Lib.hid hn
  have HL := Lib.hid hl
  have t0 : ((n : Int) != (n : Int)) = false := by simp
  clear hr hr' hn hl
  go_enter Tryz.func25, Tryz.ntmps25
  go_wp2
  go_loopw [5] (fun i wr => ∃ k m : Nat, k ≤ n ∧ i = .int .i64 k ∧ wr = w.drewN m) (fun i _ => n - (intOf i).toNat)
  case atStart => exact ⟨0, 0, by omega, rfl, rfl⟩
  case round =>
    obtain ⟨k, m, hk, rfl, hw0⟩ := hrel
    have HW := Lib.hid hw0
    have HRw := Lib.hid (show BRow wr B A ls by rw [hw0]; exact HR.out.drewN m)
    have HRw' := Lib.hid (show BRow wr B' A' ls by rw [hw0]; exact HR'.out.drewN m)
    clear hw0
    by_cases hlt : k < n
    · obtain ⟨b, o, Ai, ci, rfl, hb1, hc1, r1, _⟩ := HRw.out.at_ (i := k) (by have := HN.out; omega)
      obtain ⟨b', o', Ai', ci', rfl, hb1', hc1', r1', _⟩ := HRw'.out.at_ (i := k) (by have := HN.out; omega)
      have hlen := HL.out k hlt
      obtain ⟨xs, hxs⟩ : ∃ xs, nthB ls k = xs := ⟨_, rfl⟩
      rw [hxs] at hc1 hc1' r1 r1' hlen
      obtain ⟨z, hz⟩ : ∃ z, Hid (xs.length = z) := ⟨_, Lib.hid rfl⟩
      rw [hz.out] at hc1 hc1' hlen
      clear hxs
      have HS : Hid (∀ p, Calls Tryz.prog 32 #[.slice Ai z ci, .slice Ai' z ci'] (wr.drewN p) fun e w' => e = .returned (.bool true) ∧ ∃ n, w' = (wr.drewN p).drewN n) := Lib.hid (fun p => same_yes_u8 _ _ _ _ _ xs _ _ _ (r1.drewN p) (r1'.drewN p) hz.out (by omega))
      go_wp2_with fail
      go_quiet ((go_at_call 32; refine Calls.quiet_of (HS.out _)))
      go_wp2
      go_roundw
      case rel => exact ⟨k + 1, m + nq, by omega, by go_num, by rw [HW.out, World.drewN_drewN]⟩
      case measure => simp [intOf]; omega
    · obtain rfl : k = n := by omega
      go_wp2
      go_ret
      exact ⟨rfl, m, HW.out⟩
end Go.Proofs.YtbdhhmhlcdganaaGreatDoor
namespace Go.Proofs.YtbdhhmhlcdganaaGreatDoor
open Go.RowKit Go.Maps Go.MapKept Go.ChangeMaps
open Go.WideElems (Fit rd rg pl rd_key rd_val rg_of)
set_option linter.unusedVariables false
set_option maxRecDepth 100000

def kS (s : ByteArray) : Lit := .string s.data.toList
theorem kS_key (s : ByteArray) : WideAt.IsKeyLit (kS s) := trivial
theorem kS_inj {s t : ByteArray} (h : kS s = kS t) : s = t := by
  unfold kS at h
  injection h with h
  apply ByteArray.ext
  exact Array.toList_inj.1 h
theorem kS_ne {s t : ByteArray} (h : sameN s t = false) : kS s ≠ kS t := fun e => by
  rw [kS_inj e, sameN_refl] at h; cases h
theorem kS_of (x : List UInt8) : kS ⟨x.toArray⟩ = .string x := by simp [kS]
def ptrV (g : Nat) : Value := .pointer (some ⟨g, 0, none⟩)
def ptrD (g : Nat) : DataW Unit := .lit (.int .i64 g)
def ptrR (v : Value) : Option (DataW Unit × List MemPlace) := match v with
  | .pointer (some ⟨g, 0, none⟩) => some (ptrD g, [])
  | _ => none
theorem ptrR_mk (g : Nat) : ptrR (.pointer (some ⟨g, 0, none⟩)) = some (ptrD g, []) := rfl
theorem ptrR_inv {v : Value} {y : DataW Unit × List MemPlace} (h : ptrR v = some y) : ∃ g, v = ptrV g ∧ y = (ptrD g, []) := by
  unfold ptrR at h
  split at h
  · injection h with h
    exact ⟨_, rfl, h.symm⟩
  · cases h
theorem ptrD_inj {g g' : Nat} (h : ptrD g = ptrD g') : g = g' := by
  unfold ptrD at h
  injection h with h
  injection h with h1 h2
  omega

def look (ps : List (ByteArray × Nat)) (s : ByteArray) : Option Nat := (ps.find? (fun p => sameN p.1 s)).map (·.2)
def strike (ps : List (ByteArray × Nat)) (s : ByteArray) : List (ByteArray × Nat) := ps.filter (fun p => !sameN p.1 s)
structure MapIs (D : DataW Unit) (ps : List (ByteArray × Nat)) : Prop where
  size : Maps.size D = ps.length
  has : ∀ s, Maps.has D (kS s) = ps.any (fun p => sameN p.1 s)
  at_ : ∀ p ∈ ps, ∀ z, D.atKey (kS p.1) z = ptrD p.2
  nd : ps.Pairwise (fun a b => sameN a.1 b.1 = false)
theorem MapIs.perm {D : DataW Unit} {ps ps' : List (ByteArray × Nat)} (h : MapIs D ps) (hp : ps.Perm ps') : MapIs D ps' :=
  ⟨h.size.trans hp.length_eq, fun s => (h.has s).trans (by
    rw [Bool.eq_iff_iff, List.any_eq_true, List.any_eq_true]
    exact ⟨fun ⟨p, h1, h2⟩ => ⟨p, hp.mem_iff.1 h1, h2⟩, fun ⟨p, h1, h2⟩ => ⟨p, hp.mem_iff.2 h1, h2⟩⟩), fun p hm => h.at_ p (hp.mem_iff.2 hm), (hp.pairwise_iff (fun {a b} hab => by rw [sameN_comm]; exact hab)).1 h.nd⟩
theorem MapIs.nil : MapIs (.map []) [] := ⟨rfl, fun _ => rfl, fun p h => absurd h (by simp), List.Pairwise.nil⟩
theorem look_mem {ps : List (ByteArray × Nat)} (h : ps.Pairwise (fun a b => sameN a.1 b.1 = false)) {p : ByteArray × Nat} (hp : p ∈ ps) : look ps p.1 = some p.2 := by
  induction ps with
  | nil => cases hp
  | cons a ps ih =>
    obtain ⟨h1, h2⟩ := List.pairwise_cons.1 h
    unfold look
    rw [List.find?_cons]
    rcases List.mem_cons.1 hp with rfl | hp
    · rw [sameN_refl]; rfl
    · rw [h1 p hp]; exact ih h2 hp
theorem look_none {ps : List (ByteArray × Nat)} {s : ByteArray} (h : ps.any (fun p => sameN p.1 s) = false) : look ps s = none := by
  unfold look
  rw [List.find?_eq_none.2 (fun p hp => List.any_eq_false.1 h p hp)]
  rfl
theorem strike_size {ps : List (ByteArray × Nat)} (h : ps.Pairwise (fun a b => sameN a.1 b.1 = false)) (s : ByteArray) : (strike ps s).length + (if ps.any (fun p => sameN p.1 s) then 1 else 0) = ps.length := by
  induction ps with
  | nil => rfl
  | cons a ps ih =>
    obtain ⟨h1, h2⟩ := List.pairwise_cons.1 h
    have ih := ih h2
    unfold strike at ih ⊢
    rw [List.filter_cons, List.any_cons, List.length_cons]
    cases hs : sameN a.1 s
    · simp only [Bool.not_false, if_true, List.length_cons, Bool.false_or]
      omega
    · have e := sameN_iff.1 hs
      have hn : ps.any (fun p => sameN p.1 s) = false := by
        rw [List.any_eq_false]
        intro p hp
        rw [← e, sameN_comm, h1 p hp]
        simp
      rw [hn] at ih
      simp only [Bool.not_true, Bool.false_eq_true, if_false, Nat.add_zero, Bool.true_or, if_true] at ih ⊢
      omega
theorem strike_any (ps : List (ByteArray × Nat)) (s t : ByteArray) : (strike ps s).any (fun p => sameN p.1 t) = (ps.any (fun p => sameN p.1 t) && !sameN t s) := by
  rw [Bool.eq_iff_iff]
  simp only [strike, List.any_eq_true, List.mem_filter, Bool.and_eq_true, Bool.not_eq_true']
  constructor
  · rintro ⟨p, ⟨h1, h2⟩, h3⟩
    exact ⟨⟨p, h1, h3⟩, by rw [← sameN_iff.1 h3]; exact h2⟩
  · rintro ⟨⟨p, h1, h3⟩, h2⟩
    exact ⟨p, ⟨h1, by rw [sameN_iff.1 h3]; exact h2⟩, h3⟩
theorem MapIs.put {D : DataW Unit} {ps : List (ByteArray × Nat)} (h : MapIs D ps) (ht : Tidy D) (s : ByteArray) (g : Nat) : MapIs (D.put (kS s) (ptrD g)) ((s, g) :: strike ps s) := by
  refine ⟨?_, fun t => ?_, fun p hp z => ?_, ?_⟩
  · rw [size_put ht, h.has, h.size, List.length_cons]
    have := strike_size h.nd s
    split <;> simp_all
  · rw [List.any_cons, strike_any]
    by_cases e : t = s
    · subst e
      rw [has_put_same ht.isMap (kS_key t), sameN_refl]; simp
    · have hn : sameN t s = false := by
        cases hh : sameN t s
        · rfl
        · exact absurd (sameN_iff.1 hh) e
      rw [has_put_other (kS_ne hn), h.has, hn, sameN_comm s t, hn]; simp
  · rcases List.mem_cons.1 hp with rfl | hp
    · exact atKey_put_same ht.isMap (kS_key _) _ _
    · obtain ⟨h1, h2⟩ := List.mem_filter.1 hp
      have hn : sameN p.1 s = false := by simpa using h2
      rw [atKey_put_other (kS_ne hn)]
      exact h.at_ p h1 z
  · refine List.pairwise_cons.2 ⟨fun p hp => ?_, h.nd.filter _⟩
    obtain ⟨h1, h2⟩ := List.mem_filter.1 hp
    rw [sameN_comm]
    simpa using h2
theorem MapIs.del {D : DataW Unit} {ps : List (ByteArray × Nat)} (h : MapIs D ps) (ht : Tidy D) (s : ByteArray) : MapIs (D.del (kS s)) (strike ps s) := by
  refine ⟨?_, fun t => ?_, fun p hp z => ?_, h.nd.filter _⟩
  · have h1 := size_del (k := kS s) ht
    have h2 := strike_size h.nd s
    rw [h.has, h.size] at h1
    omega
  · rw [strike_any]
    by_cases e : t = s
    · subst e
      rw [has_del_same, sameN_refl]; simp
    · have hn : sameN t s = false := by
        cases hh : sameN t s
        · rfl
        · exact absurd (sameN_iff.1 hh) e
      rw [has_del_other (kS_ne hn), h.has, hn]; simp
  · obtain ⟨h1, h2⟩ := List.mem_filter.1 hp
    have hn : sameN p.1 s = false := by simpa using h2
    rw [atKey_del_other (kS_ne hn)]
    exact h.at_ p h1 z

theorem lawS : Keyed Tryz.prog 9 := string_keyed Tryz.underlying9
theorem zeroF (w : World) : (zeroValue 76).run Tryz.prog w = .ok (.pointer none) w := by kernel_rfl
theorem keyS (s : ByteArray) (h : s.size ≤ maxLen) : keyOf Tryz.prog 9 (.string s) = some (kS s) := WideMaps.keyOf_string_mk Tryz.underlying9 h

def PMap (w : World) (b : Nat) (ps : List (ByteArray × Nat)) : Prop := ∃ D, w.ownsMap Tryz.prog 9 ptrR b ps.length D ∧ MapIs D ps
theorem own_tight {w : World} {b n : Nat} {D : DataW Unit} (h : w.ownsMap Tryz.prog 9 ptrR b n D) : w.ownsMap Tryz.prog 9 ptrR b (Maps.size D) D := by
  obtain ⟨es, clock, hb, F, _, rfl⟩ := h
  exact ⟨es, clock, hb, F, by rw [Maps.size_eq, length_read]; exact Nat.le_refl _, rfl⟩
theorem PMap.of {w : World} {b n : Nat} {D : DataW Unit} {ps : List (ByteArray × Nat)} (h : w.ownsMap Tryz.prog 9 ptrR b n D) (hi : MapIs D ps) : PMap w b ps := by
  have := own_tight h
  rw [hi.size] at this
  exact ⟨D, this, hi⟩
theorem PMap.perm {w : World} {b : Nat} {ps ps' : List (ByteArray × Nat)} (h : PMap w b ps) (hp : ps.Perm ps') : PMap w b ps' := by
  obtain ⟨D, h1, h2⟩ := h
  exact PMap.of h1 (h2.perm hp)
theorem PMap.lt {w : World} {b : Nat} {ps : List (ByteArray × Nat)} (h : PMap w b ps) : b < w.heap.size := h.choose_spec.1.lt
theorem PMap.nd {w : World} {b : Nat} {ps : List (ByteArray × Nat)} (h : PMap w b ps) : ps.Pairwise (fun a b => sameN a.1 b.1 = false) := h.choose_spec.2.nd
theorem PMap.same {w w' : World} {b : Nat} {ps : List (ByteArray × Nat)} (h : PMap w b ps) (e : w'.heap[b]? = w.heap[b]?) : PMap w' b ps := by
  obtain ⟨D, ⟨es, clock, hb, r⟩, hi⟩ := h
  exact ⟨D, ⟨es, clock, e.trans hb, r⟩, hi⟩
theorem PMap.made (w : World) : PMap (w.alloc (.map #[] 0)) w.heap.size [] := ⟨_, World.ownsMap_made _ _ _ _, MapIs.nil⟩
theorem PMap.block {w : World} {b : Nat} {ps : List (ByteArray × Nat)} (h : PMap w b ps) : ∃ es clock, w.heap[b]? = some (.map es clock) := by
  obtain ⟨D, ⟨es, clock, hb, _⟩, _⟩ := h
  exact ⟨es, clock, hb⟩
theorem PMap.lookup {w : World} {b : Nat} {ps : List (ByteArray × Nat)} (h : PMap w b ps) (s : ByteArray) :
    (Instr.lookup 36 (.map (some b)) (.string s) false).run Tryz.prog w = .ok (.pointer ((look ps s).map fun g => ⟨g, 0, none⟩)) w := by
  obtain ⟨D, ⟨es, clock, hb, F, hsz, rfl⟩, hi⟩ := h
  by_cases hs : s.size ≤ maxLen
  · rcases Maps.fit_look false lawS Tryz.underlying36 (zeroF w) hb F (keyS s hs) with ⟨hrun, _, hat⟩ | ⟨e0, y, _, _, hrun, hRv, hat, _⟩
    · have hf := has_false_of_atKey hat
      rw [hi.has] at hf
      rw [look_none hf]
      exact hrun
    · have hf := has_true_of_atKey hat
      rw [hi.has] at hf
      obtain ⟨p, hp, hps⟩ := List.any_eq_true.1 hf
      have e := sameN_iff.1 hps
      subst e
      obtain ⟨g, hg, hy⟩ := ptrR_inv hRv
      have e2 := hi.at_ p hp .nil
      rw [hat, hy] at e2
      rw [look_mem hi.nd hp, ← ptrD_inj e2]
      rw [hg] at hrun
      exact hrun
  · have hf : ps.any (fun p => sameN p.1 s) = false := by
      rw [List.any_eq_false]
      intro p hp hps
      have e := sameN_iff.1 hps
      subst e
      have hh := hi.has p.1
      rw [List.any_eq_true.2 ⟨p, hp, sameN_refl _⟩] at hh
      obtain ⟨q, hq, hqk⟩ := List.any_eq_true.1 hh
      obtain ⟨x, hx, rfl⟩ := List.mem_map.1 (mem_sorted.1 hq)
      obtain ⟨y, hy⟩ := F.reads x hx
      have hk := rd_key hy
      rw [rg_of hy] at hqk
      have e1 := WideAt.sameKey_eq hqk
      obtain ⟨z, _, hz, hzl⟩ := Maps.keyOf_str Tryz.underlying9 hk
      rw [hz] at e1
      unfold kS at e1
      injection e1 with e1
      rw [e1, Array.length_toList] at hzl
      exact hs hzl
    rw [look_none hf]
    have hk : IsKey .string (.string s) := trivial
    have hks : ∀ x ∈ es.toList, IsKey .string x.key := fun x hx => by
      obtain ⟨y, hy⟩ := F.reads x hx
      obtain ⟨z, hz, _⟩ := Maps.keyOf_str Tryz.underlying9 (rd_key hy)
      rw [hz]; trivial
    rcases findNow_spec hk es.toList 0 hks with ⟨h1, _⟩ | ⟨j, e, _, h2, h3⟩
    · simp [Instr.lookup, run_underlying Tryz.underlying36, MapKept.run_getObj_map hb, MapKept.run_checkKey Tryz.underlying9 hk, MapKept.run_findKey Tryz.underlying9 h1, Result.andThen]
    · obtain ⟨y, hy⟩ := F.reads e (List.mem_of_getElem? h2)
      obtain ⟨z, hz, _, hzl⟩ := Maps.keyOf_str Tryz.underlying9 (rd_key hy)
      rw [h3] at hz
      injection hz with hz
      rw [hz] at hs
      exact absurd (by simpa [ByteArray.size] using hzl) hs

theorem Frm.of_turned {w w' : World} {b : Nat} (h : w.mapTurned w' b) : Frm (fun x => x = b) w w' := by
  have := h.grown
  exact ⟨this.os, this.tape, this.output, this.size, fun k hk hn => this.block k hk (fun e => hn (by injection e))⟩
theorem Frm.of_grown {w w' : World} {r : Nat} (h : w.grownBy w' (some r)) : Frm (fun x => x = r) w w' := 
  ⟨h.os, h.tape, h.output, h.size, fun k hk hn => h.block k hk (fun e => hn (by injection e))⟩
section
variable (w : World) {ops : Array Oper} {rest : List Oper} {o : Oper} {a : Act} {Q : Exit → Act → World → Prop}
end
theorem PMap.drop {w : World} {b : Nat} {ps : List (ByteArray × Nat)} (h : PMap w b ps) (s : ByteArray) (hs : s.size ≤ maxLen) :
    ∃ w', (∀ ty, (Builtin.delete_ #[36, 9] ty #[.map (some b), .string s]).run Tryz.prog w = .ok (.tuple #[]) w') ∧ PMap w' b (strike ps s) ∧ Frm (fun y => y = b) w w' ∧ w'.heap.size = w.heap.size := by
  obtain ⟨D, h1, h2⟩ := h
  obtain ⟨w1, r0, r1, r2⟩ := h1.drop lawS Tryz.underlying36 (keyS s hs) 0
  refine ⟨w1, fun ty => ?_, PMap.of r1 (h2.del (h1.tidy lawS) s), Frm.of_turned r2, ?_⟩
  · exact r0
  · obtain ⟨_, _, _, _, _, rfl⟩ := r2
    simp [setBlock]
theorem PMap.len {w : World} {b : Nat} {ps : List (ByteArray × Nat)} (h : PMap w b ps) (ty : TypeId) : (Builtin.len_ #[36] ty #[.map (some b)]).run Tryz.prog w = .ok (.int .i64 ps.length) w := by
  obtain ⟨D, h1, h2⟩ := h
  rw [← h2.size]
  exact h1.len Tryz.underlying36 ty
end Go.Proofs.YtbdhhmhlcdganaaGreatDoor
namespace Go.Proofs.YtbdhhmhlcdganaaGreatDoor
open Go.RowKit
set_option linter.unusedVariables false
set_option maxRecDepth 100000

theorem RDx.drewN {w : World} {g : Nat} {fv : Value} {ms : List Fm} {d : Dv} (h : RDx w g fv ms d) (n : Nat) : RDx (w.drewN n) g fv ms d := h.below (bel_drewN w n)
end Go.Proofs.YtbdhhmhlcdganaaGreatDoor
namespace Go.Proofs.YtbdhhmhlcdganaaGreatDoor
open Go.RowKit
set_option linter.unusedVariables false
set_option maxRecDepth 100000

def doneB (d : Dv) : Bool := !decide (d.left = 0)
def doneD (d : Dv) : Dv := if d.left = 0 then { d with off := true } else spentD d
def thereE (d : Dv) (s : ByteArray) : Int := if d.off = true then 10 else match findD d.fs s with | none => 6 | some _ => 0
def thereK (d : Dv) (s : ByteArray) : Nat := if d.off = true then 0 else match findD d.fs s with | none => 0 | some k => k
end Go.Proofs.YtbdhhmhlcdganaaGreatDoor
namespace Go.Proofs.YtbdhhmhlcdganaaGreatDoor
open Go.RowKit
set_option linter.unusedVariables false
set_option maxRecDepth 100000

def FilesTo (g : Nat) (w : World) (ms : List Fm) (d : Dv) (e : Ending) (w' : World) : Prop :=
  e = .returned (.tuple #[]) ∧ ∃ fv, RDx w' g fv ms d ∧ Frm (fun b => b = g) w w' ∧ ∀ b, fv.ownBlock = some b → w.heap.size ≤ b

end Go.Proofs.YtbdhhmhlcdganaaGreatDoor
namespace Go.Proofs.YtbdhhmhlcdganaaGreatDoor
open Go.RowKit
set_option linter.unusedVariables false
set_option maxRecDepth 100000

def posD (l : List Fl) (s : ByteArray) : Nat := l.findIdx (fun h => lessN s h.nm)
def outM (ms : List Fm) (p : Nat) (m : Fm) (i : Nat) : List Fm := if i ≤ p then ms.take i else ms.take p ++ m :: (ms.take i).drop p
end Go.Proofs.YtbdhhmhlcdganaaGreatDoor
namespace Go.Proofs.YtbdhhmhlcdganaaGreatDoor
open Go.RowKit
set_option linter.unusedVariables false
set_option maxRecDepth 100000

def RStep (g : Nat) (fv : Value) (ms : List Fm) (d : Dv) (v : Value) (w : World) (e : Ending) (w' : World) : Prop :=
  e = .returned v ∧ ∃ fv' ms', RDx w' g fv' ms' d ∧ Frm (fun b => b = g ∨ fv.ownBlock = some b) w w' ∧ ∀ b, RG g fv' ms' b → RG g fv ms b ∨ w.heap.size ≤ b
theorem RStep.same {g : Nat} {fv : Value} {ms : List Fm} {d : Dv} {v : Value} {w : World} (h : RDx w g fv ms d) : RStep g fv ms d v w (.returned v) w := ⟨rfl, fv, ms, h, Frm.refl _ _, fun b hb => .inl hb⟩
theorem RStep.in {g : Nat} {fv : Value} {ms : List Fm} {d : Dv} {v : Value} {w w' : World} {e : Ending} (he : e = .returned v) (h : RDx w' g fv ms d) (hf : Frm (fun b => b = g) w w') : RStep g fv ms d v w e w' := ⟨he, fv, ms, h, hf.mono (fun b hb => .inl hb), fun b hb => .inl hb⟩
end Go.Proofs.YtbdhhmhlcdganaaGreatDoor
