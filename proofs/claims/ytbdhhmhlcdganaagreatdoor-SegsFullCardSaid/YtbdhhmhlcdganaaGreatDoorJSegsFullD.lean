/-
  Texts of the proof of SegsFull, joined.
-/
import Derived.Test.YtbdhhmhlcdganaaGreatDoorJSegsFullB
import Derived.Test.YtbdhhmhlcdganaaGreatDoorJSegsFullA
import Derived.Deep.RegionLaw
import Derived.Test.YtbdhhmhlcdganaaGreatDoorProg
import Derived.IntWalk
import Derived.Test.YtbdhhmhlcdganaaGreatDoorJSegsFullC
import Derived.Deep.RegionHeld
namespace Go.Proofs.YtbdhhmhlcdganaaGreatDoor
open Go.RowKit
set_option linter.unusedVariables false
set_option maxRecDepth 100000

def cut60 (ls : List (List Int)) : List (List Int) := (ls.take 60).map (List.take 1024)
def RwOwn (w0 w : World) (v : Value) (ls : List (List Int)) : Prop :=
  ∃ L : List Value, w.ownsRow w0.heap.size 47 1 v ls.length L ∧ ∀ i, i < ls.length → ∃ A c, L[i]? = some (.slice A (nthB ls i).length c) ∧ Row .u8 w0 w0.heap.size A (nthB ls i) ∧ (nthB ls i).length ≤ c ∧ c ≤ maxLen
theorem RwOwn.nil (w0 w : World) : RwOwn w0 w (.slice none 0 0) [] := ⟨[], World.ownsRow_nil _ _ _ _, fun i hi => absurd hi (by simp)⟩
theorem RwOwn.brow {w0 w : World} {v : Value} {ls : List (List Int)} (h : RwOwn w0 w v ls) (hb : Below w0.heap.size w0 w) : ∃ A c, v = .slice A ls.length c ∧ ls.length ≤ c ∧ BRow w w.heap.size A ls := by
  obtain ⟨L, h1, h2⟩ := h
  obtain ⟨A, c, e, hr, hc, _⟩ := VRow.of_own h1
  refine ⟨A, c, e, hc, fun h0 => ?_⟩
  obtain ⟨A0, c0, hL0, _⟩ := h2 0 h0
  have hLp : 0 < L.length := (List.getElem?_eq_some_iff.1 hL0).1
  obtain ⟨b, o, hA, hlt, hcell⟩ := hr hLp
  refine ⟨b, o, hA, hlt, fun i hi => ?_⟩
  obtain ⟨Ai, ci, hLi, hri, hle, hmx⟩ := h2 i hi
  exact ⟨Ai, ci, hcell i _ hLi, (hri.below hb).more hb.size, hle, hmx⟩
def RwMakes (w : World) (ls : List (List Int)) (e : Ending) (w' : World) : Prop := ∃ v, e = .returned v ∧ RwOwn w w' v ls ∧ Below w.heap.size w w'

end Go.Proofs.YtbdhhmhlcdganaaGreatDoor
namespace Go.Proofs.YtbdhhmhlcdganaaGreatDoor
open Go.RowKit
set_option linter.unusedVariables false

def pick (k : Int) (n : Nat) : Nat := (if k.tmod n < 0 then k.tmod n + n else k.tmod n).toNat
theorem pick_lt (k : Int) (n : Nat) (h : 1 ≤ n) : pick k n < n := by
  have h1 := Int.tmod_lt_of_pos k (show (0 : Int) < n by omega)
  have h2 : -(n : Int) < k.tmod n := by
    have := Int.lt_tmod_of_pos k (show (0 : Int) < n by omega)
    omega
  unfold pick
  split <;> omega
theorem pick_eq (k : Int) (n : Nat) (h : 1 ≤ n) : ((pick k n : Nat) : Int) = if k.tmod n < 0 then k.tmod n + n else k.tmod n := by
  have h2 : -(n : Int) < k.tmod n := by
    have := Int.lt_tmod_of_pos k (show (0 : Int) < n by omega)
    omega
  unfold pick
  split <;> omega
theorem Pick_any (k : Int) (n : Nat) (w : World) (h1 : 1 ≤ n) (hn : n ≤ 140737488355328) :
    Calls Tryz.prog 12 #[.int .i64 k, .int .i64 n] w fun e w' => e = .returned (.int .i64 (pick k n : Nat)) ∧ w = w' := by
  have hp := pick_eq k n h1
  have hlt := Int.tmod_lt_of_pos k (show (0 : Int) < n by omega)
  have hgt : -(n : Int) < k.tmod n := by
    have := Int.lt_tmod_of_pos k (show (0 : Int) < n by omega)
    omega
  obtain ⟨p, hpp⟩ : ∃ p : Int, Hid (((pick k n : Nat) : Int) = p) := ⟨_, Lib.hid rfl⟩
  rw [hpp.out] at hp ⊢
  have HP := Lib.hid hp
  have t1 : ¬ ((n : Int) < 1) := by omega
  clear hp hpp
  by_cases hneg : k.tmod n < 0
  · have hq : Hid (p = k.tmod n + n) := Lib.hid (by rw [HP.out, if_pos hneg])
    go_enter Tryz.func12, Tryz.ntmps12
    go_wp2
    go_ret
    exact ⟨by rw [hq.out]; rfl, rfl⟩
  · have hq : Hid (p = k.tmod n) := Lib.hid (by rw [HP.out, if_neg hneg])
    go_enter Tryz.func12, Tryz.ntmps12
    go_wp2
    go_ret
    exact ⟨by rw [hq.out]; rfl, rfl⟩
end Go.Proofs.YtbdhhmhlcdganaaGreatDoor
namespace Go.Proofs.YtbdhhmhlcdganaaGreatDoor
open Go.RowKit
set_option linter.unusedVariables false
set_option maxRecDepth 100000

def GreatTo (n : Nat) (l : List Lm) (w : World) (e : Ending) (w' : World) : Prop := ∃ b : Bool, e = .returned (.bool b) ∧ w = w' ∧ (b = false → n ≤ 100 ∧ ∀ m ∈ l, m.n ≤ 4096)
theorem great_any (A : Option Addr) (n c : Nat) (l : List Lm) (w : World) (hr : VRow w w.heap.size A (flatV lmC l)) (hn : l.length = n) (hb : n ≤ 4611686018427387904) :
    Calls Tryz.prog 8 #[.slice A n c] w (GreatTo n l w) := by
  by_cases hbig : (n : Int) > 100
  · clear hr
    go_enter Tryz.func8, Tryz.ntmps8
    go_wp2
    go_ret
    exact ⟨true, rfl, rfl, fun h => nomatch h⟩
  have HN := Lib.hid hn
  have HR := Lib.hid hr
  have hn2 : n ≤ 100 := by omega
  clear hn hr hb
  go_enter Tryz.func8, Tryz.ntmps8
  go_wp2
  go_loop [3] (fun i => ∃ k : Nat, k ≤ n ∧ i = .int .i64 k ∧ Hid (∀ j (hj : j < l.length), j < k → l[j].n ≤ 4096)) (fun i => n - (intOf i).toNat)
  case atStart => exact ⟨0, by omega, rfl, Lib.hid (fun j _ hj => absurd hj (by omega))⟩
  case round =>
    obtain ⟨k, hk, rfl, hall⟩ := hrel
    by_cases hlt : k < n
    · have hkl : k < l.length := by have := HN.out; omega
      obtain ⟨b, o, rfl, hb1, hc⟩ := HR.out.elem lmC_len (by omega) hkl
      have c0 := hc 0 _ rfl
      have HNX : Hid (l[k].n ≤ 4096 → ∀ j (hj : j < l.length), j < k + 1 → l[j].n ≤ 4096) := Lib.hid (fun h j hj hj2 => by
        by_cases e : j = k
        · subst e; exact h
        · exact hall.out j hj (by omega))
      clear hc hb1
      generalize l[k] = t at *
      obtain ⟨A', n', c', bs'⟩ := t
      simp only at c0
      rw [Nat.mul_one, Nat.add_zero] at c0
      by_cases g1 : (n' : Int) > 4096
      · go_wp2
        go_ret
        exact ⟨true, rfl, rfl, fun h => nomatch h⟩
      go_wp2
      go_round
      case rel => exact ⟨k + 1, by omega, by go_num, Lib.hid (HNX.out (by show n' ≤ _; omega))⟩
      case measure => simp [intOf]; omega
    · obtain rfl : k = n := by omega
      go_wp2
      go_ret
      exact ⟨false, rfl, rfl, fun _ => ⟨hn2, fun m hm => by
        obtain ⟨j, hj, rfl⟩ := List.mem_iff_getElem.1 hm
        exact hall.out j hj (by have := HN.out; omega)⟩⟩
theorem SgIs.few {d : Dv} {l : Lg} (h : SgIs d l) : l.segs.length ≤ 64 := few_files h.ok l.n l.segs.length fun i hi => by
  obtain ⟨y, h1, _⟩ := h.at_ i hi
  rw [h1]; simp
theorem putN_le (l : Lg) : putN l ≤ l.n + l.segs.length + 1 := by unfold putN curN; split <;> omega
theorem RwOwn.frm {F : Nat → Prop} {w0 w w' : World} {v : Value} {ls : List (List Int)} (h : RwOwn w0 w v ls) (hf : Frm F w w') (hn : ∀ b, v.ownBlock = some b → ¬ F b) : RwOwn w0 w' v ls := by
  obtain ⟨L, h1, h2⟩ := h
  refine ⟨L, ⟨h1.1, ?_⟩, h2⟩
  rcases h1.2 with h3 | ⟨g, cap, cur, hv, h4, h5, h6⟩
  · exact .inl h3
  · exact .inr ⟨g, cap, cur, hv, h4, (hf.block g (block_lt h5) (hn g (by rw [hv]; rfl))).trans h5, h6⟩
theorem full_step {d : Dv} {l : Lg} {all : List (List Int)} (h : SgIs d l) (hl : l.n = 1) (hf : l.first = 0) (ha : l.segs.flatten = all) (hn : all.length ≤ 1000) (h1 : d.left = -1) (h2 : d.off = false) (p : List Int) (hw : ∀ x ∈ p, (Lit.int .u8 x).wf = true) :
    ∃ d' l' a E, appG d l p = (d', l', a, E) ∧ SgIs d' l' ∧ l'.n = 1 ∧ l'.first = 0 ∧ d'.left = -1 ∧ d'.off = false ∧
      ((E = 0 ∧ a = (all.length : Int) ∧ l'.segs.flatten = all ++ [p] ∧ p.length ≤ 1024 ∧ usedD d'.fs = usedD d.fs + (p.length + 6)) ∨
       (a = 0 ∧ l'.segs.flatten = all ∧ usedD d'.fs = usedD d.fs ∧ (E = 2 ∨ (E = 9 ∧ ((d'.room : Int) - usedD d'.fs < p.length + 6 ∨ d'.fs.length = 64))))) := by
  obtain ⟨d', l', a, E, q, r1, r2, r3, r4, r5, r6, r7⟩ := app_is h p hw
  refine ⟨d', l', a, E, q, r1, by rw [r2, hl], by rw [r3, hf], r6 h1, ?_⟩
  have hnx : nextG l = all.length := by unfold nextG; rw [hf, cntS_flat, ha]; omega
  rcases r7 with ⟨rfl, r8, r9, r10, r11, r12, r13⟩ | ⟨r8, rfl, r10, r11, r12⟩
  · exact ⟨r12, .inl ⟨rfl, by rw [r8, hnx], by rw [r9, addS_flat, ha], r10, r13⟩⟩
  · rcases r12 with ⟨rfl, _, rfl⟩ | ⟨rfl, r13, r14⟩ | ⟨rfl, _, r13⟩ | ⟨rfl, r13, _⟩
    · exact ⟨h2, .inr ⟨rfl, by rw [r10, ha], r11, .inl rfl⟩⟩
    · exact ⟨r13, .inr ⟨rfl, by rw [r10, ha], r11, .inr ⟨rfl, r14⟩⟩⟩
    · rcases r13 with r13 | r13
      · rw [h2] at r13; cases r13
      · omega
    · have := h.few
      have := putN_le l
      rcases r13 with r13 | r13 <;> omega
theorem RwOwn.app2 {w0 W : World} {v : Value} {ls : List (List Int)} (h : RwOwn w0 W v ls) (hb : Below w0.heap.size w0 W) (hlen : ls.length ≤ 1000) (g : Nat) (A : Option Addr) (m c : Nat) (p : List Int) (hg : W.heap[g]? = some (.cells #[.slice A m c] 47 (0, 0))) (hp : Row .u8 w0 w0.heap.size A p) (hm : p.length = m) (hc : m ≤ c) (hcm : c ≤ maxLen) :
    ∃ v' w', (∀ ty, (Builtin.append_ #[22, 22] ty #[v, .slice (some ⟨g, 0, none⟩) 1 1]).run Tryz.prog W = .ok v' w') ∧ RwOwn w0 w' v' (ls ++ [p]) ∧ Below w0.heap.size w0 w' ∧ Frm (fun b => v.ownBlock = some b) W w' := by
  obtain ⟨i, hi1, hz, hsz, hby⟩ := info_parts info_l8
  obtain ⟨L, h1, h2⟩ := h
  have hnews : ∀ j u, [Value.slice A m c][j]? = some u → W.cell? ((⟨g, 0, none⟩ : Addr).add j) = some u := by
    intro j u hu
    rw [Go.WideShapes.add_plain, Nat.zero_add, cell_of_row W g j _ _ _ hg]
    simpa using hu
  obtain ⟨v', w', hrun, r1, r2, _⟩ := run_append_own (P := Tryz.prog) W w0.heap.size 22 0 47 i _ 1 24 Tryz.underlying22 hi1 hz hsz hby rfl (by omega) v ls.length L h1 ⟨g, 0, none⟩ 1 1 [.slice A m c] rfl hnews (by simp [Value.oneCell']) (by unfold maxLen; omega) (by omega) hb.size
  have hLl : L.length = ls.length := by have := h1.1; omega
  refine ⟨v', w', fun ty => hrun, ⟨L ++ [.slice A m c], by rw [List.length_append]; exact r1, fun j hj => ?_⟩, hb.grown r2 hb.size fun q e => (World.ownsRow.lt h1 q e).1, ⟨r2.os, r2.tape, r2.output, r2.size, fun k hk hn => r2.block k hk (fun e => hn e.symm)⟩⟩
  rw [List.length_append] at hj
  by_cases hlt : j < ls.length
  · obtain ⟨Aj, cj, hLj, hr⟩ := h2 j hlt
    have he : nthB (ls ++ [p]) j = nthB ls j := by rw [nthB_eq _ _ (by rw [List.length_append]; omega), nthB_eq _ _ hlt, List.getElem_append_left hlt]
    rw [he]
    exact ⟨Aj, cj, by rw [List.getElem?_append_left (by omega)]; exact hLj, hr⟩
  · obtain rfl : j = ls.length := by simp at hj; omega
    have he : nthB (ls ++ [p]) ls.length = p := by rw [nthB_eq _ _ (by simp)]; simp
    rw [he, hm]
    exact ⟨A, c, by rw [← hLl]; simp, hp, hc, hcm⟩
theorem RwOwn.app_block {w0 W w' : World} {v v' : Value} {ls : List (List Int)} (h : RwOwn w0 W v ls) (hlen : ls.length ≤ 1000) (g : Nat) (A : Option Addr) (m c : Nat) (hg : W.heap[g]? = some (.cells #[.slice A m c] 47 (0, 0))) {ty : TypeId}
    (hrun : (Builtin.append_ #[22, 22] ty #[v, .slice (some ⟨g, 0, none⟩) 1 1]).run Tryz.prog W = .ok v' w') : ∀ b, v'.ownBlock = some b → v.ownBlock = some b ∨ W.heap.size ≤ b := by
  obtain ⟨i, hi1, hz, hsz, hby⟩ := info_parts info_l8
  obtain ⟨L, h1, h2⟩ := h
  have hnews : ∀ j u, [Value.slice A m c][j]? = some u → W.cell? ((⟨g, 0, none⟩ : Addr).add j) = some u := by
    intro j u hu
    rw [Go.WideShapes.add_plain, Nat.zero_add, cell_of_row W g j _ _ _ hg]
    simpa using hu
  have hnl : [Value.slice A m c].length = 1 * i.size := by rw [hsz]; rfl
  have hLl : L.length = ls.length := by have := h1.1; omega
  rcases h1.2 with ⟨rfl, h0⟩ | ⟨q, cap, cur, rfl, hb, hq, h4, h5, h6, h7⟩
  · have r := run_append_nil (P := Tryz.prog) W 22 ty 47 i _ Tryz.underlying22 hi1 hz ⟨g, 0, none⟩ 1 1 [.slice A m c] hnl hnews (by omega) (by omega) (by rw [hby]; omega)
    rw [hrun] at r
    injection r with e1 e2
    subst e1
    intro b hb
    injection hb with hb
    have hb2 : W.heap.size = b := hb
    exact .inr (by omega)
  · by_cases hroom : ls.length + 1 ≤ cap
    · have r := run_append_room (P := Tryz.prog) W 22 ty 47 i Tryz.underlying22 hi1 q ls.length cap cur hq ⟨g, 0, none⟩ 1 1 [.slice A m c] hnl hnews (by simp [Value.oneCell']) hroom (by rw [h6, hsz]; simp; omega)
      rw [hrun] at r
      injection r with e1 e2
      subst e1
      intro b hb
      exact .inl hb
    · have holds : ∀ j u, L[j]? = some u → W.cell? ((⟨q, 0, none⟩ : Addr).add j) = some u := World.ownsRow.cells h1 (g := q) rfl
      have hc : cap ≤ 1001 := by omega
      have r := run_append_grow (P := Tryz.prog) W 22 ty 47 i _ Tryz.underlying22 hi1 hz ⟨q, 0, none⟩ ls.length cap L (by rw [hsz, Nat.mul_one]; exact hLl) holds ⟨g, 0, none⟩ 1 1 [.slice A m c] hnl hnews (by omega) (by omega) (growslice_fits (by omega) (by rw [hby]; omega))
      rw [hrun] at r
      injection r with e1 e2
      subst e1
      intro b hb
      injection hb with hb
      have hb2 : W.heap.size = b := hb
      exact .inr (by omega)
structure FullTo (K : LogP) (g q : Nat) (G : Nat → Prop) (d : Dv) (l : Lg) (all : List (List Int)) (k : Nat) (v : Value) (w wr : World) : Prop where
  log : K wr G g q d l
  new : ∀ b, G b → w.heap.size ≤ b
  bel : Below w.heap.size w wr
  own : RwOwn w wr v all
  off : ∀ b, v.ownBlock = some b → ¬ G b
  is : SgIs d l
  n1 : l.n = 1
  f0 : l.first = 0
  fl : l.segs.flatten = all
  len : all.length ≤ k
  mem : ∀ p ∈ all, p.length ≤ 1024
theorem FullTo.below {D : DevP} {K : LogP} (X : LogOk D K) {g q : Nat} {G : Nat → Prop} {d : Dv} {l : Lg} {all : List (List Int)} {k : Nat} {v : Value} {w wr W : World} (h : FullTo K g q G d l all k v w wr) (hb : Below wr.heap.size wr W) : FullTo K g q G d l all k v w W :=
  ⟨X.below h.log hb, h.new, h.bel.trans (hb.mono h.bel.size), h.own.frm (F := fun _ => False) (Frm.of_below hb) (fun _ _ e => e), h.off, h.is, h.n1, h.f0, h.fl, h.len, h.mem⟩
theorem RwOwn.block {w0 w : World} {v : Value} {ls : List (List Int)} (h : RwOwn w0 w v ls) : ∀ b, v.ownBlock = some b → w0.heap.size ≤ b ∧ b < w.heap.size := by
  obtain ⟨L, h1, _⟩ := h
  exact World.ownsRow.lt h1
theorem FullTo.step {K : LogP} {g q : Nat} {G : Nat → Prop} {d d' : Dv} {l l' : Lg} {all : List (List Int)} {k k' : Nat} {v r : Value} {w wr W : World} {e : Ending} (h : FullTo K g q G d l all k v w wr) (s : LStp K G g q d' l' r wr e W) (is : SgIs d' l') (n1 : l'.n = 1) (f0 : l'.first = 0) (fl : l'.segs.flatten = all) (hk : k ≤ k') : ∃ G', FullTo K g q G' d' l' all k' v w W := by
  obtain ⟨_, G', s1, s2, s3⟩ := s
  refine ⟨G', s1, fun b hb => (s3 b hb).elim (h.new b) (fun e => Nat.le_trans h.bel.size e), s2.below h.bel h.bel.size h.new, h.own.frm s2 h.off, fun b hb e => (s3 b e).elim (h.off b hb) (fun e => ?_), is, n1, f0, fl, Nat.le_trans h.len hk, h.mem⟩
  have := (h.own.block b hb).2
  omega
theorem FullTo.grow {D : DevP} {K : LogP} (X : LogOk D K) {w : World} (gl : Gl w) {g q : Nat} {G : Nat → Prop} {d d' : Dv} {l l' : Lg} {all : List (List Int)} {k : Nat} {v r : Value} {wr W W2 : World} {e : Ending} (h : FullTo K g q G d l all k v w wr) (hk : k ≤ 1000) (s : LStp K G g q d' l' r wr e W) (is : SgIs d' l') (n1 : l'.n = 1) (f0 : l'.first = 0)
    {p : List Int} (fl : l'.segs.flatten = all ++ [p]) (hW : Below W.heap.size W W2) (gg : Nat) (A : Option Addr) (m c : Nat) (hg : W2.heap[gg]? = some (.cells #[.slice A m c] 47 (0, 0))) (hp : Row .u8 w w.heap.size A p) (hm : p.length = m) (hc : m ≤ c) (hcm : c ≤ maxLen) (hpl : p.length ≤ 1024) :
    ∃ G' v' w', (∀ ty, (Builtin.append_ #[22, 22] ty #[v, .slice (some ⟨gg, 0, none⟩) 1 1]).run Tryz.prog W2 = .ok v' w') ∧ FullTo K g q G' d' l' (all ++ [p]) (k + 1) v' w w' := by
  obtain ⟨_, G', s1, s2, s3⟩ := s
  have hlen := h.len
  have bW : Below w.heap.size w W := s2.below h.bel h.bel.size h.new
  have o1 : RwOwn w W v all := h.own.frm s2 h.off
  have o2 : RwOwn w W2 v all := o1.frm (F := fun _ => False) (Frm.of_below hW) (fun _ _ e => e)
  have bW2 : Below w.heap.size w W2 := bW.trans (hW.mono bW.size)
  have offW : ∀ b, v.ownBlock = some b → ¬ G' b := fun b hb e => (s3 b e).elim (h.off b hb) (fun e => by have := (h.own.block b hb).2; omega)
  obtain ⟨v', w', r1, r2, r3, r4⟩ := o2.app2 bW2 (by omega) gg A m c p hg hp hm hc hcm
  have k2 := X.below s1 hW
  have k3 : K w' G' g q d' l' := X.frm k2 r4 (fun b hb e => offW b e hb) (gl.below r3)
  refine ⟨G', v', w', r1, k3, fun b hb => (s3 b hb).elim (h.new b) (fun e => Nat.le_trans h.bel.size e), r3, r2, fun b hb e => ?_, is, n1, f0, fl, by simp; omega, fun x hx => ?_⟩
  · rcases o2.app_block (by omega) gg A m c hg (r1 0) b hb with e' | e'
    · exact offW b e' e
    · have := X.lt k2 b e
      omega
  · rcases List.mem_append.1 hx with hx | hx
    · exact h.mem x hx
    · rw [List.mem_singleton.1 hx]; exact hpl
end Go.Proofs.YtbdhhmhlcdganaaGreatDoor
namespace Go.Proofs.YtbdhhmhlcdganaaGreatDoor
open Go.RowKit
set_option linter.unusedVariables false

set_option maxHeartbeats 1000000 in
theorem SameRows_yes (A A' : Option Addr) (n c c' : Nat) (ls : List (List Int)) (w : World) (B B' : Nat) (hr : BRow w B A ls) (hr' : BRow w B' A' ls) (hn : ls.length = n) (hb : n ≤ 1073741824) (hl : ∀ i, i < n → (nthB ls i).length ≤ 70368744177664) :
    Calls Tryz.prog 25 #[.slice A n c, .slice A' n c'] w fun e w' => e = .returned (.bool true) ∧ ∃ m, w' = w.drewN m := by
  have HR := Lib.hid hr
  have HR' := Lib.hid hr'
  have HN := Lib.hid hn
  have HL := Lib.hid hl
  have t0 : ((n : Int) != (n : Int)) = false := by simp
  clear hr hr' hn hl
  go_enter Tryz.func25, Tryz.ntmps25
  go_wp2
  go_loopw [5] (fun i wr => ∃ k m : Nat, k ≤ n ∧ i = .int .i64 k ∧ wr = w.drewN m) (fun i _ => n - (intOf i).toNat)
  case atStart => exact ⟨0, 0, by omega, rfl, rfl⟩
  case round =>
    obtain ⟨k, m, hk, rfl, hw0⟩ := hrel
    have HW := Lib.hid hw0
    have HRw := Lib.hid (show BRow wr B A ls by rw [hw0]; exact HR.out.drewN m)
    have HRw' := Lib.hid (show BRow wr B' A' ls by rw [hw0]; exact HR'.out.drewN m)
    clear hw0
    by_cases hlt : k < n
    · obtain ⟨b, o, Ai, ci, rfl, hb1, hc1, r1, _⟩ := HRw.out.at_ (i := k) (by have := HN.out; omega)
      obtain ⟨b', o', Ai', ci', rfl, hb1', hc1', r1', _⟩ := HRw'.out.at_ (i := k) (by have := HN.out; omega)
      have hlen := HL.out k hlt
      obtain ⟨xs, hxs⟩ : ∃ xs, nthB ls k = xs := ⟨_, rfl⟩
      rw [hxs] at hc1 hc1' r1 r1' hlen
      obtain ⟨z, hz⟩ : ∃ z, Hid (xs.length = z) := ⟨_, Lib.hid rfl⟩
      rw [hz.out] at hc1 hc1' hlen
      clear hxs
      have HS : Hid (∀ p, Calls Tryz.prog 32 #[.slice Ai z ci, .slice Ai' z ci'] (wr.drewN p) fun e w' => e = .returned (.bool true) ∧ ∃ n, w' = (wr.drewN p).drewN n) := Lib.hid (fun p => same_yes_u8 _ _ _ _ _ xs _ _ _ (r1.drewN p) (r1'.drewN p) hz.out (by omega))
      go_wp2_with fail
      go_quiet ((go_at_call 32; refine Calls.quiet_of (HS.out _)))
      go_wp2
      go_roundw
      case rel => exact ⟨k + 1, m + nq, by omega, by go_num, by rw [HW.out, World.drewN_drewN]⟩
      case measure => simp [intOf]; omega
    · obtain rfl : k = n := by omega
      go_wp2
      go_ret
      exact ⟨rfl, m, HW.out⟩
end Go.Proofs.YtbdhhmhlcdganaaGreatDoor
namespace Go.Proofs.YtbdhhmhlcdganaaGreatDoor
open Go.RowKit
set_option linter.unusedVariables false
set_option maxRecDepth 100000

set_option maxHeartbeats 8000000 in
theorem full_any {D : DevP} {K : LogP} (Y : DevOkG D) (X : LogOk D K) (room : Int) (A : Option Addr) (n c : Nat) (l : List Lm) (w : World) (hr : VRow w w.heap.size A (flatV lmC l)) (hn : l.length = n) (hb : n ≤ 5864062016288) (hok : ∀ m ∈ l, Lm.Ok w w.heap.size m) (gl : Gl w) :
    Calls Tryz.prog 5 #[.int .i64 room, .slice A n c] w fun e w' => e = .returned (.bool true) ∧ Below w.heap.size w w' := by
  have HR := Lib.hid hr
  have HN := Lib.hid hn
  have HO := Lib.hid hok
  have HX := Lib.hid X
  have HY := Lib.hid Y
  have HGL := Lib.hid gl
  clear hr hn hok X Y gl
  have HGR : Hid (∀ W, Below w.heap.size w W → Calls Tryz.prog 8 #[.slice A n c] W (GreatTo n l W)) := Lib.hid fun W hW => great_any A n c l W ((HR.out.below hW).more hW.size) HN.out (by omega)
  have HPK : Hid (∀ W, Calls Tryz.prog 12 #[.int .i64 room, .int .i64 16384] W fun e w' => e = .returned (.int .i64 (pick room 16384 : Nat)) ∧ W = w') := Lib.hid (fun W => Pick_any room 16384 W (by omega) (by omega))
  have hp := pick_lt room 16384 (by omega)
  obtain ⟨r0, hr0⟩ : ∃ r0 : Nat, pick room 16384 = r0 := ⟨_, rfl⟩
  rw [hr0] at hp HPK
  clear hr0
  have hok0 := Lib.hid (new_ok r0 (by omega))
  obtain ⟨d0, o0, E0, q0, R0, h0, l0⟩ := open_rest (new_rest r0 (by omega)) rfl
  obtain ⟨rfl, hl0⟩ := l0 rfl
  rcases h0 with ⟨_, rfl, hoff0, F0⟩ | ⟨h9, _⟩
  case inr => exact absurd h9 (by decide)
  have HNW : Hid (∀ W, Gl W → Calls Tryz.prog 9 #[.int .i64 (r0 : Nat)] W fun e w' => ∃ g G, e = .returned (.tuple #[.pointer (some ⟨g, 0, none⟩), .int .i64 0]) ∧ D w' G g (newD r0) ∧ Below W.heap.size W w' ∧ ∀ b, G b → W.heap.size ≤ b) := Lib.hid fun W hg => HY.out.newYes r0 W hg (by omega)
  have HOP : Hid (∀ (W : World) (G : Nat → Prop) (g : Nat), D W G g (newD r0) → Calls Tryz.prog 10 #[.pointer (some ⟨g, 0, none⟩)] W fun e w' => ∃ q, LStp K G g q d0 ⟨1, 0, [], 0 + cntS []⟩ (.tuple #[.pointer (some ⟨q, 0, none⟩), .int .i64 0]) W e w') := Lib.hid (fun W G g h => HX.out.openYes h hok0.out q0)
  have HIS := Lib.hid (F0.is (Nat.le_refl 1))
  clear q0 R0 F0 hok0
  by_cases hbig : 100 < n
  · go_enter Tryz.func5, Tryz.ntmps5
    go_wp2_with fail
    refine (works14 HY.out HX.out w HGL.out).mono ?_
    rintro e w1 ⟨rfl, b1⟩
    go_wp2_with fail
    refine (HGR.out w1 b1).mono ?_
    rintro e w2 ⟨bb, rfl, rfl, hb2⟩
    cases bb with
    | false => have := (hb2 rfl).1; omega
    | true =>
      go_wp2
      go_ret
      exact ⟨rfl, b1⟩
  have hn100 : n ≤ 100 := by omega
  clear hbig
  go_enter Tryz.func5, Tryz.ntmps5
  go_wp2_with fail
  refine (works14 HY.out HX.out w HGL.out).mono ?_
  rintro e w1 ⟨rfl, b1⟩
  go_wp2_with fail
  refine (HGR.out w1 b1).mono ?_
  rintro e w2 ⟨bb, rfl, rfl, hb2⟩
  cases bb with
  | true =>
    go_wp2
    go_ret
    exact ⟨rfl, b1⟩
  | false =>
  have HSM := Lib.hid (hb2 rfl).2
  clear hb2
  go_wp2_with fail
  refine (HPK.out w1).mono ?_
  rintro e w2 ⟨rfl, rfl⟩
  go_wp2_with fail
  refine (HNW.out w1 (HGL.out.below b1)).mono ?_
  rintro e w2 ⟨g, G1, rfl, h1, b2, n1⟩
  have n1' : ∀ b, G1 b → w.heap.size ≤ b := fun b hb => Nat.le_trans b1.size (n1 b hb)
  have b2' := b1.trans (b2.mono b1.size)
  go_wp2_with fail
  refine (HOP.out w2 G1 g h1).mono ?_
  rintro e w3 ⟨q, rfl, G2, k2, f2, m2⟩
  have HI : Hid (∃ G d l, FullTo K g q G d l [] 0 (.slice none 0 0) w w3 ∧ d.left = -1 ∧ d.off = false) := Lib.hid (by
    obtain ⟨n3, b3⟩ := new_blocks f2 m2 n1' b2'
    exact ⟨G2, _, _, ⟨k2, n3, b3, RwOwn.nil _ _, fun b hb => (nomatch hb), HIS.out, rfl, rfl, rfl, Nat.le_refl _, fun p hp => (nomatch hp)⟩, hl0, hoff0⟩)
  clear k2 f2 m2 h1 n1 n1' b2 b2' b1 HIS HOP HNW HPK HGR hp
  go_wp2
  go_loopw [9, 10, 11, 12, 13] (fun v i _ _ _ wr => ∃ k : Nat, k ≤ n ∧ i = .int .i64 k ∧ ∃ A0 n0 c0, v = .slice A0 n0 c0 ∧ Hid (∃ G d l all, FullTo K g q G d l all k (.slice A0 n0 c0) w wr ∧ d.left = -1 ∧ d.off = false ∧ n0 = all.length)) (fun _ i _ _ _ _ => n - (intOf i).toNat)
  case atStart =>
    obtain ⟨G, d, lg, h, h2, h3⟩ := HI.out
    exact ⟨0, by omega, rfl, none, 0, 0, rfl, Lib.hid ⟨G, d, lg, [], h, h2, h3, rfl⟩⟩
  case round =>
    obtain ⟨k, hk, rfl, A0, n0, c0, rfl, hrel⟩ := hrel
    clear HI
    by_cases hlt : k < n
    · have hkl : k < l.length := by rw [HN.out]; exact hlt
      obtain ⟨G, d, lg, all, hls, hL, hO, hn0⟩ := hrel.out
      obtain ⟨b, o, rfl, hbw, hc⟩ := HR.out.elem lmC_len (by omega) hkl
      have hm := HO.out _ (List.getElem_mem hkl)
      have hsm := HSM.out _ (List.getElem_mem hkl)
      obtain ⟨m, hmm⟩ : ∃ m, l[k] = m := ⟨_, rfl⟩
      rw [hmm] at hc hm hsm
      obtain ⟨A', n', c', bs⟩ := m
      have HC := Lib.hid (hc 0 _ rfl)
      have e0 := (hls.bel.cell (p := ⟨b, o + k * 1 + 0, none⟩) hbw).trans HC.out
      have hmr := hm.row
      have hml := hm.len
      have hle := hm.le
      have hcap := hm.cap
      simp only at e0 hmr hml hle hcap hsm
      rw [Nat.mul_one, Nat.add_zero] at e0 HC
      have i3 : (k : Int) < (n : Int) := by omega
      have hlen := hls.len
      obtain ⟨d1, l1, a1, E1, q1, s1, s2, s3, s4, s5, s6⟩ := full_step hls.is hls.n1 hls.f0 hls.fl (by omega) hL hO bs hmr.1
      obtain ⟨_, Gd, hdv, hds⟩ := HX.out.dev hls.log
      have HU0 := Lib.hid (HY.out.used hdv hls.is.ok)
      have hus : usedD d.fs ≤ 16777216 := by have := hls.is.ok.us; have := hls.is.ok.rm; omega
      obtain ⟨U, hU⟩ : ∃ U : Nat, usedD d.fs = U := ⟨_, rfl⟩
      rw [hU] at HU0 hus s6
      have hw1 : IntKind.i64.wrap ((U : Int) + (n' : Int)) = (U : Int) + (n' : Int) := by rw [IntKind.wrap_i64]; omega
      have hw2 : IntKind.i64.wrap ((U : Int) + (n' : Int) + 6) = (U : Int) + (n' : Int) + 6 := by rw [IntKind.wrap_i64]; omega
      have hw3 : IntKind.i64.wrap ((n' : Int) + 6) = (n' : Int) + 6 := by rw [IntKind.wrap_i64]; omega
      have HLS := Lib.hid hls
      have HN0 := Lib.hid hn0
      have HMR := Lib.hid hmr
      have HML := Lib.hid hml
      have HAPP : Hid (∀ W, Below wr.heap.size wr W → Calls Tryz.prog 21 #[.pointer (some ⟨q, 0, none⟩), .slice A' n' c'] W (LStp K G g q d1 l1 (.tuple #[.int .i64 a1, .int .i64 E1]) W)) := Lib.hid fun W hW => by
        have h2 := HLS.out.below HX.out hW
        exact HX.out.append A' n' c' bs h2.log ((HMR.out.below h2.bel).more h2.bel.size) HML.out hle hcap hsm (fun a ha hp e => by
          obtain ⟨b', o', e1, e2, _⟩ := HMR.out.2 (by rw [HML.out]; exact hp)
          rw [ha] at e1
          injection e1 with e1
          subst e1
          have := h2.new _ e
          simp only at this
          omega) q1
      clear hmm hc hm hmr hml hrel hdv hds hls q1 hU hn0
      go_wp2_with fail
      refine HU0.out.mono ?_
      rintro e w2 ⟨rfl, b2⟩
      have e2 := (b2.cell (p := ⟨b, o + k, none⟩) (Nat.lt_of_lt_of_le hbw HLS.out.bel.size)).trans e0
      have HLS2 := Lib.hid (HLS.out.below HX.out b2)
      have hAP2 := Lib.hid (HAPP.out w2 b2)
      clear HU0 e0 b2 HAPP HLS
      go_wp2_with fail
      refine hAP2.out.mono ?_
      rintro e w3 hst
      have HST := Lib.hid hst
      obtain ⟨rfl, G3, k3, f3, m3⟩ := hst
      obtain ⟨ok3, Gd3, hd3, hds3⟩ := HX.out.dev k3
      have HB3 : Hid (Below w.heap.size w w3) := Lib.hid (f3.below HLS2.out.bel HLS2.out.bel.size HLS2.out.new)
      have e3 : w3.cell? ⟨b, o + k, none⟩ = some (.slice A' n' c') := (HB3.out.cell (p := ⟨b, o + k, none⟩) hbw).trans HC.out
      have HD3 : Hid (∀ W, Below w3.heap.size w3 W → D W Gd3 g d1) := Lib.hid fun W hW => HY.out.dev.below hd3 hW
      have HK : Hid (∀ w9, Below w3.heap.size w3 w9 → Below w3.heap.size w3 w9 ∧ w9.cell? ⟨b, o + k, none⟩ = some (.slice A' n' c')) := Lib.hid fun w9 h => ⟨h, (h.cell (p := ⟨b, o + k, none⟩) (Nat.lt_of_lt_of_le hbw HB3.out.size)).trans e3⟩
      rcases s6 with ⟨rfl, rfl, hfl, hpl, hus1⟩ | ⟨rfl, hfl, hus1, hE⟩
      · have HU3 : Hid (∀ W, Below w3.heap.size w3 W → Calls Tryz.prog 20 #[.pointer (some ⟨g, 0, none⟩)] W fun e w' => e = .returned (.int .i64 ((U : Int) + (n' : Int) + 6)) ∧ Below W.heap.size W w') := Lib.hid fun W hW => by
          have := HY.out.used (HD3.out W hW) ok3
          rw [hus1, HML.out, show ((U + (n' + 6) : Nat) : Int) = (U : Int) + (n' : Int) + 6 by omega] at this
          exact this
        have HGRW : Hid (∀ W, Below w3.heap.size w3 W → ∃ G' A1 n1 q1 w', (∀ ty, (Builtin.append_ #[22, 22] ty #[.slice A0 n0 c0, .slice (some ⟨W.heap.size, 0, none⟩) 1 1]).run Tryz.prog (W.alloc (.cells #[.slice A' n' c'] 47)) = .ok (.slice A1 n1 q1) w') ∧ FullTo K g q G' d1 l1 (all ++ [bs]) (k + 1) (.slice A1 n1 q1) w w' ∧ n1 = (all ++ [bs]).length) := Lib.hid fun W hW => by
          have hW2 := hW.alloc hW.size (.cells #[.slice A' n' c'] 47)
          obtain ⟨G', v', w', r1, r2⟩ := HLS2.out.grow HX.out HGL.out (by omega) HST.out s1 s2 s3 hfl hW2 W.heap.size A' n' c' (heap_alloc_new W _) HMR.out HML.out hle (by unfold maxLen; omega) hpl
          obtain ⟨A1, c1, rfl, _⟩ := r2.own.brow r2.bel
          exact ⟨G', A1, _, c1, w', r1, r2, rfl⟩
        have hn0 := HN0.out
        subst hn0
        clear hd3 k3 f3 m3 hds3 HST
        go_wp2
        refine wp_region_held_drew (S := (fun w9 => Below w3.heap.size w3 w9 ∧ w9.cell? ⟨b, o + k, none⟩ = some (.slice A' n' c'))) (by kernel_rfl) (HK.out _ (below_drew (Below.refl _ _))) (fun hHeld => ?_)
        refine wpAnyH_take (i := 0) (oi := { dst := some 56, op := Op.move (Operand.tmp 12), type := 3, pos := "outright.go:235", after := #[], guard := none }) (v := ?v1) rfl (by kernel_rfl) (by kernel_rfl) (by kernel_rfl) (fun _ _ _ h => h) (Or.inl ⟨by rfl, ?hy1⟩) (by assumption) ?rest1
        case hy1 => (intro w' hSw; (try dsimp only at hSw); go_simp; try with_reducible rfl)
        simp only [Act.put, List.setIfInBounds_toArray, List.set_cons_zero, List.set_cons_succ]
        refine wpAnyH_take (i := 1) (oi := { dst := some 57, op := Op.move (Operand.tmp 9), type := 22, pos := "outright.go:235", after := #[], guard := none }) (v := ?v2) rfl (by kernel_rfl) (by kernel_rfl) (by kernel_rfl) (fun _ _ _ h => h) (Or.inl ⟨by rfl, ?hy2⟩) (by assumption) ?rest2
        case hy2 => (intro w' hSw; (try dsimp only at hSw); go_simp; try with_reducible rfl)
        simp only [Act.put, List.setIfInBounds_toArray, List.set_cons_zero, List.set_cons_succ]
        refine wpAnyH_take (i := 2) (oi := { dst := some 58, op := Op.call { callee := Callee.builtin Builtin.len, args := #[Operand.tmp 57], argTypes := #[22] }, type := 3, pos := "outright.go:235", after := #[{ on := 1, ground := Ground.data }], guard := none }) (v := ?v3) rfl (by kernel_rfl) (by kernel_rfl) (by kernel_rfl) (fun _ _ _ h => h) (Or.inl ⟨by rfl, ?hy3⟩) (by assumption) ?rest3
        case hy3 => (intro w' hSw; (try dsimp only at hSw); go_simp; try with_reducible rfl)
        simp only [Act.put, List.setIfInBounds_toArray, List.set_cons_zero, List.set_cons_succ]
        refine wpAnyH_take (i := 3) (oi := { dst := some 59, op := Op.binOp BinOp.neq 3 (Operand.tmp 56) (Operand.tmp 58) 3, type := 4, pos := "outright.go:235", after := #[{ on := 0, ground := Ground.data }, { on := 2, ground := Ground.data }], guard := none }) (v := ?v4) rfl (by kernel_rfl) (by kernel_rfl) (by kernel_rfl) (fun _ _ _ h => h) (Or.inl ⟨by rfl, ?hy4⟩) (by assumption) ?rest4
        case hy4 => (intro w' hSw; (try dsimp only at hSw); go_simp; try with_reducible rfl)
        simp only [Act.put, List.setIfInBounds_toArray, List.set_cons_zero, List.set_cons_succ]
        refine wpAnyH_take (i := 4) (oi := { dst := some 60, op := Op.move (Operand.tmp 59), type := 4, pos := "outright.go:235", after := #[{ on := 3, ground := Ground.data }], guard := none }) (v := ?v5) rfl (by kernel_rfl) (by kernel_rfl) (by kernel_rfl) (fun _ _ _ h => h) (Or.inl ⟨by rfl, ?hy5⟩) (by assumption) ?rest5
        case hy5 => (intro w' hSw; (try dsimp only at hSw); go_simp; try with_reducible rfl)
        simp only [Act.put, List.setIfInBounds_toArray, List.set_cons_zero, List.set_cons_succ]
        refine wpAnyH_take (i := 5) (oi := { dst := some 61, op := Op.move (Operand.tmp 5), type := 26, pos := "outright.go:235", after := #[{ on := 4, ground := Ground.guard }], guard := some (4, false) }) (v := ?v6) rfl (by kernel_rfl) (by kernel_rfl) (by kernel_rfl) (fun _ _ _ h => h) (Or.inl ⟨by rfl, ?hy6⟩) (by assumption) ?rest6
        case hy6 => (intro w' hSw; (try dsimp only at hSw); go_simp; try with_reducible rfl)
        simp only [Act.put, List.setIfInBounds_toArray, List.set_cons_zero, List.set_cons_succ]
        refine wpAnyH_take (i := 7) (oi := { dst := some 63, op := Op.move (Operand.tmp 11), type := 3, pos := "outright.go:235", after := #[{ on := 4, ground := Ground.guard }], guard := some (4, false) }) (v := ?v7) rfl (by kernel_rfl) (by kernel_rfl) (by kernel_rfl) (fun _ _ _ h => h) (Or.inl ⟨by rfl, ?hy7⟩) (by assumption) ?rest7
        case hy7 => (intro w' hSw; (try dsimp only at hSw); go_simp; try with_reducible rfl)
        simp only [Act.put, List.setIfInBounds_toArray, List.set_cons_zero, List.set_cons_succ]
        refine wpAnyH_take (i := 8) (oi := { dst := some 64, op := Op.move (Operand.tmp 1), type := 22, pos := "outright.go:235", after := #[{ on := 4, ground := Ground.guard }], guard := some (4, false) }) (v := ?v8) rfl (by kernel_rfl) (by kernel_rfl) (by kernel_rfl) (fun _ _ _ h => h) (Or.inl ⟨by rfl, ?hy8⟩) (by assumption) ?rest8
        case hy8 => (intro w' hSw; (try dsimp only at hSw); go_simp; try with_reducible rfl)
        simp only [Act.put, List.setIfInBounds_toArray, List.set_cons_zero, List.set_cons_succ]
        refine wpAnyH_take (i := 9) (oi := { dst := some 65, op := Op.move (Operand.tmp 10), type := 3, pos := "outright.go:235", after := #[{ on := 4, ground := Ground.guard }], guard := some (4, false) }) (v := ?v9) rfl (by kernel_rfl) (by kernel_rfl) (by kernel_rfl) (fun _ _ _ h => h) (Or.inl ⟨by rfl, ?hy9⟩) (by assumption) ?rest9
        case hy9 => (intro w' hSw; (try dsimp only at hSw); go_simp; try with_reducible rfl)
        simp only [Act.put, List.setIfInBounds_toArray, List.set_cons_zero, List.set_cons_succ]
        refine wpAnyH_take (i := 10) (oi := { dst := some 66, op := Op.indexAddr 22 (Operand.tmp 64) (Operand.tmp 65), type := 0, pos := "outright.go:235", after := #[{ on := 8, ground := Ground.data }, { on := 9, ground := Ground.data }, { on := 4, ground := Ground.guard }], guard := some (4, false) }) (v := ?v10) rfl (by kernel_rfl) (by kernel_rfl) (by kernel_rfl) (fun _ _ _ h => h) (Or.inl ⟨by rfl, ?hy10⟩) (by assumption) ?rest10
        case hy10 => (intro w' hSw; (try dsimp only at hSw); go_simp; try with_reducible rfl)
        simp only [Act.put, List.setIfInBounds_toArray, List.set_cons_zero, List.set_cons_succ]
        refine wpAnyH_take (i := 11) (oi := { dst := some 67, op := Op.load 47 (Operand.tmp 66), type := 47, pos := "outright.go:235", after := #[{ on := 10, ground := Ground.data }, { on := 4, ground := Ground.guard }], guard := some (4, false) }) (v := ?v11) rfl (by kernel_rfl) (by kernel_rfl) (by kernel_rfl) (fun _ _ _ h => h) (Or.inl ⟨by rfl, ?hy11⟩) (by assumption) ?rest11
        case hy11 => (intro w' hSw; (try dsimp only at hSw); go_simp; try with_reducible rfl)
        simp only [Act.put, List.setIfInBounds_toArray, List.set_cons_zero, List.set_cons_succ]
        refine wpAnyH_take (i := 12) (oi := { dst := some 68, op := Op.call { callee := Callee.builtin Builtin.len, args := #[Operand.tmp 67], argTypes := #[47] }, type := 3, pos := "outright.go:235", after := #[{ on := 11, ground := Ground.data }, { on := 4, ground := Ground.guard }], guard := some (4, false) }) (v := ?v12) rfl (by kernel_rfl) (by kernel_rfl) (by kernel_rfl) (fun _ _ _ h => h) (Or.inl ⟨by rfl, ?hy12⟩) (by assumption) ?rest12
        case hy12 => (intro w' hSw; (try dsimp only at hSw); go_simp; try with_reducible rfl)
        simp only [Act.put, List.setIfInBounds_toArray, List.set_cons_zero, List.set_cons_succ]
        refine wpAnyH_take (i := 13) (oi := { dst := some 69, op := Op.binOp BinOp.add 3 (Operand.tmp 63) (Operand.tmp 68) 3, type := 3, pos := "outright.go:235", after := #[{ on := 7, ground := Ground.data }, { on := 12, ground := Ground.data }, { on := 4, ground := Ground.guard }], guard := some (4, false) }) (v := ?v13) rfl (by kernel_rfl) (by kernel_rfl) (by kernel_rfl) (fun _ _ _ h => h) (Or.inl ⟨by rfl, ?hy13⟩) (by assumption) ?rest13
        case hy13 => (intro w' hSw; (try dsimp only at hSw); go_simp; try with_reducible rfl)
        simp only [Act.put, List.setIfInBounds_toArray, List.set_cons_zero, List.set_cons_succ]
        refine wpAnyH_take (i := 14) (oi := { dst := some 70, op := Op.binOp BinOp.add 3 (Operand.tmp 69) (Operand.const (Value.int IntKind.i64 6)) 3, type := 3, pos := "outright.go:235", after := #[{ on := 13, ground := Ground.data }, { on := 4, ground := Ground.guard }], guard := some (4, false) }) (v := ?v14) rfl (by kernel_rfl) (by kernel_rfl) (by kernel_rfl) (fun _ _ _ h => h) (Or.inl ⟨by rfl, ?hy14⟩) (by assumption) ?rest14
        case hy14 => (intro w' hSw; (try dsimp only at hSw); go_simp; try with_reducible rfl)
        simp only [Act.put, List.setIfInBounds_toArray, List.set_cons_zero, List.set_cons_succ]
        refine wpAnyH_ready (rs := [6]) (by kernel_rfl) (by simp) ?_
        refine AllReadyH.cons (o := { dst := some 62, op := Op.call { callee := Callee.value (Operand.func 20), args := #[Operand.tmp 61], argTypes := #[26] }, type := 3, pos := "outright.go:235", after := #[{ on := 5, ground := Ground.data }, { on := 4, ground := Ground.chain }, { on := 4, ground := Ground.guard }], guard := some (4, false) }) rfl (fun K hK => ?_) AllReadyH.nil
        go_simp
        go_at_call 20
        have bh := hHeld.1
        refine (HU3.out _ bh).mono ?_
        rintro e w4 ⟨rfl, bw4⟩
        have belw4 := bh.trans (bw4.mono bh.size)
        clear bh bw4
        refine hK.out _ _ (HK.out _ belw4) (fun hHeld => ?_)
        clear hK K
        (try simp only [Act.put, List.setIfInBounds_toArray, List.set_cons_zero, List.set_cons_succ])
        refine wpAnyH_take (i := 15) (oi := { dst := some 71, op := Op.binOp BinOp.neq 3 (Operand.tmp 62) (Operand.tmp 70) 3, type := 4, pos := "outright.go:235", after := #[{ on := 6, ground := Ground.data }, { on := 14, ground := Ground.data }, { on := 4, ground := Ground.guard }], guard := some (4, false) }) (v := ?v15) rfl (by kernel_rfl) (by kernel_rfl) (by kernel_rfl) (fun _ _ _ h => h) (Or.inl ⟨by rfl, ?hy15⟩) (by assumption) ?rest15
        case hy15 => (intro w' hSw; (try dsimp only at hSw); go_simp; try with_reducible rfl)
        simp only [Act.put, List.setIfInBounds_toArray, List.set_cons_zero, List.set_cons_succ]
        refine wpAnyH_take (i := 16) (oi := { dst := some 72, op := Op.pick (Operand.tmp 60) (Operand.const (Value.bool true)) (Operand.tmp 71), type := 4, pos := "outright.go:235", after := #[{ on := 4, ground := Ground.data }, { on := 15, ground := Ground.data }], guard := none }) (v := ?v16) rfl (by kernel_rfl) (by kernel_rfl) (by kernel_rfl) (fun _ _ _ h => h) (Or.inl ⟨by rfl, ?hy16⟩) (by assumption) ?rest16
        case hy16 => (intro w' hSw; (try dsimp only at hSw); go_simp; try with_reducible rfl)
        simp only [Act.put, List.setIfInBounds_toArray, List.set_cons_zero, List.set_cons_succ]
        refine wpAnyH_done (by kernel_rfl) ?_ _
        have BW4 := Lib.hid belw4
        obtain ⟨G4, A1, n1, q1, w5, hrun, hfu, hn1⟩ := HGRW.out w4 belw4
        have HFU : Hid (∃ G d l all, FullTo K g q G d l all (k + 1) (.slice A1 n1 q1) w w5 ∧ d.left = -1 ∧ d.off = false ∧ n1 = all.length) := Lib.hid ⟨_, _, _, _, hfu, s4, s5, hn1⟩
        clear hfu hn1 HGRW HU3 HK HD3
        go_wp2_with (at_builtin; refine wpList_append_run _ rfl _ _ 22 rfl _ _ _ _ rfl rfl hrun ?_)
        go_roundw
        case rel => exact ⟨k + 1, by omega, by go_num, A1, n1, q1, rfl, HFU⟩
        case measure => simp [intOf]; omega
      · have HU3 : Hid (∀ W, Below w3.heap.size w3 W → Calls Tryz.prog 20 #[.pointer (some ⟨g, 0, none⟩)] W fun e w' => e = .returned (.int .i64 (U : Int)) ∧ Below W.heap.size W w') := Lib.hid fun W hW => by
          have := HY.out.used (HD3.out W hW) ok3
          rw [hus1] at this
          exact this
        have HFU : Hid (∀ W, Below w3.heap.size w3 W → ∃ G d l all, FullTo K g q G d l all (k + 1) (.slice A0 n0 c0) w W ∧ d.left = -1 ∧ d.off = false ∧ n0 = all.length) := Lib.hid fun W hW => by
          obtain ⟨G', h⟩ := HLS2.out.step HST.out s1 s2 s3 hfl (Nat.le_succ k)
          exact ⟨_, _, _, _, h.below HX.out hW, s4, s5, HN0.out⟩
        rcases hE with rfl | ⟨rfl, hE⟩
        · clear hd3 k3 f3 m3 hds3 HST
          go_wp2
          refine wp_region_held_drew (S := (fun w9 => Below w3.heap.size w3 w9 ∧ w9.cell? ⟨b, o + k, none⟩ = some (.slice A' n' c'))) (by kernel_rfl) (HK.out _ (below_drew (Below.refl _ _))) (fun hHeld => ?_)
          refine wpAnyH_take (i := 0) (oi := { dst := some 80, op := Op.move (Operand.tmp 13), type := 27, pos := "outright.go:239", after := #[], guard := none }) (v := ?v17) rfl (by kernel_rfl) (by kernel_rfl) (by kernel_rfl) (fun _ _ _ h => h) (Or.inl ⟨by rfl, ?hy17⟩) (by assumption) ?rest17
          case hy17 => (intro w' hSw; (try dsimp only at hSw); go_simp; try with_reducible rfl)
          simp only [Act.put, List.setIfInBounds_toArray, List.set_cons_zero, List.set_cons_succ]
          refine wpAnyH_take (i := 1) (oi := { dst := some 81, op := Op.binOp BinOp.neq 27 (Operand.tmp 80) (Operand.const (Value.int IntKind.i64 9)) 27, type := 4, pos := "outright.go:239", after := #[{ on := 0, ground := Ground.data }], guard := none }) (v := ?v18) rfl (by kernel_rfl) (by kernel_rfl) (by kernel_rfl) (fun _ _ _ h => h) (Or.inl ⟨by rfl, ?hy18⟩) (by assumption) ?rest18
          case hy18 => (intro w' hSw; (try dsimp only at hSw); go_simp; try with_reducible rfl)
          simp only [Act.put, List.setIfInBounds_toArray, List.set_cons_zero, List.set_cons_succ]
          refine wpAnyH_take (i := 2) (oi := { dst := some 82, op := Op.move (Operand.tmp 81), type := 4, pos := "outright.go:239", after := #[{ on := 1, ground := Ground.data }], guard := none }) (v := ?v19) rfl (by kernel_rfl) (by kernel_rfl) (by kernel_rfl) (fun _ _ _ h => h) (Or.inl ⟨by rfl, ?hy19⟩) (by assumption) ?rest19
          case hy19 => (intro w' hSw; (try dsimp only at hSw); go_simp; try with_reducible rfl)
          simp only [Act.put, List.setIfInBounds_toArray, List.set_cons_zero, List.set_cons_succ]
          refine wpAnyH_take (i := 3) (oi := { dst := some 83, op := Op.move (Operand.tmp 13), type := 27, pos := "outright.go:239", after := #[{ on := 2, ground := Ground.guard }], guard := some (2, true) }) (v := ?v20) rfl (by kernel_rfl) (by kernel_rfl) (by kernel_rfl) (fun _ _ _ h => h) (Or.inl ⟨by rfl, ?hy20⟩) (by assumption) ?rest20
          case hy20 => (intro w' hSw; (try dsimp only at hSw); go_simp; try with_reducible rfl)
          simp only [Act.put, List.setIfInBounds_toArray, List.set_cons_zero, List.set_cons_succ]
          refine wpAnyH_take (i := 4) (oi := { dst := some 84, op := Op.binOp BinOp.neq 27 (Operand.tmp 83) (Operand.const (Value.int IntKind.i64 2)) 27, type := 4, pos := "outright.go:239", after := #[{ on := 3, ground := Ground.data }, { on := 2, ground := Ground.guard }], guard := some (2, true) }) (v := ?v21) rfl (by kernel_rfl) (by kernel_rfl) (by kernel_rfl) (fun _ _ _ h => h) (Or.inl ⟨by rfl, ?hy21⟩) (by assumption) ?rest21
          case hy21 => (intro w' hSw; (try dsimp only at hSw); go_simp; try with_reducible rfl)
          simp only [Act.put, List.setIfInBounds_toArray, List.set_cons_zero, List.set_cons_succ]
          refine wpAnyH_take (i := 5) (oi := { dst := some 85, op := Op.pick (Operand.tmp 82) (Operand.tmp 84) (Operand.const (Value.bool false)), type := 4, pos := "outright.go:239", after := #[{ on := 2, ground := Ground.data }, { on := 4, ground := Ground.data }], guard := none }) (v := ?v22) rfl (by kernel_rfl) (by kernel_rfl) (by kernel_rfl) (fun _ _ _ h => h) (Or.inl ⟨by rfl, ?hy22⟩) (by assumption) ?rest22
          case hy22 => (intro w' hSw; (try dsimp only at hSw); go_simp; try with_reducible rfl)
          simp only [Act.put, List.setIfInBounds_toArray, List.set_cons_zero, List.set_cons_succ]
          refine wpAnyH_take (i := 6) (oi := { dst := some 86, op := Op.move (Operand.tmp 85), type := 4, pos := "outright.go:239", after := #[{ on := 5, ground := Ground.data }, { on := 2, ground := Ground.chain }], guard := none }) (v := ?v23) rfl (by kernel_rfl) (by kernel_rfl) (by kernel_rfl) (fun _ _ _ h => h) (Or.inl ⟨by rfl, ?hy23⟩) (by assumption) ?rest23
          case hy23 => (intro w' hSw; (try dsimp only at hSw); go_simp; try with_reducible rfl)
          simp only [Act.put, List.setIfInBounds_toArray, List.set_cons_zero, List.set_cons_succ]
          refine wpAnyH_take (i := 7) (oi := { dst := some 87, op := Op.move (Operand.tmp 5), type := 26, pos := "outright.go:239", after := #[{ on := 6, ground := Ground.guard }], guard := some (6, false) }) (v := ?v24) rfl (by kernel_rfl) (by kernel_rfl) (by kernel_rfl) (fun _ _ _ h => h) (Or.inl ⟨by rfl, ?hy24⟩) (by assumption) ?rest24
          case hy24 => (intro w' hSw; (try dsimp only at hSw); go_simp; try with_reducible rfl)
          simp only [Act.put, List.setIfInBounds_toArray, List.set_cons_zero, List.set_cons_succ]
          refine wpAnyH_take (i := 9) (oi := { dst := some 89, op := Op.move (Operand.tmp 11), type := 3, pos := "outright.go:239", after := #[{ on := 6, ground := Ground.guard }], guard := some (6, false) }) (v := ?v25) rfl (by kernel_rfl) (by kernel_rfl) (by kernel_rfl) (fun _ _ _ h => h) (Or.inl ⟨by rfl, ?hy25⟩) (by assumption) ?rest25
          case hy25 => (intro w' hSw; (try dsimp only at hSw); go_simp; try with_reducible rfl)
          simp only [Act.put, List.setIfInBounds_toArray, List.set_cons_zero, List.set_cons_succ]
          refine wpAnyH_ready (rs := [8]) (by kernel_rfl) (by simp) ?_
          refine AllReadyH.cons (o := { dst := some 88, op := Op.call { callee := Callee.value (Operand.func 20), args := #[Operand.tmp 87], argTypes := #[26] }, type := 3, pos := "outright.go:239", after := #[{ on := 7, ground := Ground.data }, { on := 6, ground := Ground.chain }, { on := 6, ground := Ground.guard }], guard := some (6, false) }) rfl (fun K hK => ?_) AllReadyH.nil
          go_simp
          go_at_call 20
          have bh := hHeld.1
          refine (HU3.out _ bh).mono ?_
          rintro e w4 ⟨rfl, bw4⟩
          have belw4 := bh.trans (bw4.mono bh.size)
          clear bh bw4
          refine hK.out _ _ (HK.out _ belw4) (fun hHeld => ?_)
          clear hK K
          (try simp only [Act.put, List.setIfInBounds_toArray, List.set_cons_zero, List.set_cons_succ])
          refine wpAnyH_take (i := 10) (oi := { dst := some 90, op := Op.binOp BinOp.neq 3 (Operand.tmp 88) (Operand.tmp 89) 3, type := 4, pos := "outright.go:239", after := #[{ on := 8, ground := Ground.data }, { on := 9, ground := Ground.data }, { on := 6, ground := Ground.guard }], guard := some (6, false) }) (v := ?v26) rfl (by kernel_rfl) (by kernel_rfl) (by kernel_rfl) (fun _ _ _ h => h) (Or.inl ⟨by rfl, ?hy26⟩) (by assumption) ?rest26
          case hy26 => (intro w' hSw; (try dsimp only at hSw); go_simp; try with_reducible rfl)
          simp only [Act.put, List.setIfInBounds_toArray, List.set_cons_zero, List.set_cons_succ]
          refine wpAnyH_take (i := 11) (oi := { dst := some 91, op := Op.pick (Operand.tmp 86) (Operand.const (Value.bool true)) (Operand.tmp 90), type := 4, pos := "outright.go:239", after := #[{ on := 6, ground := Ground.data }, { on := 10, ground := Ground.data }], guard := none }) (v := ?v27) rfl (by kernel_rfl) (by kernel_rfl) (by kernel_rfl) (fun _ _ _ h => h) (Or.inl ⟨by rfl, ?hy27⟩) (by assumption) ?rest27
          case hy27 => (intro w' hSw; (try dsimp only at hSw); go_simp; try with_reducible rfl)
          simp only [Act.put, List.setIfInBounds_toArray, List.set_cons_zero, List.set_cons_succ]
          refine wpAnyH_take (i := 12) (oi := { dst := some 92, op := Op.move (Operand.tmp 91), type := 4, pos := "outright.go:239", after := #[{ on := 11, ground := Ground.data }, { on := 8, ground := Ground.chain }], guard := none }) (v := ?v28) rfl (by kernel_rfl) (by kernel_rfl) (by kernel_rfl) (fun _ _ _ h => h) (Or.inl ⟨by rfl, ?hy28⟩) (by assumption) ?rest28
          case hy28 => (intro w' hSw; (try dsimp only at hSw); go_simp; try with_reducible rfl)
          simp only [Act.put, List.setIfInBounds_toArray, List.set_cons_zero, List.set_cons_succ]
          refine wpAnyH_take (i := 13) (oi := { dst := some 93, op := Op.move (Operand.tmp 12), type := 3, pos := "outright.go:239", after := #[{ on := 12, ground := Ground.guard }], guard := some (12, false) }) (v := ?v29) rfl (by kernel_rfl) (by kernel_rfl) (by kernel_rfl) (fun _ _ _ h => h) (Or.inl ⟨by rfl, ?hy29⟩) (by assumption) ?rest29
          case hy29 => (intro w' hSw; (try dsimp only at hSw); go_simp; try with_reducible rfl)
          simp only [Act.put, List.setIfInBounds_toArray, List.set_cons_zero, List.set_cons_succ]
          refine wpAnyH_take (i := 14) (oi := { dst := some 94, op := Op.binOp BinOp.neq 3 (Operand.tmp 93) (Operand.const (Value.int IntKind.i64 0)) 3, type := 4, pos := "outright.go:239", after := #[{ on := 13, ground := Ground.data }, { on := 12, ground := Ground.guard }], guard := some (12, false) }) (v := ?v30) rfl (by kernel_rfl) (by kernel_rfl) (by kernel_rfl) (fun _ _ _ h => h) (Or.inl ⟨by rfl, ?hy30⟩) (by assumption) ?rest30
          case hy30 => (intro w' hSw; (try dsimp only at hSw); go_simp; try with_reducible rfl)
          simp only [Act.put, List.setIfInBounds_toArray, List.set_cons_zero, List.set_cons_succ]
          refine wpAnyH_take (i := 15) (oi := { dst := some 95, op := Op.pick (Operand.tmp 92) (Operand.const (Value.bool true)) (Operand.tmp 94), type := 4, pos := "outright.go:239", after := #[{ on := 12, ground := Ground.data }, { on := 14, ground := Ground.data }], guard := none }) (v := ?v31) rfl (by kernel_rfl) (by kernel_rfl) (by kernel_rfl) (fun _ _ _ h => h) (Or.inl ⟨by rfl, ?hy31⟩) (by assumption) ?rest31
          case hy31 => (intro w' hSw; (try dsimp only at hSw); go_simp; try with_reducible rfl)
          simp only [Act.put, List.setIfInBounds_toArray, List.set_cons_zero, List.set_cons_succ]
          refine wpAnyH_take (i := 16) (oi := { dst := some 96, op := Op.move (Operand.tmp 95), type := 4, pos := "outright.go:239", after := #[{ on := 15, ground := Ground.data }, { on := 12, ground := Ground.chain }], guard := none }) (v := ?v32) rfl (by kernel_rfl) (by kernel_rfl) (by kernel_rfl) (fun _ _ _ h => h) (Or.inl ⟨by rfl, ?hy32⟩) (by assumption) ?rest32
          case hy32 => (intro w' hSw; (try dsimp only at hSw); go_simp; try with_reducible rfl)
          simp only [Act.put, List.setIfInBounds_toArray, List.set_cons_zero, List.set_cons_succ]
          refine wpAnyH_take (i := 17) (oi := { dst := some 97, op := Op.move (Operand.tmp 13), type := 27, pos := "outright.go:239", after := #[{ on := 16, ground := Ground.guard }], guard := some (16, false) }) (v := ?v33) rfl (by kernel_rfl) (by kernel_rfl) (by kernel_rfl) (fun _ _ _ h => h) (Or.inl ⟨by rfl, ?hy33⟩) (by assumption) ?rest33
          case hy33 => (intro w' hSw; (try dsimp only at hSw); go_simp; try with_reducible rfl)
          simp only [Act.put, List.setIfInBounds_toArray, List.set_cons_zero, List.set_cons_succ]
          refine wpAnyH_take (i := 18) (oi := { dst := some 98, op := Op.binOp BinOp.eql 27 (Operand.tmp 97) (Operand.const (Value.int IntKind.i64 9)) 27, type := 4, pos := "outright.go:239", after := #[{ on := 17, ground := Ground.data }, { on := 16, ground := Ground.guard }], guard := some (16, false) }) (v := ?v34) rfl (by kernel_rfl) (by kernel_rfl) (by kernel_rfl) (fun _ _ _ h => h) (Or.inl ⟨by rfl, ?hy34⟩) (by assumption) ?rest34
          case hy34 => (intro w' hSw; (try dsimp only at hSw); go_simp; try with_reducible rfl)
          simp only [Act.put, List.setIfInBounds_toArray, List.set_cons_zero, List.set_cons_succ]
          refine wpAnyH_take (i := 19) (oi := { dst := some 99, op := Op.move (Operand.tmp 98), type := 4, pos := "outright.go:239", after := #[{ on := 18, ground := Ground.data }, { on := 16, ground := Ground.chain }, { on := 16, ground := Ground.guard }], guard := some (16, false) }) (v := ?v35) rfl (by kernel_rfl) (by kernel_rfl) (by kernel_rfl) (fun _ _ _ h => h) (Or.inl ⟨by rfl, ?hy35⟩) (by assumption) ?rest35
          case hy35 => (intro w' hSw; (try dsimp only at hSw); go_simp; try with_reducible rfl)
          simp only [Act.put, List.setIfInBounds_toArray, List.set_cons_zero, List.set_cons_succ]
          refine wpAnyH_take (i := 20) (oi := { dst := some 100, op := Op.move (Operand.tmp 5), type := 26, pos := "outright.go:239", after := #[{ on := 19, ground := Ground.guard }], guard := some (19, true) }) (v := undef) rfl (by kernel_rfl) (by kernel_rfl) (by kernel_rfl) (fun _ _ _ h => h) (Or.inr ⟨by rfl, rfl⟩) (by assumption) ?_
          simp only [Act.put, List.setIfInBounds_toArray, List.set_cons_zero, List.set_cons_succ]
          refine wpAnyH_take (i := 21) (oi := { dst := some 101, op := Op.call { callee := Callee.value (Operand.func 22), args := #[Operand.tmp 100], argTypes := #[26] }, type := 3, pos := "outright.go:239", after := #[{ on := 20, ground := Ground.data }, { on := 19, ground := Ground.chain }, { on := 19, ground := Ground.guard }], guard := some (19, true) }) (v := undef) rfl (by kernel_rfl) (by kernel_rfl) (by kernel_rfl) (fun _ _ _ h => h) (Or.inr ⟨by rfl, rfl⟩) (by assumption) ?_
          simp only [Act.put, List.setIfInBounds_toArray, List.set_cons_zero, List.set_cons_succ]
          refine wpAnyH_take (i := 22) (oi := { dst := some 102, op := Op.move (Operand.tmp 1), type := 22, pos := "outright.go:239", after := #[{ on := 19, ground := Ground.guard }], guard := some (19, true) }) (v := undef) rfl (by kernel_rfl) (by kernel_rfl) (by kernel_rfl) (fun _ _ _ h => h) (Or.inr ⟨by rfl, rfl⟩) (by assumption) ?_
          simp only [Act.put, List.setIfInBounds_toArray, List.set_cons_zero, List.set_cons_succ]
          refine wpAnyH_take (i := 23) (oi := { dst := some 103, op := Op.move (Operand.tmp 10), type := 3, pos := "outright.go:239", after := #[{ on := 19, ground := Ground.guard }], guard := some (19, true) }) (v := undef) rfl (by kernel_rfl) (by kernel_rfl) (by kernel_rfl) (fun _ _ _ h => h) (Or.inr ⟨by rfl, rfl⟩) (by assumption) ?_
          simp only [Act.put, List.setIfInBounds_toArray, List.set_cons_zero, List.set_cons_succ]
          refine wpAnyH_take (i := 24) (oi := { dst := some 104, op := Op.indexAddr 22 (Operand.tmp 102) (Operand.tmp 103), type := 0, pos := "outright.go:239", after := #[{ on := 22, ground := Ground.data }, { on := 23, ground := Ground.data }, { on := 19, ground := Ground.guard }], guard := some (19, true) }) (v := undef) rfl (by kernel_rfl) (by kernel_rfl) (by kernel_rfl) (fun _ _ _ h => h) (Or.inr ⟨by rfl, rfl⟩) (by assumption) ?_
          simp only [Act.put, List.setIfInBounds_toArray, List.set_cons_zero, List.set_cons_succ]
          refine wpAnyH_take (i := 25) (oi := { dst := some 105, op := Op.load 47 (Operand.tmp 104), type := 47, pos := "outright.go:239", after := #[{ on := 24, ground := Ground.data }, { on := 19, ground := Ground.guard }], guard := some (19, true) }) (v := undef) rfl (by kernel_rfl) (by kernel_rfl) (by kernel_rfl) (fun _ _ _ h => h) (Or.inr ⟨by rfl, rfl⟩) (by assumption) ?_
          simp only [Act.put, List.setIfInBounds_toArray, List.set_cons_zero, List.set_cons_succ]
          refine wpAnyH_take (i := 26) (oi := { dst := some 106, op := Op.call { callee := Callee.builtin Builtin.len, args := #[Operand.tmp 105], argTypes := #[47] }, type := 3, pos := "outright.go:239", after := #[{ on := 25, ground := Ground.data }, { on := 19, ground := Ground.guard }], guard := some (19, true) }) (v := undef) rfl (by kernel_rfl) (by kernel_rfl) (by kernel_rfl) (fun _ _ _ h => h) (Or.inr ⟨by rfl, rfl⟩) (by assumption) ?_
          simp only [Act.put, List.setIfInBounds_toArray, List.set_cons_zero, List.set_cons_succ]
          refine wpAnyH_take (i := 27) (oi := { dst := some 107, op := Op.binOp BinOp.add 3 (Operand.tmp 106) (Operand.const (Value.int IntKind.i64 6)) 3, type := 3, pos := "outright.go:239", after := #[{ on := 26, ground := Ground.data }, { on := 19, ground := Ground.guard }], guard := some (19, true) }) (v := undef) rfl (by kernel_rfl) (by kernel_rfl) (by kernel_rfl) (fun _ _ _ h => h) (Or.inr ⟨by rfl, rfl⟩) (by assumption) ?_
          simp only [Act.put, List.setIfInBounds_toArray, List.set_cons_zero, List.set_cons_succ]
          refine wpAnyH_take (i := 28) (oi := { dst := some 108, op := Op.binOp BinOp.geq 3 (Operand.tmp 101) (Operand.tmp 107) 3, type := 4, pos := "outright.go:239", after := #[{ on := 21, ground := Ground.data }, { on := 27, ground := Ground.data }, { on := 19, ground := Ground.guard }], guard := some (19, true) }) (v := undef) rfl (by kernel_rfl) (by kernel_rfl) (by kernel_rfl) (fun _ _ _ h => h) (Or.inr ⟨by rfl, rfl⟩) (by assumption) ?_
          simp only [Act.put, List.setIfInBounds_toArray, List.set_cons_zero, List.set_cons_succ]
          refine wpAnyH_take (i := 29) (oi := { dst := some 109, op := Op.pick (Operand.tmp 99) (Operand.tmp 108) (Operand.const (Value.bool false)), type := 4, pos := "outright.go:239", after := #[{ on := 19, ground := Ground.data }, { on := 28, ground := Ground.data }, { on := 16, ground := Ground.guard }], guard := some (16, false) }) (v := ?v45) rfl (by kernel_rfl) (by kernel_rfl) (by kernel_rfl) (fun _ _ _ h => h) (Or.inl ⟨by rfl, ?hy45⟩) (by assumption) ?rest45
          case hy45 => (intro w' hSw; (try dsimp only at hSw); go_simp; try with_reducible rfl)
          simp only [Act.put, List.setIfInBounds_toArray, List.set_cons_zero, List.set_cons_succ]
          refine wpAnyH_take (i := 30) (oi := { dst := some 110, op := Op.move (Operand.tmp 109), type := 4, pos := "outright.go:239", after := #[{ on := 29, ground := Ground.data }, { on := 21, ground := Ground.chain }, { on := 16, ground := Ground.guard }], guard := some (16, false) }) (v := ?v46) rfl (by kernel_rfl) (by kernel_rfl) (by kernel_rfl) (fun _ _ _ h => h) (Or.inl ⟨by rfl, ?hy46⟩) (by assumption) ?rest46
          case hy46 => (intro w' hSw; (try dsimp only at hSw); go_simp; try with_reducible rfl)
          simp only [Act.put, List.setIfInBounds_toArray, List.set_cons_zero, List.set_cons_succ]
          refine wpAnyH_take (i := 31) (oi := { dst := some 111, op := Op.move (Operand.tmp 5), type := 26, pos := "outright.go:239", after := #[{ on := 30, ground := Ground.guard }], guard := some (30, true) }) (v := undef) rfl (by kernel_rfl) (by kernel_rfl) (by kernel_rfl) (fun _ _ _ h => h) (Or.inr ⟨by rfl, rfl⟩) (by assumption) ?_
          simp only [Act.put, List.setIfInBounds_toArray, List.set_cons_zero, List.set_cons_succ]
          refine wpAnyH_take (i := 32) (oi := { dst := some 112, op := Op.call { callee := Callee.value (Operand.func 23), args := #[Operand.tmp 111], argTypes := #[26] }, type := 51, pos := "outright.go:239", after := #[{ on := 31, ground := Ground.data }, { on := 30, ground := Ground.chain }, { on := 30, ground := Ground.guard }], guard := some (30, true) }) (v := undef) rfl (by kernel_rfl) (by kernel_rfl) (by kernel_rfl) (fun _ _ _ h => h) (Or.inr ⟨by rfl, rfl⟩) (by assumption) ?_
          simp only [Act.put, List.setIfInBounds_toArray, List.set_cons_zero, List.set_cons_succ]
          refine wpAnyH_take (i := 33) (oi := { dst := some 113, op := Op.call { callee := Callee.builtin Builtin.len, args := #[Operand.tmp 112], argTypes := #[51] }, type := 3, pos := "outright.go:239", after := #[{ on := 32, ground := Ground.data }, { on := 30, ground := Ground.guard }], guard := some (30, true) }) (v := undef) rfl (by kernel_rfl) (by kernel_rfl) (by kernel_rfl) (fun _ _ _ h => h) (Or.inr ⟨by rfl, rfl⟩) (by assumption) ?_
          simp only [Act.put, List.setIfInBounds_toArray, List.set_cons_zero, List.set_cons_succ]
          refine wpAnyH_take (i := 34) (oi := { dst := some 114, op := Op.binOp BinOp.lss 3 (Operand.tmp 113) (Operand.const (Value.int IntKind.i64 64)) 3, type := 4, pos := "outright.go:239", after := #[{ on := 33, ground := Ground.data }, { on := 30, ground := Ground.guard }], guard := some (30, true) }) (v := undef) rfl (by kernel_rfl) (by kernel_rfl) (by kernel_rfl) (fun _ _ _ h => h) (Or.inr ⟨by rfl, rfl⟩) (by assumption) ?_
          simp only [Act.put, List.setIfInBounds_toArray, List.set_cons_zero, List.set_cons_succ]
          refine wpAnyH_take (i := 35) (oi := { dst := some 115, op := Op.pick (Operand.tmp 110) (Operand.tmp 114) (Operand.const (Value.bool false)), type := 4, pos := "outright.go:239", after := #[{ on := 30, ground := Ground.data }, { on := 34, ground := Ground.data }, { on := 16, ground := Ground.guard }], guard := some (16, false) }) (v := ?v51) rfl (by kernel_rfl) (by kernel_rfl) (by kernel_rfl) (fun _ _ _ h => h) (Or.inl ⟨by rfl, ?hy51⟩) (by assumption) ?rest51
          case hy51 => (intro w' hSw; (try dsimp only at hSw); go_simp; try with_reducible rfl)
          simp only [Act.put, List.setIfInBounds_toArray, List.set_cons_zero, List.set_cons_succ]
          refine wpAnyH_take (i := 36) (oi := { dst := some 116, op := Op.pick (Operand.tmp 96) (Operand.const (Value.bool true)) (Operand.tmp 115), type := 4, pos := "outright.go:239", after := #[{ on := 16, ground := Ground.data }, { on := 35, ground := Ground.data }], guard := none }) (v := ?v52) rfl (by kernel_rfl) (by kernel_rfl) (by kernel_rfl) (fun _ _ _ h => h) (Or.inl ⟨by rfl, ?hy52⟩) (by assumption) ?rest52
          case hy52 => (intro w' hSw; (try dsimp only at hSw); go_simp; try with_reducible rfl)
          simp only [Act.put, List.setIfInBounds_toArray, List.set_cons_zero, List.set_cons_succ]
          refine wpAnyH_done (by kernel_rfl) ?_ _
          have HFW := Lib.hid (HFU.out w4 belw4)
          clear HFU HU3 HK HD3 belw4
          go_wp2
          go_roundw
          case rel => exact ⟨k + 1, by omega, by go_num, A0, n0, c0, rfl, HFW⟩
          case measure => simp [intOf]; omega
        · rw [hus1, HML.out] at hE
          have HF3 : Hid (∀ W, Below w3.heap.size w3 W → Calls Tryz.prog 22 #[.pointer (some ⟨g, 0, none⟩)] W fun e w' => e = .returned (.int .i64 ((d1.room : Int) - (U : Int))) ∧ Below W.heap.size W w') := Lib.hid fun W hW => by
            have := HY.out.free (HD3.out W hW) ok3
            rw [hus1] at this
            exact this
          have HN3 : Hid (∀ W, Below w3.heap.size w3 W → Calls Tryz.prog 23 #[.pointer (some ⟨g, 0, none⟩)] W fun e w' => ∃ A c, e = .returned (.slice A d1.fs.length c) ∧ Below W.heap.size W w') := Lib.hid fun W hW => by
            refine (HY.out.names (HD3.out W hW) ok3).mono ?_
            rintro e w' ⟨v, he, hv, hb⟩
            obtain ⟨A9, c9, rfl⟩ := hv.letters
            rw [show (namesD d1).length = d1.fs.length by simp [namesD]] at he
            exact ⟨A9, c9, he, hb⟩
          obtain ⟨R, hR⟩ : ∃ R : Int, (d1.room : Int) - (U : Int) = R := ⟨_, rfl⟩
          obtain ⟨NL, hNL⟩ : ∃ NL : Nat, d1.fs.length = NL := ⟨_, rfl⟩
          rw [hR] at hE HF3
          rw [hNL] at hE HN3
          clear hd3 k3 f3 m3 hds3 HST
          by_cases hfree : R ≥ (n' : Int) + 6
          · obtain rfl : NL = 64 := by rcases hE with h9 | h9 <;> omega
            have hf1 : decide (R ≥ (n' : Int) + 6) = true := decide_eq_true hfree
            go_wp2
            refine wp_region_held_drew (S := (fun w9 => Below w3.heap.size w3 w9 ∧ w9.cell? ⟨b, o + k, none⟩ = some (.slice A' n' c'))) (by kernel_rfl) (HK.out _ (below_drew (Below.refl _ _))) (fun hHeld => ?_)
            refine wpAnyH_take (i := 0) (oi := { dst := some 80, op := Op.move (Operand.tmp 13), type := 27, pos := "outright.go:239", after := #[], guard := none }) (v := ?v88) rfl (by kernel_rfl) (by kernel_rfl) (by kernel_rfl) (fun _ _ _ h => h) (Or.inl ⟨by rfl, ?hy88⟩) (by assumption) ?rest88
            case hy88 => (intro w' hSw; (try dsimp only at hSw); go_simp; try with_reducible rfl)
            simp only [Act.put, List.setIfInBounds_toArray, List.set_cons_zero, List.set_cons_succ]
            refine wpAnyH_take (i := 1) (oi := { dst := some 81, op := Op.binOp BinOp.neq 27 (Operand.tmp 80) (Operand.const (Value.int IntKind.i64 9)) 27, type := 4, pos := "outright.go:239", after := #[{ on := 0, ground := Ground.data }], guard := none }) (v := ?v89) rfl (by kernel_rfl) (by kernel_rfl) (by kernel_rfl) (fun _ _ _ h => h) (Or.inl ⟨by rfl, ?hy89⟩) (by assumption) ?rest89
            case hy89 => (intro w' hSw; (try dsimp only at hSw); go_simp; try with_reducible rfl)
            simp only [Act.put, List.setIfInBounds_toArray, List.set_cons_zero, List.set_cons_succ]
            refine wpAnyH_take (i := 2) (oi := { dst := some 82, op := Op.move (Operand.tmp 81), type := 4, pos := "outright.go:239", after := #[{ on := 1, ground := Ground.data }], guard := none }) (v := ?v90) rfl (by kernel_rfl) (by kernel_rfl) (by kernel_rfl) (fun _ _ _ h => h) (Or.inl ⟨by rfl, ?hy90⟩) (by assumption) ?rest90
            case hy90 => (intro w' hSw; (try dsimp only at hSw); go_simp; try with_reducible rfl)
            simp only [Act.put, List.setIfInBounds_toArray, List.set_cons_zero, List.set_cons_succ]
            refine wpAnyH_take (i := 3) (oi := { dst := some 83, op := Op.move (Operand.tmp 13), type := 27, pos := "outright.go:239", after := #[{ on := 2, ground := Ground.guard }], guard := some (2, true) }) (v := undef) rfl (by kernel_rfl) (by kernel_rfl) (by kernel_rfl) (fun _ _ _ h => h) (Or.inr ⟨by rfl, rfl⟩) (by assumption) ?_
            simp only [Act.put, List.setIfInBounds_toArray, List.set_cons_zero, List.set_cons_succ]
            refine wpAnyH_take (i := 4) (oi := { dst := some 84, op := Op.binOp BinOp.neq 27 (Operand.tmp 83) (Operand.const (Value.int IntKind.i64 2)) 27, type := 4, pos := "outright.go:239", after := #[{ on := 3, ground := Ground.data }, { on := 2, ground := Ground.guard }], guard := some (2, true) }) (v := undef) rfl (by kernel_rfl) (by kernel_rfl) (by kernel_rfl) (fun _ _ _ h => h) (Or.inr ⟨by rfl, rfl⟩) (by assumption) ?_
            simp only [Act.put, List.setIfInBounds_toArray, List.set_cons_zero, List.set_cons_succ]
            refine wpAnyH_take (i := 5) (oi := { dst := some 85, op := Op.pick (Operand.tmp 82) (Operand.tmp 84) (Operand.const (Value.bool false)), type := 4, pos := "outright.go:239", after := #[{ on := 2, ground := Ground.data }, { on := 4, ground := Ground.data }], guard := none }) (v := ?v93) rfl (by kernel_rfl) (by kernel_rfl) (by kernel_rfl) (fun _ _ _ h => h) (Or.inl ⟨by rfl, ?hy93⟩) (by assumption) ?rest93
            case hy93 => (intro w' hSw; (try dsimp only at hSw); go_simp; try with_reducible rfl)
            simp only [Act.put, List.setIfInBounds_toArray, List.set_cons_zero, List.set_cons_succ]
            refine wpAnyH_take (i := 6) (oi := { dst := some 86, op := Op.move (Operand.tmp 85), type := 4, pos := "outright.go:239", after := #[{ on := 5, ground := Ground.data }, { on := 2, ground := Ground.chain }], guard := none }) (v := ?v94) rfl (by kernel_rfl) (by kernel_rfl) (by kernel_rfl) (fun _ _ _ h => h) (Or.inl ⟨by rfl, ?hy94⟩) (by assumption) ?rest94
            case hy94 => (intro w' hSw; (try dsimp only at hSw); go_simp; try with_reducible rfl)
            simp only [Act.put, List.setIfInBounds_toArray, List.set_cons_zero, List.set_cons_succ]
            refine wpAnyH_take (i := 7) (oi := { dst := some 87, op := Op.move (Operand.tmp 5), type := 26, pos := "outright.go:239", after := #[{ on := 6, ground := Ground.guard }], guard := some (6, false) }) (v := ?v95) rfl (by kernel_rfl) (by kernel_rfl) (by kernel_rfl) (fun _ _ _ h => h) (Or.inl ⟨by rfl, ?hy95⟩) (by assumption) ?rest95
            case hy95 => (intro w' hSw; (try dsimp only at hSw); go_simp; try with_reducible rfl)
            simp only [Act.put, List.setIfInBounds_toArray, List.set_cons_zero, List.set_cons_succ]
            refine wpAnyH_take (i := 9) (oi := { dst := some 89, op := Op.move (Operand.tmp 11), type := 3, pos := "outright.go:239", after := #[{ on := 6, ground := Ground.guard }], guard := some (6, false) }) (v := ?v96) rfl (by kernel_rfl) (by kernel_rfl) (by kernel_rfl) (fun _ _ _ h => h) (Or.inl ⟨by rfl, ?hy96⟩) (by assumption) ?rest96
            case hy96 => (intro w' hSw; (try dsimp only at hSw); go_simp; try with_reducible rfl)
            simp only [Act.put, List.setIfInBounds_toArray, List.set_cons_zero, List.set_cons_succ]
            refine wpAnyH_ready (rs := [8]) (by kernel_rfl) (by simp) ?_
            refine AllReadyH.cons (o := { dst := some 88, op := Op.call { callee := Callee.value (Operand.func 20), args := #[Operand.tmp 87], argTypes := #[26] }, type := 3, pos := "outright.go:239", after := #[{ on := 7, ground := Ground.data }, { on := 6, ground := Ground.chain }, { on := 6, ground := Ground.guard }], guard := some (6, false) }) rfl (fun K hK => ?_) AllReadyH.nil
            go_simp
            go_at_call 20
            have bh := hHeld.1
            refine (HU3.out _ bh).mono ?_
            rintro e w4 ⟨rfl, bw4⟩
            have belw4 := bh.trans (bw4.mono bh.size)
            clear bh bw4
            refine hK.out _ _ (HK.out _ belw4) (fun hHeld => ?_)
            clear hK K
            (try simp only [Act.put, List.setIfInBounds_toArray, List.set_cons_zero, List.set_cons_succ])
            refine wpAnyH_take (i := 10) (oi := { dst := some 90, op := Op.binOp BinOp.neq 3 (Operand.tmp 88) (Operand.tmp 89) 3, type := 4, pos := "outright.go:239", after := #[{ on := 8, ground := Ground.data }, { on := 9, ground := Ground.data }, { on := 6, ground := Ground.guard }], guard := some (6, false) }) (v := ?v97) rfl (by kernel_rfl) (by kernel_rfl) (by kernel_rfl) (fun _ _ _ h => h) (Or.inl ⟨by rfl, ?hy97⟩) (by assumption) ?rest97
            case hy97 => (intro w' hSw; (try dsimp only at hSw); go_simp; try with_reducible rfl)
            simp only [Act.put, List.setIfInBounds_toArray, List.set_cons_zero, List.set_cons_succ]
            refine wpAnyH_take (i := 11) (oi := { dst := some 91, op := Op.pick (Operand.tmp 86) (Operand.const (Value.bool true)) (Operand.tmp 90), type := 4, pos := "outright.go:239", after := #[{ on := 6, ground := Ground.data }, { on := 10, ground := Ground.data }], guard := none }) (v := ?v98) rfl (by kernel_rfl) (by kernel_rfl) (by kernel_rfl) (fun _ _ _ h => h) (Or.inl ⟨by rfl, ?hy98⟩) (by assumption) ?rest98
            case hy98 => (intro w' hSw; (try dsimp only at hSw); go_simp; try with_reducible rfl)
            simp only [Act.put, List.setIfInBounds_toArray, List.set_cons_zero, List.set_cons_succ]
            refine wpAnyH_take (i := 12) (oi := { dst := some 92, op := Op.move (Operand.tmp 91), type := 4, pos := "outright.go:239", after := #[{ on := 11, ground := Ground.data }, { on := 8, ground := Ground.chain }], guard := none }) (v := ?v99) rfl (by kernel_rfl) (by kernel_rfl) (by kernel_rfl) (fun _ _ _ h => h) (Or.inl ⟨by rfl, ?hy99⟩) (by assumption) ?rest99
            case hy99 => (intro w' hSw; (try dsimp only at hSw); go_simp; try with_reducible rfl)
            simp only [Act.put, List.setIfInBounds_toArray, List.set_cons_zero, List.set_cons_succ]
            refine wpAnyH_take (i := 13) (oi := { dst := some 93, op := Op.move (Operand.tmp 12), type := 3, pos := "outright.go:239", after := #[{ on := 12, ground := Ground.guard }], guard := some (12, false) }) (v := ?v100) rfl (by kernel_rfl) (by kernel_rfl) (by kernel_rfl) (fun _ _ _ h => h) (Or.inl ⟨by rfl, ?hy100⟩) (by assumption) ?rest100
            case hy100 => (intro w' hSw; (try dsimp only at hSw); go_simp; try with_reducible rfl)
            simp only [Act.put, List.setIfInBounds_toArray, List.set_cons_zero, List.set_cons_succ]
            refine wpAnyH_take (i := 14) (oi := { dst := some 94, op := Op.binOp BinOp.neq 3 (Operand.tmp 93) (Operand.const (Value.int IntKind.i64 0)) 3, type := 4, pos := "outright.go:239", after := #[{ on := 13, ground := Ground.data }, { on := 12, ground := Ground.guard }], guard := some (12, false) }) (v := ?v101) rfl (by kernel_rfl) (by kernel_rfl) (by kernel_rfl) (fun _ _ _ h => h) (Or.inl ⟨by rfl, ?hy101⟩) (by assumption) ?rest101
            case hy101 => (intro w' hSw; (try dsimp only at hSw); go_simp; try with_reducible rfl)
            simp only [Act.put, List.setIfInBounds_toArray, List.set_cons_zero, List.set_cons_succ]
            refine wpAnyH_take (i := 15) (oi := { dst := some 95, op := Op.pick (Operand.tmp 92) (Operand.const (Value.bool true)) (Operand.tmp 94), type := 4, pos := "outright.go:239", after := #[{ on := 12, ground := Ground.data }, { on := 14, ground := Ground.data }], guard := none }) (v := ?v102) rfl (by kernel_rfl) (by kernel_rfl) (by kernel_rfl) (fun _ _ _ h => h) (Or.inl ⟨by rfl, ?hy102⟩) (by assumption) ?rest102
            case hy102 => (intro w' hSw; (try dsimp only at hSw); go_simp; try with_reducible rfl)
            simp only [Act.put, List.setIfInBounds_toArray, List.set_cons_zero, List.set_cons_succ]
            refine wpAnyH_take (i := 16) (oi := { dst := some 96, op := Op.move (Operand.tmp 95), type := 4, pos := "outright.go:239", after := #[{ on := 15, ground := Ground.data }, { on := 12, ground := Ground.chain }], guard := none }) (v := ?v103) rfl (by kernel_rfl) (by kernel_rfl) (by kernel_rfl) (fun _ _ _ h => h) (Or.inl ⟨by rfl, ?hy103⟩) (by assumption) ?rest103
            case hy103 => (intro w' hSw; (try dsimp only at hSw); go_simp; try with_reducible rfl)
            simp only [Act.put, List.setIfInBounds_toArray, List.set_cons_zero, List.set_cons_succ]
            refine wpAnyH_take (i := 17) (oi := { dst := some 97, op := Op.move (Operand.tmp 13), type := 27, pos := "outright.go:239", after := #[{ on := 16, ground := Ground.guard }], guard := some (16, false) }) (v := ?v104) rfl (by kernel_rfl) (by kernel_rfl) (by kernel_rfl) (fun _ _ _ h => h) (Or.inl ⟨by rfl, ?hy104⟩) (by assumption) ?rest104
            case hy104 => (intro w' hSw; (try dsimp only at hSw); go_simp; try with_reducible rfl)
            simp only [Act.put, List.setIfInBounds_toArray, List.set_cons_zero, List.set_cons_succ]
            refine wpAnyH_take (i := 18) (oi := { dst := some 98, op := Op.binOp BinOp.eql 27 (Operand.tmp 97) (Operand.const (Value.int IntKind.i64 9)) 27, type := 4, pos := "outright.go:239", after := #[{ on := 17, ground := Ground.data }, { on := 16, ground := Ground.guard }], guard := some (16, false) }) (v := ?v105) rfl (by kernel_rfl) (by kernel_rfl) (by kernel_rfl) (fun _ _ _ h => h) (Or.inl ⟨by rfl, ?hy105⟩) (by assumption) ?rest105
            case hy105 => (intro w' hSw; (try dsimp only at hSw); go_simp; try with_reducible rfl)
            simp only [Act.put, List.setIfInBounds_toArray, List.set_cons_zero, List.set_cons_succ]
            refine wpAnyH_take (i := 19) (oi := { dst := some 99, op := Op.move (Operand.tmp 98), type := 4, pos := "outright.go:239", after := #[{ on := 18, ground := Ground.data }, { on := 16, ground := Ground.chain }, { on := 16, ground := Ground.guard }], guard := some (16, false) }) (v := ?v106) rfl (by kernel_rfl) (by kernel_rfl) (by kernel_rfl) (fun _ _ _ h => h) (Or.inl ⟨by rfl, ?hy106⟩) (by assumption) ?rest106
            case hy106 => (intro w' hSw; (try dsimp only at hSw); go_simp; try with_reducible rfl)
            simp only [Act.put, List.setIfInBounds_toArray, List.set_cons_zero, List.set_cons_succ]
            refine wpAnyH_take (i := 20) (oi := { dst := some 100, op := Op.move (Operand.tmp 5), type := 26, pos := "outright.go:239", after := #[{ on := 19, ground := Ground.guard }], guard := some (19, true) }) (v := ?v107) rfl (by kernel_rfl) (by kernel_rfl) (by kernel_rfl) (fun _ _ _ h => h) (Or.inl ⟨by rfl, ?hy107⟩) (by assumption) ?rest107
            case hy107 => (intro w' hSw; (try dsimp only at hSw); go_simp; try with_reducible rfl)
            simp only [Act.put, List.setIfInBounds_toArray, List.set_cons_zero, List.set_cons_succ]
            refine wpAnyH_take (i := 22) (oi := { dst := some 102, op := Op.move (Operand.tmp 1), type := 22, pos := "outright.go:239", after := #[{ on := 19, ground := Ground.guard }], guard := some (19, true) }) (v := ?v108) rfl (by kernel_rfl) (by kernel_rfl) (by kernel_rfl) (fun _ _ _ h => h) (Or.inl ⟨by rfl, ?hy108⟩) (by assumption) ?rest108
            case hy108 => (intro w' hSw; (try dsimp only at hSw); go_simp; try with_reducible rfl)
            simp only [Act.put, List.setIfInBounds_toArray, List.set_cons_zero, List.set_cons_succ]
            refine wpAnyH_take (i := 23) (oi := { dst := some 103, op := Op.move (Operand.tmp 10), type := 3, pos := "outright.go:239", after := #[{ on := 19, ground := Ground.guard }], guard := some (19, true) }) (v := ?v109) rfl (by kernel_rfl) (by kernel_rfl) (by kernel_rfl) (fun _ _ _ h => h) (Or.inl ⟨by rfl, ?hy109⟩) (by assumption) ?rest109
            case hy109 => (intro w' hSw; (try dsimp only at hSw); go_simp; try with_reducible rfl)
            simp only [Act.put, List.setIfInBounds_toArray, List.set_cons_zero, List.set_cons_succ]
            refine wpAnyH_take (i := 24) (oi := { dst := some 104, op := Op.indexAddr 22 (Operand.tmp 102) (Operand.tmp 103), type := 0, pos := "outright.go:239", after := #[{ on := 22, ground := Ground.data }, { on := 23, ground := Ground.data }, { on := 19, ground := Ground.guard }], guard := some (19, true) }) (v := ?v110) rfl (by kernel_rfl) (by kernel_rfl) (by kernel_rfl) (fun _ _ _ h => h) (Or.inl ⟨by rfl, ?hy110⟩) (by assumption) ?rest110
            case hy110 => (intro w' hSw; (try dsimp only at hSw); go_simp; try with_reducible rfl)
            simp only [Act.put, List.setIfInBounds_toArray, List.set_cons_zero, List.set_cons_succ]
            refine wpAnyH_take (i := 25) (oi := { dst := some 105, op := Op.load 47 (Operand.tmp 104), type := 47, pos := "outright.go:239", after := #[{ on := 24, ground := Ground.data }, { on := 19, ground := Ground.guard }], guard := some (19, true) }) (v := ?v111) rfl (by kernel_rfl) (by kernel_rfl) (by kernel_rfl) (fun _ _ _ h => h) (Or.inl ⟨by rfl, ?hy111⟩) (by assumption) ?rest111
            case hy111 => (intro w' hSw; (try dsimp only at hSw); go_simp; try with_reducible rfl)
            simp only [Act.put, List.setIfInBounds_toArray, List.set_cons_zero, List.set_cons_succ]
            refine wpAnyH_take (i := 26) (oi := { dst := some 106, op := Op.call { callee := Callee.builtin Builtin.len, args := #[Operand.tmp 105], argTypes := #[47] }, type := 3, pos := "outright.go:239", after := #[{ on := 25, ground := Ground.data }, { on := 19, ground := Ground.guard }], guard := some (19, true) }) (v := ?v112) rfl (by kernel_rfl) (by kernel_rfl) (by kernel_rfl) (fun _ _ _ h => h) (Or.inl ⟨by rfl, ?hy112⟩) (by assumption) ?rest112
            case hy112 => (intro w' hSw; (try dsimp only at hSw); go_simp; try with_reducible rfl)
            simp only [Act.put, List.setIfInBounds_toArray, List.set_cons_zero, List.set_cons_succ]
            refine wpAnyH_take (i := 27) (oi := { dst := some 107, op := Op.binOp BinOp.add 3 (Operand.tmp 106) (Operand.const (Value.int IntKind.i64 6)) 3, type := 3, pos := "outright.go:239", after := #[{ on := 26, ground := Ground.data }, { on := 19, ground := Ground.guard }], guard := some (19, true) }) (v := ?v113) rfl (by kernel_rfl) (by kernel_rfl) (by kernel_rfl) (fun _ _ _ h => h) (Or.inl ⟨by rfl, ?hy113⟩) (by assumption) ?rest113
            case hy113 => (intro w' hSw; (try dsimp only at hSw); go_simp; try with_reducible rfl)
            simp only [Act.put, List.setIfInBounds_toArray, List.set_cons_zero, List.set_cons_succ]
            refine wpAnyH_ready (rs := [21]) (by kernel_rfl) (by simp) ?_
            refine AllReadyH.cons (o := { dst := some 101, op := Op.call { callee := Callee.value (Operand.func 22), args := #[Operand.tmp 100], argTypes := #[26] }, type := 3, pos := "outright.go:239", after := #[{ on := 20, ground := Ground.data }, { on := 19, ground := Ground.chain }, { on := 19, ground := Ground.guard }], guard := some (19, true) }) rfl (fun K hK => ?_) AllReadyH.nil
            go_simp
            go_at_call 22
            have bh := hHeld.1
            refine (HF3.out _ bh).mono ?_
            rintro e w5 ⟨rfl, bw5⟩
            have belw5 := bh.trans (bw5.mono bh.size)
            clear bh bw5
            refine hK.out _ _ (HK.out _ belw5) (fun hHeld => ?_)
            clear hK K
            (try simp only [Act.put, List.setIfInBounds_toArray, List.set_cons_zero, List.set_cons_succ])
            refine wpAnyH_take (i := 28) (oi := { dst := some 108, op := Op.binOp BinOp.geq 3 (Operand.tmp 101) (Operand.tmp 107) 3, type := 4, pos := "outright.go:239", after := #[{ on := 21, ground := Ground.data }, { on := 27, ground := Ground.data }, { on := 19, ground := Ground.guard }], guard := some (19, true) }) (v := ?v114) rfl (by kernel_rfl) (by kernel_rfl) (by kernel_rfl) (fun _ _ _ h => h) (Or.inl ⟨by rfl, ?hy114⟩) (by assumption) ?rest114
            case hy114 => (intro w' hSw; (try dsimp only at hSw); go_simp; try with_reducible rfl)
            simp only [Act.put, List.setIfInBounds_toArray, List.set_cons_zero, List.set_cons_succ]
            refine wpAnyH_take (i := 29) (oi := { dst := some 109, op := Op.pick (Operand.tmp 99) (Operand.tmp 108) (Operand.const (Value.bool false)), type := 4, pos := "outright.go:239", after := #[{ on := 19, ground := Ground.data }, { on := 28, ground := Ground.data }, { on := 16, ground := Ground.guard }], guard := some (16, false) }) (v := ?v115) rfl (by kernel_rfl) (by kernel_rfl) (by kernel_rfl) (fun _ _ _ h => h) (Or.inl ⟨by rfl, ?hy115⟩) (by assumption) ?rest115
            case hy115 => (intro w' hSw; (try dsimp only at hSw); go_simp; try with_reducible rfl)
            simp only [Act.put, List.setIfInBounds_toArray, List.set_cons_zero, List.set_cons_succ]
            refine wpAnyH_take (i := 30) (oi := { dst := some 110, op := Op.move (Operand.tmp 109), type := 4, pos := "outright.go:239", after := #[{ on := 29, ground := Ground.data }, { on := 21, ground := Ground.chain }, { on := 16, ground := Ground.guard }], guard := some (16, false) }) (v := ?v116) rfl (by kernel_rfl) (by kernel_rfl) (by kernel_rfl) (fun _ _ _ h => h) (Or.inl ⟨by rfl, ?hy116⟩) (by assumption) ?rest116
            case hy116 => (intro w' hSw; (try dsimp only at hSw); go_simp; try with_reducible rfl)
            simp only [Act.put, List.setIfInBounds_toArray, List.set_cons_zero, List.set_cons_succ]
            refine wpAnyH_take (i := 31) (oi := { dst := some 111, op := Op.move (Operand.tmp 5), type := 26, pos := "outright.go:239", after := #[{ on := 30, ground := Ground.guard }], guard := some (30, true) }) (v := ?v117) rfl (by kernel_rfl) (by kernel_rfl) (by kernel_rfl) (fun _ _ _ h => h) (Or.inl ⟨by rfl, ?hy117⟩) (by assumption) ?rest117
            case hy117 => (intro w' hSw; (try dsimp only at hSw); go_simp; try with_reducible rfl)
            simp only [Act.put, List.setIfInBounds_toArray, List.set_cons_zero, List.set_cons_succ]
            refine wpAnyH_ready (rs := [32]) (by kernel_rfl) (by simp) ?_
            refine AllReadyH.cons (o := { dst := some 112, op := Op.call { callee := Callee.value (Operand.func 23), args := #[Operand.tmp 111], argTypes := #[26] }, type := 51, pos := "outright.go:239", after := #[{ on := 31, ground := Ground.data }, { on := 30, ground := Ground.chain }, { on := 30, ground := Ground.guard }], guard := some (30, true) }) rfl (fun K hK => ?_) AllReadyH.nil
            go_simp
            go_at_call 23
            have bh := hHeld.1
            refine (HN3.out _ bh).mono ?_
            rintro e w6 ⟨AN, cN, rfl, bw6⟩
            have belw6 := bh.trans (bw6.mono bh.size)
            clear bh bw6
            refine hK.out _ _ (HK.out _ belw6) (fun hHeld => ?_)
            clear hK K
            (try simp only [Act.put, List.setIfInBounds_toArray, List.set_cons_zero, List.set_cons_succ])
            refine wpAnyH_take (i := 33) (oi := { dst := some 113, op := Op.call { callee := Callee.builtin Builtin.len, args := #[Operand.tmp 112], argTypes := #[51] }, type := 3, pos := "outright.go:239", after := #[{ on := 32, ground := Ground.data }, { on := 30, ground := Ground.guard }], guard := some (30, true) }) (v := ?v118) rfl (by kernel_rfl) (by kernel_rfl) (by kernel_rfl) (fun _ _ _ h => h) (Or.inl ⟨by rfl, ?hy118⟩) (by assumption) ?rest118
            case hy118 => (intro w' hSw; (try dsimp only at hSw); go_simp; try with_reducible rfl)
            simp only [Act.put, List.setIfInBounds_toArray, List.set_cons_zero, List.set_cons_succ]
            refine wpAnyH_take (i := 34) (oi := { dst := some 114, op := Op.binOp BinOp.lss 3 (Operand.tmp 113) (Operand.const (Value.int IntKind.i64 64)) 3, type := 4, pos := "outright.go:239", after := #[{ on := 33, ground := Ground.data }, { on := 30, ground := Ground.guard }], guard := some (30, true) }) (v := ?v119) rfl (by kernel_rfl) (by kernel_rfl) (by kernel_rfl) (fun _ _ _ h => h) (Or.inl ⟨by rfl, ?hy119⟩) (by assumption) ?rest119
            case hy119 => (intro w' hSw; (try dsimp only at hSw); go_simp; try with_reducible rfl)
            simp only [Act.put, List.setIfInBounds_toArray, List.set_cons_zero, List.set_cons_succ]
            refine wpAnyH_take (i := 35) (oi := { dst := some 115, op := Op.pick (Operand.tmp 110) (Operand.tmp 114) (Operand.const (Value.bool false)), type := 4, pos := "outright.go:239", after := #[{ on := 30, ground := Ground.data }, { on := 34, ground := Ground.data }, { on := 16, ground := Ground.guard }], guard := some (16, false) }) (v := ?v120) rfl (by kernel_rfl) (by kernel_rfl) (by kernel_rfl) (fun _ _ _ h => h) (Or.inl ⟨by rfl, ?hy120⟩) (by assumption) ?rest120
            case hy120 => (intro w' hSw; (try dsimp only at hSw); go_simp; try with_reducible rfl)
            simp only [Act.put, List.setIfInBounds_toArray, List.set_cons_zero, List.set_cons_succ]
            refine wpAnyH_take (i := 36) (oi := { dst := some 116, op := Op.pick (Operand.tmp 96) (Operand.const (Value.bool true)) (Operand.tmp 115), type := 4, pos := "outright.go:239", after := #[{ on := 16, ground := Ground.data }, { on := 35, ground := Ground.data }], guard := none }) (v := ?v121) rfl (by kernel_rfl) (by kernel_rfl) (by kernel_rfl) (fun _ _ _ h => h) (Or.inl ⟨by rfl, ?hy121⟩) (by assumption) ?rest121
            case hy121 => (intro w' hSw; (try dsimp only at hSw); go_simp; try with_reducible rfl)
            simp only [Act.put, List.setIfInBounds_toArray, List.set_cons_zero, List.set_cons_succ]
            refine wpAnyH_done (by kernel_rfl) ?_ _
            have HFW := Lib.hid (HFU.out w6 belw6)
            clear HFU HU3 HF3 HN3 HK HD3 belw4 belw5 belw6
            go_wp2
            go_roundw
            case rel => exact ⟨k + 1, by omega, by go_num, A0, n0, c0, rfl, HFW⟩
            case measure => simp [intOf]; omega
          · have hf1 : decide (R ≥ (n' : Int) + 6) = false := decide_eq_false hfree
            go_wp2
            refine wp_region_held_drew (S := (fun w9 => Below w3.heap.size w3 w9 ∧ w9.cell? ⟨b, o + k, none⟩ = some (.slice A' n' c'))) (by kernel_rfl) (HK.out _ (below_drew (Below.refl _ _))) (fun hHeld => ?_)
            refine wpAnyH_take (i := 0) (oi := { dst := some 80, op := Op.move (Operand.tmp 13), type := 27, pos := "outright.go:239", after := #[], guard := none }) (v := ?v53) rfl (by kernel_rfl) (by kernel_rfl) (by kernel_rfl) (fun _ _ _ h => h) (Or.inl ⟨by rfl, ?hy53⟩) (by assumption) ?rest53
            case hy53 => (intro w' hSw; (try dsimp only at hSw); go_simp; try with_reducible rfl)
            simp only [Act.put, List.setIfInBounds_toArray, List.set_cons_zero, List.set_cons_succ]
            refine wpAnyH_take (i := 1) (oi := { dst := some 81, op := Op.binOp BinOp.neq 27 (Operand.tmp 80) (Operand.const (Value.int IntKind.i64 9)) 27, type := 4, pos := "outright.go:239", after := #[{ on := 0, ground := Ground.data }], guard := none }) (v := ?v54) rfl (by kernel_rfl) (by kernel_rfl) (by kernel_rfl) (fun _ _ _ h => h) (Or.inl ⟨by rfl, ?hy54⟩) (by assumption) ?rest54
            case hy54 => (intro w' hSw; (try dsimp only at hSw); go_simp; try with_reducible rfl)
            simp only [Act.put, List.setIfInBounds_toArray, List.set_cons_zero, List.set_cons_succ]
            refine wpAnyH_take (i := 2) (oi := { dst := some 82, op := Op.move (Operand.tmp 81), type := 4, pos := "outright.go:239", after := #[{ on := 1, ground := Ground.data }], guard := none }) (v := ?v55) rfl (by kernel_rfl) (by kernel_rfl) (by kernel_rfl) (fun _ _ _ h => h) (Or.inl ⟨by rfl, ?hy55⟩) (by assumption) ?rest55
            case hy55 => (intro w' hSw; (try dsimp only at hSw); go_simp; try with_reducible rfl)
            simp only [Act.put, List.setIfInBounds_toArray, List.set_cons_zero, List.set_cons_succ]
            refine wpAnyH_take (i := 3) (oi := { dst := some 83, op := Op.move (Operand.tmp 13), type := 27, pos := "outright.go:239", after := #[{ on := 2, ground := Ground.guard }], guard := some (2, true) }) (v := undef) rfl (by kernel_rfl) (by kernel_rfl) (by kernel_rfl) (fun _ _ _ h => h) (Or.inr ⟨by rfl, rfl⟩) (by assumption) ?_
            simp only [Act.put, List.setIfInBounds_toArray, List.set_cons_zero, List.set_cons_succ]
            refine wpAnyH_take (i := 4) (oi := { dst := some 84, op := Op.binOp BinOp.neq 27 (Operand.tmp 83) (Operand.const (Value.int IntKind.i64 2)) 27, type := 4, pos := "outright.go:239", after := #[{ on := 3, ground := Ground.data }, { on := 2, ground := Ground.guard }], guard := some (2, true) }) (v := undef) rfl (by kernel_rfl) (by kernel_rfl) (by kernel_rfl) (fun _ _ _ h => h) (Or.inr ⟨by rfl, rfl⟩) (by assumption) ?_
            simp only [Act.put, List.setIfInBounds_toArray, List.set_cons_zero, List.set_cons_succ]
            refine wpAnyH_take (i := 5) (oi := { dst := some 85, op := Op.pick (Operand.tmp 82) (Operand.tmp 84) (Operand.const (Value.bool false)), type := 4, pos := "outright.go:239", after := #[{ on := 2, ground := Ground.data }, { on := 4, ground := Ground.data }], guard := none }) (v := ?v58) rfl (by kernel_rfl) (by kernel_rfl) (by kernel_rfl) (fun _ _ _ h => h) (Or.inl ⟨by rfl, ?hy58⟩) (by assumption) ?rest58
            case hy58 => (intro w' hSw; (try dsimp only at hSw); go_simp; try with_reducible rfl)
            simp only [Act.put, List.setIfInBounds_toArray, List.set_cons_zero, List.set_cons_succ]
            refine wpAnyH_take (i := 6) (oi := { dst := some 86, op := Op.move (Operand.tmp 85), type := 4, pos := "outright.go:239", after := #[{ on := 5, ground := Ground.data }, { on := 2, ground := Ground.chain }], guard := none }) (v := ?v59) rfl (by kernel_rfl) (by kernel_rfl) (by kernel_rfl) (fun _ _ _ h => h) (Or.inl ⟨by rfl, ?hy59⟩) (by assumption) ?rest59
            case hy59 => (intro w' hSw; (try dsimp only at hSw); go_simp; try with_reducible rfl)
            simp only [Act.put, List.setIfInBounds_toArray, List.set_cons_zero, List.set_cons_succ]
            refine wpAnyH_take (i := 7) (oi := { dst := some 87, op := Op.move (Operand.tmp 5), type := 26, pos := "outright.go:239", after := #[{ on := 6, ground := Ground.guard }], guard := some (6, false) }) (v := ?v60) rfl (by kernel_rfl) (by kernel_rfl) (by kernel_rfl) (fun _ _ _ h => h) (Or.inl ⟨by rfl, ?hy60⟩) (by assumption) ?rest60
            case hy60 => (intro w' hSw; (try dsimp only at hSw); go_simp; try with_reducible rfl)
            simp only [Act.put, List.setIfInBounds_toArray, List.set_cons_zero, List.set_cons_succ]
            refine wpAnyH_take (i := 9) (oi := { dst := some 89, op := Op.move (Operand.tmp 11), type := 3, pos := "outright.go:239", after := #[{ on := 6, ground := Ground.guard }], guard := some (6, false) }) (v := ?v61) rfl (by kernel_rfl) (by kernel_rfl) (by kernel_rfl) (fun _ _ _ h => h) (Or.inl ⟨by rfl, ?hy61⟩) (by assumption) ?rest61
            case hy61 => (intro w' hSw; (try dsimp only at hSw); go_simp; try with_reducible rfl)
            simp only [Act.put, List.setIfInBounds_toArray, List.set_cons_zero, List.set_cons_succ]
            refine wpAnyH_ready (rs := [8]) (by kernel_rfl) (by simp) ?_
            refine AllReadyH.cons (o := { dst := some 88, op := Op.call { callee := Callee.value (Operand.func 20), args := #[Operand.tmp 87], argTypes := #[26] }, type := 3, pos := "outright.go:239", after := #[{ on := 7, ground := Ground.data }, { on := 6, ground := Ground.chain }, { on := 6, ground := Ground.guard }], guard := some (6, false) }) rfl (fun K hK => ?_) AllReadyH.nil
            go_simp
            go_at_call 20
            have bh := hHeld.1
            refine (HU3.out _ bh).mono ?_
            rintro e w4 ⟨rfl, bw4⟩
            have belw4 := bh.trans (bw4.mono bh.size)
            clear bh bw4
            refine hK.out _ _ (HK.out _ belw4) (fun hHeld => ?_)
            clear hK K
            (try simp only [Act.put, List.setIfInBounds_toArray, List.set_cons_zero, List.set_cons_succ])
            refine wpAnyH_take (i := 10) (oi := { dst := some 90, op := Op.binOp BinOp.neq 3 (Operand.tmp 88) (Operand.tmp 89) 3, type := 4, pos := "outright.go:239", after := #[{ on := 8, ground := Ground.data }, { on := 9, ground := Ground.data }, { on := 6, ground := Ground.guard }], guard := some (6, false) }) (v := ?v62) rfl (by kernel_rfl) (by kernel_rfl) (by kernel_rfl) (fun _ _ _ h => h) (Or.inl ⟨by rfl, ?hy62⟩) (by assumption) ?rest62
            case hy62 => (intro w' hSw; (try dsimp only at hSw); go_simp; try with_reducible rfl)
            simp only [Act.put, List.setIfInBounds_toArray, List.set_cons_zero, List.set_cons_succ]
            refine wpAnyH_take (i := 11) (oi := { dst := some 91, op := Op.pick (Operand.tmp 86) (Operand.const (Value.bool true)) (Operand.tmp 90), type := 4, pos := "outright.go:239", after := #[{ on := 6, ground := Ground.data }, { on := 10, ground := Ground.data }], guard := none }) (v := ?v63) rfl (by kernel_rfl) (by kernel_rfl) (by kernel_rfl) (fun _ _ _ h => h) (Or.inl ⟨by rfl, ?hy63⟩) (by assumption) ?rest63
            case hy63 => (intro w' hSw; (try dsimp only at hSw); go_simp; try with_reducible rfl)
            simp only [Act.put, List.setIfInBounds_toArray, List.set_cons_zero, List.set_cons_succ]
            refine wpAnyH_take (i := 12) (oi := { dst := some 92, op := Op.move (Operand.tmp 91), type := 4, pos := "outright.go:239", after := #[{ on := 11, ground := Ground.data }, { on := 8, ground := Ground.chain }], guard := none }) (v := ?v64) rfl (by kernel_rfl) (by kernel_rfl) (by kernel_rfl) (fun _ _ _ h => h) (Or.inl ⟨by rfl, ?hy64⟩) (by assumption) ?rest64
            case hy64 => (intro w' hSw; (try dsimp only at hSw); go_simp; try with_reducible rfl)
            simp only [Act.put, List.setIfInBounds_toArray, List.set_cons_zero, List.set_cons_succ]
            refine wpAnyH_take (i := 13) (oi := { dst := some 93, op := Op.move (Operand.tmp 12), type := 3, pos := "outright.go:239", after := #[{ on := 12, ground := Ground.guard }], guard := some (12, false) }) (v := ?v65) rfl (by kernel_rfl) (by kernel_rfl) (by kernel_rfl) (fun _ _ _ h => h) (Or.inl ⟨by rfl, ?hy65⟩) (by assumption) ?rest65
            case hy65 => (intro w' hSw; (try dsimp only at hSw); go_simp; try with_reducible rfl)
            simp only [Act.put, List.setIfInBounds_toArray, List.set_cons_zero, List.set_cons_succ]
            refine wpAnyH_take (i := 14) (oi := { dst := some 94, op := Op.binOp BinOp.neq 3 (Operand.tmp 93) (Operand.const (Value.int IntKind.i64 0)) 3, type := 4, pos := "outright.go:239", after := #[{ on := 13, ground := Ground.data }, { on := 12, ground := Ground.guard }], guard := some (12, false) }) (v := ?v66) rfl (by kernel_rfl) (by kernel_rfl) (by kernel_rfl) (fun _ _ _ h => h) (Or.inl ⟨by rfl, ?hy66⟩) (by assumption) ?rest66
            case hy66 => (intro w' hSw; (try dsimp only at hSw); go_simp; try with_reducible rfl)
            simp only [Act.put, List.setIfInBounds_toArray, List.set_cons_zero, List.set_cons_succ]
            refine wpAnyH_take (i := 15) (oi := { dst := some 95, op := Op.pick (Operand.tmp 92) (Operand.const (Value.bool true)) (Operand.tmp 94), type := 4, pos := "outright.go:239", after := #[{ on := 12, ground := Ground.data }, { on := 14, ground := Ground.data }], guard := none }) (v := ?v67) rfl (by kernel_rfl) (by kernel_rfl) (by kernel_rfl) (fun _ _ _ h => h) (Or.inl ⟨by rfl, ?hy67⟩) (by assumption) ?rest67
            case hy67 => (intro w' hSw; (try dsimp only at hSw); go_simp; try with_reducible rfl)
            simp only [Act.put, List.setIfInBounds_toArray, List.set_cons_zero, List.set_cons_succ]
            refine wpAnyH_take (i := 16) (oi := { dst := some 96, op := Op.move (Operand.tmp 95), type := 4, pos := "outright.go:239", after := #[{ on := 15, ground := Ground.data }, { on := 12, ground := Ground.chain }], guard := none }) (v := ?v68) rfl (by kernel_rfl) (by kernel_rfl) (by kernel_rfl) (fun _ _ _ h => h) (Or.inl ⟨by rfl, ?hy68⟩) (by assumption) ?rest68
            case hy68 => (intro w' hSw; (try dsimp only at hSw); go_simp; try with_reducible rfl)
            simp only [Act.put, List.setIfInBounds_toArray, List.set_cons_zero, List.set_cons_succ]
            refine wpAnyH_take (i := 17) (oi := { dst := some 97, op := Op.move (Operand.tmp 13), type := 27, pos := "outright.go:239", after := #[{ on := 16, ground := Ground.guard }], guard := some (16, false) }) (v := ?v69) rfl (by kernel_rfl) (by kernel_rfl) (by kernel_rfl) (fun _ _ _ h => h) (Or.inl ⟨by rfl, ?hy69⟩) (by assumption) ?rest69
            case hy69 => (intro w' hSw; (try dsimp only at hSw); go_simp; try with_reducible rfl)
            simp only [Act.put, List.setIfInBounds_toArray, List.set_cons_zero, List.set_cons_succ]
            refine wpAnyH_take (i := 18) (oi := { dst := some 98, op := Op.binOp BinOp.eql 27 (Operand.tmp 97) (Operand.const (Value.int IntKind.i64 9)) 27, type := 4, pos := "outright.go:239", after := #[{ on := 17, ground := Ground.data }, { on := 16, ground := Ground.guard }], guard := some (16, false) }) (v := ?v70) rfl (by kernel_rfl) (by kernel_rfl) (by kernel_rfl) (fun _ _ _ h => h) (Or.inl ⟨by rfl, ?hy70⟩) (by assumption) ?rest70
            case hy70 => (intro w' hSw; (try dsimp only at hSw); go_simp; try with_reducible rfl)
            simp only [Act.put, List.setIfInBounds_toArray, List.set_cons_zero, List.set_cons_succ]
            refine wpAnyH_take (i := 19) (oi := { dst := some 99, op := Op.move (Operand.tmp 98), type := 4, pos := "outright.go:239", after := #[{ on := 18, ground := Ground.data }, { on := 16, ground := Ground.chain }, { on := 16, ground := Ground.guard }], guard := some (16, false) }) (v := ?v71) rfl (by kernel_rfl) (by kernel_rfl) (by kernel_rfl) (fun _ _ _ h => h) (Or.inl ⟨by rfl, ?hy71⟩) (by assumption) ?rest71
            case hy71 => (intro w' hSw; (try dsimp only at hSw); go_simp; try with_reducible rfl)
            simp only [Act.put, List.setIfInBounds_toArray, List.set_cons_zero, List.set_cons_succ]
            refine wpAnyH_take (i := 20) (oi := { dst := some 100, op := Op.move (Operand.tmp 5), type := 26, pos := "outright.go:239", after := #[{ on := 19, ground := Ground.guard }], guard := some (19, true) }) (v := ?v72) rfl (by kernel_rfl) (by kernel_rfl) (by kernel_rfl) (fun _ _ _ h => h) (Or.inl ⟨by rfl, ?hy72⟩) (by assumption) ?rest72
            case hy72 => (intro w' hSw; (try dsimp only at hSw); go_simp; try with_reducible rfl)
            simp only [Act.put, List.setIfInBounds_toArray, List.set_cons_zero, List.set_cons_succ]
            refine wpAnyH_take (i := 22) (oi := { dst := some 102, op := Op.move (Operand.tmp 1), type := 22, pos := "outright.go:239", after := #[{ on := 19, ground := Ground.guard }], guard := some (19, true) }) (v := ?v73) rfl (by kernel_rfl) (by kernel_rfl) (by kernel_rfl) (fun _ _ _ h => h) (Or.inl ⟨by rfl, ?hy73⟩) (by assumption) ?rest73
            case hy73 => (intro w' hSw; (try dsimp only at hSw); go_simp; try with_reducible rfl)
            simp only [Act.put, List.setIfInBounds_toArray, List.set_cons_zero, List.set_cons_succ]
            refine wpAnyH_take (i := 23) (oi := { dst := some 103, op := Op.move (Operand.tmp 10), type := 3, pos := "outright.go:239", after := #[{ on := 19, ground := Ground.guard }], guard := some (19, true) }) (v := ?v74) rfl (by kernel_rfl) (by kernel_rfl) (by kernel_rfl) (fun _ _ _ h => h) (Or.inl ⟨by rfl, ?hy74⟩) (by assumption) ?rest74
            case hy74 => (intro w' hSw; (try dsimp only at hSw); go_simp; try with_reducible rfl)
            simp only [Act.put, List.setIfInBounds_toArray, List.set_cons_zero, List.set_cons_succ]
            refine wpAnyH_take (i := 24) (oi := { dst := some 104, op := Op.indexAddr 22 (Operand.tmp 102) (Operand.tmp 103), type := 0, pos := "outright.go:239", after := #[{ on := 22, ground := Ground.data }, { on := 23, ground := Ground.data }, { on := 19, ground := Ground.guard }], guard := some (19, true) }) (v := ?v75) rfl (by kernel_rfl) (by kernel_rfl) (by kernel_rfl) (fun _ _ _ h => h) (Or.inl ⟨by rfl, ?hy75⟩) (by assumption) ?rest75
            case hy75 => (intro w' hSw; (try dsimp only at hSw); go_simp; try with_reducible rfl)
            simp only [Act.put, List.setIfInBounds_toArray, List.set_cons_zero, List.set_cons_succ]
            refine wpAnyH_take (i := 25) (oi := { dst := some 105, op := Op.load 47 (Operand.tmp 104), type := 47, pos := "outright.go:239", after := #[{ on := 24, ground := Ground.data }, { on := 19, ground := Ground.guard }], guard := some (19, true) }) (v := ?v76) rfl (by kernel_rfl) (by kernel_rfl) (by kernel_rfl) (fun _ _ _ h => h) (Or.inl ⟨by rfl, ?hy76⟩) (by assumption) ?rest76
            case hy76 => (intro w' hSw; (try dsimp only at hSw); go_simp; try with_reducible rfl)
            simp only [Act.put, List.setIfInBounds_toArray, List.set_cons_zero, List.set_cons_succ]
            refine wpAnyH_take (i := 26) (oi := { dst := some 106, op := Op.call { callee := Callee.builtin Builtin.len, args := #[Operand.tmp 105], argTypes := #[47] }, type := 3, pos := "outright.go:239", after := #[{ on := 25, ground := Ground.data }, { on := 19, ground := Ground.guard }], guard := some (19, true) }) (v := ?v77) rfl (by kernel_rfl) (by kernel_rfl) (by kernel_rfl) (fun _ _ _ h => h) (Or.inl ⟨by rfl, ?hy77⟩) (by assumption) ?rest77
            case hy77 => (intro w' hSw; (try dsimp only at hSw); go_simp; try with_reducible rfl)
            simp only [Act.put, List.setIfInBounds_toArray, List.set_cons_zero, List.set_cons_succ]
            refine wpAnyH_take (i := 27) (oi := { dst := some 107, op := Op.binOp BinOp.add 3 (Operand.tmp 106) (Operand.const (Value.int IntKind.i64 6)) 3, type := 3, pos := "outright.go:239", after := #[{ on := 26, ground := Ground.data }, { on := 19, ground := Ground.guard }], guard := some (19, true) }) (v := ?v78) rfl (by kernel_rfl) (by kernel_rfl) (by kernel_rfl) (fun _ _ _ h => h) (Or.inl ⟨by rfl, ?hy78⟩) (by assumption) ?rest78
            case hy78 => (intro w' hSw; (try dsimp only at hSw); go_simp; try with_reducible rfl)
            simp only [Act.put, List.setIfInBounds_toArray, List.set_cons_zero, List.set_cons_succ]
            refine wpAnyH_ready (rs := [21]) (by kernel_rfl) (by simp) ?_
            refine AllReadyH.cons (o := { dst := some 101, op := Op.call { callee := Callee.value (Operand.func 22), args := #[Operand.tmp 100], argTypes := #[26] }, type := 3, pos := "outright.go:239", after := #[{ on := 20, ground := Ground.data }, { on := 19, ground := Ground.chain }, { on := 19, ground := Ground.guard }], guard := some (19, true) }) rfl (fun K hK => ?_) AllReadyH.nil
            go_simp
            go_at_call 22
            have bh := hHeld.1
            refine (HF3.out _ bh).mono ?_
            rintro e w5 ⟨rfl, bw5⟩
            have belw5 := bh.trans (bw5.mono bh.size)
            clear bh bw5
            refine hK.out _ _ (HK.out _ belw5) (fun hHeld => ?_)
            clear hK K
            (try simp only [Act.put, List.setIfInBounds_toArray, List.set_cons_zero, List.set_cons_succ])
            refine wpAnyH_take (i := 28) (oi := { dst := some 108, op := Op.binOp BinOp.geq 3 (Operand.tmp 101) (Operand.tmp 107) 3, type := 4, pos := "outright.go:239", after := #[{ on := 21, ground := Ground.data }, { on := 27, ground := Ground.data }, { on := 19, ground := Ground.guard }], guard := some (19, true) }) (v := ?v79) rfl (by kernel_rfl) (by kernel_rfl) (by kernel_rfl) (fun _ _ _ h => h) (Or.inl ⟨by rfl, ?hy79⟩) (by assumption) ?rest79
            case hy79 => (intro w' hSw; (try dsimp only at hSw); go_simp; try with_reducible rfl)
            simp only [Act.put, List.setIfInBounds_toArray, List.set_cons_zero, List.set_cons_succ]
            refine wpAnyH_take (i := 29) (oi := { dst := some 109, op := Op.pick (Operand.tmp 99) (Operand.tmp 108) (Operand.const (Value.bool false)), type := 4, pos := "outright.go:239", after := #[{ on := 19, ground := Ground.data }, { on := 28, ground := Ground.data }, { on := 16, ground := Ground.guard }], guard := some (16, false) }) (v := ?v80) rfl (by kernel_rfl) (by kernel_rfl) (by kernel_rfl) (fun _ _ _ h => h) (Or.inl ⟨by rfl, ?hy80⟩) (by assumption) ?rest80
            case hy80 => (intro w' hSw; (try dsimp only at hSw); go_simp; try with_reducible rfl)
            simp only [Act.put, List.setIfInBounds_toArray, List.set_cons_zero, List.set_cons_succ]
            refine wpAnyH_take (i := 30) (oi := { dst := some 110, op := Op.move (Operand.tmp 109), type := 4, pos := "outright.go:239", after := #[{ on := 29, ground := Ground.data }, { on := 21, ground := Ground.chain }, { on := 16, ground := Ground.guard }], guard := some (16, false) }) (v := ?v81) rfl (by kernel_rfl) (by kernel_rfl) (by kernel_rfl) (fun _ _ _ h => h) (Or.inl ⟨by rfl, ?hy81⟩) (by assumption) ?rest81
            case hy81 => (intro w' hSw; (try dsimp only at hSw); go_simp; try with_reducible rfl)
            simp only [Act.put, List.setIfInBounds_toArray, List.set_cons_zero, List.set_cons_succ]
            refine wpAnyH_take (i := 31) (oi := { dst := some 111, op := Op.move (Operand.tmp 5), type := 26, pos := "outright.go:239", after := #[{ on := 30, ground := Ground.guard }], guard := some (30, true) }) (v := undef) rfl (by kernel_rfl) (by kernel_rfl) (by kernel_rfl) (fun _ _ _ h => h) (Or.inr ⟨by rfl, rfl⟩) (by assumption) ?_
            simp only [Act.put, List.setIfInBounds_toArray, List.set_cons_zero, List.set_cons_succ]
            refine wpAnyH_take (i := 32) (oi := { dst := some 112, op := Op.call { callee := Callee.value (Operand.func 23), args := #[Operand.tmp 111], argTypes := #[26] }, type := 51, pos := "outright.go:239", after := #[{ on := 31, ground := Ground.data }, { on := 30, ground := Ground.chain }, { on := 30, ground := Ground.guard }], guard := some (30, true) }) (v := undef) rfl (by kernel_rfl) (by kernel_rfl) (by kernel_rfl) (fun _ _ _ h => h) (Or.inr ⟨by rfl, rfl⟩) (by assumption) ?_
            simp only [Act.put, List.setIfInBounds_toArray, List.set_cons_zero, List.set_cons_succ]
            refine wpAnyH_take (i := 33) (oi := { dst := some 113, op := Op.call { callee := Callee.builtin Builtin.len, args := #[Operand.tmp 112], argTypes := #[51] }, type := 3, pos := "outright.go:239", after := #[{ on := 32, ground := Ground.data }, { on := 30, ground := Ground.guard }], guard := some (30, true) }) (v := undef) rfl (by kernel_rfl) (by kernel_rfl) (by kernel_rfl) (fun _ _ _ h => h) (Or.inr ⟨by rfl, rfl⟩) (by assumption) ?_
            simp only [Act.put, List.setIfInBounds_toArray, List.set_cons_zero, List.set_cons_succ]
            refine wpAnyH_take (i := 34) (oi := { dst := some 114, op := Op.binOp BinOp.lss 3 (Operand.tmp 113) (Operand.const (Value.int IntKind.i64 64)) 3, type := 4, pos := "outright.go:239", after := #[{ on := 33, ground := Ground.data }, { on := 30, ground := Ground.guard }], guard := some (30, true) }) (v := undef) rfl (by kernel_rfl) (by kernel_rfl) (by kernel_rfl) (fun _ _ _ h => h) (Or.inr ⟨by rfl, rfl⟩) (by assumption) ?_
            simp only [Act.put, List.setIfInBounds_toArray, List.set_cons_zero, List.set_cons_succ]
            refine wpAnyH_take (i := 35) (oi := { dst := some 115, op := Op.pick (Operand.tmp 110) (Operand.tmp 114) (Operand.const (Value.bool false)), type := 4, pos := "outright.go:239", after := #[{ on := 30, ground := Ground.data }, { on := 34, ground := Ground.data }, { on := 16, ground := Ground.guard }], guard := some (16, false) }) (v := ?v86) rfl (by kernel_rfl) (by kernel_rfl) (by kernel_rfl) (fun _ _ _ h => h) (Or.inl ⟨by rfl, ?hy86⟩) (by assumption) ?rest86
            case hy86 => (intro w' hSw; (try dsimp only at hSw); go_simp; try with_reducible rfl)
            simp only [Act.put, List.setIfInBounds_toArray, List.set_cons_zero, List.set_cons_succ]
            refine wpAnyH_take (i := 36) (oi := { dst := some 116, op := Op.pick (Operand.tmp 96) (Operand.const (Value.bool true)) (Operand.tmp 115), type := 4, pos := "outright.go:239", after := #[{ on := 16, ground := Ground.data }, { on := 35, ground := Ground.data }], guard := none }) (v := ?v87) rfl (by kernel_rfl) (by kernel_rfl) (by kernel_rfl) (fun _ _ _ h => h) (Or.inl ⟨by rfl, ?hy87⟩) (by assumption) ?rest87
            case hy87 => (intro w' hSw; (try dsimp only at hSw); go_simp; try with_reducible rfl)
            simp only [Act.put, List.setIfInBounds_toArray, List.set_cons_zero, List.set_cons_succ]
            refine wpAnyH_done (by kernel_rfl) ?_ _
            have HFW := Lib.hid (HFU.out w5 belw5)
            clear HFU HU3 HF3 HN3 HK HD3 belw4 belw5
            go_wp2
            go_roundw
            case rel => exact ⟨k + 1, by omega, by go_num, A0, n0, c0, rfl, HFW⟩
            case measure => simp [intOf]; omega
    · obtain rfl : k = n := by omega
      have i3 : ¬ (k : Int) < (k : Int) := by omega
      obtain ⟨G, d, lg, all, hls, hL, hO, hn0⟩ := hrel.out
      have hlen := hls.len
      have HT := Lib.hid (told_any HX.out hls.log (by rw [hls.fl]; omega) (by rw [hls.f0]; omega))
      have HWF : Hid (∀ xs ∈ all, ∀ x ∈ xs, (Lit.int .u8 x).wf = true) := Lib.hid (by
        obtain ⟨A9, c9, e9, _, h9⟩ := hls.own.brow hls.bel
        exact h9.wf)
      have HLS := Lib.hid hls
      subst hn0
      clear hrel hls hL hO
      go_wp2_with fail
      refine HT.out.mono ?_
      rintro e w4 ⟨AT, cT, rfl, hT, b4⟩
      rw [HLS.out.fl] at hT
      have HB4 := Lib.hid (HLS.out.bel.trans (b4.mono HLS.out.bel.size))
      have HSR : Hid (Calls Tryz.prog 25 #[.slice AT all.length cT, .slice A0 all.length c0] w4 fun e w' => e = .returned (.bool true) ∧ ∃ m, w' = w4.drewN m) := Lib.hid (by
        obtain ⟨A9, c9, e9, _, h9⟩ := (HLS.out.below HX.out b4).own.brow HB4.out
        injection e9 with e91 e92 e93
        subst e91 e93
        exact SameRows_yes AT A0 all.length cT c0 all w4 _ _ (hT.brow HWF.out) h9 rfl (by omega) (fun i hi => by
          have := HLS.out.mem _ (nthB_mem all i hi)
          omega))
      rw [HLS.out.fl]
      clear hT b4 HT HLS HWF
      go_wp2_with fail
      refine HSR.out.mono ?_
      rintro e w5 ⟨rfl, m5, rfl⟩
      go_wp2
      go_ret
      exact ⟨rfl, below_drewN HB4.out m5⟩
end Go.Proofs.YtbdhhmhlcdganaaGreatDoor
