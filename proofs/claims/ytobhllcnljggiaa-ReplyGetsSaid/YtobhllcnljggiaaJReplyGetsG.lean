/-
  Texts of the proof of ReplyGets, joined.
-/
import Derived.Test.YtobhllcnljggiaaJReplyGetsE
import Derived.Test.YtobhllcnljggiaaJReplyGetsF
import Derived.Test.YtobhllcnljggiaaJReplyGetsA
import Derived.Test.YtobhllcnljggiaaJReplyGetsD
import Derived.Test.YtobhllcnljggiaaJReplyGetsB
import Derived.Test.YtobhllcnljggiaaProg
import Derived.Laws.CopyOwn
import Derived.IntWalk
import Derived.Deep.RegionLaw
import Derived.Deep.RegionWith
import Derived.StillTailTactics
import Derived.Deep.RegionHeld3
import Derived.Deep.AppendLies
namespace Go.Proofs.Ytobhllcnljggiaa
open Go.RowKit
set_option linter.unusedVariables false

/-- What lies below B, and what lies from z on, is as it was. -/
def Inn (B z : Nat) (w w' : World) : Prop := Below B w w' ∧ w'.heap.size = w.heap.size ∧ ∀ j, z ≤ j → w'.heap[j]? = w.heap[j]?
theorem Inn.refl (B z : Nat) (w : World) : Inn B z w w := ⟨Below.refl _ _, rfl, fun _ _ => rfl⟩
theorem Inn.trans {B z : Nat} {a b c : World} (h : Inn B z a b) (k : Inn B z b c) : Inn B z a c := ⟨h.1.trans k.1, k.2.1.trans h.2.1, fun j hj => (k.2.2 j hj).trans (h.2.2 j hj)⟩
theorem Inn.block {B z : Nat} {w w' : World} {row : Option Nat} (hg : w.grownBy w' row) (hs : w'.heap.size = w.heap.size) (hr : ∀ k, row = some k → B ≤ k ∧ k < z) (hB : B ≤ w.heap.size) : Inn B z w w' := by
  refine ⟨(Below.refl B w).grown hg hB (fun k e => (hr k e).1), hs, fun j hj => ?_⟩
  by_cases h : j < w.heap.size
  · exact hg.block j h (fun e => by have := (hr j e.symm).2; omega)
  · rw [Array.getElem?_eq_none (by omega), Array.getElem?_eq_none (by omega)]
/-- Lists of bits, of words, of lists of words, in blocks between B and z. -/
def BitS (w : World) (B z : Nat) (A : Option Addr) (n c : Nat) : Prop := (A = none ∧ n = 0 ∧ c = 0) ∨ ∃ g l, A = some ⟨g, 0, none⟩ ∧ c = n ∧ (B ≤ g ∧ g < z) ∧ l.length = n ∧ n ≤ 70368744177664 ∧ L.Bk w g l
def WordS (w : World) (B z : Nat) (A : Option Addr) (n c : Nat) : Prop := (A = none ∧ n = 0 ∧ c = 0) ∨ ∃ g l, A = some ⟨g, 0, none⟩ ∧ c = n ∧ (B ≤ g ∧ g < z) ∧ l.length = n ∧ n ≤ 70368744177664 ∧ W.Bk w g l
def FileS (w : World) (B z : Nat) (A : Option Addr) (n c : Nat) : Prop := (A = none ∧ n = 0 ∧ c = 0) ∨
  ∃ (g : Nat) (L : List Value), A = some ⟨g, 0, none⟩ ∧ c = n ∧ (B ≤ g ∧ g < z) ∧ L.length = n ∧ w.heap[g]? = some (.cells L.toArray 23 (0, 0)) ∧ ∀ i, i < n → ∃ gi l, L[i]? = some (.slice (some ⟨gi, 0, none⟩) l.length l.length) ∧ (B ≤ gi ∧ gi < z) ∧ l.length ≤ 70368744177664 ∧ W.Bk w gi l
section
variable {w w' : World} {B z n c : Nat} {A : Option Addr}
theorem BitS.keep (h : BitS w B z A n c) (hk : ∀ j, B ≤ j → j < z → w'.heap[j]? = w.heap[j]?) : BitS w' B z A n c := by
  rcases h with h | ⟨g, l, h1, h2, h3, h4, h5, h6⟩
  · exact .inl h
  · exact .inr ⟨g, l, h1, h2, h3, h4, h5, (hk g h3.1 h3.2).trans h6⟩
theorem WordS.keep (h : WordS w B z A n c) (hk : ∀ j, B ≤ j → j < z → w'.heap[j]? = w.heap[j]?) : WordS w' B z A n c := by
  rcases h with h | ⟨g, l, h1, h2, h3, h4, h5, h6⟩
  · exact .inl h
  · exact .inr ⟨g, l, h1, h2, h3, h4, h5, (hk g h3.1 h3.2).trans h6⟩
theorem FileS.keep (h : FileS w B z A n c) (hk : ∀ j, B ≤ j → j < z → w'.heap[j]? = w.heap[j]?) : FileS w' B z A n c := by
  rcases h with h | ⟨g, L, h1, h2, h3, h4, h5, h6⟩
  · exact .inl h
  · refine .inr ⟨g, L, h1, h2, h3, h4, (hk g h3.1 h3.2).trans h5, fun i hi => ?_⟩
    obtain ⟨gi, l, g1, g2, g3, g4⟩ := h6 i hi
    exact ⟨gi, l, g1, g2, g3, (hk gi g2.1 g2.2).trans g4⟩
theorem other_type {w w' : World} {g gi : Nat} {cs cs' : Array Value} {t t' : TypeId} {f f' : Nat × Nat} (h : w.heap[gi]? = some (.cells cs t f)) (h' : w.heap[g]? = some (.cells cs' t' f')) (hne : t ≠ t') (hg : w.grownBy w' (some g)) : w'.heap[gi]? = w.heap[gi]? :=
  hg.block gi (block_lt h) (by have := blocks_ne h h' hne; simpa using this)
/-- A block of bits is written over. -/
theorem WordS.spoilB (h : WordS w B z A n c) {g : Nat} {cs : Array Value} (h1 : w.heap[g]? = some (.cells cs 4 (0, 0))) (hg : w.grownBy w' (some g)) : WordS w' B z A n c := by
  rcases h with h | ⟨g', l, a1, a2, a3, a4, a5, a6⟩
  · exact .inl h
  · exact .inr ⟨g', l, a1, a2, a3, a4, a5, (other_type a6 h1 (by decide) hg).trans a6⟩
theorem FileS.spoilB (h : FileS w B z A n c) {g : Nat} {cs : Array Value} (h1 : w.heap[g]? = some (.cells cs 4 (0, 0))) (hg : w.grownBy w' (some g)) : FileS w' B z A n c := by
  rcases h with h | ⟨g', L, a1, a2, a3, a4, a5, a6⟩
  · exact .inl h
  · refine .inr ⟨g', L, a1, a2, a3, a4, (other_type a5 h1 (by decide) hg).trans a5, fun i hi => ?_⟩
    obtain ⟨gi, l, g1, g2, g3, g4⟩ := a6 i hi
    exact ⟨gi, l, g1, g2, g3, (other_type g4 h1 (by decide) hg).trans g4⟩
/-- A block of words is written over. -/
theorem FileS.spoilW (h : FileS w B z A n c) {g : Nat} {l0 l1 : List Int} (h1 : W.Bk w g l0) (h2 : W.Bk w' g l1) (hl : l1.length = l0.length) (hg : w.grownBy w' (some g)) : FileS w' B z A n c := by
  rcases h with h | ⟨g', L, a1, a2, a3, a4, a5, a6⟩
  · exact .inl h
  · refine .inr ⟨g', L, a1, a2, a3, a4, (other_type a5 h1 (by decide) hg).trans a5, fun i hi => ?_⟩
    obtain ⟨gi, l, g1, g2, g3, g4⟩ := a6 i hi
    by_cases e : gi = g
    · subst e
      have g4' : w.heap[gi]? = some (.cells (blk .u16 l) 75 (0, 0)) := g4
      have h1' : w.heap[gi]? = some (.cells (blk .u16 l0) 75 (0, 0)) := h1
      rw [h1'] at g4'
      injection g4' with g4'
      injection g4' with e1 e2
      have e3 : l.length = l1.length := by
        have := congrArg Array.size e1
        rw [blk_size, blk_size] at this
        omega
      exact ⟨gi, l1, by rw [← e3]; exact g1, g2, by omega, h2⟩
    · exact ⟨gi, l, g1, g2, g3, (hg.block gi (block_lt g4) (by simpa using e)).trans g4⟩
theorem spoil_bits (h : BitS w B z A n c) (hB : B ≤ w.heap.size) :
    Calls Try.prog 54 #[.slice A n c] w fun e w' => e = .returned (.tuple #[]) ∧ Inn B z w w' ∧ ((w' = w) ∨ ∃ g cs, w.heap[g]? = some (.cells cs 4 (0, 0)) ∧ w.grownBy w' (some g)) := by
  rcases h with ⟨rfl, rfl, rfl⟩ | ⟨g, l, rfl, rfl, h3, h4, h5, h6⟩
  · refine (L.spoil_nil w).mono ?_
    rintro e w' ⟨rfl, rfl⟩
    exact ⟨rfl, Inn.refl _ _ _, .inl rfl⟩
  · refine (L.spoil_bool g c c l [] w (by rw [List.append_nil]; exact h6) h4 (Nat.le_refl _) (by omega)).mono ?_
    rintro e w' ⟨rfl, _, h1, h2⟩
    exact ⟨rfl, Inn.block h1 h2 (fun k e => by injection e with e; omega) hB, .inr ⟨g, _, h6, h1⟩⟩
theorem spoil_words (h : WordS w B z A n c) (hB : B ≤ w.heap.size) :
    Calls Try.prog 55 #[.slice A n c] w fun e w' => e = .returned (.tuple #[]) ∧ Inn B z w w' ∧ ((w' = w) ∨ ∃ g l0 l1, W.Bk w g l0 ∧ W.Bk w' g l1 ∧ l1.length = l0.length ∧ w.grownBy w' (some g)) := by
  rcases h with ⟨rfl, rfl, rfl⟩ | ⟨g, l, rfl, rfl, h3, h4, h5, h6⟩
  · refine (W.spoil_nil w).mono ?_
    rintro e w' ⟨rfl, rfl⟩
    exact ⟨rfl, Inn.refl _ _ _, .inl rfl⟩
  · refine (W.spoil_u16 g c c l [] w (by rw [List.append_nil]; exact h6) h4 (Nat.le_refl _) (by omega)).mono ?_
    rintro e w' ⟨rfl, h0, h1, h2⟩
    rw [List.append_nil] at h0
    exact ⟨rfl, Inn.block h1 h2 (fun k e => by injection e with e; omega) hB, .inr ⟨g, l, _, h6, h0, W.spoil16_length _ _, h1⟩⟩
end
/-- The lists of an answer that a call has made. -/
structure SpK (w : World) (B z : Nat) (Bo Bs Bf : Option Addr) (mo ms mf eo es ef : Nat) : Prop where
  on : BitS w B z Bo mo eo
  set : WordS w B z Bs ms es
  fs : FileS w B z Bf mf ef
theorem SpK.keep {w w' : World} {B z : Nat} {Bo Bs Bf : Option Addr} {mo ms mf eo es ef : Nat} (h : SpK w B z Bo Bs Bf mo ms mf eo es ef) (hk : ∀ j, B ≤ j → j < z → w'.heap[j]? = w.heap[j]?) : SpK w' B z Bo Bs Bf mo ms mf eo es ef :=
  ⟨h.on.keep hk, h.set.keep hk, h.fs.keep hk⟩
theorem RepK.spk {w : World} {base : Nat} {r : Rep} {Bo Bs Bf : Option Addr} {mo ms mf eo es ef : Nat} (h : RepK w base r Bo Bs Bf mo ms mf eo es ef) (l1 : r.on.length ≤ 100000) (l2 : r.set.length ≤ 100000) (l3 : ∀ i, i < r.fs.length → (nthF r.fs i).length ≤ 100000) : SpK w base w.heap.size Bo Bs Bf mo ms mf eo es ef := by
  refine ⟨?_, ?_, ?_⟩
  · rcases h.on with ⟨a, b, c, _⟩ | ⟨g, a, b, c, d, e⟩
    · exact .inl ⟨a, b, c⟩
    · exact .inr ⟨g, _, a, b, ⟨c, block_lt e⟩, d, by omega, e⟩
  · rcases h.set with ⟨a, b, c, _⟩ | ⟨g, a, b, c, d, e⟩
    · exact .inl ⟨a, b, c⟩
    · exact .inr ⟨g, _, a, b, ⟨c, block_lt e⟩, d, by omega, e⟩
  · rcases h.fs with ⟨a, b, c, _⟩ | ⟨g, L, a, b, c, d, e, f, k⟩
    · exact .inl ⟨a, b, c⟩
    · refine .inr ⟨g, L, a, b, ⟨c, block_lt f⟩, e, f, fun i hi => ?_⟩
      obtain ⟨gi, g1, g2, g3⟩ := k i hi
      exact ⟨gi, _, g1, ⟨g2, block_lt g3⟩, by have := l3 i (by omega); omega, g3⟩

set_option maxHeartbeats 2000000 in
set_option maxRecDepth 100000 in
theorem SpoilReply_any (x : Int) (B z : Nat) (Bo Bs Bf : Option Addr) (mo ms mf eo es ef : Nat) (w : World) (h : SpK w B z Bo Bs Bf mo ms mf eo es ef) (hB : B ≤ z) (hz : z ≤ w.heap.size) (hmf : mf ≤ 1000000) :
    Calls Try.prog 22 #[.agg #[.int .i64 x, .slice Bo mo eo, .slice Bs ms es, .slice Bf mf ef]] w fun e w' => e = .returned (.tuple #[]) ∧ Below B w w' ∧ ∀ j, z ≤ j → j < w.heap.size → w'.heap[j]? = w.heap[j]? := by
  have bA := bel_alloc w (.cells #[.int .i64 x, .slice Bo mo eo, .slice Bs ms es, .slice Bf mf ef] 29)
  have SK := Lib.hid (h.keep (w' := w.alloc (.cells #[.int .i64 x, .slice Bo mo eo, .slice Bs ms es, .slice Bf mf ef] 29)) (fun j _ hj => bA.block j (by omega)))
  have hbox := heap_alloc_new w (.cells #[.int .i64 x, .slice Bo mo eo, .slice Bs ms es, .slice Bf mf ef] 29)
  have hsz : (w.alloc (.cells #[.int .i64 x, .slice Bo mo eo, .slice Bs ms es, .slice Bf mf ef] 29)).heap.size = w.heap.size + 1 := by simp
  have B0 := Lib.hid bA
  clear h bA
  obtain ⟨y0, y1, y2, y3⟩ := cells4 hbox
  have HBX := Lib.hid hbox
  clear hbox
  go_enter Try.func22, Try.ntmps22
  go_wp2_with fail
  clear y0 y1 y2 y3
  generalize w.alloc (.cells #[.int .i64 x, .slice Bo mo eo, .slice Bs ms es, .slice Bf mf ef] 29) = w1 at *
  refine (spoil_bits SK.out.on (by omega)).mono ?_
  rintro e w2 ⟨rfl, inn2, hc2⟩
  have hs2 := inn2.2.1
  have HBX2 := Lib.hid ((inn2.2.2 w.heap.size hz).trans HBX.out)
  have S2 : Hid (WordS w2 B z Bs ms es ∧ FileS w2 B z Bf mf ef) := Lib.hid (by
    rcases hc2 with h | ⟨g, cs, g1, g2⟩
    · rw [h]; exact ⟨SK.out.set, SK.out.fs⟩
    · exact ⟨SK.out.set.spoilB g1 g2, SK.out.fs.spoilB g1 g2⟩)
  have I2 := Lib.hid inn2
  clear inn2 hc2 SK HBX
  obtain ⟨y0, y1, y2, y3⟩ := cells4 HBX2.out
  go_wp2_with fail
  clear y0 y1 y2 y3
  refine (spoil_words S2.out.1 (by omega)).mono ?_
  rintro e w3 ⟨rfl, inn3, hc3⟩
  have hs3 := inn3.2.1
  have HBX3 := Lib.hid ((inn3.2.2 w.heap.size hz).trans HBX2.out)
  have S3 : Hid (FileS w3 B z Bf mf ef) := Lib.hid (by
    rcases hc3 with h | ⟨g, l0, l1, g1, g2, g3, g4⟩
    · rw [h]; exact S2.out.2
    · exact S2.out.2.spoilW g1 g2 g3 g4)
  have I3 := Lib.hid (I2.out.trans inn3)
  clear inn3 hc3 S2 HBX2 I2
  obtain ⟨y0, y1, y2, y3⟩ := cells4 HBX3.out
  go_wp2
  clear y0 y1 y2 y3
  go_loopw [2] (fun i wr => ∃ k : Nat, k ≤ mf ∧ i = .int .i64 k ∧ Hid (FileS wr B z Bf mf ef) ∧ Hid (Inn B z w1 wr) ∧ Hid (wr.heap[w.heap.size]? = some (.cells #[.int .i64 x, .slice Bo mo eo, .slice Bs ms es, .slice Bf mf ef] 29 (0, 0)))) (fun i _ => mf - (intOf i).toNat)
  case atStart => exact ⟨0, by omega, rfl, S3, I3, HBX3⟩
  case round =>
    clear S3 I3 HBX3
    obtain ⟨k, hk, rfl, S, I, hb⟩ := hrel
    obtain ⟨y0, y1, y2, y3⟩ := cells4 hb.out
    by_cases hlt : k < mf
    · have hkl : (k : Int) < (mf : Int) := by omega
      rcases S.out with ⟨_, h0, _⟩ | ⟨g, L, a1, a2, a3, a4, a5, a6⟩
      · omega
      · obtain ⟨gi, l, g1, g2, g3, g4⟩ := a6 k hlt
        have hc1 : wr.cell? ⟨g, k, none⟩ = some (.slice (some ⟨gi, 0, none⟩) l.length l.length) := by
          rw [cell_of_row wr g k _ _ _ a5]; simpa using g1
        have hsw := I.out.2.1
        have HWS := Lib.hid (spoil_words (w := wr) (B := B) (z := z) (A := some ⟨gi, 0, none⟩) (n := l.length) (c := l.length) (.inr ⟨gi, l, rfl, rfl, g2, rfl, g3, g4⟩) (by omega))
        subst a1
        obtain rfl : mf = ef := a2.symm
        generalize l.length = q at *
        clear a3 a4 a5 a6 g1 g2 g3 g4
        go_wp2_with fail
        clear y0 y1 y2 y3 hc1
        refine HWS.out.mono ?_
        rintro e w8 ⟨rfl, inn8, hc8⟩
        have S8 : Hid (FileS w8 B z (some ⟨g, 0, none⟩) mf mf) := Lib.hid (by
          rcases hc8 with h | ⟨g, l0, l1, g1, g2, g3, g4⟩
          · rw [h]; exact S.out
          · exact S.out.spoilW g1 g2 g3 g4)
        have I8 := Lib.hid (I.out.trans inn8)
        have hb8 := Lib.hid ((inn8.2.2 w.heap.size hz).trans hb.out)
        go_wp2
        go_roundw
        case rel => exact ⟨k + 1, by omega, by go_num, S8, I8, hb8⟩
        case measure => simp [intOf]; omega
    · obtain rfl : k = mf := by omega
      go_wp2
      go_end0
      exact ⟨rfl, (B0.out.mono (by omega)).trans I.out.1, fun j h1 h2 => (I.out.2.2 j h1).trans (B0.out.block j h2)⟩
end Go.Proofs.Ytobhllcnljggiaa
namespace Go.Proofs.Ytobhllcnljggiaa
open Go.RowKit
set_option linter.unusedVariables false

def clB (c : Int) : Bool := decide (c = 1 ∨ c = 2)
def clW (c : Int) : Bool := decide (c = 3 ∨ c = 4)
def clF (c : Int) : Bool := decide (c = 20)
theorem refKindBits_any (c a n : Int) (Ao As Ap : Option Addr) (lo co ls cs lp cp : Nat) (w : World) :
    Calls Try.prog 34 #[.agg #[.int .i64 c, .int .i64 a, .int .i64 n, .slice Ao lo co, .slice As ls cs, .slice Ap lp cp]] w fun e w' => e = .returned (.bool (clB c)) ∧ Below w.heap.size w w' := by
  have h : clB c = (c == 1 || c == 2) := by by_cases h1 : c = 1 <;> by_cases h2 : c = 2 <;> simp [clB, h1, h2]
  rw [h]
  clear h
  go_enter Try.func34, Try.ntmps34
  go_wp2
  all_goals (go_ret; refine ⟨?_, bel_alloc _ _⟩; first | rfl | simp [*])
theorem refWords_kind (c a n : Int) (Ao As Ap : Option Addr) (lo co ls cs lp cp : Nat) (w : World) :
    Calls Try.prog 36 #[.agg #[.int .i64 c, .int .i64 a, .int .i64 n, .slice Ao lo co, .slice As ls cs, .slice Ap lp cp]] w fun e w' => e = .returned (.bool (clW c)) ∧ Below w.heap.size w w' := by
  have h : clW c = (c == 3 || c == 4) := by by_cases h1 : c = 3 <;> by_cases h2 : c = 4 <;> simp [clW, h1, h2]
  rw [h]
  clear h
  go_enter Try.func36, Try.ntmps36
  go_wp2
  all_goals (go_ret; refine ⟨?_, bel_alloc _ _⟩; first | rfl | simp [*])
theorem refFiles_kind (c a n : Int) (Ao As Ap : Option Addr) (lo co ls cs lp cp : Nat) (w : World) :
    Calls Try.prog 38 #[.agg #[.int .i64 c, .int .i64 a, .int .i64 n, .slice Ao lo co, .slice As ls cs, .slice Ap lp cp]] w fun e w' => e = .returned (.bool (clF c)) ∧ Below w.heap.size w w' := by
  have h : clF c = (c == 20) := by by_cases h1 : c = 20 <;> simp [clF, h1]
  rw [h]
  clear h
  go_enter Try.func38, Try.ntmps38
  go_wp2
  all_goals (go_ret; refine ⟨?_, bel_alloc _ _⟩; first | rfl | simp [*])

set_option maxHeartbeats 4000000 in
set_option maxRecDepth 100000 in
theorem refRp_bad (q : Req) (r : Rep) (Ao As Ap Bo Bs Bf : Option Addr) (lo ls lp co cs cp mo ms mf eo es ef : Nat) (w : World) (h : Asked w w.heap.size q Ao As Ap lo ls lp) (hr : Repd w w.heap.size r Bo Bs Bf mo ms mf) (hb : lp ≤ 100000) (hk : chkQ q ≠ 0) :
    Calls Try.prog 33 #[.agg #[.int .i64 q.c, .int .i64 q.a, .int .i64 q.n, .slice Ao lo co, .slice As ls cs, .slice Ap lp cp], .agg #[.int .i64 r.x, .slice Bo mo eo, .slice Bs ms es, .slice Bf mf ef]] w fun e w' => e = .returned (.int .i64 (chkR q r)) ∧ Below w.heap.size w w' := by
  have tb := TB.new2 w #[.int .i64 q.c, .int .i64 q.a, .int .i64 q.n, .slice Ao lo co, .slice As ls cs, .slice Ap lp cp] #[.int .i64 r.x, .slice Bo mo eo, .slice Bs ms es, .slice Bf mf ef] 26 29
  have hsz : w.heap.size ≤ ((w.alloc (.cells #[.int .i64 q.c, .int .i64 q.a, .int .i64 q.n, .slice Ao lo co, .slice As ls cs, .slice Ap lp cp] 26)).alloc (.cells #[.int .i64 r.x, .slice Bo mo eo, .slice Bs ms es, .slice Bf mf ef] 29)).heap.size := tb.bel.size
  have H0 := Lib.hid h
  have HR0 := Lib.hid hr
  have H := Lib.hid ((h.below tb.bel).more hsz)
  obtain ⟨E, hE⟩ : ∃ E, Hid (chkR q r = E) := ⟨_, Lib.hid rfl⟩
  rw [hE.out]
  have HMO := Lib.hid hr.mo
  have HMS := Lib.hid hr.ms
  have HMF := Lib.hid hr.mf
  obtain ⟨k, hk2⟩ : ∃ k, Hid (chkQ q = k) := ⟨_, Lib.hid rfl⟩
  have HC := Lib.hid (refCheck_any q Ao As Ap lo ls lp co cs cp _ H.out)
  rw [chkQ_of H.out, hk2.out] at HC
  have HE : Hid (E = k) := Lib.hid (by rw [← hE.out]; unfold chkR; rw [if_pos hk]; exact hk2.out)
  rw [hk2.out] at hk
  have u1 : (k != 0) = true := by simpa using hk
  have u2 : (k == 0) = false := beq_false_of_ne hk
  clear h hr hk
  go_enter Try.func33, Try.ntmps33
  go_wp2_with fail
  refine HC.out.mono ?_
  rintro e w1 ⟨rfl, b1⟩
  have tb := tb.below b1
  clear b1
  obtain ⟨d0, d1, d2, d3, d4⟩ := tb.c4; obtain ⟨r0, r1, r2, r3, r4, r5, r6⟩ := tb.r6
  go_wp2
  go_ret
  exact ⟨by rw [HE.out]; rfl, tb.bel⟩

set_option maxHeartbeats 4000000 in
set_option maxRecDepth 100000 in
theorem refRp_exc (q : Req) (r : Rep) (Ao As Ap Bo Bs Bf : Option Addr) (lo ls lp co cs cp mo ms mf eo es ef : Nat) (w : World) (h : Asked w w.heap.size q Ao As Ap lo ls lp) (hr : Repd w w.heap.size r Bo Bs Bf mo ms mf) (hb : lp ≤ 100000) (hk : chkQ q = 0) (hx : r.x ≠ 0) :
    Calls Try.prog 33 #[.agg #[.int .i64 q.c, .int .i64 q.a, .int .i64 q.n, .slice Ao lo co, .slice As ls cs, .slice Ap lp cp], .agg #[.int .i64 r.x, .slice Bo mo eo, .slice Bs ms es, .slice Bf mf ef]] w fun e w' => e = .returned (.int .i64 (chkR q r)) ∧ Below w.heap.size w w' := by
  have tb := TB.new2 w #[.int .i64 q.c, .int .i64 q.a, .int .i64 q.n, .slice Ao lo co, .slice As ls cs, .slice Ap lp cp] #[.int .i64 r.x, .slice Bo mo eo, .slice Bs ms es, .slice Bf mf ef] 26 29
  have hsz : w.heap.size ≤ ((w.alloc (.cells #[.int .i64 q.c, .int .i64 q.a, .int .i64 q.n, .slice Ao lo co, .slice As ls cs, .slice Ap lp cp] 26)).alloc (.cells #[.int .i64 r.x, .slice Bo mo eo, .slice Bs ms es, .slice Bf mf ef] 29)).heap.size := tb.bel.size
  have H0 := Lib.hid h
  have HR0 := Lib.hid hr
  have H := Lib.hid ((h.below tb.bel).more hsz)
  obtain ⟨E, hE⟩ : ∃ E, Hid (chkR q r = E) := ⟨_, Lib.hid rfl⟩
  rw [hE.out]
  have HMO := Lib.hid hr.mo
  have HMS := Lib.hid hr.ms
  have HMF := Lib.hid hr.mf
  have HC := Lib.hid (refCheck_any q Ao As Ap lo ls lp co cs cp _ H.out)
  rw [chkQ_of H.out, hk] at HC
  have HE : Hid ((if 1 ≤ r.x ∧ r.x ≤ 127 then (if anyB mo ms mf = true then 23 else 0) else 3) = E) := Lib.hid (by
    rw [← hE.out]; unfold chkR; rw [if_neg (show ¬ chkQ q ≠ 0 by rw [hk]; simp), if_pos hx, HMO.out, HMS.out, HMF.out])
  have u1 : (r.x != 0) = true := by simpa using hx
  have u2 : (r.x == 0) = false := beq_false_of_ne hx
  clear h hr hk hx
  by_cases h1 : r.x < 1
  · have h1' : Hid (E = 3) := Lib.hid (by rw [← HE.out, if_neg (by omega)])
    go_enter Try.func33, Try.ntmps33
    go_wp2_with fail
    refine HC.out.mono ?_
    rintro e w1 ⟨rfl, b1⟩
    have tb := tb.below b1
    clear b1
    obtain ⟨d0, d1, d2, d3, d4⟩ := tb.c4; obtain ⟨r0, r1, r2, r3, r4, r5, r6⟩ := tb.r6
    go_wp2
    go_ret
    exact ⟨by rw [h1'.out]; rfl, tb.bel⟩
  by_cases h2 : 127 < r.x
  · have h1' : Hid (E = 3) := Lib.hid (by rw [← HE.out, if_neg (by omega)])
    go_enter Try.func33, Try.ntmps33
    go_wp2_with fail
    refine HC.out.mono ?_
    rintro e w1 ⟨rfl, b1⟩
    have tb := tb.below b1
    clear b1
    obtain ⟨d0, d1, d2, d3, d4⟩ := tb.c4; obtain ⟨r0, r1, r2, r3, r4, r5, r6⟩ := tb.r6
    go_wp2
    go_ret
    exact ⟨by rw [h1'.out]; rfl, tb.bel⟩
  have HE2 : Hid ((if anyB mo ms mf = true then 23 else 0) = E) := Lib.hid (by rw [← HE.out, if_pos (show 1 ≤ r.x ∧ r.x ≤ 127 from ⟨by omega, by omega⟩)])
  clear HE hE
  by_cases g1 : 0 < mo
  · have g1' : (0 : Int) < (mo : Int) := by omega
    have hl : Hid (E = 23) := Lib.hid (by rw [← HE2.out]; simp [anyB]; omega)
    clear HE2
    go_enter Try.func33, Try.ntmps33
    go_wp2_with fail
    refine HC.out.mono ?_
    rintro e w1 ⟨rfl, b1⟩
    have tb := tb.below b1
    clear b1
    obtain ⟨d0, d1, d2, d3, d4⟩ := tb.c4; obtain ⟨r0, r1, r2, r3, r4, r5, r6⟩ := tb.r6
    go_wp2
    go_ret
    exact ⟨by rw [hl.out]; rfl, tb.bel⟩
  have g1' : ¬ (0 : Int) < (mo : Int) := by omega
  by_cases g2 : 0 < ms
  · have g2' : (0 : Int) < (ms : Int) := by omega
    have hl : Hid (E = 23) := Lib.hid (by rw [← HE2.out]; simp [anyB]; omega)
    clear HE2
    go_enter Try.func33, Try.ntmps33
    go_wp2_with fail
    refine HC.out.mono ?_
    rintro e w1 ⟨rfl, b1⟩
    have tb := tb.below b1
    clear b1
    obtain ⟨d0, d1, d2, d3, d4⟩ := tb.c4; obtain ⟨r0, r1, r2, r3, r4, r5, r6⟩ := tb.r6
    go_wp2
    go_ret
    exact ⟨by rw [hl.out]; rfl, tb.bel⟩
  have g2' : ¬ (0 : Int) < (ms : Int) := by omega
  by_cases g3 : 0 < mf
  · have g3' : (0 : Int) < (mf : Int) := by omega
    have hl : Hid (E = 23) := Lib.hid (by rw [← HE2.out]; simp [anyB]; omega)
    clear HE2
    go_enter Try.func33, Try.ntmps33
    go_wp2_with fail
    refine HC.out.mono ?_
    rintro e w1 ⟨rfl, b1⟩
    have tb := tb.below b1
    clear b1
    obtain ⟨d0, d1, d2, d3, d4⟩ := tb.c4; obtain ⟨r0, r1, r2, r3, r4, r5, r6⟩ := tb.r6
    go_wp2
    go_ret
    exact ⟨by rw [hl.out]; rfl, tb.bel⟩
  · have g3' : ¬ (0 : Int) < (mf : Int) := by omega
    have hl : Hid (E = 0) := Lib.hid (by rw [← HE2.out]; simp [anyB]; omega)
    clear HE2
    go_enter Try.func33, Try.ntmps33
    go_wp2_with fail
    refine HC.out.mono ?_
    rintro e w1 ⟨rfl, b1⟩
    have tb := tb.below b1
    clear b1
    obtain ⟨d0, d1, d2, d3, d4⟩ := tb.c4; obtain ⟨r0, r1, r2, r3, r4, r5, r6⟩ := tb.r6
    go_wp2
    go_ret
    exact ⟨by rw [hl.out]; rfl, tb.bel⟩
end Go.Proofs.Ytobhllcnljggiaa
namespace Go.Proofs.Ytobhllcnljggiaa
open Go.RowKit
set_option linter.unusedVariables false
/-- A list with each byte written over, up to a place. -/
def spoil8 (k : Nat) (l : List Int) : List Int := (l.take k).map (bits .xor .u8 · 90) ++ l.drop k
theorem spoil8_length (k : Nat) (l : List Int) : (spoil8 k l).length = l.length := by simp [spoil8]; omega
theorem xor90_wf (x : Int) (h : (Lit.int .u8 x).wf = true) : (Lit.int .u8 (bits .xor .u8 x 90)).wf = true := by
  have hx := wf_u8 h
  obtain ⟨n, rfl⟩ := Int.eq_ofNat_of_zero_le hx.1
  have hn : n < 256 := by omega
  have := u8_xor_nat n 90 hn (by omega)
  show (Lit.int .u8 (bits .xor .u8 (n : Int) ((90 : Nat) : Int))).wf = true
  rw [this]
  have hlt : n ^^^ 90 < 256 := Nat.xor_lt_two_pow (n := 8) hn (by omega)
  simp [Lit.wf, IntKind.min, IntKind.max, IntKind.signed, IntKind.bits]; omega
theorem spoil8_wf (k : Nat) (l : List Int) (h : ∀ x ∈ l, (Lit.int .u8 x).wf = true) : ∀ x ∈ spoil8 k l, (Lit.int .u8 x).wf = true := by
  intro x hx
  rcases List.mem_append.1 hx with hx | hx
  · obtain ⟨y, hy, rfl⟩ := List.mem_map.1 hx
    exact xor90_wf y (h y (List.mem_of_mem_take hy))
  · exact h x (List.mem_of_mem_drop hx)
theorem spoil8_at (k : Nat) (l : List Int) (hk : k < l.length) : nth (spoil8 k l) k = nth l k := by
  have hl : ((l.take k).map (bits .xor .u8 · 90)).length = k := by simp; omega
  have := nth_right ((l.take k).map (bits .xor .u8 · 90)) (l.drop k) 0
  rw [hl, Nat.add_zero] at this
  rw [spoil8, this, nth, nth, List.getD_eq_getElem?_getD, List.getD_eq_getElem?_getD, List.getElem?_drop, Nat.add_zero]
theorem spoil8_set (k : Nat) (l : List Int) (hk : k < l.length) : (spoil8 k l).set k (bits .xor .u8 (nth l k) 90) = spoil8 (k + 1) l := by
  have hl : ((l.take k).map (bits .xor .u8 · 90)).length = k := by simp; omega
  have hd := List.drop_eq_getElem_cons hk
  rw [spoil8, List.set_append_right _ _ (by omega), hl, Nat.sub_self, spoil8, take_step l k hk]
  simp
  rw [hd]
  rfl
theorem spoil8_zero (l : List Int) : spoil8 0 l = l := by simp [spoil8]

set_option maxHeartbeats 400000 in
theorem spoil_u8 (g n c : Nat) (l r : List Int) (w : World) (hg : w.heap[g]? = some (.cells (blk .u8 (l ++ r)) 5 (0, 0))) (hl : l.length = c) (hn : n ≤ c) (hc : c ≤ 140737488355328) :
    Calls Try.prog 47 #[.slice (some ⟨g, 0, none⟩) n c] w fun e w' => e = .returned (.tuple #[]) ∧ w'.heap[g]? = some (.cells (blk .u8 (spoil8 c l ++ r)) 5 (0, 0)) ∧ w.grownBy w' (some g) ∧ w'.heap.size = w.heap.size := by
  have hl' := Lib.hid hl
  clear hl
  go_enter Try.func47, Try.ntmps47
  go_wp2
  go_loopw [3] (fun i wr => ∃ k : Nat, k ≤ c ∧ i = .int .i64 k ∧ Hid (wr.heap[g]? = some (.cells (blk .u8 (spoil8 k l ++ r)) 5 (0, 0))) ∧ w.grownBy wr (some g) ∧ Hid (wr.heap.size = w.heap.size)) (fun i _ => c - (intOf i).toNat)
  case atStart => exact ⟨0, by omega, rfl, Lib.hid (by rw [spoil8_zero]; exact hg), World.grownBy.refl _ _, Lib.hid rfl⟩
  case round =>
    obtain ⟨k, hk, rfl, hb, hgr, hsz⟩ := hrel
    by_cases hlt : k < c
    · have hc1 : wr.cell? ⟨g, k, none⟩ = some (.int .u8 (nth l k)) := by
        rw [cell_of_row wr g k _ _ _ hb.out, blk_get _ _ _ (by rw [List.length_append, spoil8_length, hl'.out]; omega), nth_left _ _ _ (by rw [spoil8_length, hl'.out]; exact hlt), spoil8_at k l (by have := hl'.out; omega)]
      have hfz := block_frozen wr g k _ _ hb.out
      have hnew := Lib.hid (block_setCell wr g k .u8 5 _ (bits .xor .u8 (nth l k) 90) hb.out)
      rw [List.set_append_left _ _ (by rw [spoil8_length, hl'.out]; exact hlt), spoil8_set k l (by have := hl'.out; omega)] at hnew
      have hgr2 := grown_setCell hgr k (.int .u8 (bits .xor .u8 (nth l k) 90))
      have hsz2 : Hid ((wr.setCell ⟨g, k, none⟩ (.int .u8 (bits .xor .u8 (nth l k) 90))).heap.size = w.heap.size) := by
        show _ = _
        rw [← hsz.out]; simp [World.setCell]
      go_wp2
      go_roundw
      case rel => exact ⟨k + 1, by omega, by go_num, hnew, hgr2, hsz2⟩
      case measure => simp [intOf]; omega
    · obtain rfl : k = c := by omega
      go_wp2
      go_end0
      exact ⟨rfl, hb.out, hgr, hsz.out⟩
theorem spoil_nil (w : World) :
    Calls Try.prog 47 #[.slice none 0 0] w fun e w' => e = .returned (.tuple #[]) ∧ w = w' := by
  go_enter Try.func47, Try.ntmps47
  go_wp2
  go_loop [3] (fun i => i = .int .i64 0) (fun _ => 0)
  case atStart => rfl
  case round =>
    subst hrel
    go_wp2
    go_end0
    exact ⟨rfl, rfl⟩

end Go.Proofs.Ytobhllcnljggiaa
namespace Go.Proofs.Ytobhllcnljggiaa
open Go.RowKit
set_option linter.unusedVariables false
/-- Rows that lie in blocks of their own, each known whole (or nil), their slices in the array of block gl. -/
structure Parts (w : World) (B gl m : Nat) (A : Nat → Option Addr) (n c : Nat → Nat) (l r : Nat → List Int) : Prop where
  at_ : ∀ k, k < m → w.cell? ⟨gl, k, none⟩ = some (.slice (A k) (n k) (c k))
  size : ∀ k, k < m → n k ≤ c k ∧ c k ≤ 140737488355328 ∧ (l k).length = c k
  wf : ∀ k, k < m → ∀ x ∈ l k, (Lit.int .u8 x).wf = true
  lies : ∀ k, k < m → (A k = none ∧ n k = 0 ∧ c k = 0) ∨ ∃ g, A k = some ⟨g, 0, none⟩ ∧ B ≤ g ∧ g ≠ gl ∧ w.heap[g]? = some (.cells (blk .u8 (l k ++ r k)) 5 (0, 0))
  apart : ∀ i k, i < m → k < m → i ≠ k → ∀ g, A i = some ⟨g, 0, none⟩ → A k ≠ some ⟨g, 0, none⟩
  gl_lt : gl < w.heap.size

theorem Parts.row {w : World} {B gl m : Nat} {A : Nat → Option Addr} {n c : Nat → Nat} {l r : Nat → List Int} (h : Parts w B gl m A n c l r) {k : Nat} (hk : k < m) :
    Row .u8 w w.heap.size (A k) ((l k).take (n k)) ∧ ((l k).take (n k)).length = n k := by
  have hs := h.size k hk
  refine ⟨?_, by simp; omega⟩
  rcases h.lies k hk with ⟨ha, hn, hc⟩ | ⟨g, ha, _, _, hg⟩
  · rw [hn, List.take_zero]; exact Row.nil _ _ _ _
  · rw [ha]
    exact (Row.of_block hg _ (fun x hx => h.wf k hk x (List.mem_of_mem_take hx)) ((List.take_prefix _ _).trans (List.prefix_append _ _))).more (block_lt hg)
/-- A step that leaves all old blocks leaves the parts. -/
theorem Parts.below {w w' : World} {B gl m : Nat} {A : Nat → Option Addr} {n c : Nat → Nat} {l r : Nat → List Int} (h : Parts w B gl m A n c l r) (hb : Below w.heap.size w w') : Parts w' B gl m A n c l r where
  at_ := fun k hk => (hb.cell (p := ⟨gl, k, none⟩) h.gl_lt).trans (h.at_ k hk)
  size := h.size
  wf := h.wf
  lies := fun k hk => by
    rcases h.lies k hk with h0 | ⟨g, ha, hB, hne, hg⟩
    · exact .inl h0
    · exact .inr ⟨g, ha, hB, hne, (hb.block g (block_lt hg)).trans hg⟩
  apart := h.apart
  gl_lt := Nat.lt_of_lt_of_le h.gl_lt hb.size
/-- One part is written over. -/
theorem Parts.spoil {w w' : World} {B gl m : Nat} {A : Nat → Option Addr} {n c : Nat → Nat} {l r : Nat → List Int} (h : Parts w B gl m A n c l r) {i g : Nat} (hi : i < m) (ha : A i = some ⟨g, 0, none⟩)
    (hg : w'.heap[g]? = some (.cells (blk .u8 (spoil8 (c i) (l i) ++ r i)) 5 (0, 0))) (hgr : w.grownBy w' (some g)) : Parts w' B gl m A n c (fun k => if k = i then spoil8 (c i) (l i) else l k) r where
  at_ := fun k hk => by
    rcases h.lies i hi with ⟨h0, _⟩ | ⟨g', ha', _, hne, _⟩
    · rw [ha] at h0; cases h0
    · rw [ha] at ha'
      injection ha' with ha'
      injection ha' with ha'
      subst ha'
      exact (World.cell?_of_block (hgr.block gl h.gl_lt (fun e => hne (by injection e with e; exact e.symm)))).trans (h.at_ k hk)
  size := fun k hk => by
    have := h.size k hk
    refine ⟨this.1, this.2.1, ?_⟩
    split
    · rename_i e; subst e; rw [spoil8_length]; exact this.2.2
    · exact this.2.2
  wf := fun k hk => by
    show ∀ x ∈ (if k = i then spoil8 (c i) (l i) else l k), _
    split
    · exact spoil8_wf _ _ (h.wf i hi)
    · exact h.wf k hk
  lies := fun k hk => by
    by_cases e : k = i
    · subst e
      rcases h.lies k hi with ⟨h0, _⟩ | ⟨g', ha', hB, hne, _⟩
      · rw [ha] at h0; cases h0
      · rw [ha] at ha'
        injection ha' with ha'
        injection ha' with ha'
        subst ha'
        exact .inr ⟨g, ha, hB, hne, by rw [if_pos rfl]; exact hg⟩
    · rcases h.lies k hk with h0 | ⟨g', ha', hB, hne, hg'⟩
      · exact .inl h0
      · refine .inr ⟨g', ha', hB, hne, ?_⟩
        rw [if_neg e, hgr.block g' (block_lt hg') (fun e' => ?_)]
        · exact hg'
        · injection e' with e'
          subst e'
          exact h.apart k i hk hi e _ ha' ha
  apart := h.apart
  gl_lt := Nat.lt_of_lt_of_le h.gl_lt hgr.size

set_option maxHeartbeats 1000000 in
theorem apart_u8 (gl m B : Nat) (A : Nat → Option Addr) (n c : Nat → Nat) (l0 r : Nat → List Int) (w : World) (hP : Parts w B gl m A n c l0 r) (hB : B ≤ w.heap.size) (hm : m ≤ 1000) :
    Calls Try.prog 16 #[.slice (some ⟨gl, 0, none⟩) m m] w fun e w' => e = .returned (.bool true) ∧ Below B w w' := by
  go_enter Try.func16, Try.ntmps16
  go_wp2
  go_loopw [3, 4, 5] (fun i _ _ wr => ∃ (j : Nat) (l : Nat → List Int), j ≤ m ∧ i = .int .i64 j ∧ Parts wr B gl m A n c l r ∧ Below B w wr) (fun i _ _ _ => m - (intOf i).toNat)
  case atStart => exact ⟨0, l0, by omega, rfl, hP, Below.refl _ _⟩
  case round =>
    obtain ⟨i, l1, hi, rfl, hP1, hb1⟩ := hrel
    by_cases hlt : i < m
    · go_wp2
      obtain ⟨wo, hwo⟩ : ∃ wo : World, wo = wr := ⟨_, rfl⟩
      subst hwo
      go_loopw [4, 5] (fun k _ wr => ∃ (j : Nat) (l : Nat → List Int), j ≤ m ∧ k = .int .i64 j ∧ Parts wr B gl m A n c l r ∧ Below B w wr) (fun k _ _ => m - (intOf k).toNat)
      case atStart => exact ⟨0, l1, by omega, rfl, hP1, hb1⟩
      case round =>
        obtain ⟨k, l, hk, rfl, hP2, hb2⟩ := hrel
        by_cases hlk : k < m
        · by_cases hik : i = k
          · subst hik
            go_wp2
            go_roundw
            case rel => exact ⟨i + 1, l, by omega, by go_num, hP2, hb2⟩
            case measure => simp [intOf]; omega
          · have ht : ((i : Int) == (k : Int)) = false := by simp; omega
            have hck := hP2.at_ k hlk
            have hci := hP2.at_ i hlt
            obtain ⟨hrow, hrl⟩ := hP2.row hlk
            have hrl' := Lib.hid hrl
            clear hrl
            have hsk := hP2.size k hlk
            go_wp2_with fail
            refine (copy_u8 _ _ _ _ _ hrow hrl'.out (by omega)).mono ?_
            rintro e w1 ⟨v1, rfl, own1, bel1⟩
            have hP3 := hP2.below bel1
            have hb3 : Below B w w1 := hb2.trans (bel1.mono (Nat.le_trans hB hb2.size))
            have hck1 := hP3.at_ k hlk
            have hci1 := hP3.at_ i hlt
            have hwf := hrow.1
            rcases hP3.lies i hlt with ⟨hA, hN, hC⟩ | ⟨g, hA, hBg, hgl, hg⟩
            · rw [hA, hN, hC] at hci1
              clear hA hN hC hck hci hrow
              obtain ⟨A1, c1, rfl, row1, _, _⟩ := own1.row hwf
              rw [hrl'.out]
              obtain ⟨hrow3, hrl3⟩ := hP3.row hlk
              have hrl3' := Lib.hid hrl3
              clear hrl3
              go_wp2_with fail
              refine (spoil_nil _).mono ?_
              rintro e w' ⟨rfl, rfl⟩
              go_wp2_with fail
              refine (same_yes_u8 _ _ _ _ _ _ _ _ _ row1 hrow3 hrl3'.out (by omega)).mono ?_
              rintro e w' ⟨rfl, mq, rfl⟩
              have hP4 := hP3.below (w' := w1.drewN mq) ⟨rfl, rfl, rfl, Nat.le_refl _, fun _ _ => rfl⟩
              have hb4 : Below B w (w1.drewN mq) := hb3.trans ⟨rfl, rfl, rfl, Nat.le_refl _, fun _ _ => rfl⟩
              go_wp2
              go_roundw
              case rel => exact ⟨k + 1, l, by omega, by go_num, hP4, hb4⟩
              case measure => simp [intOf]; omega
            · have hsi := hP3.size i hlt
              have hglt : g < wr.heap.size := by
                rcases hP2.lies i hlt with ⟨h0, _⟩ | ⟨g', hA', _, _, hg'⟩
                · rw [hA] at h0; cases h0
                · rw [hA] at hA'
                  injection hA' with hA'
                  injection hA' with hA'
                  rw [hA']
                  exact block_lt hg'
              rw [hA] at hci1
              clear hck hci hrow
              have hsi3 := Lib.hid hsi.2.2
              go_wp2_with fail
              refine (spoil_u8 g _ _ (l i) (r i) _ hg hsi3.out hsi.1 hsi.2.1).mono ?_
              rintro e w2 ⟨rfl, hg2, hgr2, hsz2⟩
              have hP4 := hP3.spoil hlt hA hg2 hgr2
              have hb4 : Below B w w2 := hb3.grown hgr2 (Nat.le_trans hB hb3.size) (fun q e => by injection e; omega)
              have own2 := own1.kept hgr2 (by
                cases hv : v1.ownBlock with
                | none => exact .inl rfl
                | some q =>
                  refine .inr fun e => ?_
                  have h1 := (own1.block q hv).1
                  injection e with e
                  omega)
              have hck2 := hP4.at_ k hlk
              obtain ⟨hrow4, hrl4⟩ := hP4.row hlk
              simp only [if_neg (show ¬ k = i by omega)] at hrow4 hrl4
              have hrl4' := Lib.hid hrl4
              obtain ⟨A1, c1, rfl, row1, _, _⟩ := own2.row hwf
              rw [hrl'.out]
              clear hsz2 hrl4 hck1 hci1 hgr2 hg2 hg hA
              go_wp2_with fail
              refine (same_yes_u8 _ _ _ _ _ _ _ _ _ row1 hrow4 hrl4'.out (by omega)).mono ?_
              rintro e w' ⟨rfl, mq, rfl⟩
              have hP5 := hP4.below (w' := w2.drewN mq) ⟨rfl, rfl, rfl, Nat.le_refl _, fun _ _ => rfl⟩
              have hb5 : Below B w (w2.drewN mq) := hb4.trans ⟨rfl, rfl, rfl, Nat.le_refl _, fun _ _ => rfl⟩
              go_wp2
              go_roundw
              case rel => exact ⟨k + 1, _, by omega, by go_num, hP5, hb5⟩
              case measure => simp [intOf]; omega
        · go_wp2
          go_roundw
          case rel => exact ⟨i + 1, l, by omega, by go_num, hP2, hb2⟩
          case measure => simp [intOf]; omega
    · go_wp2
      go_ret
      exact ⟨rfl, hb1⟩

/-- A slice that is handed to ApartBytes: nil, or the beginning of a block that is known whole. -/
structure Ent where
  a : Option Nat
  n : Nat
  c : Nat
  l : List Int
  r : List Int
def Ent.none_ : Ent := ⟨none, 0, 0, [], []⟩
def Ent.adr (e : Ent) : Option Addr := e.a.map fun g => ⟨g, 0, none⟩
def Ent.val (e : Ent) : Value := .slice e.adr e.n e.c
structure Ent.Ok (w : World) (B : Nat) (e : Ent) : Prop where
  size : e.n ≤ e.c ∧ e.c ≤ 140737488355328 ∧ e.l.length = e.c
  wf : ∀ x ∈ e.l, (Lit.int .u8 x).wf = true
  lies : (e.a = none ∧ e.n = 0 ∧ e.c = 0) ∨ ∃ g, e.a = some g ∧ B ≤ g ∧ w.heap[g]? = some (.cells (blk .u8 (e.l ++ e.r)) 5 (0, 0))
def Ent.Far (e e' : Ent) : Prop := ∀ g, e.a = some g → e'.a ≠ some g
theorem Ent.adr_some {e : Ent} {g : Nat} (h : e.adr = some ⟨g, 0, none⟩) : e.a = some g := by
  unfold Ent.adr at h
  cases ha : e.a with
  | none => rw [ha] at h; cases h
  | some q => rw [ha] at h; simp at h; rw [h]

theorem parts_of_list (w : World) (B : Nat) (L : List Ent) (t : TypeId) (hok : ∀ e ∈ L, e.Ok w B) (hfar : L.Pairwise Ent.Far) :
    Parts (w.alloc (.cells (L.map Ent.val).toArray t)) B w.heap.size L.length (fun k => (L.getD k Ent.none_).adr) (fun k => (L.getD k Ent.none_).n) (fun k => (L.getD k Ent.none_).c) (fun k => (L.getD k Ent.none_).l) (fun k => (L.getD k Ent.none_).r) where
  at_ := fun k hk => by
    rw [World.cell?_alloc_at _ _ _ _ rfl]
    simp [List.getElem?_eq_getElem hk, List.getD_eq_getElem?_getD, Ent.val]
  size := fun k hk => by
    simp only [List.getD_eq_getElem?_getD, List.getElem?_eq_getElem hk, Option.getD_some]
    exact (hok _ (List.getElem_mem hk)).size
  wf := fun k hk => by
    simp only [List.getD_eq_getElem?_getD, List.getElem?_eq_getElem hk, Option.getD_some]
    exact (hok _ (List.getElem_mem hk)).wf
  lies := fun k hk => by
    simp only [List.getD_eq_getElem?_getD, List.getElem?_eq_getElem hk, Option.getD_some]
    rcases (hok _ (List.getElem_mem hk)).lies with ⟨h1, h2⟩ | ⟨g, h1, h2, h3⟩
    · exact .inl ⟨by rw [Ent.adr, h1]; rfl, h2⟩
    · have := block_lt h3
      exact .inr ⟨g, by rw [Ent.adr, h1]; rfl, h2, by omega, (Below.heap_alloc w _ g this).trans h3⟩
  apart := fun i k hi hk hne g h1 h2 => by
    simp only [List.getD_eq_getElem?_getD, List.getElem?_eq_getElem hi, List.getElem?_eq_getElem hk, Option.getD_some] at h1 h2
    have h1 := Ent.adr_some h1
    have h2 := Ent.adr_some h2
    rcases Nat.lt_or_gt_of_ne hne with h | h
    · exact List.pairwise_iff_getElem.1 hfar i k hi hk h g h1 h2
    · exact List.pairwise_iff_getElem.1 hfar k i hk hi h g h2 h1
  gl_lt := by simp

theorem apart_list_u8 (w : World) (B : Nat) (L : List Ent) (t : TypeId) (hok : ∀ e ∈ L, e.Ok w B) (hfar : L.Pairwise Ent.Far) (hB : B ≤ w.heap.size) (hm : L.length ≤ 1000) :
    Calls Try.prog 16 #[.slice (some ⟨w.heap.size, 0, none⟩) L.length L.length] (w.alloc (.cells (L.map Ent.val).toArray t)) fun e w' => e = .returned (.bool true) ∧ Below B w w' :=
  (apart_u8 _ _ B _ _ _ _ _ _ (parts_of_list w B L t hok hfar) (by simp; omega) hm).mono fun _ _ ⟨he, hb⟩ => ⟨he, ((Below.refl B w).alloc hB _).trans hb⟩
end Go.Proofs.Ytobhllcnljggiaa
namespace Go.Proofs.Ytobhllcnljggiaa
open Go.RowKit
set_option linter.unusedVariables false
theorem pow_256 (n : Nat) : (2 : Nat) ^ (8 * n) = 256 ^ n := by rw [Nat.pow_mul]
theorem div_zero_iff (v n : Nat) : v / 256 ^ n = 0 ↔ v < 256 ^ n := by
  rw [Nat.div_eq_zero_iff]
  have : (256 : Nat) ^ n ≠ 0 := Nat.ne_of_gt (Nat.pow_pos (by omega))
  omega
end Go.Proofs.Ytobhllcnljggiaa
namespace Go.Proofs.Ytobhllcnljggiaa
open Go.RowKit
set_option linter.unusedVariables false

end Go.Proofs.Ytobhllcnljggiaa
namespace Go.Proofs.Ytobhllcnljggiaa
open Go.RowKit
set_option linter.unusedVariables false
theorem be_take_step (n v k : Nat) (h : k < n) : (be n v).take (k + 1) = (be n v).take k ++ [((v / 256 ^ (n - 1 - k) % 256 : Nat) : Int)] := by
  rw [take_step _ _ (by rw [be_length]; exact h), be_nth n v k h]
end Go.Proofs.Ytobhllcnljggiaa
namespace Go.Proofs.Ytobhllcnljggiaa.L
open Go.RowKit
set_option linter.unusedVariables false
set_option linter.unusedVariables false
/-- Rows that lie in blocks of their own, each known whole (or nil), their slices in the array of block gl. -/
structure Parts (w : World) (B gl m : Nat) (A : Nat → Option Addr) (n c : Nat → Nat) (l r : Nat → List Bool) : Prop where
  at_ : ∀ k, k < m → w.cell? ⟨gl, k, none⟩ = some (.slice (A k) (n k) (c k))
  size : ∀ k, k < m → n k ≤ c k ∧ c k ≤ 140737488355328 ∧ (l k).length = c k
  wf : ∀ k, k < m → ∀ x ∈ l k, (Lit.bool x).wf = true
  lies : ∀ k, k < m → (A k = none ∧ n k = 0 ∧ c k = 0) ∨ ∃ g, A k = some ⟨g, 0, none⟩ ∧ B ≤ g ∧ g ≠ gl ∧ w.heap[g]? = some (.cells (blk () (l k ++ r k)) 4 (0, 0))
  apart : ∀ i k, i < m → k < m → i ≠ k → ∀ g, A i = some ⟨g, 0, none⟩ → A k ≠ some ⟨g, 0, none⟩
  gl_lt : gl < w.heap.size

theorem Parts.row {w : World} {B gl m : Nat} {A : Nat → Option Addr} {n c : Nat → Nat} {l r : Nat → List Bool} (h : Parts w B gl m A n c l r) {k : Nat} (hk : k < m) :
    Row () w w.heap.size (A k) ((l k).take (n k)) ∧ ((l k).take (n k)).length = n k := by
  have hs := h.size k hk
  refine ⟨?_, by simp; omega⟩
  rcases h.lies k hk with ⟨ha, hn, hc⟩ | ⟨g, ha, _, _, hg⟩
  · rw [hn, List.take_zero]; exact Row.nil _ _ _ _
  · rw [ha]
    exact (Row.of_block hg _ (fun x hx => h.wf k hk x (List.mem_of_mem_take hx)) ((List.take_prefix _ _).trans (List.prefix_append _ _))).more (block_lt hg)
/-- A step that leaves all old blocks leaves the parts. -/
theorem Parts.below {w w' : World} {B gl m : Nat} {A : Nat → Option Addr} {n c : Nat → Nat} {l r : Nat → List Bool} (h : Parts w B gl m A n c l r) (hb : Below w.heap.size w w') : Parts w' B gl m A n c l r where
  at_ := fun k hk => (hb.cell (p := ⟨gl, k, none⟩) h.gl_lt).trans (h.at_ k hk)
  size := h.size
  wf := h.wf
  lies := fun k hk => by
    rcases h.lies k hk with h0 | ⟨g, ha, hB, hne, hg⟩
    · exact .inl h0
    · exact .inr ⟨g, ha, hB, hne, (hb.block g (block_lt hg)).trans hg⟩
  apart := h.apart
  gl_lt := Nat.lt_of_lt_of_le h.gl_lt hb.size
/-- One part is written over. -/
theorem Parts.spoil {w w' : World} {B gl m : Nat} {A : Nat → Option Addr} {n c : Nat → Nat} {l r : Nat → List Bool} (h : Parts w B gl m A n c l r) {i g : Nat} (hi : i < m) (ha : A i = some ⟨g, 0, none⟩)
    (hg : w'.heap[g]? = some (.cells (blk () (spoilL (c i) (l i) ++ r i)) 4 (0, 0))) (hgr : w.grownBy w' (some g)) : Parts w' B gl m A n c (fun k => if k = i then spoilL (c i) (l i) else l k) r where
  at_ := fun k hk => by
    rcases h.lies i hi with ⟨h0, _⟩ | ⟨g', ha', _, hne, _⟩
    · rw [ha] at h0; cases h0
    · rw [ha] at ha'
      injection ha' with ha'
      injection ha' with ha'
      subst ha'
      exact (World.cell?_of_block (hgr.block gl h.gl_lt (fun e => hne (by injection e with e; exact e.symm)))).trans (h.at_ k hk)
  size := fun k hk => by
    have := h.size k hk
    refine ⟨this.1, this.2.1, ?_⟩
    split
    · rename_i e; subst e; rw [spoilL_length]; exact this.2.2
    · exact this.2.2
  wf := fun k hk => by
    show ∀ x ∈ (if k = i then spoilL (c i) (l i) else l k), _
    split
    · exact spoilL_wf _ _ (h.wf i hi)
    · exact h.wf k hk
  lies := fun k hk => by
    by_cases e : k = i
    · subst e
      rcases h.lies k hi with ⟨h0, _⟩ | ⟨g', ha', hB, hne, _⟩
      · rw [ha] at h0; cases h0
      · rw [ha] at ha'
        injection ha' with ha'
        injection ha' with ha'
        subst ha'
        exact .inr ⟨g, ha, hB, hne, by rw [if_pos rfl]; exact hg⟩
    · rcases h.lies k hk with h0 | ⟨g', ha', hB, hne, hg'⟩
      · exact .inl h0
      · refine .inr ⟨g', ha', hB, hne, ?_⟩
        rw [if_neg e, hgr.block g' (block_lt hg') (fun e' => ?_)]
        · exact hg'
        · injection e' with e'
          subst e'
          exact h.apart k i hk hi e _ ha' ha
  apart := h.apart
  gl_lt := Nat.lt_of_lt_of_le h.gl_lt hgr.size

/-- A slice that is handed to ApartBools: nil, or the beginning of a block that is known whole. -/
structure Ent where
  a : Option Nat
  n : Nat
  c : Nat
  l : List Bool
  r : List Bool
def Ent.none_ : Ent := ⟨none, 0, 0, [], []⟩
def Ent.adr (e : Ent) : Option Addr := e.a.map fun g => ⟨g, 0, none⟩
def Ent.val (e : Ent) : Value := .slice e.adr e.n e.c
structure Ent.Ok (w : World) (B : Nat) (e : Ent) : Prop where
  size : e.n ≤ e.c ∧ e.c ≤ 140737488355328 ∧ e.l.length = e.c
  wf : ∀ x ∈ e.l, (Lit.bool x).wf = true
  lies : (e.a = none ∧ e.n = 0 ∧ e.c = 0) ∨ ∃ g, e.a = some g ∧ B ≤ g ∧ w.heap[g]? = some (.cells (blk () (e.l ++ e.r)) 4 (0, 0))
def Ent.Far (e e' : Ent) : Prop := ∀ g, e.a = some g → e'.a ≠ some g
theorem Ent.adr_some {e : Ent} {g : Nat} (h : e.adr = some ⟨g, 0, none⟩) : e.a = some g := by
  unfold Ent.adr at h
  cases ha : e.a with
  | none => rw [ha] at h; cases h
  | some q => rw [ha] at h; simp at h; rw [h]

theorem parts_of_list (w : World) (B : Nat) (L : List Ent) (t : TypeId) (hok : ∀ e ∈ L, e.Ok w B) (hfar : L.Pairwise Ent.Far) :
    Parts (w.alloc (.cells (L.map Ent.val).toArray t)) B w.heap.size L.length (fun k => (L.getD k Ent.none_).adr) (fun k => (L.getD k Ent.none_).n) (fun k => (L.getD k Ent.none_).c) (fun k => (L.getD k Ent.none_).l) (fun k => (L.getD k Ent.none_).r) where
  at_ := fun k hk => by
    rw [World.cell?_alloc_at _ _ _ _ rfl]
    simp [List.getElem?_eq_getElem hk, List.getD_eq_getElem?_getD, Ent.val]
  size := fun k hk => by
    simp only [List.getD_eq_getElem?_getD, List.getElem?_eq_getElem hk, Option.getD_some]
    exact (hok _ (List.getElem_mem hk)).size
  wf := fun k hk => by
    simp only [List.getD_eq_getElem?_getD, List.getElem?_eq_getElem hk, Option.getD_some]
    exact (hok _ (List.getElem_mem hk)).wf
  lies := fun k hk => by
    simp only [List.getD_eq_getElem?_getD, List.getElem?_eq_getElem hk, Option.getD_some]
    rcases (hok _ (List.getElem_mem hk)).lies with ⟨h1, h2⟩ | ⟨g, h1, h2, h3⟩
    · exact .inl ⟨by rw [Ent.adr, h1]; rfl, h2⟩
    · have := block_lt h3
      exact .inr ⟨g, by rw [Ent.adr, h1]; rfl, h2, by omega, (Below.heap_alloc w _ g this).trans h3⟩
  apart := fun i k hi hk hne g h1 h2 => by
    simp only [List.getD_eq_getElem?_getD, List.getElem?_eq_getElem hi, List.getElem?_eq_getElem hk, Option.getD_some] at h1 h2
    have h1 := Ent.adr_some h1
    have h2 := Ent.adr_some h2
    rcases Nat.lt_or_gt_of_ne hne with h | h
    · exact List.pairwise_iff_getElem.1 hfar i k hi hk h g h1 h2
    · exact List.pairwise_iff_getElem.1 hfar k i hk hi h g h2 h1
  gl_lt := by simp

end Go.Proofs.Ytobhllcnljggiaa.L
namespace Go.Proofs.Ytobhllcnljggiaa.L
open Go.RowKit
set_option linter.unusedVariables false
set_option linter.unusedVariables false
/-- A slice that is nil or the beginning of a block, as an entry. -/
theorem Li.ent {w : World} {A : Option Addr} {m g B : Nat} {l r : List Bool} (h : Li w A m g l r) (hm : l.length = m) (hw : ∀ x ∈ l, (Lit.bool x).wf = true) (hB : B ≤ g) (hmm : m ≤ 140737488351232) :
    ∃ E : Ent, E.val = .slice A m m ∧ E.Ok w B ∧ (E.a = none ∨ E.a = some g) ∧ (A = none → E.a = none) := by
  rcases h with ⟨h1, h2⟩ | ⟨h1, h2⟩
  · subst h1 h2
    exact ⟨⟨none, 0, 0, l, r⟩, rfl, ⟨⟨Nat.le_refl _, by show 0 ≤ _; omega, hm⟩, hw, .inl ⟨rfl, rfl, rfl⟩⟩, .inl rfl, fun _ => rfl⟩
  · subst h1
    exact ⟨⟨some g, m, m, l, r⟩, rfl, ⟨⟨Nat.le_refl _, by show m ≤ _; omega, hm⟩, hw, .inr ⟨g, rfl, hB, h2⟩⟩, .inr rfl, fun h => by cases h⟩

end Go.Proofs.Ytobhllcnljggiaa.L
namespace Go.Proofs.Ytobhllcnljggiaa
open Go.RowKit
set_option linter.unusedVariables false
theorem refNeed_any (n : Nat) (w : World) (h : n < 9223372036854775808) : Calls Try.prog 82 #[.int .i64 n] w fun e w' => e = .returned (.int .i64 (need n : Nat)) ∧ w = w' := by
  by_cases h8 : n % 8 = 0
  · have h1 : ¬ (0 < (n : Int) % 8) := by omega
    have e : Hid ((n : Int) / 8 = ((need n : Nat) : Int)) := Lib.hid (by unfold need; omega)
    clear h8
    go_enter Try.func82, Try.ntmps82
    go_wp2
    go_ret
    exact ⟨congrArg (fun x => Ending.returned (Value.int .i64 x)) e.out, rfl⟩
  · have h1 : 0 < (n : Int) % 8 := by omega
    have e : Hid ((n : Int) / 8 + 1 = ((need n : Nat) : Int)) := Lib.hid (by unfold need; omega)
    clear h8
    go_enter Try.func82, Try.ntmps82
    go_wp2
    go_ret
    exact ⟨congrArg (fun x => Ending.returned (Value.int .i64 x)) e.out, rfl⟩
theorem refWeight_any (r : Nat) (w : World) (h : r < 8) : Calls Try.prog 64 #[.int .i64 r] w fun e w' => e = .returned (.int .i64 (2 ^ r : Nat)) ∧ w' = w := by
  go_enter Try.func64, Try.ntmps64
  go_wp2
  go_loop [3, 4] (fun t i => ∃ k : Nat, k ≤ r ∧ i = .int .i64 k ∧ t = .int .i64 (2 ^ k : Nat)) (fun _ i => r - (intOf i).toNat)
  case atStart => exact ⟨0, by omega, rfl, rfl⟩
  case round =>
    obtain ⟨k, hk, rfl, rfl⟩ := hrel
    by_cases hlt : k < r
    · have hp : 2 ^ k ≤ 128 := Nat.pow_le_pow_right (n := 2) (by omega) (show k ≤ 7 by omega)
      have hs := Lib.hid (Nat.pow_succ 2 k)
      generalize 2 ^ k = q at *
      go_wp2
      go_round
      case rel => exact ⟨k + 1, by omega, by go_num, by rw [hs.out]; congr 1; omega⟩
      case measure => simp [intOf]; omega
    · obtain rfl : k = r := by omega
      go_wp2
      go_ret
      exact ⟨rfl, rfl⟩
end Go.Proofs.Ytobhllcnljggiaa
namespace Go.Proofs.Ytobhllcnljggiaa
open Go.RowKit
set_option linter.unusedVariables false

set_option maxHeartbeats 1000000 in
theorem refLen_bits (c a : Int) (n : Nat) (Ao As Ap : Option Addr) (lo co ls cs lp cp : Nat) (w : World) (hc : c = 1 ∨ c = 2) (hn : n ≤ 10000) :
    Calls Try.prog 52 #[.agg #[.int .i64 c, .int .i64 a, .int .i64 n, .slice Ao lo co, .slice As ls cs, .slice Ap lp cp]] w fun e w' => e = .returned (.int .i64 ((2 + need n : Nat) : Int)) ∧ Below w.heap.size w w' := by
  have bx := Bx.new w (.cells #[.int .i64 c, .int .i64 a, .int .i64 n, .slice Ao lo co, .slice As ls cs, .slice Ap lp cp] 26)
  have kB : Hid (clB c = true) := Lib.hid (decide_eq_true hc)
  have e6 : IntKind.i64.wrap (2 + ((need n : Nat) : Int)) = 2 + ((need n : Nat) : Int) := IntWalk.i64_in _ (by unfold need; omega)
  rw [show ((2 + need n : Nat) : Int) = 2 + ((need n : Nat) : Int) by omega]
  obtain ⟨d0, d1, d2, d3, d4, d5⟩ := bx.six
  go_enter Try.func52, Try.ntmps52
  go_wp2_with fail
  refine (refKindBits_any c a n Ao As Ap lo co ls cs lp cp _).mono ?_
  rintro e w1 ⟨rfl, b⟩
  rw [kB.out]
  have bx := bx.below b
  clear b d0 d1 d2 d3 d4 d5
  obtain ⟨d0, d1, d2, d3, d4, d5⟩ := bx.six
  go_wp2_with fail
  refine (refNeed_any n _ (by omega)).mono ?_
  rintro e w9 ⟨rfl, rfl⟩
  go_wp2
  go_ret
  exact ⟨rfl, bx.2⟩
set_option maxHeartbeats 1000000 in
theorem refLen_words (c a : Int) (n : Nat) (Ao As Ap : Option Addr) (lo co ls cs lp cp : Nat) (w : World) (hc : c = 3 ∨ c = 4) (hn : n ≤ 10000) :
    Calls Try.prog 52 #[.agg #[.int .i64 c, .int .i64 a, .int .i64 n, .slice Ao lo co, .slice As ls cs, .slice Ap lp cp]] w fun e w' => e = .returned (.int .i64 ((2 + 2 * n : Nat) : Int)) ∧ Below w.heap.size w w' := by
  have bx := Bx.new w (.cells #[.int .i64 c, .int .i64 a, .int .i64 n, .slice Ao lo co, .slice As ls cs, .slice Ap lp cp] 26)
  have kB : Hid (clB c = false) := Lib.hid (decide_eq_false (by omega))
  have kW : Hid (clW c = true) := Lib.hid (decide_eq_true hc)
  have e1 : IntKind.i64.wrap (2 * (n : Int)) = 2 * (n : Int) := IntWalk.i64_in _ (by omega)
  have e2 : IntKind.i64.wrap (2 + 2 * (n : Int)) = 2 + 2 * (n : Int) := IntWalk.i64_in _ (by omega)
  rw [show ((2 + 2 * n : Nat) : Int) = 2 + 2 * (n : Int) by omega]
  obtain ⟨d0, d1, d2, d3, d4, d5⟩ := bx.six
  go_enter Try.func52, Try.ntmps52
  go_wp2_with fail
  refine (refKindBits_any c a n Ao As Ap lo co ls cs lp cp _).mono ?_
  rintro e w1 ⟨rfl, b⟩
  rw [kB.out]
  have bx := bx.below b
  clear b d0 d1 d2 d3 d4 d5
  obtain ⟨d0, d1, d2, d3, d4, d5⟩ := bx.six
  go_wp2_with fail
  refine (refWords_kind c a n Ao As Ap lo co ls cs lp cp _).mono ?_
  rintro e w2 ⟨rfl, b⟩
  rw [kW.out]
  have bx := bx.below b
  clear b d0 d1 d2 d3 d4 d5
  obtain ⟨d0, d1, d2, d3, d4, d5⟩ := bx.six
  go_wp2
  go_ret
  exact ⟨rfl, bx.2⟩
set_option maxHeartbeats 1000000 in
theorem refLen_else (c a n : Int) (Ao As Ap : Option Addr) (lo co ls cs lp cp : Nat) (w : World) (h1 : ¬ (c = 1 ∨ c = 2)) (h2 : ¬ (c = 3 ∨ c = 4)) (h3 : c ≠ 20) :
    Calls Try.prog 52 #[.agg #[.int .i64 c, .int .i64 a, .int .i64 n, .slice Ao lo co, .slice As ls cs, .slice Ap lp cp]] w fun e w' => e = .returned (.int .i64 5) ∧ Below w.heap.size w w' := by
  have bx := Bx.new w (.cells #[.int .i64 c, .int .i64 a, .int .i64 n, .slice Ao lo co, .slice As ls cs, .slice Ap lp cp] 26)
  have kB : Hid (clB c = false) := Lib.hid (decide_eq_false h1)
  have kW : Hid (clW c = false) := Lib.hid (decide_eq_false h2)
  have kF : Hid (clF c = false) := Lib.hid (decide_eq_false h3)
  obtain ⟨d0, d1, d2, d3, d4, d5⟩ := bx.six
  go_enter Try.func52, Try.ntmps52
  go_wp2_with fail
  refine (refKindBits_any c a n Ao As Ap lo co ls cs lp cp _).mono ?_
  rintro e w1 ⟨rfl, b⟩
  rw [kB.out]
  have bx := bx.below b
  clear b d0 d1 d2 d3 d4 d5
  obtain ⟨d0, d1, d2, d3, d4, d5⟩ := bx.six
  go_wp2_with fail
  refine (refWords_kind c a n Ao As Ap lo co ls cs lp cp _).mono ?_
  rintro e w2 ⟨rfl, b⟩
  rw [kW.out]
  have bx := bx.below b
  clear b d0 d1 d2 d3 d4 d5
  obtain ⟨d0, d1, d2, d3, d4, d5⟩ := bx.six
  go_wp2_with fail
  refine (refFiles_kind c a n Ao As Ap lo co ls cs lp cp _).mono ?_
  rintro e w3 ⟨rfl, b⟩
  rw [kF.out]
  have bx := bx.below b
  clear b d0 d1 d2 d3 d4 d5
  obtain ⟨d0, d1, d2, d3, d4, d5⟩ := bx.six
  go_wp2
  go_ret
  exact ⟨rfl, bx.2⟩
set_option maxHeartbeats 1000000 in
theorem refLen_file (a n : Int) (fl : List Int) (Ao As Ap : Option Addr) (lo co ls cs lp cp : Nat) (w : World) (hp : Row .i64 w w.heap.size Ap fl) (hl : fl.length = 3 * lp) (h1 : ∀ i, i < lp → 1 ≤ nth fl (3 * i + 2)) (hb : posF fl lp ≤ 247) (hlp : lp ≤ 100) :
    Calls Try.prog 52 #[.agg #[.int .i64 20, .int .i64 a, .int .i64 n, .slice Ao lo co, .slice As ls cs, .slice Ap lp cp]] w fun e w' => e = .returned (.int .i64 ((posF fl lp : Nat) : Int)) ∧ Below w.heap.size w w' := by
  have bx := Bx.new w (.cells #[.int .i64 20, .int .i64 a, .int .i64 n, .slice Ao lo co, .slice As ls cs, .slice Ap lp cp] 26)
  have kB : Hid (clB 20 = false) := Lib.hid (by decide)
  have kW : Hid (clW 20 = false) := Lib.hid (by decide)
  have kF : Hid (clF 20 = true) := Lib.hid (by decide)
  have HL := Lib.hid hl
  have HP := Lib.hid hp
  have H1 := Lib.hid h1
  have HB := Lib.hid hb
  clear hl hp h1 hb
  obtain ⟨d0, d1, d2, d3, d4, d5⟩ := bx.six
  go_enter Try.func52, Try.ntmps52
  go_wp2_with fail
  refine (refKindBits_any 20 a n Ao As Ap lo co ls cs lp cp _).mono ?_
  rintro e w1 ⟨rfl, b⟩
  rw [kB.out]
  have bx := bx.below b
  clear b d0 d1 d2 d3 d4 d5
  obtain ⟨d0, d1, d2, d3, d4, d5⟩ := bx.six
  go_wp2_with fail
  refine (refWords_kind 20 a n Ao As Ap lo co ls cs lp cp _).mono ?_
  rintro e w2 ⟨rfl, b⟩
  rw [kW.out]
  have bx := bx.below b
  clear b d0 d1 d2 d3 d4 d5
  obtain ⟨d0, d1, d2, d3, d4, d5⟩ := bx.six
  go_wp2_with fail
  refine (refFiles_kind 20 a n Ao As Ap lo co ls cs lp cp _).mono ?_
  rintro e w3 ⟨rfl, b⟩
  rw [kF.out]
  have bx := bx.below b
  clear b d0 d1 d2 d3 d4 d5
  obtain ⟨d0, d1, d2, d3, d4, d5⟩ := bx.six
  go_wp2
  go_loopw [3, 4] (fun v i wr => ∃ k : Nat, k ≤ lp ∧ i = .int .i64 k ∧ v = .int .i64 ((posF fl k : Nat) : Int) ∧ wr = w3) (fun _ i _ => lp - (intOf i).toNat)
  case atStart => exact ⟨0, by omega, rfl, rfl, rfl⟩
  case round =>
    obtain ⟨k, hk, rfl, rfl, rfl⟩ := hrel
    by_cases hlt : k < lp
    · obtain ⟨b, o, rfl, hb1, hc1, hc2, hc3⟩ := (HP.out.below bx.2).three (k := k) (by have := HL.out; omega)
      have hpl := posF_lt fl hlt
      have hbb := HB.out
      have hnn := H1.out k hlt
      have HS : Hid (posF fl (k + 1) = posF fl k + (2 + 2 * lenF fl k)) := Lib.hid rfl
      have e0 : nth fl (3 * k + 2) = ((lenF fl k : Nat) : Int) := by rw [lenF]; omega
      rw [e0] at hc3
      clear e0 hnn hc1 hc2
      generalize lenF fl k = p at *
      generalize posF fl k = s at *
      have hs : s + (2 + 2 * p) ≤ 247 := by omega
      have e1 : IntKind.i64.wrap (2 * (p : Int)) = 2 * (p : Int) := IntWalk.i64_in _ (by omega)
      have e2 : IntKind.i64.wrap ((s : Int) + 2) = (s : Int) + 2 := IntWalk.i64_in _ (by omega)
      have e3 : IntKind.i64.wrap ((s : Int) + 2 + 2 * (p : Int)) = (s : Int) + 2 + 2 * (p : Int) := IntWalk.i64_in _ (by omega)
      have e4 : (s : Int) + 2 + 2 * (p : Int) = ((s + (2 + 2 * p) : Nat) : Int) := by omega
      have HE4 := Lib.hid e4
      have hkl : (k : Int) < (lp : Int) := by omega
      clear hpl hbb e4
      go_wp2
      go_roundw
      case rel => exact ⟨k + 1, by omega, by go_num, by rw [HS.out, ← HE4.out], by trivial⟩
      case measure => simp [intOf]; omega
    · obtain rfl : k = lp := by omega
      go_wp2
      go_ret
      exact ⟨rfl, bx.2⟩
/-- The document's Length, of a right request. -/
theorem refLen_any (q : Req) (Ao As Ap : Option Addr) (lo ls lp co cs cp : Nat) (w : World) (h : Asked w w.heap.size q Ao As Ap lo ls lp) (hk : chkQ q = 0) :
    Calls Try.prog 52 #[.agg #[.int .i64 q.c, .int .i64 q.a, .int .i64 q.n, .slice Ao lo co, .slice As ls cs, .slice Ap lp cp]] w fun e w' => e = .returned (.int .i64 ((sizeR q : Nat) : Int)) ∧ Below w.heap.size w w' := by
  unfold sizeR
  by_cases h1 : q.c = 1 ∨ q.c = 2
  · have := right_bits hk h1
    rw [if_pos h1]
    have e : q.n = ((q.n.toNat : Nat) : Int) := by omega
    have hc := refLen_bits q.c q.a q.n.toNat Ao As Ap lo co ls cs lp cp w h1 (by omega)
    rw [← e] at hc
    exact hc
  · rw [if_neg h1]
    by_cases h2 : q.c = 3 ∨ q.c = 4
    · have := right_words hk h2
      rw [if_pos h2]
      have e : q.n = ((q.n.toNat : Nat) : Int) := by omega
      have hc := refLen_words q.c q.a q.n.toNat Ao As Ap lo co ls cs lp cp w h2 (by omega)
      rw [← e] at hc
      exact hc
    · rw [if_neg h2]
      by_cases h3 : q.c = 20
      · obtain ⟨f1, f2, f3⟩ := right_files hk h3
        have e : q.fl.length / 3 = lp := by have := h.lp; omega
        rw [if_pos h3, e]
        rw [e] at f1 f2 f3
        have hc := refLen_file q.a q.n q.fl Ao As Ap lo co ls cs lp cp w h.fl h.lp f2 f3 (by omega)
        rw [← h3] at hc
        exact hc
      · rw [if_neg h3]
        exact refLen_else q.c q.a q.n Ao As Ap lo co ls cs lp cp w h1 h2 h3
end Go.Proofs.Ytobhllcnljggiaa
namespace Go.Proofs.Ytobhllcnljggiaa.W
open Go.RowKit
set_option linter.unusedVariables false
/-- Rows that lie in blocks of their own, each known whole (or nil), their slices in the array of block gl. -/
structure Parts (w : World) (B gl m : Nat) (A : Nat → Option Addr) (n c : Nat → Nat) (l r : Nat → List Int) : Prop where
  at_ : ∀ k, k < m → w.cell? ⟨gl, k, none⟩ = some (.slice (A k) (n k) (c k))
  size : ∀ k, k < m → n k ≤ c k ∧ c k ≤ 70368744177664 ∧ (l k).length = c k
  wf : ∀ k, k < m → ∀ x ∈ l k, (Lit.int .u16 x).wf = true
  lies : ∀ k, k < m → (A k = none ∧ n k = 0 ∧ c k = 0) ∨ ∃ g, A k = some ⟨g, 0, none⟩ ∧ B ≤ g ∧ g ≠ gl ∧ w.heap[g]? = some (.cells (blk .u16 (l k ++ r k)) 75 (0, 0))
  apart : ∀ i k, i < m → k < m → i ≠ k → ∀ g, A i = some ⟨g, 0, none⟩ → A k ≠ some ⟨g, 0, none⟩
  gl_lt : gl < w.heap.size

theorem Parts.row {w : World} {B gl m : Nat} {A : Nat → Option Addr} {n c : Nat → Nat} {l r : Nat → List Int} (h : Parts w B gl m A n c l r) {k : Nat} (hk : k < m) :
    Row .u16 w w.heap.size (A k) ((l k).take (n k)) ∧ ((l k).take (n k)).length = n k := by
  have hs := h.size k hk
  refine ⟨?_, by simp; omega⟩
  rcases h.lies k hk with ⟨ha, hn, hc⟩ | ⟨g, ha, _, _, hg⟩
  · rw [hn, List.take_zero]; exact Row.nil _ _ _ _
  · rw [ha]
    exact (Row.of_block hg _ (fun x hx => h.wf k hk x (List.mem_of_mem_take hx)) ((List.take_prefix _ _).trans (List.prefix_append _ _))).more (block_lt hg)
/-- A step that leaves all old blocks leaves the parts. -/
theorem Parts.below {w w' : World} {B gl m : Nat} {A : Nat → Option Addr} {n c : Nat → Nat} {l r : Nat → List Int} (h : Parts w B gl m A n c l r) (hb : Below w.heap.size w w') : Parts w' B gl m A n c l r where
  at_ := fun k hk => (hb.cell (p := ⟨gl, k, none⟩) h.gl_lt).trans (h.at_ k hk)
  size := h.size
  wf := h.wf
  lies := fun k hk => by
    rcases h.lies k hk with h0 | ⟨g, ha, hB, hne, hg⟩
    · exact .inl h0
    · exact .inr ⟨g, ha, hB, hne, (hb.block g (block_lt hg)).trans hg⟩
  apart := h.apart
  gl_lt := Nat.lt_of_lt_of_le h.gl_lt hb.size
/-- One part is written over. -/
theorem Parts.spoil {w w' : World} {B gl m : Nat} {A : Nat → Option Addr} {n c : Nat → Nat} {l r : Nat → List Int} (h : Parts w B gl m A n c l r) {i g : Nat} (hi : i < m) (ha : A i = some ⟨g, 0, none⟩)
    (hg : w'.heap[g]? = some (.cells (blk .u16 (spoil16 (c i) (l i) ++ r i)) 75 (0, 0))) (hgr : w.grownBy w' (some g)) : Parts w' B gl m A n c (fun k => if k = i then spoil16 (c i) (l i) else l k) r where
  at_ := fun k hk => by
    rcases h.lies i hi with ⟨h0, _⟩ | ⟨g', ha', _, hne, _⟩
    · rw [ha] at h0; cases h0
    · rw [ha] at ha'
      injection ha' with ha'
      injection ha' with ha'
      subst ha'
      exact (World.cell?_of_block (hgr.block gl h.gl_lt (fun e => hne (by injection e with e; exact e.symm)))).trans (h.at_ k hk)
  size := fun k hk => by
    have := h.size k hk
    refine ⟨this.1, this.2.1, ?_⟩
    split
    · rename_i e; subst e; rw [spoil16_length]; exact this.2.2
    · exact this.2.2
  wf := fun k hk => by
    show ∀ x ∈ (if k = i then spoil16 (c i) (l i) else l k), _
    split
    · exact spoil16_wf _ _ (h.wf i hi)
    · exact h.wf k hk
  lies := fun k hk => by
    by_cases e : k = i
    · subst e
      rcases h.lies k hi with ⟨h0, _⟩ | ⟨g', ha', hB, hne, _⟩
      · rw [ha] at h0; cases h0
      · rw [ha] at ha'
        injection ha' with ha'
        injection ha' with ha'
        subst ha'
        exact .inr ⟨g, ha, hB, hne, by rw [if_pos rfl]; exact hg⟩
    · rcases h.lies k hk with h0 | ⟨g', ha', hB, hne, hg'⟩
      · exact .inl h0
      · refine .inr ⟨g', ha', hB, hne, ?_⟩
        rw [if_neg e, hgr.block g' (block_lt hg') (fun e' => ?_)]
        · exact hg'
        · injection e' with e'
          subst e'
          exact h.apart k i hk hi e _ ha' ha
  apart := h.apart
  gl_lt := Nat.lt_of_lt_of_le h.gl_lt hgr.size

/-- A slice that is handed to ApartWords: nil, or the beginning of a block that is known whole. -/
structure Ent where
  a : Option Nat
  n : Nat
  c : Nat
  l : List Int
  r : List Int
def Ent.none_ : Ent := ⟨none, 0, 0, [], []⟩
def Ent.adr (e : Ent) : Option Addr := e.a.map fun g => ⟨g, 0, none⟩
def Ent.val (e : Ent) : Value := .slice e.adr e.n e.c
structure Ent.Ok (w : World) (B : Nat) (e : Ent) : Prop where
  size : e.n ≤ e.c ∧ e.c ≤ 70368744177664 ∧ e.l.length = e.c
  wf : ∀ x ∈ e.l, (Lit.int .u16 x).wf = true
  lies : (e.a = none ∧ e.n = 0 ∧ e.c = 0) ∨ ∃ g, e.a = some g ∧ B ≤ g ∧ w.heap[g]? = some (.cells (blk .u16 (e.l ++ e.r)) 75 (0, 0))
def Ent.Far (e e' : Ent) : Prop := ∀ g, e.a = some g → e'.a ≠ some g
theorem Ent.adr_some {e : Ent} {g : Nat} (h : e.adr = some ⟨g, 0, none⟩) : e.a = some g := by
  unfold Ent.adr at h
  cases ha : e.a with
  | none => rw [ha] at h; cases h
  | some q => rw [ha] at h; simp at h; rw [h]

theorem parts_of_list (w : World) (B : Nat) (L : List Ent) (t : TypeId) (hok : ∀ e ∈ L, e.Ok w B) (hfar : L.Pairwise Ent.Far) :
    Parts (w.alloc (.cells (L.map Ent.val).toArray t)) B w.heap.size L.length (fun k => (L.getD k Ent.none_).adr) (fun k => (L.getD k Ent.none_).n) (fun k => (L.getD k Ent.none_).c) (fun k => (L.getD k Ent.none_).l) (fun k => (L.getD k Ent.none_).r) where
  at_ := fun k hk => by
    rw [World.cell?_alloc_at _ _ _ _ rfl]
    simp [List.getElem?_eq_getElem hk, List.getD_eq_getElem?_getD, Ent.val]
  size := fun k hk => by
    simp only [List.getD_eq_getElem?_getD, List.getElem?_eq_getElem hk, Option.getD_some]
    exact (hok _ (List.getElem_mem hk)).size
  wf := fun k hk => by
    simp only [List.getD_eq_getElem?_getD, List.getElem?_eq_getElem hk, Option.getD_some]
    exact (hok _ (List.getElem_mem hk)).wf
  lies := fun k hk => by
    simp only [List.getD_eq_getElem?_getD, List.getElem?_eq_getElem hk, Option.getD_some]
    rcases (hok _ (List.getElem_mem hk)).lies with ⟨h1, h2⟩ | ⟨g, h1, h2, h3⟩
    · exact .inl ⟨by rw [Ent.adr, h1]; rfl, h2⟩
    · have := block_lt h3
      exact .inr ⟨g, by rw [Ent.adr, h1]; rfl, h2, by omega, (Below.heap_alloc w _ g this).trans h3⟩
  apart := fun i k hi hk hne g h1 h2 => by
    simp only [List.getD_eq_getElem?_getD, List.getElem?_eq_getElem hi, List.getElem?_eq_getElem hk, Option.getD_some] at h1 h2
    have h1 := Ent.adr_some h1
    have h2 := Ent.adr_some h2
    rcases Nat.lt_or_gt_of_ne hne with h | h
    · exact List.pairwise_iff_getElem.1 hfar i k hi hk h g h1 h2
    · exact List.pairwise_iff_getElem.1 hfar k i hk hi h g h2 h1
  gl_lt := by simp

end Go.Proofs.Ytobhllcnljggiaa.W
namespace Go.Proofs.Ytobhllcnljggiaa.W
open Go.RowKit
set_option linter.unusedVariables false
/-- A slice that is nil or the beginning of a block, as an entry. -/
theorem Li.ent {w : World} {A : Option Addr} {m g B : Nat} {l r : List Int} (h : Li w A m g l r) (hm : l.length = m) (hw : ∀ x ∈ l, (Lit.int .u16 x).wf = true) (hB : B ≤ g) (hmm : m ≤ 70368744173568) :
    ∃ E : Ent, E.val = .slice A m m ∧ E.Ok w B ∧ (E.a = none ∨ E.a = some g) ∧ (A = none → E.a = none) := by
  rcases h with ⟨h1, h2⟩ | ⟨h1, h2⟩
  · subst h1 h2
    exact ⟨⟨none, 0, 0, l, r⟩, rfl, ⟨⟨Nat.le_refl _, by show 0 ≤ _; omega, hm⟩, hw, .inl ⟨rfl, rfl, rfl⟩⟩, .inl rfl, fun _ => rfl⟩
  · subst h1
    exact ⟨⟨some g, m, m, l, r⟩, rfl, ⟨⟨Nat.le_refl _, by show m ≤ _; omega, hm⟩, hw, .inr ⟨g, rfl, hB, h2⟩⟩, .inr rfl, fun h => by cases h⟩

end Go.Proofs.Ytobhllcnljggiaa.W
namespace Go.Proofs.Ytobhllcnljggiaa
open Go.RowKit
set_option linter.unusedVariables false
theorem refWords_odd (A : Option Addr) (n c : Nat) (w : World) (hb : n ≤ 1000000) (h : n % 2 = 1) :
    Calls Try.prog 83 #[.slice A n c] w (Errs 22 w) := by
  have h1 : ((n : Int) % 2 == 1) = true := by simp; omega
  clear h
  go_enter Try.func83, Try.ntmps83
  go_wp2
  go_ret2
  exact ⟨rfl, rfl⟩
set_option maxHeartbeats 1000000 in
theorem refBytes_any (A : Option Addr) (n c : Nat) (xs : List Int) (w : World) (hr : Row .u16 w w.heap.size A xs) (hn : xs.length = n) (hb : n ≤ 1000000) :
    Calls Try.prog 37 #[.slice A n c] w (Makes .u8 5 w (wbytes xs)) := by
  have hn' := Lib.hid hn
  clear hn
  go_enter Try.func37, Try.ntmps37
  go_wp2
  go_loopw [3, 4] (fun t i wr => ∃ k : Nat, k ≤ n ∧ i = .int .i64 k ∧ Own .u8 5 wr w.heap.size t (wbytes (xs.take k)) ∧ Below w.heap.size w wr) (fun _ i _ => n - (intOf i).toNat)
  case atStart => exact ⟨0, by omega, rfl, Own.nil _ _ _ _, Below.refl _ _⟩
  case round =>
    obtain ⟨k, hk, rfl, hown, hbel⟩ := hrel
    by_cases hlt : k < n
    · obtain ⟨b, o, rfl, hb1, hc1⟩ := (hr.below hbel).at_ (i := k) (by have := hn'.out; omega)
      have hwf := wf_u16 (hr.wf_at (i := k) (by have := hn'.out; omega))
      have hl : Hid ((wbytes (xs.take k)).length = 2 * k) := Lib.hid (by have := hn'.out; rw [wbytes_length]; simp; omega)
      have HT := Lib.hid (take_step xs k (by have := hn'.out; omega))
      have HS := wbytes_snoc (xs.take k) (nth xs k)
      have hsz := hbel.size
      obtain ⟨x, hx⟩ := Int.eq_ofNat_of_zero_le hwf.1
      rw [hx, Int.toNat_natCast, be_two, show ((x / 256 % 256 : Nat) : Int) = (x : Int) / 256 by omega, show ((x % 256 : Nat) : Int) = (x : Int) % 256 by omega] at HS
      have HS' := Lib.hid HS
      have HX := Lib.hid hx
      rw [hx] at hc1 hwf
      clear hx HS
      have hw1 : IntKind.u8.wrap ((x : Int) / 256) = (x : Int) / 256 := by rw [IntKind.wrap_u8]; omega
      have hw2 : IntKind.u8.wrap ((x : Int) % 256) = (x : Int) % 256 := by rw [IntKind.wrap_u8]; omega
      have one1 := Row.one .u8 wr 5 ((x : Int) / 256) (by have := wf_byte (x / 256) (by omega); rwa [show ((x / 256 : Nat) : Int) = (x : Int) / 256 by omega] at this)
      have wf2 : (Lit.int .u8 ((x : Int) % 256)).wf = true := by have := wf_byte (x % 256) (by omega); rwa [show ((x % 256 : Nat) : Int) = (x : Int) % 256 by omega] at this
      go_wp2_with (first
        | (at_builtin; refine wpList_append_row _ rfl _ _ 34 rfl w.heap.size .u8 5 1 Try.underlying34 info_u8 u3 (wbytes (xs.take k)) rfl (hown.alloc _) _ _ 1 1 [(x : Int) / 256] rfl one1 rfl (by rw [hl.out]; omega) (by rw [hl.out]; simp only [maxLen]; omega) (by simp; omega) ?_; intro v1 w1 hown1 hg1; have hbel1 := Below.own1 hbel hsz hown hg1; have hc2 := (hbel1.cell (p := ⟨b, o + k, none⟩) hb1).trans ((hbel.cell (p := ⟨b, o + k, none⟩) hb1).symm.trans hc1); have hsz1 := hbel1.size; clear hg1)
        | (at_builtin; refine wpList_append_row _ rfl _ _ 34 rfl w.heap.size .u8 5 1 Try.underlying34 info_u8 v1 (wbytes (xs.take k) ++ [(x : Int) / 256]) rfl (hown1.alloc _) _ _ 1 1 [(x : Int) % 256] rfl (Row.one .u8 w1 5 ((x : Int) % 256) wf2) rfl (by rw [List.length_append, hl.out]; simp; omega) (by rw [List.length_append, hl.out]; simp [maxLen]; omega) (by simp; omega) ?_; intro v2 w2 hown2 hg2; have hbel2 := Below.own1 hbel1 hsz1 hown1 hg2; clear hg2))
      rw [List.append_assoc, show [(x : Int) / 256] ++ [(x : Int) % 256] = [(x : Int) / 256, (x : Int) % 256] from rfl, ← HS'.out, ← HX.out, ← HT.out] at hown2
      go_roundw
      case rel => exact ⟨k + 1, by omega, by go_num, hown2, hbel2⟩
      case measure => simp [intOf]; omega
    · have hx : xs.take k = xs := List.take_of_length_le (by have := hn'.out; omega)
      rw [hx] at hown
      clear hx
      go_wp2
      go_ret
      exact ⟨_, rfl, hown, hbel⟩

/-- A call returns a pair: a list of words of its own, and no error. -/
def MakesW (w : World) (xs : List Int) (e : Ending) (w' : World) : Prop := ∃ v, e = .returned (.tuple #[v, .int .i64 0]) ∧ Own .u16 75 w' w.heap.size v xs ∧ Below w.heap.size w w'
set_option maxHeartbeats 1000000 in
theorem refWords_ok (A : Option Addr) (n c m : Nat) (ys : List Int) (w : World) (hr : Row .u8 w w.heap.size A ys) (hn : ys.length = n) (hb : n ≤ 1000000) (h : n = 2 * m) :
    Calls Try.prog 83 #[.slice A n c] w (MakesW w (wwords ys)) := by
  have hn' := Lib.hid hn
  have h2 : ((n : Int) % 2 == 1) = false := beq_false_of_ne (by omega)
  have hy2 : Hid (ys.length / 2 = m) := Lib.hid (by omega)
  have hm' := Lib.hid h
  have hm2 : m ≤ 500000 := by omega
  clear hn h
  go_enter Try.func83, Try.ntmps83
  go_wp2
  go_loopw [4, 5] (fun t i wr => ∃ k : Nat, k ≤ m ∧ i = .int .i64 (2 * k : Nat) ∧ Own .u16 75 wr w.heap.size t ((wwords ys).take k) ∧ Below w.heap.size w wr) (fun _ i _ => n - (intOf i).toNat)
  case atStart => exact ⟨0, by omega, rfl, Own.nil _ _ _ _, Below.refl _ _⟩
  case round =>
    obtain ⟨k, hk, rfl, hown, hbel⟩ := hrel
    by_cases hlt : k < m
    · obtain ⟨b, o, rfl, hb1, hc1⟩ := (hr.below hbel).at_ (i := 2 * k) (by have := hn'.out; have := hm'.out; omega)
      obtain ⟨b', o', e2, _, hc2⟩ := (hr.below hbel).at_ (i := 2 * k + 1) (by have := hn'.out; have := hm'.out; omega)
      injection e2 with e2
      injection e2 with e2 e3
      subst e2 e3
      have hwb := word_bound ys hr.1 k (by have := hy2.out; omega)
      have HT := wwords_take ys k (by have := hy2.out; omega)
      rw [word] at HT
      have HT' := Lib.hid HT
      clear HT
      have hl : Hid (((wwords ys).take k).length = k) := Lib.hid (by rw [List.length_take, wwords_length]; have := hy2.out; omega)
      have hsz := hbel.size
      have hk1 : 2 * k + 1 < n := by have := hm'.out; omega
      generalize nth ys (2 * k) = p at *
      generalize nth ys (2 * k + 1) = q at *
      have e1 : IntKind.u16.wrap (p * 256) = p * 256 := by rw [IntKind.wrap_u16]; omega
      have e2 : IntKind.u16.wrap (p * 256 + q) = p * 256 + q := by rw [IntKind.wrap_u16]; omega
      have e3 : IntKind.i64.wrap (2 * (k : Int) + 1) = 2 * (k : Int) + 1 := IntWalk.i64_in _ (by omega)
      have e4 : (2 * (k : Int) + 1).toNat = 2 * k + 1 := by omega
      have e5 : (2 * (k : Int)).toNat = 2 * k := by omega
      have e6 : 0 ≤ 2 * (k : Int) + 1 := by omega
      have e7 : 2 * (k : Int) + 1 < (n : Int) := by omega
      have e8 : 2 * (k : Int) < (n : Int) := by omega
      have e9 : (0 : Int) ≤ 2 * (k : Int) := by omega
      have e10 : IntKind.u16.wrap p = p := by rw [IntKind.wrap_u16]; omega
      have e11 : IntKind.u16.wrap q = q := by rw [IntKind.wrap_u16]; omega
      have hpq := wf_word16 (n := p * 256 + q) (by omega)
      have hown' : wr.ownsRow w.heap.size 75 1 u4 k (((wwords ys).take k).map (Value.int .u16)) := by have h0 := hown; unfold Own at h0; rwa [hl.out] at h0
      have HO := Lib.hid hown'
      clear hown'
      have hfar : some b ≠ u4.ownBlock := fun e => by have := (hown.block b e.symm).1; omega
      have lb : b < wr.heap.size := by omega
      obtain ⟨i0, hi0, hz0, hz1, hz2⟩ := info_parts W.info_u16
      go_wp2_with fail
      go_region_held3 (fun w' => w'.cell? ⟨b, o + 2 * k, none⟩ = some (.int .u8 p) ∧ w'.cell? ⟨b, o + (2 * k + 1), none⟩ = some (.int .u8 q))
        (first
          | go_keep
          | (go_split_ands
             refine ⟨?_, ?_⟩
             · (rw [hgrow.cell_far _ (by simp; omega) hfar]; assumption)
             · (rw [hgrow.cell_far _ (by simp; omega) hfar]; assumption)))
        ((refine step_append_lies _ (by rfl) _ _ _ (by rfl) w.heap.size 75 i0 _ 1 2 Try.underlying23 hi0 hz0 hz1 hz2 rfl (by omega) u4 k _ (by rfl) ((World.ownsRow.alloc HO.out _).drew)
            ⟨wr.heap.size, 0, none⟩ 1 1 [.int .u16 (p * 256 + q)] (by rfl) (by rfl) (World.news_of_block (cs := #[.int .u16 (p * 256 + q)]) (t := 75) (fr := (0, 0)) (heap_alloc_new wr _)) (by simp [Value.oneCell'])
            (by omega) (by simp only [maxLen]; omega) (by omega) (by simp; omega) (wr.heap.size + 1) (by simp) ?_; intro gg cap w1 hown1 hgrow hat hlt1))
      clear e1 e2 e3 e4 e5 e6 e7 e8 e9 e10 e11
      have hown2 : Own .u16 75 w1 w.heap.size (.slice (some ⟨gg, 0, none⟩) (k + 1) cap) ((wwords ys).take (k + 1)) := by
        rw [HT'.out]
        unfold Own
        rw [List.length_append, hl.out, List.map_append]
        exact hown1
      have hbel0 := hbel.alloc hsz (.cells #[.int .u16 (p * 256 + q)] 75)
      have hbel1 : Below w.heap.size w w1 := Below.grown (w := (wr.alloc (.cells #[.int .u16 (p * 256 + q)] 75)).drew) ⟨hbel0.os, hbel0.tape, hbel0.output, hbel0.size, hbel0.block⟩ hgrow (by simp; omega) (fun g e => (hown.block g e).1)
      clear hbel0
      clear hgrow hat hlt1 hown1 hown hbel
      go_wp2
      go_roundw
      case rel => exact ⟨k + 1, by omega, by go_num, hown2, hbel1⟩
      case measure => simp [intOf]; omega
    · obtain rfl : k = m := by omega
      have hx : (wwords ys).take k = wwords ys := List.take_of_length_le (by rw [wwords_length]; have := hy2.out; omega)
      rw [hx] at hown
      clear hx
      have h5 : ¬ ((2 * (k : Int) + 1) < (n : Int)) := by have := hm'.out; omega
      go_wp2
      go_ret2
      exact ⟨_, rfl, hown, hbel⟩
end Go.Proofs.Ytobhllcnljggiaa
namespace Go.Proofs.Ytobhllcnljggiaa
open Go.RowKit
set_option linter.unusedVariables false

def TB3 (w0 : World) (B : Nat) (o1 o2 o3 : Obj) (w : World) : Prop := TB w0 B o1 o2 w ∧ w.heap[B + 2]? = some o3
section
variable {w0 w w' : World} {B : Nat} {o1 o2 o3 : Obj}
theorem TB3.new (w : World) (c1 c2 c3 : Array Value) (t u v : TypeId) : TB3 w w.heap.size (.cells c1 t (0, 0)) (.cells c2 u (0, 0)) (.cells c3 v (0, 0)) (((w.alloc (.cells c1 t)).alloc (.cells c2 u)).alloc (.cells c3 v)) :=
  ⟨(TB.new2 w c1 c2 t u).alloc _, heap_new_at _ _ (by simp)⟩
theorem TB3.bel (h : TB3 w0 B o1 o2 o3 w) : Below B w0 w := h.1.bel
theorem TB3.lt (h : TB3 w0 B o1 o2 o3 w) : B + 2 < w.heap.size := block_lt h.2
theorem TB3.below (h : TB3 w0 B o1 o2 o3 w) (hb : Below w.heap.size w w') : TB3 w0 B o1 o2 o3 w' := ⟨h.1.below hb, (hb.block _ (block_lt h.2)).trans h.2⟩
theorem TB3.alloc (h : TB3 w0 B o1 o2 o3 w) (o : Obj) : TB3 w0 B o1 o2 o3 (w.alloc o) := h.below (bel_alloc w o)
theorem TB3.grown {row : Option Nat} (h : TB3 w0 B o1 o2 o3 w) (hg : w.grownBy w' row) (hr : ∀ g, row = some g → B + 3 ≤ g) : TB3 w0 B o1 o2 o3 w' :=
  ⟨h.1.grown hg (fun g e => by have := hr g e; omega), (hg.block (B + 2) h.lt (fun e => by have := hr _ e.symm; omega)).trans h.2⟩
theorem TB3.set {cs : Array Value} {t : TypeId} (h : TB3 w0 B o1 o2 (.cells cs t (0, 0)) w) (i : Nat) (v : Value) : TB3 w0 B o1 o2 (.cells (cs.setIfInBounds i v) t (0, 0)) (w.setCell ⟨B + 2, i, none⟩ v) :=
  ⟨h.1.far (by omega) i v, box_set h.2 i v⟩
theorem TB3.c4 {t : TypeId} {v0 v1 v2 v3 : Value} (h : TB3 w0 B o1 o2 (.cells #[v0, v1, v2, v3] t (0, 0)) w) :
    w.cell? ⟨B + 2, 0, none⟩ = some v0 ∧ w.cell? ⟨B + 2, 1, none⟩ = some v1 ∧ w.cell? ⟨B + 2, 2, none⟩ = some v2 ∧ w.cell? ⟨B + 2, 3, none⟩ = some v3 ∧ ∀ i, w.frozen? ⟨B + 2, i, none⟩ = false :=
  ⟨cell_of_row w _ 0 _ _ _ h.2, cell_of_row w _ 1 _ _ _ h.2, cell_of_row w _ 2 _ _ _ h.2, cell_of_row w _ 3 _ _ _ h.2, fun i => block_frozen w _ i _ _ h.2⟩
end
theorem ownsRow_stays {w w' : World} {base n size : Nat} {t : TypeId} {v : Value} {xs : List Value} (h : w.ownsRow base t size v n xs) (hk : ∀ j, base ≤ j → j < w.heap.size → w'.heap[j]? = w.heap[j]?) : w'.ownsRow base t size v n xs := by
  rcases h with ⟨h0, h1 | ⟨g, cap, cur, hv, hb, hg, h2⟩⟩
  · exact ⟨h0, .inl h1⟩
  · exact ⟨h0, .inr ⟨g, cap, cur, hv, hb, (hk g hb (block_lt hg)).trans hg, h2⟩⟩
theorem Own.stays {k : IntKind} {e : TypeId} {w w' : World} {base : Nat} {v : Value} {xs : List Int} (h : Own k e w base v xs) (hk : ∀ j, base ≤ j → j < w.heap.size → w'.heap[j]? = w.heap[j]?) : Own k e w' base v xs := ownsRow_stays h hk
theorem L.Own.stays {k : Unit} {e : TypeId} {w w' : World} {base : Nat} {v : Value} {xs : List Bool} (h : L.Own k e w base v xs) (hk : ∀ j, base ≤ j → j < w.heap.size → w'.heap[j]? = w.heap[j]?) : L.Own k e w' base v xs := ownsRow_stays h hk
theorem WOwn.stays {w w' : World} {base : Nat} {v : Value} {fs : List (List Int)} (h : WOwn w base v fs) (hk : ∀ j, base ≤ j → j < w.heap.size → w'.heap[j]? = w.heap[j]?) : WOwn w' base v fs := by
  obtain ⟨L, h1, h2, h3⟩ := h
  exact ⟨L, h1, ownsRow_stays h2 hk, fun p hp => (h3 p hp).stays hk⟩
/-- A call returns an answer, whose lists are the call's own: they stay where the call's own blocks stay. -/
def OneR (w : World) (r : Rep) (e : Ending) (w' : World) : Prop :=
  ∃ (Bo Bs Bf : Option Addr) (mo ms mf eo es ef : Nat), e = .returned (.agg #[.int .i64 r.x, .slice Bo mo eo, .slice Bs ms es, .slice Bf mf ef]) ∧ (∀ w2 : World, (∀ j, w.heap.size ≤ j → j < w'.heap.size → w2.heap[j]? = w'.heap[j]?) → Repd w2 w2.heap.size r Bo Bs Bf mo ms mf) ∧ Below w.heap.size w w'
theorem wpk_files_wf {fl ys : List Int} (hw : ∀ x ∈ ys, (Lit.int .u8 x).wf = true) (k : Nat) : ∀ xs ∈ filesR fl ys k, ∀ x ∈ xs, (Lit.int .u16 x).wf = true := by
  intro xs hxs
  simp only [filesR, List.mem_map] at hxs
  obtain ⟨i, _, rfl⟩ := hxs
  exact wwords_wf _ (fun y hy => hw y (List.mem_of_mem_drop (List.mem_of_mem_take hy)))
theorem filesR_step (fl ys : List Int) (k : Nat) : filesR fl ys (k + 1) = filesR fl ys k ++ [fileAt fl ys k] := by simp [filesR, List.range_succ]
end Go.Proofs.Ytobhllcnljggiaa
namespace Go.Proofs.Ytobhllcnljggiaa
open Go.RowKit
set_option linter.unusedVariables false

set_option maxHeartbeats 4000000 in
set_option maxRecDepth 100000 in
theorem refShape_words (c a : Int) (n : Nat) (Ao As Ap : Option Addr) (lo co ls cs lp cp : Nat) (b o m cap : Nat) (ys : List Int) (w : World) (hr : Row .u8 w w.heap.size (some ⟨b, o, none⟩) ys) (hy : ys.length = m) (hcap : m ≤ cap) (hcb : cap ≤ 9223372036854775807) (hc : c = 3 ∨ c = 4) (hm : m = 2 + 2 * n) (hn : 1 ≤ n ∧ n ≤ 125) :
    Calls Try.prog 53 #[.agg #[.int .i64 c, .int .i64 a, .int .i64 n, .slice Ao lo co, .slice As ls cs, .slice Ap lp cp], .slice (some ⟨b, o, none⟩) m cap] w (OneR w ⟨0, [], wwords (ys.drop 2), []⟩) := by
  have t := TB3.new w #[.int .i64 c, .int .i64 a, .int .i64 n, .slice Ao lo co, .slice As ls cs, .slice Ap lp cp] #[.int .i64 0, .slice none 0 0, .slice none 0 0, .slice none 0 0] #[.int .i64 0, .slice none 0 0, .slice none 0 0, .slice none 0 0] 26 29 29
  have kB : Hid (clB c = false) := Lib.hid (decide_eq_false (by omega))
  have kW : Hid (clW c = true) := Lib.hid (decide_eq_true hc)
  have kF : Hid (clF c = false) := Lib.hid (decide_eq_false (by omega))
  have HR := Lib.hid hr
  have HY := Lib.hid hy
  have HM := Lib.hid hm
  have HWF : Hid (∀ x ∈ wwords (ys.drop 2), (Lit.int .u16 x).wf = true) := Lib.hid (wwords_wf _ (fun x hx => hr.1 x (List.mem_of_mem_drop hx)))
  have i1 : (2 : Int) ≤ (m : Int) := by omega
  have i2 : (2 : Int) ≤ (cap : Int) := by omega
  have i3 : ¬ cap = 2 := by omega
  have i4 : (m : Int) ≤ (cap : Int) := by omega
  clear hr hy hm hc
  obtain ⟨r0, r1, r2, r3, r4, r5, _⟩ := t.1.r6
  obtain ⟨d0, d1, d2, d3, d4⟩ := t.c4
  go_enter Try.func53, Try.ntmps53
  go_wp2_with fail
  refine (refKindBits_any c a n Ao As Ap lo co ls cs lp cp _).mono ?_
  rintro e w1 ⟨rfl, b⟩
  rw [kB.out]
  have t := t.below b
  clear b r0 r1 r2 r3 r4 r5 d0 d1 d2 d3 d4
  obtain ⟨r0, r1, r2, r3, r4, r5, _⟩ := t.1.r6
  obtain ⟨d0, d1, d2, d3, d4⟩ := t.c4
  go_wp2_with fail
  refine (refWords_kind c a n Ao As Ap lo co ls cs lp cp _).mono ?_
  rintro e w2 ⟨rfl, b⟩
  rw [kW.out]
  have t := t.below b
  clear b r0 r1 r2 r3 r4 r5 d0 d1 d2 d3 d4
  obtain ⟨r0, r1, r2, r3, r4, r5, _⟩ := t.1.r6
  obtain ⟨d0, d1, d2, d3, d4⟩ := t.c4
  go_wp2_with fail
  clear r0 r1 r2 r3 r4 r5 d0 d1 d2 d3 d4
  refine (refWords_ok _ (m - 2) (cap - 2) n (ys.drop 2) _ (((HR.out.drop 2).below t.bel).more (by have := t.lt; omega)) (by rw [List.length_drop, HY.out]) (by have := HM.out; omega) (by have := HM.out; omega)).mono ?_
  rintro e w3 ⟨v3, rfl, own3, b⟩
  have own4 := own3.mono (base' := w.heap.size + 3) (by have := t.lt; omega)
  have t := t.below b
  obtain ⟨A3, n3, c3, rfl, _, l3⟩ := own4.view3 HWF.out
  have own := Lib.hid (own4.set (g := w.heap.size + 2) (by omega) 2 (.slice A3 n3 c3))
  clear b own3 own4
  obtain ⟨r0, r1, r2, r3, r4, r5, _⟩ := t.1.r6
  obtain ⟨d0, d1, d2, d3, d4⟩ := t.c4
  have t := t.set 2 (.slice A3 n3 c3)
  go_wp2
  go_loopw [9, 10] (fun at_ i wr => at_ = .int .i64 2 ∧ i = .int .i64 0 ∧ Hid (Own .u16 75 wr (w.heap.size + 3) (.slice A3 n3 c3) (wwords (ys.drop 2))) ∧ TB3 w w.heap.size (.cells #[.int .i64 c, .int .i64 a, .int .i64 n, .slice Ao lo co, .slice As ls cs, .slice Ap lp cp] 26 (0, 0)) (.cells #[.int .i64 0, .slice none 0 0, .slice none 0 0, .slice none 0 0] 29 (0, 0)) (.cells #[.int .i64 0, .slice none 0 0, .slice A3 n3 c3, .slice none 0 0] 29 (0, 0)) wr) (fun _ _ _ => 0)
  case atStart => exact ⟨rfl, rfl, own, t⟩
  case round =>
    clear own t r0 r1 r2 r3 r4 r5 d0 d1 d2 d3 d4
    obtain ⟨rfl, rfl, own, t⟩ := hrel
    obtain ⟨r0, r1, r2, r3, r4, r5, _⟩ := t.1.r6
    obtain ⟨d0, d1, d2, d3, d4⟩ := t.c4
    go_wp2_with fail
    refine (refFiles_kind c a n Ao As Ap lo co ls cs lp cp _).mono ?_
    rintro e w8 ⟨rfl, b⟩
    rw [kF.out]
    have own := own.out.below b (Nat.le_refl _)
    have t := t.below b
    clear b r0 r1 r2 r3 r4 r5 d0 d1 d2 d3 d4
    obtain ⟨r0, r1, r2, r3, r4, r5, _⟩ := t.1.r6
    obtain ⟨d0, d1, d2, d3, d4⟩ := t.c4
    have P5 := Lib.hid (t.1.put4 (.int .i64 0) (.slice none 0 0) (.slice A3 n3 c3) (.slice none 0 0))
    have O5 := Lib.hid (own.put4 (g := w.heap.size + 1) (by omega) (.int .i64 0) (.slice none 0 0) (.slice A3 n3 c3) (.slice none 0 0))
    obtain ⟨f0, f1, f2, f3, f4⟩ := t.1.c4
    go_wp2
    (try simp only [Exit.inBlock, Exit.then])
    show bodyPost _ _ _ _ _ (put4 (_) (w.heap.size + 1) (.int .i64 0) (.slice none 0 0) (.slice A3 n3 c3) (.slice none 0 0))
    generalize put4 (_) (w.heap.size + 1) (.int .i64 0) (.slice none 0 0) (.slice A3 n3 c3) (.slice none 0 0) = w6 at *
    obtain ⟨x0, x1, x2, x3⟩ := cells4 P5.out.1
    refine bodyPost_ret (v := .agg #[.int .i64 0, .slice none 0 0, .slice A3 n3 c3, .slice none 0 0]) (by simp [results, Try.results53, go_sem, x0, x1, x2, x3]) rfl ?_
    refine ⟨_, _, _, _, _, _, _, _, _, rfl, fun w9 hk9 => ?_, P5.out.2⟩
    obtain ⟨A9, n9, c9, e9, row9, l9⟩ := (O5.out.stays (fun j hj => hk9 j (by omega))).view3 HWF.out
    injection e9 with e1 e2 e3
    subst e1 e2 e3
    exact ⟨L.Row.nil _ _ _ _, row9, FRow.nil _ _ _, rfl, l9, rfl⟩

set_option maxHeartbeats 4000000 in
set_option maxRecDepth 100000 in
theorem refShape_else (c a n : Int) (A : Option Addr) (Ao As Ap : Option Addr) (lo co ls cs lp cp m cap : Nat) (w : World) (h1 : ¬ (c = 1 ∨ c = 2)) (h2 : ¬ (c = 3 ∨ c = 4)) (h3 : c ≠ 20) :
    Calls Try.prog 53 #[.agg #[.int .i64 c, .int .i64 a, .int .i64 n, .slice Ao lo co, .slice As ls cs, .slice Ap lp cp], .slice A m cap] w (OneR w Rep.zero) := by
  have t := TB3.new w #[.int .i64 c, .int .i64 a, .int .i64 n, .slice Ao lo co, .slice As ls cs, .slice Ap lp cp] #[.int .i64 0, .slice none 0 0, .slice none 0 0, .slice none 0 0] #[.int .i64 0, .slice none 0 0, .slice none 0 0, .slice none 0 0] 26 29 29
  have kB : Hid (clB c = false) := Lib.hid (decide_eq_false h1)
  have kW : Hid (clW c = false) := Lib.hid (decide_eq_false h2)
  have kF : Hid (clF c = false) := Lib.hid (decide_eq_false h3)
  have own : Hid True := Lib.hid trivial
  clear h1 h2 h3
  obtain ⟨r0, r1, r2, r3, r4, r5, _⟩ := t.1.r6
  obtain ⟨d0, d1, d2, d3, d4⟩ := t.c4
  go_enter Try.func53, Try.ntmps53
  go_wp2_with fail
  refine (refKindBits_any c a n Ao As Ap lo co ls cs lp cp _).mono ?_
  rintro e w1 ⟨rfl, b⟩
  rw [kB.out]
  have t := t.below b
  clear b r0 r1 r2 r3 r4 r5 d0 d1 d2 d3 d4
  obtain ⟨r0, r1, r2, r3, r4, r5, _⟩ := t.1.r6
  obtain ⟨d0, d1, d2, d3, d4⟩ := t.c4
  go_wp2_with fail
  refine (refWords_kind c a n Ao As Ap lo co ls cs lp cp _).mono ?_
  rintro e w2 ⟨rfl, b⟩
  rw [kW.out]
  have t := t.below b
  clear b r0 r1 r2 r3 r4 r5 d0 d1 d2 d3 d4
  obtain ⟨r0, r1, r2, r3, r4, r5, _⟩ := t.1.r6
  obtain ⟨d0, d1, d2, d3, d4⟩ := t.c4
  go_wp2
  go_loopw [9, 10] (fun at_ i wr => at_ = .int .i64 2 ∧ i = .int .i64 0 ∧ Hid (True) ∧ TB3 w w.heap.size (.cells #[.int .i64 c, .int .i64 a, .int .i64 n, .slice Ao lo co, .slice As ls cs, .slice Ap lp cp] 26 (0, 0)) (.cells #[.int .i64 0, .slice none 0 0, .slice none 0 0, .slice none 0 0] 29 (0, 0)) (.cells #[.int .i64 0, .slice none 0 0, .slice none 0 0, .slice none 0 0] 29 (0, 0)) wr) (fun _ _ _ => 0)
  case atStart => exact ⟨rfl, rfl, own, t⟩
  case round =>
    clear own t r0 r1 r2 r3 r4 r5 d0 d1 d2 d3 d4
    obtain ⟨rfl, rfl, own, t⟩ := hrel
    obtain ⟨r0, r1, r2, r3, r4, r5, _⟩ := t.1.r6
    obtain ⟨d0, d1, d2, d3, d4⟩ := t.c4
    go_wp2_with fail
    refine (refFiles_kind c a n Ao As Ap lo co ls cs lp cp _).mono ?_
    rintro e w8 ⟨rfl, b⟩
    rw [kF.out]
    have own := own
    have t := t.below b
    clear b r0 r1 r2 r3 r4 r5 d0 d1 d2 d3 d4
    obtain ⟨r0, r1, r2, r3, r4, r5, _⟩ := t.1.r6
    obtain ⟨d0, d1, d2, d3, d4⟩ := t.c4
    have P5 := Lib.hid (t.1.put4 (.int .i64 0) (.slice none 0 0) (.slice none 0 0) (.slice none 0 0))
    obtain ⟨f0, f1, f2, f3, f4⟩ := t.1.c4
    go_wp2
    (try simp only [Exit.inBlock, Exit.then])
    show bodyPost _ _ _ _ _ (put4 (_) (w.heap.size + 1) (.int .i64 0) (.slice none 0 0) (.slice none 0 0) (.slice none 0 0))
    generalize put4 (_) (w.heap.size + 1) (.int .i64 0) (.slice none 0 0) (.slice none 0 0) (.slice none 0 0) = w6 at *
    obtain ⟨x0, x1, x2, x3⟩ := cells4 P5.out.1
    refine bodyPost_ret (v := .agg #[.int .i64 0, .slice none 0 0, .slice none 0 0, .slice none 0 0]) (by simp [results, Try.results53, go_sem, x0, x1, x2, x3]) rfl ?_
    exact ⟨_, _, _, _, _, _, _, _, _, rfl, fun w9 _ => Repd.zero _ _ 0, P5.out.2⟩

theorem half_pow (y j : Nat) : y / 2 ^ j / 2 = y / 2 ^ (j + 1) := by rw [Nat.div_div_eq_div_mul, Nat.pow_succ]
set_option maxHeartbeats 8000000 in
set_option maxRecDepth 100000 in
theorem refShape_bits (c a : Int) (n : Nat) (Ao As Ap : Option Addr) (lo co ls cs lp cp : Nat) (b o m cap : Nat) (ys : List Int) (w : World) (hr : Row .u8 w w.heap.size (some ⟨b, o, none⟩) ys) (hy : ys.length = m) (hcap : m ≤ cap) (hcb : cap ≤ 9223372036854775807) (hc : c = 1 ∨ c = 2) (hm : m = 2 + need n) (hn : 1 ≤ n ∧ n ≤ 2000) :
    Calls Try.prog 53 #[.agg #[.int .i64 c, .int .i64 a, .int .i64 n, .slice Ao lo co, .slice As ls cs, .slice Ap lp cp], .slice (some ⟨b, o, none⟩) m cap] w (OneR w ⟨0, unpk (ys.drop 2) n, [], []⟩) := by
  have t := TB3.new w #[.int .i64 c, .int .i64 a, .int .i64 n, .slice Ao lo co, .slice As ls cs, .slice Ap lp cp] #[.int .i64 0, .slice none 0 0, .slice none 0 0, .slice none 0 0] #[.int .i64 0, .slice none 0 0, .slice none 0 0, .slice none 0 0] 26 29 29
  have kB : Hid (clB c = true) := Lib.hid (decide_eq_true hc)
  have kW : Hid (clW c = false) := Lib.hid (decide_eq_false (by omega))
  have kF : Hid (clF c = false) := Lib.hid (decide_eq_false (by omega))
  have HR := Lib.hid hr
  have HY := Lib.hid hy
  have HM := Lib.hid hm
  clear hr hy hm hc
  obtain ⟨r0, r1, r2, r3, r4, r5, _⟩ := t.1.r6
  obtain ⟨d0, d1, d2, d3, d4⟩ := t.c4
  go_enter Try.func53, Try.ntmps53
  go_wp2_with fail
  refine (refKindBits_any c a n Ao As Ap lo co ls cs lp cp _).mono ?_
  rintro e w1 ⟨rfl, b⟩
  rw [kB.out]
  have t := t.below b
  clear b r0 r1 r2 r3 r4 r5 d0 d1 d2 d3 d4
  obtain ⟨r0, r1, r2, r3, r4, r5, _⟩ := t.1.r6
  obtain ⟨d0, d1, d2, d3, d4⟩ := t.c4
  go_wp2
  go_loopw [6] (fun i wr => ∃ (k : Nat) (A : Option Addr) (nb cb : Nat), k ≤ n ∧ i = .int .i64 k ∧ Hid (L.Own () 4 wr (w.heap.size + 3) (.slice A nb cb) (unpk (ys.drop 2) k)) ∧ TB3 w w.heap.size (.cells #[.int .i64 c, .int .i64 a, .int .i64 n, .slice Ao lo co, .slice As ls cs, .slice Ap lp cp] 26 (0, 0)) (.cells #[.int .i64 0, .slice none 0 0, .slice none 0 0, .slice none 0 0] 29 (0, 0)) (.cells #[.int .i64 0, .slice A nb cb, .slice none 0 0, .slice none 0 0] 29 (0, 0)) wr) (fun i _ => n - (intOf i).toNat)
  case atStart => exact ⟨0, none, 0, 0, by omega, rfl, Lib.hid (L.Own.nil _ _ _ _), t⟩
  case round =>
    clear t r0 r1 r2 r3 r4 r5 d0 d1 d2 d3 d4
    obtain ⟨k, A, nb, cb, hk, rfl, own, t⟩ := hrel
    obtain ⟨r0, r1, r2, r3, r4, r5, _⟩ := t.1.r6
    obtain ⟨d0, d1, d2, d3, d4⟩ := t.c4
    by_cases hlt : k < n
    · have hnd : k / 8 < need n := by unfold need; omega
      obtain ⟨b', o', hA, hbB, hc0⟩ := HR.out.at_ (i := 2 + k / 8) (by have := HY.out; have := HM.out; omega)
      injection hA with hA
      injection hA with hA1 hA2
      subst hA1 hA2
      have hwf := wf_u8 (HR.out.wf_at (i := 2 + k / 8) (by have := HY.out; have := HM.out; omega))
      have HB : Hid (bitAt (ys.drop 2) k = decide ((nth ys (2 + k / 8)).toNat / 2 ^ (k % 8) % 2 = 1)) := Lib.hid (by unfold bitAt; rw [nth_drop])
      obtain ⟨x, hx⟩ := Int.eq_ofNat_of_zero_le hwf.1
      rw [hx, Int.toNat_natCast] at HB
      rw [hx] at hc0 hwf
      have hc1 := (t.bel.cell (p := ⟨b, o + (2 + k / 8), none⟩) hbB).trans hc0
      obtain ⟨r, hr8⟩ : ∃ r, k % 8 = r := ⟨_, rfl⟩
      obtain ⟨j, hj⟩ : ∃ j, k / 8 = j := ⟨_, rfl⟩
      obtain ⟨p, hp⟩ : ∃ p, 2 + j = p := ⟨_, rfl⟩
      have e6 : (k : Int) % 8 = ((r : Nat) : Int) := by omega
      have e7 : (k : Int).tmod 8 = ((r : Nat) : Int) := by rw [Int.tmod_eq_emod_of_nonneg (by omega)]; omega
      have e1 : (k : Int) / 8 = (j : Int) := by omega
      have e3 : (k : Int).tdiv 8 = (j : Int) := by rw [Int.tdiv_eq_ediv_of_nonneg (by omega)]; omega
      have e9 : IntKind.i64.wrap (j : Int) = (j : Int) := IntWalk.i64_in _ (by omega)
      have e10 : IntKind.i64.wrap (r : Int) = (r : Int) := IntWalk.i64_in _ (by omega)
      have e11 : IntKind.i64.wrap (2 + (j : Int)) = (p : Int) := by rw [IntWalk.i64_in _ (by omega)]; omega
      have e12 : (2 : Int) + (j : Int) = (p : Int) := by omega
      have e2 : (p : Int) < (m : Int) := by have := HM.out; omega
      have e4 : (0 : Int) ≤ (p : Int) := by omega
      have f1 : IntKind.i64.wrap (x : Int) = (x : Int) := IntWalk.i64_in _ (by omega)
      have hkn : (k : Int) < (n : Int) := by omega
      rw [hr8] at HB
      rw [hj, hp] at hc1
      have hr9 : r < 8 := by omega
      clear hc0 hnd hr8 hj hp hx
      go_wp2
      go_loopw [7, 8] (fun xv jv wr2 => ∃ jj : Nat, jj ≤ r ∧ jv = .int .i64 jj ∧ xv = .int .i64 ((x / 2 ^ jj : Nat) : Int) ∧ wr2 = wr) (fun _ jv _ => r - (intOf jv).toNat)
      case atStart => exact ⟨0, by omega, rfl, by simp, rfl⟩
      case round =>
        obtain ⟨jj, hjj, rfl, rfl, rfl⟩ := hrel
        obtain ⟨z, hz⟩ : ∃ z : Nat, x / 2 ^ jj = z := ⟨_, rfl⟩
        have hzx : z ≤ x := by rw [← hz]; exact Nat.div_le_self _ _
        by_cases hjr : jj < r
        · have HH := Lib.hid (half_pow x jj)
          rw [hz] at HH ⊢
          obtain ⟨z2, hz2⟩ : ∃ z2 : Nat, z / 2 = z2 := ⟨_, rfl⟩
          have g1 : (z : Int) / 2 = (z2 : Int) := by omega
          have g2 : (z : Int).tdiv 2 = (z2 : Int) := by rw [Int.tdiv_eq_ediv_of_nonneg (by omega)]; exact g1
          have g3 : IntKind.i64.wrap (z2 : Int) = (z2 : Int) := IntWalk.i64_in _ (by omega)
          have hjr2 : (jj : Int) < (r : Int) := by omega
          rw [hz2] at HH
          clear hz hz2
          go_wp2
          go_roundw
          case rel => exact ⟨jj + 1, by omega, by go_num, by rw [← HH.out], by trivial⟩
          case measure => simp [intOf]; omega
        · obtain rfl : jj = r := by omega
          rw [hz] at HB ⊢
          obtain ⟨v, hv⟩ : ∃ v, Hid (bitAt (ys.drop 2) k = v) := ⟨_, Lib.hid rfl⟩
          have hv2 := HB.out.symm.trans hv.out
          have f7 : ((z : Int) % 2 == 1) = v := by
            rw [← hv2]
            by_cases h : z % 2 = 1
            · have : (z : Int) % 2 = 1 := by omega
              rw [this, decide_eq_true h]; rfl
            · rw [decide_eq_false h]; exact beq_false_of_ne (by omega)
          have f8 : (z : Int).tmod 2 = (z : Int) % 2 := Int.tmod_eq_emod_of_nonneg (by omega)
          have f9 : IntKind.i64.wrap ((z : Int) % 2) = (z : Int) % 2 := IntWalk.i64_in _ (by omega)
          have HT := Lib.hid (unpk_step (ys.drop 2) k)
          rw [hv.out] at HT
          have hnl : Hid ((unpk (ys.drop 2) k).length ≤ 2000) := Lib.hid (by rw [unpk_length]; omega)
          have hz3 := t.lt
          clear hv2 HB hz hc1
          go_wp2_with (at_builtin; refine L.wpList_append_row _ rfl (.tmp 38) (.tmp 42) 22 rfl (w.heap.size + 3) () 4 1 Try.underlying22 L.info_bool (.slice A nb cb) (unpk (ys.drop 2) k) rfl (own.out.alloc _) _ _ 1 1 [v] rfl (L.Row.one () wr 4 v rfl) rfl (by have := hnl.out; omega) (by have := hnl.out; simp only [maxLen]; omega) (by simp; omega) ?_; intro v1 w1 own1 g1; have t6 := (t.alloc (.cells #[.bool v] 4)).grown g1 (fun g e => ((own.out.alloc (.cells #[.bool v] 4)).block g e).1); obtain ⟨A1, n1, c1, rfl, _, _⟩ := own1.view3; rw [← HT.out] at own1; obtain ⟨y0, y1, y2, y3, y4⟩ := t6.c4)
          have t7 := t6.set 1 (.slice A1 n1 c1)
          have own7 := Lib.hid (own1.set (g := w.heap.size + 2) (by omega) 1 (.slice A1 n1 c1))
          go_roundw
          case rel => exact ⟨k + 1, A1, n1, c1, by omega, by go_num, own7, t7⟩
          case measure => simp [intOf]; omega
    · obtain rfl : k = n := by omega
      go_wp2_with fail
      refine (refWords_kind c a k Ao As Ap lo co ls cs lp cp _).mono ?_
      rintro e w2 ⟨rfl, b⟩
      rw [kW.out]
      have own := Lib.hid (own.out.below b (Nat.le_refl _))
      have t := t.below b
      clear b r0 r1 r2 r3 r4 r5 d0 d1 d2 d3 d4
      obtain ⟨r0, r1, r2, r3, r4, r5, _⟩ := t.1.r6
      obtain ⟨d0, d1, d2, d3, d4⟩ := t.c4
      go_wp2
      go_loopw [9, 10] (fun at_ i wr => at_ = .int .i64 2 ∧ i = .int .i64 0 ∧ Hid (L.Own () 4 wr (w.heap.size + 3) (.slice A nb cb) (unpk (ys.drop 2) k)) ∧ TB3 w w.heap.size (.cells #[.int .i64 c, .int .i64 a, .int .i64 k, .slice Ao lo co, .slice As ls cs, .slice Ap lp cp] 26 (0, 0)) (.cells #[.int .i64 0, .slice none 0 0, .slice none 0 0, .slice none 0 0] 29 (0, 0)) (.cells #[.int .i64 0, .slice A nb cb, .slice none 0 0, .slice none 0 0] 29 (0, 0)) wr) (fun _ _ _ => 0)
      case atStart => exact ⟨rfl, rfl, own, t⟩
      case round =>
        clear own t r0 r1 r2 r3 r4 r5 d0 d1 d2 d3 d4
        obtain ⟨rfl, rfl, own, t⟩ := hrel
        obtain ⟨r0, r1, r2, r3, r4, r5, _⟩ := t.1.r6
        obtain ⟨d0, d1, d2, d3, d4⟩ := t.c4
        go_wp2_with fail
        refine (refFiles_kind c a k Ao As Ap lo co ls cs lp cp _).mono ?_
        rintro e w8 ⟨rfl, b⟩
        rw [kF.out]
        have own := own.out.below b (Nat.le_refl _)
        have t := t.below b
        clear b r0 r1 r2 r3 r4 r5 d0 d1 d2 d3 d4
        obtain ⟨r0, r1, r2, r3, r4, r5, _⟩ := t.1.r6
        obtain ⟨d0, d1, d2, d3, d4⟩ := t.c4
        have P5 := Lib.hid (t.1.put4 (.int .i64 0) (.slice A nb cb) (.slice none 0 0) (.slice none 0 0))
        have O5 := Lib.hid (own.put4 (g := w.heap.size + 1) (by omega) (.int .i64 0) (.slice A nb cb) (.slice none 0 0) (.slice none 0 0))
        obtain ⟨f0, f1, f2, f3, f4⟩ := t.1.c4
        go_wp2
        (try simp only [Exit.inBlock, Exit.then])
        show bodyPost _ _ _ _ _ (put4 (_) (w.heap.size + 1) (.int .i64 0) (.slice A nb cb) (.slice none 0 0) (.slice none 0 0))
        generalize put4 (_) (w.heap.size + 1) (.int .i64 0) (.slice A nb cb) (.slice none 0 0) (.slice none 0 0) = w6 at *
        obtain ⟨x0, x1, x2, x3⟩ := cells4 P5.out.1
        refine bodyPost_ret (v := .agg #[.int .i64 0, .slice A nb cb, .slice none 0 0, .slice none 0 0]) (by simp [results, Try.results53, go_sem, x0, x1, x2, x3]) rfl ?_
        refine ⟨_, _, _, _, _, _, _, _, _, rfl, fun w9 hk9 => ?_, P5.out.2⟩
        obtain ⟨A9, n9, c9, e9, row9, l9⟩ := (O5.out.stays (fun j hj => hk9 j (by omega))).view3
        injection e9 with e1 e2 e3
        subst e1 e2 e3
        exact ⟨row9, Row.nil _ _ _ _, FRow.nil _ _ _, l9, rfl, rfl⟩
end Go.Proofs.Ytobhllcnljggiaa
namespace Go.Proofs.Ytobhllcnljggiaa
open Go.RowKit
set_option linter.unusedVariables false

set_option maxHeartbeats 8000000 in
set_option maxRecDepth 100000 in
theorem refShape_file (a n : Int) (fl : List Int) (Ao As Ap : Option Addr) (lo co ls cs lp cp : Nat) (b o m cap : Nat) (ys : List Int) (w : World) (hr : Row .u8 w w.heap.size (some ⟨b, o, none⟩) ys) (hy : ys.length = m) (hcap : m ≤ cap) (hcb : cap ≤ 9223372036854775807) (hp : Row .i64 w w.heap.size Ap fl) (hl : fl.length = 3 * lp) (h2 : ∀ i, i < lp → 1 ≤ nth fl (3 * i + 2)) (hm : posF fl lp = m) (hm2 : m ≤ 247) (hlp : lp ≤ 35) :
    Calls Try.prog 53 #[.agg #[.int .i64 20, .int .i64 a, .int .i64 n, .slice Ao lo co, .slice As ls cs, .slice Ap lp cp], .slice (some ⟨b, o, none⟩) m cap] w (OneR w ⟨0, [], [], filesR fl ys lp⟩) := by
  have t := TB3.new w #[.int .i64 20, .int .i64 a, .int .i64 n, .slice Ao lo co, .slice As ls cs, .slice Ap lp cp] #[.int .i64 0, .slice none 0 0, .slice none 0 0, .slice none 0 0] #[.int .i64 0, .slice none 0 0, .slice none 0 0, .slice none 0 0] 26 29 29
  have kB : Hid (clB 20 = false) := Lib.hid (by decide)
  have kW : Hid (clW 20 = false) := Lib.hid (by decide)
  have kF : Hid (clF 20 = true) := Lib.hid (by decide)
  have HR := Lib.hid hr
  have HY := Lib.hid hy
  have HM := Lib.hid hm
  have HP := Lib.hid hp
  have HL := Lib.hid hl
  have H2 := Lib.hid h2
  have HWF := Lib.hid hr.1
  clear hr hy hm hp hl h2
  obtain ⟨r0, r1, r2, r3, r4, r5, _⟩ := t.1.r6
  obtain ⟨d0, d1, d2, d3, d4⟩ := t.c4
  go_enter Try.func53, Try.ntmps53
  go_wp2_with fail
  refine (refKindBits_any 20 a n Ao As Ap lo co ls cs lp cp _).mono ?_
  rintro e w1 ⟨rfl, b⟩
  rw [kB.out]
  have t := t.below b
  clear b r0 r1 r2 r3 r4 r5 d0 d1 d2 d3 d4
  obtain ⟨r0, r1, r2, r3, r4, r5, _⟩ := t.1.r6
  obtain ⟨d0, d1, d2, d3, d4⟩ := t.c4
  go_wp2_with fail
  refine (refWords_kind 20 a n Ao As Ap lo co ls cs lp cp _).mono ?_
  rintro e w2 ⟨rfl, b⟩
  rw [kW.out]
  have t := t.below b
  clear b r0 r1 r2 r3 r4 r5 d0 d1 d2 d3 d4
  obtain ⟨r0, r1, r2, r3, r4, r5, _⟩ := t.1.r6
  obtain ⟨d0, d1, d2, d3, d4⟩ := t.c4
  go_wp2
  go_loopw [9, 10] (fun at_ i wr => ∃ (k : Nat) (A : Option Addr) (nf cf : Nat), k ≤ lp ∧ i = .int .i64 k ∧ at_ = .int .i64 ((posF fl k : Nat) : Int) ∧ Hid (WOwn wr (w.heap.size + 3) (.slice A nf cf) (filesR fl ys k)) ∧ TB3 w w.heap.size (.cells #[.int .i64 20, .int .i64 a, .int .i64 n, .slice Ao lo co, .slice As ls cs, .slice Ap lp cp] 26 (0, 0)) (.cells #[.int .i64 0, .slice none 0 0, .slice none 0 0, .slice none 0 0] 29 (0, 0)) (.cells #[.int .i64 0, .slice none 0 0, .slice none 0 0, .slice A nf cf] 29 (0, 0)) wr) (fun _ i _ => lp - (intOf i).toNat)
  case atStart => exact ⟨0, none, 0, 0, by omega, rfl, rfl, Lib.hid (WOwn.nil _ _), t⟩
  case round =>
    clear t r0 r1 r2 r3 r4 r5 d0 d1 d2 d3 d4
    obtain ⟨k, A, nf, cf, hk, rfl, rfl, own, t⟩ := hrel
    obtain ⟨r0, r1, r2, r3, r4, r5, _⟩ := t.1.r6
    obtain ⟨d0, d1, d2, d3, d4⟩ := t.c4
    go_wp2_with fail
    refine (refFiles_kind 20 a n Ao As Ap lo co ls cs lp cp _).mono ?_
    rintro e w8 ⟨rfl, b8⟩
    rw [kF.out]
    have own := Lib.hid (own.out.below b8 (Nat.le_refl _))
    have t := t.below b8
    clear b8 r0 r1 r2 r3 r4 r5 d0 d1 d2 d3 d4
    obtain ⟨r0, r1, r2, r3, r4, r5, _⟩ := t.1.r6
    obtain ⟨d0, d1, d2, d3, d4⟩ := t.c4
    by_cases hlt : k < lp
    · have hpl := posF_lt fl hlt
      have hmm := HM.out
      have hnn := H2.out k hlt
      have e0 : nth fl (3 * k + 2) = ((lenF fl k : Nat) : Int) := by rw [lenF]; omega
      have hl1 : 1 ≤ lenF fl k := by rw [lenF]; omega
      have HFA : Hid (fileAt fl ys k = wwords ((ys.drop (posF fl k + 2)).take (2 * lenF fl k))) := Lib.hid rfl
      have HPS : Hid (posF fl (k + 1) = posF fl k + (2 + 2 * lenF fl k)) := Lib.hid rfl
      have HST := Lib.hid (filesR_step fl ys k)
      have HFW : Hid (∀ x ∈ fileAt fl ys k, (Lit.int .u16 x).wf = true) := Lib.hid (wwords_wf _ (fun x hx => HWF.out x (List.mem_of_mem_drop (List.mem_of_mem_take hx))))
      obtain ⟨b3, o3, hAp, hb3, hc1, hc2, hc3⟩ := (HP.out.below t.bel).three (k := k) (by have := HL.out; omega)
      subst hAp
      rw [e0] at hc3
      clear e0 hnn hc1 hc2
      generalize lenF fl k = l at *
      generalize posF fl k = p at *
      have hpm : p + (2 + 2 * l) ≤ m := by omega
      obtain ⟨s, hs⟩ : ∃ s, p + 2 = s := ⟨_, rfl⟩
      obtain ⟨l2, hl2⟩ : ∃ l2, 2 * l = l2 := ⟨_, rfl⟩
      obtain ⟨z, hz⟩ : ∃ z, s + l2 = z := ⟨_, rfl⟩
      have e1 : IntKind.i64.wrap (2 * (l : Int)) = (l2 : Int) := by rw [IntWalk.i64_in _ (by omega)]; omega
      have e1' : 2 * (l : Int) = (l2 : Int) := by omega
      have e2 : IntKind.i64.wrap ((p : Int) + 2) = (s : Int) := by rw [IntWalk.i64_in _ (by omega)]; omega
      have e2' : (p : Int) + 2 = (s : Int) := by omega
      have e3 : IntKind.i64.wrap ((s : Int) + (l2 : Int)) = (z : Int) := by rw [IntWalk.i64_in _ (by omega)]; omega
      have e3' : (s : Int) + (l2 : Int) = (z : Int) := by omega
      have e5 : IntKind.i64.wrap (l2 : Int) = (l2 : Int) := IntWalk.i64_in _ (by omega)
      have e6 : IntKind.i64.wrap (s : Int) = (s : Int) := IntWalk.i64_in _ (by omega)
      have e7 : IntKind.i64.wrap (z : Int) = (z : Int) := IntWalk.i64_in _ (by omega)
      have i1 : (s : Int) ≤ (z : Int) := by omega
      have i2 : (z : Int) ≤ (cap : Int) := by omega
      have i3 : (0 : Int) ≤ (s : Int) := by omega
      have i4 : ¬ s = cap := by omega
      have i5 : ¬ cap = s := by omega
      have i6 : (s : Int) ≤ (cap : Int) := by omega
      have hkl : (k : Int) < (lp : Int) := by omega
      have hlt3 := t.lt
      clear hpl hmm
      go_wp2_with fail
      clear r0 r1 r2 r3 r4 r5 d0 d1 d2 d3 d4
      refine (refWords_ok _ (z - s) (cap - s) l ((ys.drop s).take (2 * l)) _ ((((HR.out.below t.bel).drop s).front (2 * l)).more (by omega)) (by rw [List.length_take, List.length_drop, HY.out]; omega) (by omega) (by omega)).mono ?_
      rintro e w3 ⟨v3, rfl, own3, b⟩
      have own3 := own3.mono (base' := w.heap.size + 3) (by omega)
      have own4 := own.out.below b (Nat.le_refl _)
      have t := t.below b
      rw [← hs, ← HFA.out] at own3
      obtain ⟨A3, n3, c3, rfl, _, l3⟩ := own3.view3 HFW.out
      clear b hc3
      have bA := bel_alloc w3 (.cells #[.slice A3 n3 c3] 23)
      have t7 := t.below bA
      have own3' := own3.below bA (Nat.le_refl _)
      have own4' := own4.below bA (Nat.le_refl _)
      have HNEWS := Lib.hid (box_words w3 23 (.slice A3 n3 c3))
      have HFL : Hid ((filesR fl ys k).length = k) := Lib.hid (filesR_length _ _ _)
      have hlt7 := t.lt
      clear own own3 own4 bA
      obtain ⟨r0, r1, r2, r3, r4, r5, _⟩ := t.1.r6
      obtain ⟨d0, d1, d2, d3, d4⟩ := t.c4
      go_wp2_with (at_builtin; refine wpList_append_words _ rfl (.tmp 85) (.tmp 87) 27 rfl (w.heap.size + 3) Try.underlying27 info_words (.slice A nf cf) (filesR fl ys k) rfl own4' ⟨w3.heap.size, 0, none⟩ 1 (fileAt fl ys k) A3 n3 c3 rfl own3' HNEWS.out (by rw [HFL.out]; omega) (by simp; omega) ?_; intro v8 w8 own8 g8; have t8 := t7.grown g8 (fun g e => (own4'.block g e).1); rw [← HST.out] at own8; obtain ⟨A8, c8, hv8, _⟩ := own8.len; rw [filesR_length] at hv8; subst hv8; obtain ⟨y0, y1, y2, y3, y4⟩ := t8.c4)
      have t9 := t8.set 3 (.slice A8 (k + 1) c8)
      have own9 := Lib.hid (own8.set (g := w.heap.size + 2) (by omega) 3 (.slice A8 (k + 1) c8))
      have hpz : posF fl (k + 1) = z := by rw [HPS.out]; omega
      have HPZ := Lib.hid hpz
      clear hpz
      go_roundw
      case rel => exact ⟨k + 1, A8, k + 1, c8, by omega, by go_num, by rw [HPZ.out], own9, t9⟩
      case measure => simp [intOf]; omega
    · obtain rfl : k = lp := by omega
      have P5 := Lib.hid (t.1.put4 (.int .i64 0) (.slice none 0 0) (.slice none 0 0) (.slice A nf cf))
      have O5 := Lib.hid (own.out.put4 (g := w.heap.size + 1) (by omega) (.int .i64 0) (.slice none 0 0) (.slice none 0 0) (.slice A nf cf))
      obtain ⟨f0, f1, f2, f3, f4⟩ := t.1.c4
      go_wp2
      (try simp only [Exit.inBlock, Exit.then])
      show bodyPost _ _ _ _ _ (put4 (_) (w.heap.size + 1) (.int .i64 0) (.slice none 0 0) (.slice none 0 0) (.slice A nf cf))
      generalize put4 (_) (w.heap.size + 1) (.int .i64 0) (.slice none 0 0) (.slice none 0 0) (.slice A nf cf) = w6 at *
      obtain ⟨x0, x1, x2, x3⟩ := cells4 P5.out.1
      refine bodyPost_ret (v := .agg #[.int .i64 0, .slice none 0 0, .slice none 0 0, .slice A nf cf]) (by simp [results, Try.results53, go_sem, x0, x1, x2, x3]) rfl ?_
      obtain ⟨A9, c9, hv9, _⟩ := O5.out.len
      rw [filesR_length] at hv9
      injection hv9 with e1 e2 e3
      subst e1 e2 e3
      exact ⟨_, _, _, _, _, _, _, _, _, rfl, (fun w9 hk9 => ⟨L.Row.nil _ _ _ _, Row.nil _ _ _ _, (O5.out.stays (fun j hj => hk9 j (by omega))).frow (wpk_files_wf HWF.out _), rfl, rfl, filesR_length _ _ _⟩), P5.out.2⟩

/-- shape, of bytes of the right size. -/
theorem refShape_any (q : Req) (Ao As Ap : Option Addr) (lo ls lp co cs cp : Nat) (A : Option Addr) (m cap : Nat) (ys : List Int) (w : World) (h : Asked w w.heap.size q Ao As Ap lo ls lp) (hk : chkQ q = 0) (hr : Row .u8 w w.heap.size A ys) (hy : ys.length = m) (hm : m = sizeR q) (hcap : m ≤ cap) (hcb : cap ≤ 9223372036854775807) :
    Calls Try.prog 53 #[.agg #[.int .i64 q.c, .int .i64 q.a, .int .i64 q.n, .slice Ao lo co, .slice As ls cs, .slice Ap lp cp], .slice A m cap] w (OneR w (rdR q ys)) := by
  have hcs := mm_pos (chk_code hk)
  have h3 : q.fl.length / 3 = lp := by have := h.lp; omega
  by_cases h1 : q.c = 1 ∨ q.c = 2
  · have hn := right_bits hk h1
    have hm2 : m = 2 + need q.n.toNat := by rw [hm, sizeR, if_pos h1]
    have eR : rdR q ys = ⟨0, unpk (ys.drop 2) q.n.toNat, [], []⟩ := by rw [rdR, if_pos h1]
    have e : q.n = ((q.n.toNat : Nat) : Int) := by omega
    obtain ⟨b, o, rfl, _, _⟩ := hr.at_ (i := 0) (by omega)
    rw [eR]
    have hh := refShape_bits q.c q.a q.n.toNat Ao As Ap lo co ls cs lp cp b o m cap ys w hr hy hcap hcb h1 hm2 (by omega)
    rw [← e] at hh
    exact hh
  · by_cases h2 : q.c = 3 ∨ q.c = 4
    · have hn := right_words hk h2
      have hm2 : m = 2 + 2 * q.n.toNat := by rw [hm, sizeR, if_neg h1, if_pos h2]
      have eR : rdR q ys = ⟨0, [], wwords (ys.drop 2), []⟩ := by rw [rdR, if_neg h1, if_pos h2]
      have e : q.n = ((q.n.toNat : Nat) : Int) := by omega
      obtain ⟨b, o, rfl, _, _⟩ := hr.at_ (i := 0) (by omega)
      rw [eR]
      have hh := refShape_words q.c q.a q.n.toNat Ao As Ap lo co ls cs lp cp b o m cap ys w hr hy hcap hcb h2 hm2 (by omega)
      rw [← e] at hh
      exact hh
    · by_cases h20 : q.c = 20
      · obtain ⟨f1, f2, f3⟩ := right_files hk h20
        rw [h3] at f1 f2 f3
        have hm2 : posF q.fl lp = m := by rw [hm, sizeR, if_neg h1, if_neg h2, if_pos h20, h3]
        have h02 := posF_two q.fl lp
        have eR : rdR q ys = ⟨0, [], [], filesR q.fl ys lp⟩ := by rw [rdR, if_neg h1, if_neg h2, if_pos h20, h3]
        obtain ⟨b, o, rfl, _, _⟩ := hr.at_ (i := 0) (by omega)
        have hh := refShape_file q.a q.n q.fl Ao As Ap lo co ls cs lp cp b o m cap ys w hr hy hcap hcb h.fl h.lp f2 hm2 (by omega) (by omega)
        rw [← h20] at hh
        rw [eR]
        exact hh
      · have eR : rdR q ys = Rep.zero := by rw [rdR, if_neg h1, if_neg h2, if_neg h20]
        rw [eR]
        exact refShape_else q.c q.a q.n A Ao As Ap lo co ls cs lp cp m cap w h1 h2 h20
end Go.Proofs.Ytobhllcnljggiaa
