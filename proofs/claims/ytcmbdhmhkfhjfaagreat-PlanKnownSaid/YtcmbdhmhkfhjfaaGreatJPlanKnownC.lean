/-
  Texts of the proof of PlanKnown, joined.
-/
import Derived.Test.YtcmbdhmhkfhjfaaGreatJPlanKnownB
import Derived.Test.YtcmbdhmhkfhjfaaGreatJPlanKnownA
import Derived.Test.YtcmbdhmhkfhjfaaGreatRows
import Derived.Laws.AppendOwn
import Derived.WalkKit
import Derived.WalkSpells
import Derived.WalkLawsBesides
import Derived.Outline
import Derived.Lib.Hide
import Derived.Deep.QuietTactic
import Derived.BigQuiet
import Derived.Deep.Draws
import Derived.Deep.AppendLies
import Derived.Test.YtcmbdhmhkfhjfaaGreatProg
import Derived.Laws.CopyOwn
import Derived.StillTailTactics
import Derived.IntWalk
import Derived.Deep.RegionHeld3
import Derived.Deep.RegionLaw
import Derived.Deep.RegionWith
namespace Go.Proofs.YtcmbdhmhkfhjfaaGreat
open Go.RowKit
set_option linter.unusedVariables false

theorem less_lt (x y : List UInt8) : Op.bytesLess x y = decide (x < y) := by
  induction x generalizing y with
  | nil => cases y <;> simp [Op.bytesLess]
  | cons a x ih =>
    cases y with
    | nil => simp [Op.bytesLess]
    | cons b y =>
      have e : decide (a :: x < b :: y) = (decide (a < b) || (decide (a = b) && decide (x < y))) := by
        rw [← Bool.decide_and, ← Bool.decide_or]
        exact decide_eq_decide.2 List.cons_lt_cons_iff
      rw [Op.bytesLess, ih, e]
      by_cases h1 : a < b
      · simp [h1]
      · by_cases h2 : a = b <;> simp [h1, h2]
def ltT (a b : Tg) : Prop := a.nm.toList < b.nm.toList
theorem ltT_trans {a b c : Tg} (h : ltT a b) (h' : ltT b c) : ltT a c := List.lt_trans h h'
def TabT (l : List Tg) : Prop := l.length ≤ 64 ∧ (∀ t ∈ l, chkT t = 0) ∧ l.Pairwise ltT
theorem badN_zero {p t : Tg} (h : badN p t = 0) : ltT p t := by
  unfold badN at h
  cases h1 : t.nm.toList == p.nm.toList
  · rw [h1, cond_false] at h
    cases h2 : Op.bytesLess t.nm.toList p.nm.toList
    · rw [less_lt, decide_eq_false_iff_not] at h2
      rw [beq_eq_false_iff_ne] at h1
      unfold ltT
      rcases Std.lt_trichotomy p.nm.toList t.nm.toList with h3 | h3 | h3
      · exact h3
      · exact absurd h3.symm h1
      · exact absurd h3 h2
    · rw [h2] at h; simp at h
  · rw [h1] at h; simp at h
theorem chkAll_cases (l : List Tg) : (64 < l.length ∧ chkAll l = (34, 0)) ∨ (l.length ≤ 64 ∧ ∃ i, i < l.length ∧ badAt l i ≠ 0 ∧ chkAll l = (badAt l i, (i : Int)) ∧ ∀ j, j < i → badAt l j = 0) ∨ (l.length ≤ 64 ∧ chkAll l = (0, 0) ∧ ∀ j, j < l.length → badAt l j = 0) := by
  by_cases h : 64 < l.length
  · exact .inl ⟨h, chkAll_many h⟩
  right
  by_cases hb : ∀ j, j < l.length → badAt l j = 0
  · exact .inr ⟨by omega, chkAll_none h hb, hb⟩
  · left
    refine ⟨by omega, ?_⟩
    have key : ∀ n, (∀ j, j < n → badAt l j = 0) ∨ ∃ i, i < n ∧ badAt l i ≠ 0 ∧ ∀ j, j < i → badAt l j = 0 := by
      intro n
      induction n with
      | zero => exact .inl (fun j hj => absurd hj (by omega))
      | succ n ih =>
        rcases ih with ih | ⟨i, h1, h2, h3⟩
        · by_cases hn : badAt l n = 0
          · left
            intro j hj
            rcases Nat.lt_or_ge j n with h | h
            · exact ih j h
            · obtain rfl : j = n := by omega
              exact hn
          · exact .inr ⟨n, by omega, hn, ih⟩
        · exact .inr ⟨i, by omega, h2, h3⟩
    rcases key l.length with h1 | ⟨i, h1, h2, h3⟩
    · exact absurd h1 hb
    · exact ⟨i, h1, h2, chkAll_at h h1 rfl h2 h3, h3⟩
theorem pair_of {l : List Tg} (h : ∀ i (hi : i + 1 < l.length), ltT l[i] l[i + 1]) : l.Pairwise ltT := by
  rw [List.pairwise_iff_getElem]
  have key : ∀ d i (hj : i + d + 1 < l.length), ltT (l[i]'(by omega)) l[i + d + 1] := by
    intro d
    induction d with
    | zero => intro i hj; exact h i hj
    | succ d ih => intro i hj; exact ltT_trans (ih i (by omega)) (h (i + d + 1) (by omega))
  intro i j hi hj hij
  obtain ⟨d, rfl⟩ : ∃ d, j = i + d + 1 := ⟨j - i - 1, by omega⟩
  exact key d i hj
theorem tab_of_zero {l : List Tg} (hb : ∀ j, j < l.length → badAt l j = 0) : (∀ t ∈ l, chkT t = 0) ∧ l.Pairwise ltT := by
  have hc : ∀ j (hj : j < l.length), chkT l[j] = 0 := fun j hj => by
    by_cases h : chkT l[j] = 0
    · exact h
    · have := badAt_chk hj h
      rw [hb j hj] at this
      exact absurd this.symm h
  refine ⟨fun t ht => ?_, pair_of fun i hi => ?_⟩
  · obtain ⟨j, hj, rfl⟩ := List.mem_iff_getElem.1 ht
    exact hc j hj
  · have := badAt_next hi (hc (i + 1) hi)
    rw [hb (i + 1) hi] at this
    exact badN_zero this.symm
theorem tab_of {l : List Tg} {k : Int} (h : chkAll l = (0, k)) : k = 0 ∧ TabT l := by
  rcases chkAll_cases l with ⟨_, e⟩ | ⟨_, i, _, hne, e, _⟩ | ⟨hl, e, hb⟩
  · rw [e] at h; injection h with h; cases h
  · rw [e] at h; injection h with h; exact absurd h hne
  · rw [e] at h; injection h with h h'
    exact ⟨h'.symm, hl, tab_of_zero hb⟩
end Go.Proofs.YtcmbdhmhkfhjfaaGreat
namespace Go.Proofs.YtcmbdhmhkfhjfaaGreat
open Go.RowKit
set_option linter.unusedVariables false

theorem chkT_zero {t : Tg} (h : chkT t = 0) : nameB (bys t.nm) = true ∧ (1 ≤ t.un ∧ t.un ≤ 247) ∧ (1 ≤ t.ki ∧ t.ki ≤ 4) ∧ (0 ≤ t.ad ∧ t.ad ≤ 65536 - widT t) ∧ (1 ≤ t.ev ∧ t.ev ≤ 1048576) ∧ chkS t.sc = 0 ∧ (¬ t.ki ≤ 2 ∨ bitS t = true) ∧ chkB t.de t.qu = 0 ∧ chkL t.li = 0 := by
  refine tag_cases t _ ?_ ?_ ?_ ?_ ?_ ?_ ?_ ?_ ?_ ?_ ?_ ?_ ?_
  · intro _ e; rw [h] at e; cases e
  · intro _ _ e; rw [h] at e; cases e
  · intro _ _ _ e; rw [h] at e; cases e
  · intro _ _ _ _ e; rw [h] at e; cases e
  · intro _ _ _ _ _ e; rw [h] at e; cases e
  · intro _ _ _ _ _ _ e; rw [h] at e; cases e
  · intro _ _ _ _ _ _ _ e; rw [h] at e; cases e
  · intro _ _ _ _ _ _ _ _ e; rw [h] at e; cases e
  · intro _ _ _ _ _ _ _ _ _ e; rw [h] at e; cases e
  · intro _ _ _ _ _ _ _ _ _ _ e; rw [h] at e; cases e
  · intro _ _ _ _ _ _ _ _ _ _ _ _ e; rw [h] at e; cases e
  · intro _ _ _ _ _ _ _ _ _ _ _ _ e; rw [h] at e; cases e
  · intro h1 h2 h3 h4 h5 h6 h7 h8 h9 h10 h11 h12 e
    rw [h] at e
    exact ⟨h1, by omega, by omega, by omega, by omega, h10, h11, h12, e.symm⟩
def Tg.at (t : Tg) (a : Int) : Tg := ⟨t.nm, t.un, t.ki, a, t.ev, t.we, t.sg, t.sw, t.mu, t.di, t.aa, t.de, t.qu, t.ul, t.uh, t.la, t.lo, t.hi, t.hy⟩
end Go.Proofs.YtcmbdhmhkfhjfaaGreat
namespace Go.Proofs.YtcmbdhmhkfhjfaaGreat
open Go.RowKit
set_option linter.unusedVariables false

theorem Row.three {w : World} {B : Nat} {A : Option Addr} {fl : List Int} (h : Row .i64 w B A fl) {k : Nat} (hk : 3 * k + 3 ≤ fl.length) :
    ∃ b o, A = some ⟨b, o, none⟩ ∧ b < B ∧ w.cell? ⟨b, o + k * 3, none⟩ = some (.int .i64 (nth fl (3 * k))) ∧ w.cell? ⟨b, o + k * 3 + 1, none⟩ = some (.int .i64 (nth fl (3 * k + 1))) ∧ w.cell? ⟨b, o + k * 3 + 2, none⟩ = some (.int .i64 (nth fl (3 * k + 2))) := by
  obtain ⟨b, o, e, hb, hc⟩ := h.2 (by omega)
  refine ⟨b, o, e, hb, ?_, ?_, ?_⟩
  · rw [Nat.mul_comm k 3]; exact hc _ (by omega)
  · rw [Nat.mul_comm k 3, Nat.add_assoc]; exact hc _ (by omega)
  · rw [Nat.mul_comm k 3, Nat.add_assoc]; exact hc _ (by omega)

theorem same_yes_part (A A' : Option Addr) (n c c' : Nat) (fl : List Int) (w : World) (B B' : Nat) (hr : Row .i64 w B A fl) (hr' : Row .i64 w B' A' fl) (hn : fl.length = 3 * n) (hb : n ≤ 1000000) :
    Calls Tryz.prog 68 #[.slice A n c, .slice A' n c'] w fun e w' => e = .returned (.bool true) ∧ ∃ m, w' = w.drewN m := by
  have hn' := Lib.hid hn
  clear hn
  go_enter Tryz.func68, Tryz.ntmps68
  go_wp2
  go_loopw [5] (fun i wr => ∃ k nq : Nat, k ≤ n ∧ i = .int .i64 k ∧ wr = w.drewN nq) (fun i _ => n - (intOf i).toNat)
  case atStart => exact ⟨0, 0, by omega, rfl, rfl⟩
  case round =>
    obtain ⟨k, nq, hk, rfl, rfl⟩ := hrel
    by_cases hlt : k < n
    · obtain ⟨b, o, rfl, hb1, hc1, hc2, hc3⟩ := hr.three (k := k) (by have := hn'.out; omega)
      obtain ⟨b', o', rfl, hb1', hc1', hc2', hc3'⟩ := hr'.three (k := k) (by have := hn'.out; omega)
      have hlt' : (k : Int) < (n : Int) := by omega
      go_wp2
      go_quiet (fail)
      go_wp2
      go_roundw
      case rel => exact ⟨k + 1, _, by omega, by go_num, rfl⟩
      case measure => simp [intOf]; omega
    · go_wp2
      go_ret
      exact ⟨rfl, nq, rfl⟩

def marksP : List Int := [-77, 0, 0, -77, 0, 0, -77, 0, 0, -77, 0, 0, -77, 0, 0]

end Go.Proofs.YtcmbdhmhkfhjfaaGreat
namespace Go.Proofs.YtcmbdhmhkfhjfaaGreat
open Go.RowKit
set_option linter.unusedVariables false

def POwn (e : TypeId) (w : World) (base : Nat) (v : Value) (fl : List Int) : Prop :=
  (v = .slice none 0 0 ∧ fl = []) ∨
  ∃ (g n cap : Nat) (r : List Int), v = .slice (some ⟨g, 0, none⟩) n cap ∧ base ≤ g ∧ fl.length = 3 * n ∧ w.heap[g]? = some (.cells (blk .i64 (fl ++ r)) e (0, 0)) ∧ n ≤ cap ∧ cap ≤ maxLen ∧ fl.length + r.length = 3 * cap

theorem POwn.nil (e : TypeId) (w : World) (base : Nat) : POwn e w base (.slice none 0 0) [] := .inl ⟨rfl, rfl⟩
theorem POwn.below {e : TypeId} {w w' : World} {base B : Nat} {v : Value} {fl : List Int} (h : POwn e w base v fl) (hb : Below B w w') (hB : w.heap.size ≤ B) : POwn e w' base v fl := by
  rcases h with h | ⟨g, n, cap, r, h1, h2, h3, h4, h5⟩
  · exact .inl h
  · exact .inr ⟨g, n, cap, r, h1, h2, h3, (hb.block g (by have := block_lt h4; omega)).trans h4, h5⟩
theorem POwn.alloc {e : TypeId} {w : World} {base : Nat} {v : Value} {fl : List Int} (h : POwn e w base v fl) (o : Obj) : POwn e (w.alloc o) base v fl :=
  h.below ((Below.refl w.heap.size w).alloc (Nat.le_refl _) o) (Nat.le_refl _)
theorem POwn.drewN {e : TypeId} {w : World} {base : Nat} {v : Value} {fl : List Int} (h : POwn e w base v fl) (n : Nat) : POwn e (w.drewN n) base v fl := h
theorem POwn.mono {e : TypeId} {w : World} {base base' : Nat} {v : Value} {fl : List Int} (h : POwn e w base v fl) (hb : base' ≤ base) : POwn e w base' v fl := by
  rcases h with h | ⟨g, n, cap, r, h1, h2, h3⟩
  · exact .inl h
  · exact .inr ⟨g, n, cap, r, h1, by omega, h3⟩
theorem POwn.block {e : TypeId} {w : World} {base : Nat} {v : Value} {fl : List Int} (h : POwn e w base v fl) : ∀ g, v.ownBlock = some g → base ≤ g ∧ g < w.heap.size := by
  intro g hg
  rcases h with ⟨rfl, _⟩ | ⟨g', n, cap, r, rfl, h2, h3, h4, h5⟩
  · cases hg
  · injection hg with hg
    subst hg
    exact ⟨h2, block_lt h4⟩
theorem POwn.row {e : TypeId} {w : World} {base : Nat} {v : Value} {fl : List Int} (h : POwn e w base v fl) (hw : ∀ x ∈ fl, (Lit.int .i64 x).wf = true) :
    ∃ A n c, v = .slice A n c ∧ Row .i64 w w.heap.size A fl ∧ fl.length = 3 * n ∧ n ≤ c ∧ c ≤ maxLen := by
  rcases h with ⟨rfl, rfl⟩ | ⟨g, n, cap, r, rfl, h2, h3, h4, h5, h6, _⟩
  · exact ⟨none, 0, 0, rfl, Row.nil _ _ _ _, rfl, Nat.le_refl _, Nat.zero_le _⟩
  · exact ⟨_, n, cap, rfl, (Row.of_block h4 fl hw (List.prefix_append _ _)).more (block_lt h4), h3, h5, h6⟩

section
variable {P : Program}
end
end Go.Proofs.YtcmbdhmhkfhjfaaGreat
namespace Go.Proofs.YtcmbdhmhkfhjfaaGreat
open Go.RowKit
set_option linter.unusedVariables false

end Go.Proofs.YtcmbdhmhkfhjfaaGreat
namespace Go.Proofs.YtcmbdhmhkfhjfaaGreat.L
open Go.RowKit
set_option linter.unusedVariables false

def nth (l : List Bool) (i : Nat) : Bool := l.getD i false
theorem nth_eq (l : List Bool) (i : Nat) (h : i < l.length) : nth l i = l[i] := by simp [nth, List.getD_eq_getElem?_getD, List.getElem?_eq_getElem h]
theorem nth_mem (l : List Bool) (i : Nat) (h : i < l.length) : nth l i ∈ l := by rw [nth_eq l i h]; exact List.getElem_mem h
theorem nth_left (l m : List Bool) (i : Nat) (h : i < l.length) : nth (l ++ m) i = nth l i := by
  rw [nth_eq _ _ h, nth_eq _ _ (by simp; omega)]; exact List.getElem_append_left h
theorem nth_right (l m : List Bool) (i : Nat) : nth (l ++ m) (l.length + i) = nth m i := by
  simp [nth, List.getD_eq_getElem?_getD, List.getElem?_append_right]
theorem nth_replicate (n i : Nat) (v : Bool) (h : i < n) : nth (List.replicate n v) i = v := by rw [nth_eq _ _ (by simpa using h)]; simp
theorem ext_nth (a b : List Bool) (hl : a.length = b.length) (h : ∀ i, i < a.length → nth a i = nth b i) : a = b := by
  refine List.ext_getElem hl fun i h1 h2 => ?_
  rw [← nth_eq a i h1, ← nth_eq b i h2]; exact h i h1

def blk (k : Unit) (l : List Bool) : Array Value := (l.map (Value.bool)).toArray

theorem blk_size (k : Unit) (l : List Bool) : (blk k l).size = l.length := by simp [blk]
theorem blk_get (k : Unit) (l : List Bool) (i : Nat) (h : i < l.length) : (blk k l)[i]? = some (.bool (nth l i)) := by
  simp [blk, List.getElem?_eq_getElem h, nth_eq l i h]
theorem blk_set (k : Unit) (l : List Bool) (i : Nat) (v : Bool) : (blk k l).setIfInBounds i (.bool v) = blk k (l.set i v) := by
  simp [blk, List.map_set]

def Row (k : Unit) (w : World) (B : Nat) (A : Option Addr) (xs : List Bool) : Prop :=
  (∀ x ∈ xs, (Lit.bool x).wf = true) ∧ (0 < xs.length → ∃ b o, A = some ⟨b, o, none⟩ ∧ b < B ∧ ∀ i, i < xs.length → w.cell? ⟨b, o + i, none⟩ = some (.bool (nth xs i)))

theorem Row.keep {k : Unit} {w w' : World} {B : Nat} {A : Option Addr} {xs : List Bool} (h : Row k w B A xs) (hk : ∀ b o, b < B → w'.cell? ⟨b, o, none⟩ = w.cell? ⟨b, o, none⟩) : Row k w' B A xs := by
  refine ⟨h.1, fun hn => ?_⟩
  obtain ⟨b, o, e, hb, hc⟩ := h.2 hn
  exact ⟨b, o, e, hb, fun i hi => (hk _ _ hb).trans (hc i hi)⟩
theorem Row.more {k : Unit} {w : World} {B B' : Nat} {A : Option Addr} {xs : List Bool} (h : Row k w B A xs) (hB : B ≤ B') : Row k w B' A xs := by
  refine ⟨h.1, fun hn => ?_⟩
  obtain ⟨b, o, e, hb, hc⟩ := h.2 hn
  exact ⟨b, o, e, by omega, hc⟩
theorem Row.below {k : Unit} {w w' : World} {B : Nat} {A : Option Addr} {xs : List Bool} (h : Row k w B A xs) (hb : Below B w w') : Row k w' B A xs :=
  h.keep fun b o hlt => hb.cell (p := ⟨b, o, none⟩) hlt
theorem Row.alloc {k : Unit} {w : World} {B : Nat} {A : Option Addr} {xs : List Bool} (h : Row k w B A xs) (hB : B ≤ w.heap.size) (o : Obj) : Row k (w.alloc o) B A xs :=
  h.below ((Below.refl _ _).alloc hB o)
theorem Row.drewN {k : Unit} {w : World} {B : Nat} {A : Option Addr} {xs : List Bool} (h : Row k w B A xs) (n : Nat) : Row k (w.drewN n) B A xs := h
theorem Row.nil (k : Unit) (w : World) (B : Nat) (A : Option Addr) : Row k w B A [] := ⟨by simp, by simp⟩
theorem Row.new (k : Unit) (w : World) (t : TypeId) (l xs : List Bool) (hw : ∀ x ∈ xs, (Lit.bool x).wf = true) (hp : xs <+: l) :
    Row k (w.alloc (.cells (blk k l) t)) (w.heap.size + 1) (some ⟨w.heap.size, 0, none⟩) xs := by
  obtain ⟨ys, rfl⟩ := hp
  refine ⟨hw, fun _ => ⟨_, _, rfl, Nat.lt_succ_self _, fun i hi => ?_⟩⟩
  rw [World.cell?_alloc_at _ _ _ _ rfl, Nat.zero_add, blk_get _ _ _ (by simp; omega), nth_left _ _ _ hi]
theorem Row.of_block {k : Unit} {w : World} {g : Nat} {t : TypeId} {fr : Nat × Nat} {l : List Bool} (hg : w.heap[g]? = some (.cells (blk k l) t fr)) (xs : List Bool) (hw : ∀ x ∈ xs, (Lit.bool x).wf = true) (hp : xs <+: l) :
    Row k w (g + 1) (some ⟨g, 0, none⟩) xs := by
  obtain ⟨ys, rfl⟩ := hp
  refine ⟨hw, fun _ => ⟨_, _, rfl, Nat.lt_succ_self _, fun i hi => ?_⟩⟩
  rw [Nat.zero_add, cell_of_row w g i _ _ _ hg, blk_get _ _ _ (by simp; omega), nth_left _ _ _ hi]
theorem Row.at_ {k : Unit} {w : World} {B : Nat} {A : Option Addr} {xs : List Bool} (h : Row k w B A xs) {i : Nat} (hi : i < xs.length) :
    ∃ b o, A = some ⟨b, o, none⟩ ∧ b < B ∧ w.cell? ⟨b, o + i, none⟩ = some (.bool (nth xs i)) := by
  obtain ⟨b, o, e, hb, hc⟩ := h.2 (by omega)
  exact ⟨b, o, e, hb, hc i hi⟩
theorem Row.wf_at {k : Unit} {w : World} {B : Nat} {A : Option Addr} {xs : List Bool} (h : Row k w B A xs) {i : Nat} (hi : i < xs.length) : (Lit.bool (nth xs i)).wf = true := h.1 _ (nth_mem _ _ hi)

theorem wf_append {k : Unit} {xs ys : List Bool} (h : ∀ x ∈ xs, (Lit.bool x).wf = true) (h' : ∀ x ∈ ys, (Lit.bool x).wf = true) : ∀ x ∈ xs ++ ys, (Lit.bool x).wf = true := fun x hx => (List.mem_append.1 hx).elim (h x) (h' x)
theorem take_step (xs : List Bool) (k : Nat) (h : k < xs.length) : xs.take (k + 1) = xs.take k ++ [nth xs k] := by
  rw [List.take_succ_eq_append_getElem h, nth_eq xs k h]
theorem set_step (l : List Bool) (m k : Nat) (v x : Bool) (h : l.length = k) : (l ++ List.replicate (m + 1) v).set k x = l ++ [x] ++ List.replicate m v := by
  rw [List.set_append_right _ _ (by omega)]
  simp [h, List.replicate_succ]
theorem fill_cell (k : Unit) (l : List Bool) (m i : Nat) (v : Bool) (h : l.length = i) (hm : 0 < m) : (blk k (l ++ List.replicate m v))[i]? = some (.bool v) := by
  rw [blk_get _ _ _ (by simp; omega)]
  subst h
  have := nth_right l (List.replicate m v) 0
  rw [Nat.add_zero] at this
  rw [this, nth_replicate _ _ _ hm]
end Go.Proofs.YtcmbdhmhkfhjfaaGreat.L
namespace Go.Proofs.YtcmbdhmhkfhjfaaGreat.L
open Go.RowKit
set_option linter.unusedVariables false

theorem bools_oneCell (xs : List Bool) : ∀ v ∈ xs.map Value.bool, v.oneCell' = true := by
  intro v hv
  obtain ⟨x, _, rfl⟩ := List.mem_map.1 hv
  rfl

def Own (k : Unit) (e : TypeId) (w : World) (base : Nat) (v : Value) (xs : List Bool) : Prop := w.ownsRow base e 1 v xs.length (xs.map (Value.bool))

theorem Own.nil (k : Unit) (e : TypeId) (w : World) (base : Nat) : Own k e w base (.slice none 0 0) [] := ⟨by simp, .inl ⟨rfl, rfl⟩⟩
theorem Own.alloc {k : Unit} {e : TypeId} {w : World} {base : Nat} {v : Value} {xs : List Bool} (h : Own k e w base v xs) (o : Obj) : Own k e (w.alloc o) base v xs := World.ownsRow.alloc h o
theorem Own.drewN {k : Unit} {e : TypeId} {w : World} {base : Nat} {v : Value} {xs : List Bool} (h : Own k e w base v xs) (n : Nat) : Own k e (w.drewN n) base v xs := h
theorem Own.block {k : Unit} {e : TypeId} {w : World} {base : Nat} {v : Value} {xs : List Bool} (h : Own k e w base v xs) : ∀ g, v.ownBlock = some g → base ≤ g ∧ g < w.heap.size := World.ownsRow.lt h
theorem Own.kept {k : Unit} {e : TypeId} {w w' : World} {base : Nat} {v : Value} {xs : List Bool} {row : Option Nat} (h : Own k e w base v xs) (hg : w.grownBy w' row) (hne : v.ownBlock = none ∨ v.ownBlock ≠ row) : Own k e w' base v xs := World.ownsRow.kept h hg hne
theorem Own.below {k : Unit} {e : TypeId} {w w' : World} {base B : Nat} {v : Value} {xs : List Bool} (h : Own k e w base v xs) (hb : Below B w w') (hB : w.heap.size ≤ B) : Own k e w' base v xs := by
  refine h.kept (row := none) ⟨hb.os, hb.tape, hb.output, hb.size, fun i hi _ => hb.block i (by omega)⟩ ?_
  cases hv : v.ownBlock with
  | none => exact .inl rfl
  | some g => exact .inr (by simp)
theorem Own.mono {k : Unit} {e : TypeId} {w : World} {base base' : Nat} {v : Value} {xs : List Bool} (h : Own k e w base v xs) (hb : base' ≤ base) : Own k e w base' v xs := by
  refine ⟨h.1, ?_⟩
  rcases h.2 with h0 | ⟨g, cap, cur, hv, h1, r⟩
  · exact .inl h0
  · exact .inr ⟨g, cap, cur, hv, by omega, r⟩
theorem Own.row {k : Unit} {e : TypeId} {w : World} {base : Nat} {v : Value} {xs : List Bool} (h : Own k e w base v xs) (hw : ∀ x ∈ xs, (Lit.bool x).wf = true) :
    ∃ A c, v = .slice A xs.length c ∧ Row k w w.heap.size A xs ∧ xs.length ≤ c ∧ c ≤ maxLen := by
  rcases h.2 with ⟨rfl, h0⟩ | ⟨g, cap, cur, rfl, hb, hg, h1, h2, h3, h4⟩
  · have : xs = [] := List.eq_nil_of_length_eq_zero h0
    subst this
    exact ⟨none, 0, rfl, Row.nil _ _ _ _, by simp, by simp⟩
  · refine ⟨_, _, rfl, ⟨hw, fun _ => ⟨g, 0, rfl, ?_, fun i hi => ?_⟩⟩, h1, h2⟩
    · exact (Own.block (k := k) (e := e) (w := w) (base := base) (xs := xs) ⟨by simp, .inr ⟨g, cap, cur, rfl, hb, hg, h1, h2, h3, h4⟩⟩ g rfl).2
    · rw [Nat.zero_add, cell_of_row w g i cur e (0, 0) hg]
      have : (cur.toList.take (xs.length * 1))[i]? = (xs.map (Value.bool))[i]? := by rw [h4]
      rw [List.getElem?_take_of_lt (by omega)] at this
      rw [← Array.getElem?_toList, this, List.getElem?_map, List.getElem?_eq_getElem hi, nth_eq xs i hi]
      rfl

section
variable {P : Program}
theorem run_append_none (w : World) (t ty e : TypeId) (i : TypeInfo) (ht : P.underlying t = some (.slice e)) (hi : P.info? e = some i)
    (base : Nat) (v : Value) (n : Nat) (xs : List Value) (hown : w.ownsRow base e 1 v n xs) (c : Nat) : (Builtin.append_ #[t, t] ty #[v, .slice none 0 c]).run P w = .ok v w := by
  rcases hown.2 with ⟨rfl, rfl⟩ | ⟨g, cap, cur, rfl, _, _, hnc, _⟩
  · simp [Builtin.append_, run_underlying ht, sizeOf, typeInfo, hi, Builtin.lenOf, Builtin.firstCells]
  · simp [Builtin.append_, run_underlying ht, sizeOf, typeInfo, hi, Builtin.lenOf, Builtin.firstCells, hnc, storeCells]

theorem wpList_append_row {ops : Array Oper} {rest : List Oper} {o : Oper} {a : Act} {Q : Exit → Act → World → Prop} (w : World) (hgd : o.guard = none) (s x : Operand) (t : TypeId)
    (ho : o.op = .call { callee := .builtin .append, args := #[s, x], argTypes := #[t, t] })
    (base : Nat) (k : Unit) (e : TypeId) (bytes : Nat) (ht : P.underlying t = some (.slice e)) (hi : (P.info? e).map (fun i => (i.zero, i.size, i.bytes)) = some (some (.bool false), 1, bytes))
    (v : Value) (xs : List Bool) (hs : a.eval s = v) (hown : Own k e w base v xs)
    (B : Nat) (A : Option Addr) (m c : Nat) (ys : List Bool) (hx : a.eval x = .slice A m c) (hr : Row k w B A ys) (hm : ys.length = m)
    (hbytes : (xs.length + m) * bytes ≤ 140737488355328) (h63 : xs.length + m ≤ maxLen) (hbase : base ≤ w.heap.size)
    (h : ∀ v' w', Own k e w' base v' (xs ++ ys) → w.grownBy w' v.ownBlock → wpList P ops Q rest (a.put o.dst v') w') : wpList P ops Q (o :: rest) a w := by
  obtain ⟨i, hi1, hz, hsz, hby⟩ := info_parts hi
  rcases Nat.eq_zero_or_pos m with h0 | h0
  · subst h0
    have hy : ys = [] := List.eq_nil_of_length_eq_zero hm
    subst hy
    cases A with
    | none =>
      refine wpList_plain hgd fun K hK => ?_
      have hrun := run_append_none (P := P) w t o.type e i ht hi1 base v _ _ hown c
      unfold Oper.wp
      simp [execOp, ho, resolve, invoke, builtin, hs, hx, hrun, Result.andThen]
      exact hK _ _ (h v w (by simpa using hown) (World.grownBy.refl _ _))
    | some ad =>
      refine wpList_append_own w hgd s x t ho base e i (.bool false) 1 bytes ht hi1 hz hsz hby rfl (by omega) v _ _ hs hown ad 0 c [] hx (by simp) (by simp) (by simp) h63 hbytes hbase fun v' w' h1 h2 _ => h v' w' (by simpa [Own] using h1) h2
  · obtain ⟨b, of, rfl, _, hc⟩ := hr.2 (by omega)
    refine wpList_append_own w hgd s x t ho base e i (.bool false) 1 bytes ht hi1 hz hsz hby rfl (by omega) v _ _ hs hown ⟨b, of, none⟩ m c (ys.map (Value.bool)) hx (by simp [hm]) ?_ (bools_oneCell ys) h63 hbytes hbase fun v' w' h1 h2 _ => h v' w' (by simpa [Own, hm] using h1) h2
    intro j u hu
    rw [List.getElem?_map] at hu
    by_cases hj : j < ys.length
    · rw [List.getElem?_eq_getElem hj] at hu
      rw [Go.WideShapes.add_plain, hc j hj, nth_eq ys j hj]
      exact hu
    · rw [List.getElem?_eq_none (by omega)] at hu
      cases hu

theorem wpList_append_row_fits {ops : Array Oper} {rest : List Oper} {o : Oper} {a : Act} {Q : Exit → Act → World → Prop} (w : World) (hgd : o.guard = none) (s x : Operand) (t : TypeId)
    (ho : o.op = .call { callee := .builtin .append, args := #[s, x], argTypes := #[t, t] })
    (base : Nat) (k : Unit) (e : TypeId) (bytes : Nat) (ht : P.underlying t = some (.slice e)) (hi : (P.info? e).map (fun i => (i.zero, i.size, i.bytes)) = some (some (.bool false), 1, bytes))
    (g n cap : Nat) (xs : List Bool) (hs : a.eval s = .slice (some ⟨g, 0, none⟩) n cap) (hn : xs.length = n) (hown : Own k e w base (.slice (some ⟨g, 0, none⟩) n cap) xs)
    (B : Nat) (A : Option Addr) (m c : Nat) (ys : List Bool) (hx : a.eval x = .slice A m c) (hr : Row k w B A ys) (hm : ys.length = m) (hfit : n + m ≤ cap)
    (h : ∀ w', Own k e w' base (.slice (some ⟨g, 0, none⟩) (n + m) cap) (xs ++ ys) → w.grownBy w' (some g) → wpList P ops Q rest (a.put o.dst (.slice (some ⟨g, 0, none⟩) (n + m) cap)) w') : wpList P ops Q (o :: rest) a w := by
  obtain ⟨i, hi1, hz, hsz, hby⟩ := info_parts hi
  subst hn
  rcases Nat.eq_zero_or_pos m with h0 | h0
  · subst h0
    have hy : ys = [] := List.eq_nil_of_length_eq_zero hm
    subst hy
    cases A with
    | none =>
      refine wpList_plain hgd fun K hK => ?_
      have hrun := run_append_none (P := P) w t o.type e i ht hi1 base _ _ _ hown c
      unfold Oper.wp
      simp [execOp, ho, resolve, invoke, builtin, hs, hx, hrun, Result.andThen]
      exact hK _ _ (h w (by simpa using hown) (World.grownBy.refl _ _))
    | some ad =>
      refine wpList_append_fits w hgd s x t ho base e i 1 ht hi1 hsz g xs.length cap _ hs hown ad 0 c [] hx (by simp) (by simp) (by simp) hfit fun w' h1 h2 => h w' (by simpa [Own] using h1) h2
  · obtain ⟨b, of, rfl, _, hc⟩ := hr.2 (by omega)
    refine wpList_append_fits w hgd s x t ho base e i 1 ht hi1 hsz g xs.length cap _ hs hown ⟨b, of, none⟩ m c (ys.map (Value.bool)) hx (by simp [hm]) ?_ (bools_oneCell ys) hfit fun w' h1 h2 => h w' (by simpa [Own, hm] using h1) h2
    intro j u hu
    rw [List.getElem?_map] at hu
    by_cases hj : j < ys.length
    · rw [List.getElem?_eq_getElem hj] at hu
      rw [Go.WideShapes.add_plain, hc j hj, nth_eq ys j hj]
      exact hu
    · rw [List.getElem?_eq_none (by omega)] at hu
      cases hu
end

theorem Own.made (k : Unit) (e : TypeId) (w : World) (l : List Bool) (hm : l.length ≤ maxLen) : Own k e (w.alloc (.cells (blk k l) e)) w.heap.size (.slice (some ⟨w.heap.size, 0, none⟩) 0 l.length) [] :=
  ⟨rfl, .inr ⟨_, _, _, rfl, Nat.le_refl _, heap_alloc_new w _, by simp, hm, by simp [blk_size], by simp⟩⟩
theorem Own.full {k : Unit} {e : TypeId} {w : World} {base g n : Nat} {xs : List Bool} (h : Own k e w base (.slice (some ⟨g, 0, none⟩) n n) xs) : w.heap[g]? = some (.cells (blk k xs) e (0, 0)) := by
  rcases h.2 with ⟨h0, _⟩ | ⟨g', cap, cur, hv, hb, hg, h1, h2, h3, h4⟩
  · cases h0
  · injection hv with ha hn hc
    injection ha with ha
    injection ha with ha
    subst ha hn hc
    rw [hg]
    congr 2
    apply Array.toList_inj.1
    rw [List.take_of_length_le (by simp [h3])] at h4
    rw [h4]
    simp [blk]

theorem Below.own {k : Unit} {e : TypeId} {w0 w w' : World} {base : Nat} {v : Value} {xs : List Bool} (hb : Below base w0 w) (hB : base ≤ w.heap.size) (h : Own k e w base v xs) (hg : w.grownBy w' v.ownBlock) : Below base w0 w' :=
  hb.grown hg hB fun g e => (h.block g e).1
theorem Below.own1 {k : Unit} {e : TypeId} {w0 w w' : World} {base : Nat} {v : Value} {xs : List Bool} {o : Obj} (hb : Below base w0 w) (hB : base ≤ w.heap.size) (h : Own k e w base v xs) (hg : (w.alloc o).grownBy w' v.ownBlock) : Below base w0 w' :=
  Below.own (hb.alloc hB o) (by simp; omega) (h.alloc o) hg
theorem Row.one (k : Unit) (w : World) (t : TypeId) (x : Bool) (h : (Lit.bool x).wf = true) : Row k (w.alloc (.cells #[.bool x] t)) (w.heap.size + 1) (some ⟨w.heap.size, 0, none⟩) [x] :=
  Row.new k w t [x] [x] (by simpa using h) (List.prefix_refl _)
end Go.Proofs.YtcmbdhmhkfhjfaaGreat.L
namespace Go.Proofs.YtcmbdhmhkfhjfaaGreat.L
open Go.RowKit
set_option linter.unusedVariables false

theorem info_bool : (Tryz.prog.info? 4).map (fun i => (i.zero, i.size, i.bytes)) = some (some (.bool false), 1, 1) := by kernel_rfl

theorem made_zero (z : Bool) (n : Nat) : madeCells (Value.bool z).cells (n * 1) = blk () (List.replicate n z) := by
  apply Array.toList_inj.1
  rw [show (Value.bool z).cells = #[Value.bool z] from rfl, toList_madeCells_one, Nat.mul_one]
  simp [blk]

theorem make_bool (n : Nat) (hn : n ≤ 140737488355328) (W : World) :
    (Instr.makeSlice 26 (.int .i64 (n : Int)) (.int .i64 (n : Int))).run Tryz.prog W = .ok (.slice (some ⟨W.heap.size, 0, none⟩) n n) (W.alloc (.cells (blk () (List.replicate n false)) 4)) := by
  obtain ⟨i, hi, hz, hs, hb⟩ := info_parts info_bool
  have h := run_make (P := Tryz.prog) W 26 4 i (.bool false) Tryz.underlying26 hi hz .i64 .i64 n n (by omega) (by omega) (by rw [hb]; omega) (by omega)
  rw [h, hs, Int.toNat_natCast, made_zero]

def marks5 : List Bool := [true, true, true, true, true]

theorem same_yes_bool (A A' : Option Addr) (n c c' : Nat) (xs : List Bool) (w : World) (B B' : Nat) (hr : Row () w B A xs) (hr' : Row () w B' A' xs) (hn : xs.length = n) (hb : n ≤ 140737488355328) :
    Calls Tryz.prog 36 #[.slice A n c, .slice A' n c'] w fun e w' => e = .returned (.bool true) ∧ ∃ m, w' = w.drewN m := by
  go_enter Tryz.func36, Tryz.ntmps36
  go_wp2
  go_loopw [5] (fun i wr => ∃ k nq : Nat, k ≤ n ∧ i = .int .i64 k ∧ wr = w.drewN nq) (fun i _ => n - (intOf i).toNat)
  case atStart => exact ⟨0, 0, by omega, rfl, rfl⟩
  case round =>
    obtain ⟨k, nq, hk, rfl, rfl⟩ := hrel
    by_cases hlt : k < n
    · obtain ⟨b, o, rfl, hb1, hc1⟩ := hr.at_ (i := k) (by omega)
      obtain ⟨b', o', rfl, hb1', hc1'⟩ := hr'.at_ (i := k) (by omega)
      have hlt' : (k : Int) < (n : Int) := by omega
      go_wp2
      go_quiet (fail)
      go_wp2
      go_roundw
      case rel => exact ⟨k + 1, _, by omega, by go_num, rfl⟩
      case measure => simp [intOf]; omega
    · go_wp2
      go_ret
      exact ⟨rfl, nq, rfl⟩

end Go.Proofs.YtcmbdhmhkfhjfaaGreat.L
namespace Go.Proofs.YtcmbdhmhkfhjfaaGreat.L
open Go.RowKit
set_option linter.unusedVariables false

def Makes (k : Unit) (t : TypeId) (w : World) (xs : List Bool) (e : Ending) (w' : World) : Prop := ∃ v, e = .returned v ∧ Own k t w' w.heap.size v xs ∧ Below w.heap.size w w'

def Lays (k : Unit) (t : TypeId) (w : World) (xs : List Bool) (m : Nat) (e : Ending) (w' : World) : Prop :=
  e = .returned (.slice (some ⟨w.heap.size, 0, none⟩) m m) ∧ w'.heap[w.heap.size]? = some (.cells (blk k xs) t (0, 0)) ∧ Below w.heap.size w w'

set_option maxHeartbeats 400000 in
theorem copy_bool (A : Option Addr) (n c : Nat) (xs : List Bool) (w : World) (hr : Row () w w.heap.size A xs) (hn : xs.length = n) (hb : n ≤ 140737488355328) : 
    Calls Tryz.prog 23 #[.slice A n c] w (Makes () 4 w xs) := by
  go_enter Tryz.func23, Tryz.ntmps23
  go_wp2
  go_loopw [3, 4] (fun v i wr => ∃ k : Nat, k ≤ n ∧ i = .int .i64 k ∧ Own () 4 wr w.heap.size v (xs.take k) ∧ Below w.heap.size w wr) (fun _ i _ => n - (intOf i).toNat)
  case atStart => exact ⟨0, by omega, rfl, Own.nil _ _ _ _, Below.refl _ _⟩
  case round =>
    obtain ⟨k, hk, rfl, hown, hbel⟩ := hrel
    by_cases hlt : k < n
    · obtain ⟨b, o, rfl, hb1, hc1⟩ := (hr.below hbel).at_ (i := k) (by omega)
      have hl : Hid ((xs.take k).length = k) := by show _ = _; simp; omega
      have hone := Row.one () wr 4 (nth xs k) (hr.wf_at (by omega))
      have hsz := hbel.size
      have HT := Lib.hid (take_step xs k (by omega))
      go_wp2_with (at_builtin; refine wpList_append_row _ rfl _ _ 26 rfl w.heap.size () 4 1 Tryz.underlying26 info_bool _ (xs.take k) rfl (hown.alloc _) _ _ 1 1 [nth xs k] rfl hone rfl (by rw [hl.out]; omega) (by rw [hl.out]; simp only [maxLen]; omega) (by simp; omega) ?_; intro v1 w1 hown1 hg1)
      have hbel1 := Below.own1 hbel hsz hown hg1
      rw [← HT.out] at hown1
      clear hone hc1 hg1 hown
      go_wp2
      go_roundw
      case rel => exact ⟨k + 1, by omega, by go_num, hown1, hbel1⟩
      case measure => simp [intOf]; omega
    · have hx : xs.take k = xs := List.take_of_length_le (by omega)
      rw [hx] at hown
      clear hx
      go_wp2
      go_ret
      exact ⟨_, rfl, hown, hbel⟩
end Go.Proofs.YtcmbdhmhkfhjfaaGreat.L
namespace Go.Proofs.YtcmbdhmhkfhjfaaGreat.L
open Go.RowKit
set_option linter.unusedVariables false
set_option linter.unusedVariables false

theorem block_setCell (w : World) (g i : Nat) (k : Unit) (t : TypeId) (l : List Bool) (v : Bool) (h : w.heap[g]? = some (.cells (blk k l) t (0, 0))) :
    (w.setCell ⟨g, i, none⟩ (.bool v)).heap[g]? = some (.cells (blk k (l.set i v)) t (0, 0)) := by
  simp [World.setCell, Array.getElem?_modify, h, blk_set]
theorem block_frozen (w : World) (g i : Nat) (cs : Array Value) (t : TypeId) (h : w.heap[g]? = some (.cells cs t (0, 0))) : w.frozen? ⟨g, i, none⟩ = false := by simp [World.frozen?, h]
theorem grown_setCell {a w : World} {g : Nat} (h : a.grownBy w (some g)) (i : Nat) (u : Value) : a.grownBy (w.setCell ⟨g, i, none⟩ u) (some g) :=
  ⟨h.os, h.tape, h.output, by simpa [World.setCell] using h.size, fun k hk hne => (Below.heap_setCell w ⟨g, i, none⟩ u k (fun e => hne (by rw [e]))).trans (h.block k hk hne)⟩
theorem block_lt {w : World} {g : Nat} {o : Obj} (h : w.heap[g]? = some o) : g < w.heap.size := by
  rcases Nat.lt_or_ge g w.heap.size with hlt | hge
  · exact hlt
  · rw [Array.getElem?_eq_none hge] at h; cases h

end Go.Proofs.YtcmbdhmhkfhjfaaGreat.L
namespace Go.Proofs.YtcmbdhmhkfhjfaaGreat.L
open Go.RowKit
set_option linter.unusedVariables false
set_option linter.unusedVariables false

theorem below_drewN {B : Nat} {a w : World} (h : Below B a w) (n : Nat) : Below B a (w.drewN n) := ⟨h.os, h.tape, h.output, h.size, h.block⟩
def Bk (w : World) (g : Nat) (l : List Bool) : Prop := w.heap[g]? = some (.cells (blk () l) 4 (0, 0))
theorem Bk.below {w w' : World} {g : Nat} {l : List Bool} (h : Bk w g l) (hb : Below w.heap.size w w') : Bk w' g l := (hb.block g (block_lt h)).trans h
theorem Bk.lt {w : World} {g : Nat} {l : List Bool} (h : Bk w g l) : g < w.heap.size := block_lt h
theorem Bk.drewN {w : World} {g : Nat} {l : List Bool} (h : Bk w g l) (n : Nat) : Bk (w.drewN n) g l := h
theorem Bk.row {w : World} {g : Nat} {l : List Bool} (h : Bk w g l) (xs : List Bool) (hw : ∀ x ∈ xs, (Lit.bool x).wf = true) (hp : xs <+: l) : Row () w w.heap.size (some ⟨g, 0, none⟩) xs :=
  (Row.of_block h xs hw hp).more h.lt
def Li (w : World) (A : Option Addr) (m g : Nat) (l r : List Bool) : Prop := A = none ∧ m = 0 ∨ A = some ⟨g, 0, none⟩ ∧ Bk w g (l ++ r)
theorem Li.below {w w' : World} {A : Option Addr} {m g : Nat} {l r : List Bool} (h : Li w A m g l r) (hb : Below w.heap.size w w') : Li w' A m g l r := by
  rcases h with h | ⟨h1, h2⟩
  · exact .inl h
  · exact .inr ⟨h1, h2.below hb⟩
theorem Li.row {w : World} {A : Option Addr} {m g : Nat} {l r : List Bool} (h : Li w A m g l r) (hm : l.length = m) (hw : ∀ x ∈ l, (Lit.bool x).wf = true) : Row () w w.heap.size A l := by
  rcases h with ⟨h1, h2⟩ | ⟨h1, h2⟩
  · have : l = [] := List.eq_nil_of_length_eq_zero (by omega)
    subst this
    exact Row.nil _ _ _ _
  · subst h1
    exact h2.row l hw (List.prefix_append _ _)
theorem bel_drewN (w : World) (n : Nat) : Below w.heap.size w (w.drewN n) := ⟨rfl, rfl, rfl, Nat.le_refl _, fun _ _ => rfl⟩

def Gives (w : World) (l : List Bool) (err : Int) (e : Ending) (w' : World) : Prop :=
  ∃ A m, e = .returned (.tuple #[.slice A m m, .int .i64 err]) ∧ l.length = m ∧ Li w' A m w.heap.size l [] ∧ Below w.heap.size w w'
def GivesOwn (w : World) (l : List Bool) (err : Int) (e : Ending) (w' : World) : Prop :=
  ∃ v, e = .returned (.tuple #[v, .int .i64 err]) ∧ Own () 4 w' w.heap.size v l ∧ Below w.heap.size w w'
theorem Li.lt {w : World} {A : Option Addr} {m g : Nat} {l r : List Bool} (h : Li w A m g l r) : A = none ∨ g < w.heap.size := by
  rcases h with ⟨h1, _⟩ | ⟨_, h2⟩
  · exact .inl h1
  · exact .inr h2.lt
end Go.Proofs.YtcmbdhmhkfhjfaaGreat.L
namespace Go.Proofs.YtcmbdhmhkfhjfaaGreat.W
open Go.RowKit

theorem info_u16 : (Tryz.prog.info? 58).map (fun i => (i.zero, i.size, i.bytes)) = some (some (.int .u16 0), 1, 2) := by kernel_rfl

theorem made_zero (z : Int) (n : Nat) : madeCells (Value.int .u16 z).cells (n * 1) = blk .u16 (List.replicate n z) := by
  apply Array.toList_inj.1
  rw [show (Value.int .u16 z).cells = #[Value.int .u16 z] from rfl, toList_madeCells_one, Nat.mul_one]
  simp [blk]

def marks5 : List Int := [42330, 42330, 42330, 42330, 42330]

theorem same_yes_u16 (A A' : Option Addr) (n c c' : Nat) (xs : List Int) (w : World) (B B' : Nat) (hr : Row .u16 w B A xs) (hr' : Row .u16 w B' A' xs) (hn : xs.length = n) (hb : n ≤ 70368744177664) :
    Calls Tryz.prog 37 #[.slice A n c, .slice A' n c'] w fun e w' => e = .returned (.bool true) ∧ ∃ m, w' = w.drewN m := by
  go_enter Tryz.func37, Tryz.ntmps37
  go_wp2
  go_loopw [5] (fun i wr => ∃ k nq : Nat, k ≤ n ∧ i = .int .i64 k ∧ wr = w.drewN nq) (fun i _ => n - (intOf i).toNat)
  case atStart => exact ⟨0, 0, by omega, rfl, rfl⟩
  case round =>
    obtain ⟨k, nq, hk, rfl, rfl⟩ := hrel
    by_cases hlt : k < n
    · obtain ⟨b, o, rfl, hb1, hc1⟩ := hr.at_ (i := k) (by omega)
      obtain ⟨b', o', rfl, hb1', hc1'⟩ := hr'.at_ (i := k) (by omega)
      have hlt' : (k : Int) < (n : Int) := by omega
      go_wp2
      go_quiet (fail)
      go_wp2
      go_roundw
      case rel => exact ⟨k + 1, _, by omega, by go_num, rfl⟩
      case measure => simp [intOf]; omega
    · go_wp2
      go_ret
      exact ⟨rfl, nq, rfl⟩

end Go.Proofs.YtcmbdhmhkfhjfaaGreat.W
namespace Go.Proofs.YtcmbdhmhkfhjfaaGreat.W
open Go.RowKit

def Makes (k : IntKind) (t : TypeId) (w : World) (xs : List Int) (e : Ending) (w' : World) : Prop := ∃ v, e = .returned v ∧ Own k t w' w.heap.size v xs ∧ Below w.heap.size w w'

def Lays (k : IntKind) (t : TypeId) (w : World) (xs : List Int) (m : Nat) (e : Ending) (w' : World) : Prop :=
  e = .returned (.slice (some ⟨w.heap.size, 0, none⟩) m m) ∧ w'.heap[w.heap.size]? = some (.cells (blk k xs) t (0, 0)) ∧ Below w.heap.size w w'

set_option maxHeartbeats 400000 in
theorem copy_u16 (A : Option Addr) (n c : Nat) (xs : List Int) (w : World) (hr : Row .u16 w w.heap.size A xs) (hn : xs.length = n) (hb : n ≤ 70368744177664) : 
    Calls Tryz.prog 24 #[.slice A n c] w (Makes .u16 58 w xs) := by
  go_enter Tryz.func24, Tryz.ntmps24
  go_wp2
  go_loopw [3, 4] (fun v i wr => ∃ k : Nat, k ≤ n ∧ i = .int .i64 k ∧ Own .u16 58 wr w.heap.size v (xs.take k) ∧ Below w.heap.size w wr) (fun _ i _ => n - (intOf i).toNat)
  case atStart => exact ⟨0, by omega, rfl, Own.nil _ _ _ _, Below.refl _ _⟩
  case round =>
    obtain ⟨k, hk, rfl, hown, hbel⟩ := hrel
    by_cases hlt : k < n
    · obtain ⟨b, o, rfl, hb1, hc1⟩ := (hr.below hbel).at_ (i := k) (by omega)
      have hl : Hid ((xs.take k).length = k) := by show _ = _; simp; omega
      have hone := Row.one .u16 wr 58 (nth xs k) (hr.wf_at (by omega))
      have hsz := hbel.size
      have HT := Lib.hid (take_step xs k (by omega))
      go_wp2_with (at_builtin; refine wpList_append_row _ rfl _ _ 27 rfl w.heap.size .u16 58 2 Tryz.underlying27 info_u16 _ (xs.take k) rfl (hown.alloc _) _ _ 1 1 [nth xs k] rfl hone rfl (by rw [hl.out]; omega) (by rw [hl.out]; simp only [maxLen]; omega) (by simp; omega) ?_; intro v1 w1 hown1 hg1)
      have hbel1 := Below.own1 hbel hsz hown hg1
      rw [← HT.out] at hown1
      clear hone hc1 hg1 hown
      go_wp2
      go_roundw
      case rel => exact ⟨k + 1, by omega, by go_num, hown1, hbel1⟩
      case measure => simp [intOf]; omega
    · have hx : xs.take k = xs := List.take_of_length_le (by omega)
      rw [hx] at hown
      clear hx
      go_wp2
      go_ret
      exact ⟨_, rfl, hown, hbel⟩
end Go.Proofs.YtcmbdhmhkfhjfaaGreat.W
namespace Go.Proofs.YtcmbdhmhkfhjfaaGreat.W
open Go.RowKit
set_option linter.unusedVariables false

theorem below_drewN {B : Nat} {a w : World} (h : Below B a w) (n : Nat) : Below B a (w.drewN n) := ⟨h.os, h.tape, h.output, h.size, h.block⟩
def Bk (w : World) (g : Nat) (l : List Int) : Prop := w.heap[g]? = some (.cells (blk .u16 l) 58 (0, 0))
theorem Bk.below {w w' : World} {g : Nat} {l : List Int} (h : Bk w g l) (hb : Below w.heap.size w w') : Bk w' g l := (hb.block g (block_lt h)).trans h
theorem Bk.lt {w : World} {g : Nat} {l : List Int} (h : Bk w g l) : g < w.heap.size := block_lt h
theorem Bk.drewN {w : World} {g : Nat} {l : List Int} (h : Bk w g l) (n : Nat) : Bk (w.drewN n) g l := h
theorem Bk.row {w : World} {g : Nat} {l : List Int} (h : Bk w g l) (xs : List Int) (hw : ∀ x ∈ xs, (Lit.int .u16 x).wf = true) (hp : xs <+: l) : Row .u16 w w.heap.size (some ⟨g, 0, none⟩) xs :=
  (Row.of_block h xs hw hp).more h.lt
def Li (w : World) (A : Option Addr) (m g : Nat) (l r : List Int) : Prop := A = none ∧ m = 0 ∨ A = some ⟨g, 0, none⟩ ∧ Bk w g (l ++ r)
theorem Li.below {w w' : World} {A : Option Addr} {m g : Nat} {l r : List Int} (h : Li w A m g l r) (hb : Below w.heap.size w w') : Li w' A m g l r := by
  rcases h with h | ⟨h1, h2⟩
  · exact .inl h
  · exact .inr ⟨h1, h2.below hb⟩
theorem Li.row {w : World} {A : Option Addr} {m g : Nat} {l r : List Int} (h : Li w A m g l r) (hm : l.length = m) (hw : ∀ x ∈ l, (Lit.int .u16 x).wf = true) : Row .u16 w w.heap.size A l := by
  rcases h with ⟨h1, h2⟩ | ⟨h1, h2⟩
  · have : l = [] := List.eq_nil_of_length_eq_zero (by omega)
    subst this
    exact Row.nil _ _ _ _
  · subst h1
    exact h2.row l hw (List.prefix_append _ _)
theorem bel_drewN (w : World) (n : Nat) : Below w.heap.size w (w.drewN n) := ⟨rfl, rfl, rfl, Nat.le_refl _, fun _ _ => rfl⟩

def Gives (w : World) (l : List Int) (err : Int) (e : Ending) (w' : World) : Prop :=
  ∃ A m, e = .returned (.tuple #[.slice A m m, .int .i64 err]) ∧ l.length = m ∧ Li w' A m w.heap.size l [] ∧ Below w.heap.size w w'
def GivesOwn (w : World) (l : List Int) (err : Int) (e : Ending) (w' : World) : Prop :=
  ∃ v, e = .returned (.tuple #[v, .int .i64 err]) ∧ Own .u16 58 w' w.heap.size v l ∧ Below w.heap.size w w'
theorem Li.lt {w : World} {A : Option Addr} {m g : Nat} {l r : List Int} (h : Li w A m g l r) : A = none ∨ g < w.heap.size := by
  rcases h with ⟨h1, _⟩ | ⟨_, h2⟩
  · exact .inl h1
  · exact .inr h2.lt
end Go.Proofs.YtcmbdhmhkfhjfaaGreat.W
namespace Go.Proofs.YtcmbdhmhkfhjfaaGreat.L
open Go.RowKit
set_option linter.unusedVariables false
set_option linter.unusedVariables false
def spoilL (k : Nat) (l : List Bool) : List Bool := (l.take k).map (! ·) ++ l.drop k
theorem spoilL_length (k : Nat) (l : List Bool) : (spoilL k l).length = l.length := by simp [spoilL]; omega
theorem bool_wf (x : Bool) : (Lit.bool x).wf = true := rfl
theorem spoilL_wf (k : Nat) (l : List Bool) (h : ∀ x ∈ l, (Lit.bool x).wf = true) : ∀ x ∈ spoilL k l, (Lit.bool x).wf = true := by
  intro x hx
  rcases List.mem_append.1 hx with hx | hx
  · obtain ⟨y, hy, rfl⟩ := List.mem_map.1 hx
    exact bool_wf _
  · exact h x (List.mem_of_mem_drop hx)
end Go.Proofs.YtcmbdhmhkfhjfaaGreat.L
namespace Go.Proofs.YtcmbdhmhkfhjfaaGreat.W
open Go.RowKit
set_option linter.unusedVariables false
def spoil16 (k : Nat) (l : List Int) : List Int := (l.take k).map (bits .xor .u16 · 23205) ++ l.drop k
theorem spoil16_length (k : Nat) (l : List Int) : (spoil16 k l).length = l.length := by simp [spoil16]; omega
theorem xor90_wf (x : Int) (h : (Lit.int .u16 x).wf = true) : (Lit.int .u16 (bits .xor .u16 x 23205)).wf = true := by
  have hx := wf_u16 h
  obtain ⟨n, rfl⟩ := Int.eq_ofNat_of_zero_le hx.1
  have hn : n < 65536 := by omega
  have := u16_xor_nat n 23205 hn (by omega)
  show (Lit.int .u16 (bits .xor .u16 (n : Int) ((23205 : Nat) : Int))).wf = true
  rw [this]
  have hlt : n ^^^ 23205 < 65536 := Nat.xor_lt_two_pow (n := 16) hn (by omega)
  simp [Lit.wf, IntKind.min, IntKind.max, IntKind.signed, IntKind.bits]; omega
theorem spoil16_wf (k : Nat) (l : List Int) (h : ∀ x ∈ l, (Lit.int .u16 x).wf = true) : ∀ x ∈ spoil16 k l, (Lit.int .u16 x).wf = true := by
  intro x hx
  rcases List.mem_append.1 hx with hx | hx
  · obtain ⟨y, hy, rfl⟩ := List.mem_map.1 hx
    exact xor90_wf y (h y (List.mem_of_mem_take hy))
  · exact h x (List.mem_of_mem_drop hx)
end Go.Proofs.YtcmbdhmhkfhjfaaGreat.W
namespace Go.Proofs.YtcmbdhmhkfhjfaaGreat
open Go.RowKit
set_option linter.unusedVariables false

structure Req where
  c : Int
  a : Int
  n : Int
  on : List Bool
  set : List Int
  fl : List Int
def Req.zero : Req := ⟨0, 0, 0, [], [], []⟩

structure Asked (w : World) (B : Nat) (q : Req) (Ao As Ap : Option Addr) (lo ls lp : Nat) : Prop where
  on : L.Row () w B Ao q.on
  set : Row .u16 w B As q.set
  fl : Row .i64 w B Ap q.fl
  lo : q.on.length = lo
  ls : q.set.length = ls
  lp : q.fl.length = 3 * lp
theorem Asked.below {w w' : World} {B : Nat} {q : Req} {Ao As Ap : Option Addr} {lo ls lp : Nat} (h : Asked w B q Ao As Ap lo ls lp) (hb : Below B w w') : Asked w' B q Ao As Ap lo ls lp :=
  ⟨h.on.below hb, h.set.below hb, h.fl.below hb, h.lo, h.ls, h.lp⟩
theorem Asked.more {w : World} {B B' : Nat} {q : Req} {Ao As Ap : Option Addr} {lo ls lp : Nat} (h : Asked w B q Ao As Ap lo ls lp) (hB : B ≤ B') : Asked w B' q Ao As Ap lo ls lp :=
  ⟨h.on.more hB, h.set.more hB, h.fl.more hB, h.lo, h.ls, h.lp⟩
theorem Asked.up {w w' : World} {q : Req} {Ao As Ap : Option Addr} {lo ls lp : Nat} (h : Asked w w.heap.size q Ao As Ap lo ls lp) (hb : Below w.heap.size w w') : Asked w' w'.heap.size q Ao As Ap lo ls lp :=
  (h.below hb).more hb.size
theorem Asked.alloc {w : World} {B : Nat} {q : Req} {Ao As Ap : Option Addr} {lo ls lp : Nat} (h : Asked w B q Ao As Ap lo ls lp) (hB : B ≤ w.heap.size) (o : Obj) : Asked (w.alloc o) B q Ao As Ap lo ls lp :=
  h.below ((Below.refl _ _).alloc hB o)
theorem Asked.drewN {w : World} {B : Nat} {q : Req} {Ao As Ap : Option Addr} {lo ls lp : Nat} (h : Asked w B q Ao As Ap lo ls lp) (n : Nat) : Asked (w.drewN n) B q Ao As Ap lo ls lp := ⟨h.on, h.set, h.fl, h.lo, h.ls, h.lp⟩
theorem Asked.zero (w : World) (B : Nat) : Asked w B Req.zero none none none 0 0 0 := ⟨L.Row.nil _ _ _ _, Row.nil _ _ _ _, Row.nil _ _ _ _, rfl, rfl, rfl⟩
theorem heap_new_at (w : World) (o : Obj) {g : Nat} (h : w.heap.size = g) : (w.alloc o).heap[g]? = some o := by subst h; exact heap_alloc_new w o

theorem SameAsk_yes (q : Req) (Ao As Ap Ao' As' Ap' : Option Addr) (lo ls lp co cs cp co' cs' cp' : Nat) (w : World) (h : Asked w w.heap.size q Ao As Ap lo ls lp) (h' : Asked w w.heap.size q Ao' As' Ap' lo ls lp)
    (b1 : lo ≤ 1000000) (b2 : ls ≤ 1000000) (b3 : lp ≤ 1000000) :
    Calls Tryz.prog 45 #[.agg #[.int .i64 q.c, .int .i64 q.a, .int .i64 q.n, .slice Ao lo co, .slice As ls cs, .slice Ap lp cp], .agg #[.int .i64 q.c, .int .i64 q.a, .int .i64 q.n, .slice Ao' lo co', .slice As' ls cs', .slice Ap' lp cp']] w
      fun e w' => e = .returned (.bool true) ∧ Below w.heap.size w w' := by
  have bel := (bel_alloc w (.cells #[.int .i64 q.c, .int .i64 q.a, .int .i64 q.n, .slice Ao lo co, .slice As ls cs, .slice Ap lp cp] 68)).alloc (by simp) (.cells #[.int .i64 q.c, .int .i64 q.a, .int .i64 q.n, .slice Ao' lo co', .slice As' ls cs', .slice Ap' lp cp'] 68)
  have H := Lib.hid (h.below bel)
  have H' := Lib.hid (h'.below bel)
  clear h h'
  go_enter Tryz.func45, Tryz.ntmps45
  go_wp2_with fail
  refine (L.same_yes_bool _ _ _ _ _ q.on _ _ _ H.out.on H'.out.on H.out.lo (by omega)).mono ?_
  rintro e w' ⟨rfl, m1, rfl⟩
  go_wp2_with fail
  refine (W.same_yes_u16 _ _ _ _ _ q.set _ _ _ (H.out.set.drewN m1) (H'.out.set.drewN m1) H.out.ls (by omega)).mono ?_
  rintro e w' ⟨rfl, m2, rfl⟩
  rw [World.drewN_drewN]
  go_wp2_with fail
  refine (same_yes_part _ _ _ _ _ q.fl _ _ _ (H.out.fl.drewN (m1 + m2)) (H'.out.fl.drewN (m1 + m2)) H.out.lp (by omega)).mono ?_
  rintro e w' ⟨rfl, m3, rfl⟩
  rw [World.drewN_drewN]
  go_wp2
  go_ret
  exact ⟨rfl, below_drewN bel _⟩

theorem Own.set {k : IntKind} {e : TypeId} {w : World} {base : Nat} {v : Value} {xs : List Int} (h : Own k e w base v xs) {g : Nat} (hg : g < base) (i : Nat) (u : Value) : Own k e (w.setCell ⟨g, i, none⟩ u) base v xs :=
  h.kept (grown_setCell (World.grownBy.refl _ _) i u) (.inr fun hv => by have := (h.block g hv).1; omega)
theorem L.Own.set {k : Unit} {e : TypeId} {w : World} {base : Nat} {v : Value} {xs : List Bool} (h : L.Own k e w base v xs) {g : Nat} (hg : g < base) (i : Nat) (u : Value) : L.Own k e (w.setCell ⟨g, i, none⟩ u) base v xs :=
  h.kept (grown_setCell (World.grownBy.refl _ _) i u) (.inr fun hv => by have := (h.block g hv).1; omega)
theorem POwn.set {e : TypeId} {w : World} {base : Nat} {v : Value} {fl : List Int} (h : POwn e w base v fl) {g : Nat} (hg : g < base) (i : Nat) (u : Value) : POwn e (w.setCell ⟨g, i, none⟩ u) base v fl := by
  rcases h with h | ⟨g', n, cap, r, h1, h2, h3, h4, h5⟩
  · exact .inl h
  · exact .inr ⟨g', n, cap, r, h1, h2, h3, (Below.heap_setCell w ⟨g, i, none⟩ u g' (by simp; omega)).trans h4, h5⟩

def put6 (w : World) (g : Nat) (v0 v1 v2 v3 v4 v5 : Value) : World :=
  (((((w.setCell ⟨g, 0, none⟩ v0).setCell ⟨g, 1, none⟩ v1).setCell ⟨g, 2, none⟩ v2).setCell ⟨g, 3, none⟩ v3).setCell ⟨g, 4, none⟩ v4).setCell ⟨g, 5, none⟩ v5
theorem put6_heap {w : World} {g : Nat} {t : TypeId} {u0 u1 u2 u3 u4 u5 : Value} (h : w.heap[g]? = some (.cells #[u0, u1, u2, u3, u4, u5] t (0, 0))) (v0 v1 v2 v3 v4 v5 : Value) :
    (put6 w g v0 v1 v2 v3 v4 v5).heap[g]? = some (.cells #[v0, v1, v2, v3, v4, v5] t (0, 0)) :=
  box_set (box_set (box_set (box_set (box_set (box_set h 0 v0) 1 v1) 2 v2) 3 v3) 4 v4) 5 v5
theorem Own.put6 {k : IntKind} {e : TypeId} {w : World} {base : Nat} {v : Value} {xs : List Int} (h : Own k e w base v xs) {g : Nat} (hg : g < base) (v0 v1 v2 v3 v4 v5 : Value) : Own k e (put6 w g v0 v1 v2 v3 v4 v5) base v xs :=
  (((((h.set hg 0 v0).set hg 1 v1).set hg 2 v2).set hg 3 v3).set hg 4 v4).set hg 5 v5
theorem L.Own.put6 {k : Unit} {e : TypeId} {w : World} {base : Nat} {v : Value} {xs : List Bool} (h : L.Own k e w base v xs) {g : Nat} (hg : g < base) (v0 v1 v2 v3 v4 v5 : Value) : L.Own k e (put6 w g v0 v1 v2 v3 v4 v5) base v xs :=
  (((((h.set hg 0 v0).set hg 1 v1).set hg 2 v2).set hg 3 v3).set hg 4 v4).set hg 5 v5
theorem POwn.put6 {e : TypeId} {w : World} {base : Nat} {v : Value} {fl : List Int} (h : POwn e w base v fl) {g : Nat} (hg : g < base) (v0 v1 v2 v3 v4 v5 : Value) : POwn e (put6 w g v0 v1 v2 v3 v4 v5) base v fl :=
  (((((h.set hg 0 v0).set hg 1 v1).set hg 2 v2).set hg 3 v3).set hg 4 v4).set hg 5 v5
theorem below_put6 {B : Nat} {a w : World} {g : Nat} (h : Below B a w) (hg : B ≤ g) (v0 v1 v2 v3 v4 v5 : Value) : Below B a (put6 w g v0 v1 v2 v3 v4 v5) :=
  below_setCell (below_setCell (below_setCell (below_setCell (below_setCell (below_setCell h hg 0 v0) hg 1 v1) hg 2 v2) hg 3 v3) hg 4 v4) hg 5 v5
theorem cells6 {w : World} {g : Nat} {t : TypeId} {v0 v1 v2 v3 v4 v5 : Value} (h : w.heap[g]? = some (.cells #[v0, v1, v2, v3, v4, v5] t (0, 0))) :
    (w.cell? ⟨g, 0, none⟩ = some v0 ∧ w.cell? ⟨g, 1, none⟩ = some v1 ∧ w.cell? ⟨g, 2, none⟩ = some v2) ∧ (w.cell? ⟨g, 3, none⟩ = some v3 ∧ w.cell? ⟨g, 4, none⟩ = some v4 ∧ w.cell? ⟨g, 5, none⟩ = some v5) ∧ ∀ i, w.frozen? ⟨g, i, none⟩ = false :=
  ⟨⟨cell_of_row w g 0 _ _ _ h, cell_of_row w g 1 _ _ _ h, cell_of_row w g 2 _ _ _ h⟩, ⟨cell_of_row w g 3 _ _ _ h, cell_of_row w g 4 _ _ _ h, cell_of_row w g 5 _ _ _ h⟩, fun i => block_frozen w g i _ _ h⟩
end Go.Proofs.YtcmbdhmhkfhjfaaGreat
namespace Go.Proofs.YtcmbdhmhkfhjfaaGreat
open Go.RowKit
def be : Nat → Nat → List Int
  | 0, _ => []
  | n + 1, v => ((v / 256 ^ n % 256 : Nat) : Int) :: be n v
def bval (xs : List Int) : Nat := xs.foldl (fun v x => v * 256 + x.toNat) 0
end Go.Proofs.YtcmbdhmhkfhjfaaGreat
namespace Go.Proofs.YtcmbdhmhkfhjfaaGreat
open Go.RowKit
set_option linter.unusedVariables false
end Go.Proofs.YtcmbdhmhkfhjfaaGreat
namespace Go.Proofs.YtcmbdhmhkfhjfaaGreat
open Go.RowKit
set_option linter.unusedVariables false

def Errs (n : Int) (w : World) (e : Ending) (w' : World) : Prop := e = .returned (.tuple #[.slice none 0 0, .int .i64 n]) ∧ w = w'
def Opens (w : World) (l : List Int) (m : Nat) (e : Ending) (w' : World) : Prop :=
  e = .returned (.tuple #[.slice (some ⟨w.heap.size, 0, none⟩) m m, .int .i64 0]) ∧ w'.heap[w.heap.size]? = some (.cells (blk .u8 l) 5 (0, 0)) ∧ Below w.heap.size w w'
def Makes2 (w : World) (xs : List Int) (e : Ending) (w' : World) : Prop := ∃ v, e = .returned (.tuple #[v, .int .i64 0]) ∧ Own .u8 5 w' w.heap.size v xs ∧ Below w.heap.size w w'

end Go.Proofs.YtcmbdhmhkfhjfaaGreat
namespace Go.Proofs.YtcmbdhmhkfhjfaaGreat
open Go.RowKit
set_option linter.unusedVariables false
def Tells (v e : Int) (w : World) (r : Ending) (w' : World) : Prop := r = .returned (.tuple #[.int .u64 v, .int .i64 e]) ∧ w = w'

end Go.Proofs.YtcmbdhmhkfhjfaaGreat
namespace Go.Proofs.YtcmbdhmhkfhjfaaGreat
open Go.RowKit

def wbytes : List Int → List Int
  | [] => []
  | x :: xs => be 2 x.toNat ++ wbytes xs
def word (ys : List Int) (i : Nat) : Int := nth ys (2 * i) * 256 + nth ys (2 * i + 1)
def wwords (ys : List Int) : List Int := (List.range (ys.length / 2)).map (word ys)
end Go.Proofs.YtcmbdhmhkfhjfaaGreat
namespace Go.Proofs.YtcmbdhmhkfhjfaaGreat
open Go.RowKit
set_option linter.unusedVariables false

end Go.Proofs.YtcmbdhmhkfhjfaaGreat
namespace Go.Proofs.YtcmbdhmhkfhjfaaGreat
open Go.RowKit
set_option linter.unusedVariables false

def wordsL (ys : List Int) : List Int := if ys.length % 2 = 1 then [] else wwords ys
def wordsE (ys : List Int) : Int := if ys.length % 2 = 1 then 22 else 0
theorem Lays.li {w w' : World} {l : List Int} {m : Nat} {e : Ending} (h : Lays .u8 5 w l m e w') : e = .returned (.slice (some ⟨w.heap.size, 0, none⟩) m m) ∧ Li w' (some ⟨w.heap.size, 0, none⟩) m w.heap.size l [] ∧ Below w.heap.size w w' :=
  ⟨h.1, .inr ⟨rfl, by rw [List.append_nil]; exact h.2.1⟩, h.2.2⟩
end Go.Proofs.YtcmbdhmhkfhjfaaGreat
namespace Go.Proofs.YtcmbdhmhkfhjfaaGreat
open Go.RowKit

def bsum (bs : List Bool) (j : Nat) : Nat → Nat
  | 0 => 0
  | t + 1 => bsum bs j t + (if L.nth bs (8 * j + t) then 2 ^ t else 0)
def pk (bs : List Bool) (m : Nat) : List Int := (List.range m).map fun j => ((bsum bs j 8 : Nat) : Int)
def bitAt (ys : List Int) (i : Nat) : Bool := decide ((nth ys (i / 8)).toNat / 2 ^ (i % 8) % 2 = 1)
def unpk (ys : List Int) (n : Nat) : List Bool := (List.range n).map (bitAt ys)
def spare (ys : List Int) (n : Nat) : Prop := ∃ i, n ≤ i ∧ i < 8 * ys.length ∧ bitAt ys i = true
def need (n : Nat) : Nat := (n + 7) / 8
end Go.Proofs.YtcmbdhmhkfhjfaaGreat
namespace Go.Proofs.YtcmbdhmhkfhjfaaGreat
open Go.RowKit
set_option linter.unusedVariables false
def spareB (ys : List Int) (n : Nat) : Bool := (List.range (8 * ys.length)).any fun i => decide (n ≤ i) && bitAt ys i
def unbitsE (ys : List Int) (n : Int) : Int := if n < 0 then 3 else if ys.length ≠ need n.toNat then 22 else if spareB ys n.toNat = true then 4 else 0
def unbitsL (ys : List Int) (n : Int) : List Bool := if n < 0 then [] else if ys.length ≠ need n.toNat then [] else if spareB ys n.toNat = true then [] else unpk ys n.toNat
end Go.Proofs.YtcmbdhmhkfhjfaaGreat
namespace Go.Proofs.YtcmbdhmhkfhjfaaGreat
open Go.RowKit
set_option linter.unusedVariables false

def mm (c : Int) : Int := if c = 1 ∨ c = 2 then 2000 else if c = 3 ∨ c = 4 then 125 else if c = 5 ∨ c = 6 then 1 else if c = 15 then 1968 else if c = 16 then 123 else if c = 20 then 35 else 0
theorem codes (c : Int) : c = 1 ∨ c = 2 ∨ c = 3 ∨ c = 4 ∨ c = 5 ∨ c = 6 ∨ c = 15 ∨ c = 16 ∨ c = 20 ∨ (c ≠ 1 ∧ c ≠ 2 ∧ c ≠ 3 ∧ c ≠ 4 ∧ c ≠ 5 ∧ c ≠ 6 ∧ c ≠ 15 ∧ c ≠ 16 ∧ c ≠ 20) := by omega
theorem mm_pos {c : Int} (h : 0 < mm c) : c = 1 ∨ c = 2 ∨ c = 3 ∨ c = 4 ∨ c = 5 ∨ c = 6 ∨ c = 15 ∨ c = 16 ∨ c = 20 := by
  unfold mm at h; split at h <;> omega
theorem mm_range (c : Int) : 0 ≤ mm c ∧ mm c ≤ 2000 := by
  unfold mm; split <;> omega
def stray (c a n : Int) (lo ls lp : Nat) : Bool :=
  if c = 20 then a != 0 || n != 0 || decide (0 < lo) || decide (0 < ls)
  else if c = 5 ∨ c = 15 then n != 0 || decide (0 < ls) || decide (0 < lp)
  else if c = 6 ∨ c = 16 then n != 0 || decide (0 < lo) || decide (0 < lp)
  else decide (0 < lo) || decide (0 < ls) || decide (0 < lp)
def many (c n : Int) (lo ls lp : Nat) : Int := if c = 5 ∨ c = 15 then lo else if c = 6 ∨ c = 16 then ls else if c = 20 then lp else n
def inPl (f r l : Int) : Bool := decide (1 ≤ f) && decide (f ≤ 65535) && decide (0 ≤ r) && decide (r ≤ 9999) && decide (1 ≤ l) && decide (l ≤ 10000 - r)
theorem inPl_iff (f r l : Int) : inPl f r l = true ↔ (1 ≤ f ∧ f ≤ 65535) ∧ (0 ≤ r ∧ r ≤ 9999) ∧ (1 ≤ l ∧ l ≤ 10000 - r) := by
  simp only [inPl, Bool.and_eq_true, decide_eq_true_eq]; omega
def okAt3 (fl : List Int) (i : Nat) : Bool := inPl (nth fl (3 * i)) (nth fl (3 * i + 1)) (nth fl (3 * i + 2))
def sumTo (fl : List Int) : Nat → Int
  | 0 => 0
  | k + 1 => sumTo fl k + (2 + 2 * nth fl (3 * k + 2))
def allOk (fl : List Int) : Nat → Bool
  | 0 => true
  | k + 1 => allOk fl k && okAt3 fl k
theorem allOk_le {fl : List Int} {n : Nat} (h : allOk fl n = true) : ∀ k, k < n → okAt3 fl k = true := by
  induction n with
  | zero => intro k hk; omega
  | succ n ih =>
    rw [allOk, Bool.and_eq_true] at h
    intro k hk
    rcases Nat.lt_or_ge k n with h1 | h1
    · exact ih h.1 k h1
    · obtain rfl : k = n := by omega
      exact h.2
theorem allOk_no {fl : List Int} {n k : Nat} (hk : k < n) (h : okAt3 fl k = false) : allOk fl n = false := by
  cases hn : allOk fl n with
  | false => rfl
  | true => rw [allOk_le hn k hk] at h; cases h
theorem sumTo_range {fl : List Int} {k : Nat} (h : allOk fl k = true) : 0 ≤ sumTo fl k ∧ sumTo fl k ≤ 20002 * k := by
  induction k with
  | zero => simp [sumTo]
  | succ k ih =>
    rw [allOk, Bool.and_eq_true] at h
    have h1 := ih h.1
    have h2 := (inPl_iff _ _ _).1 h.2
    rw [sumTo]; omega
def ptsE (fl : List Int) (n : Nat) : Int := if allOk fl n = true then (if 245 < sumTo fl n then 2 else 0) else 3
def chk (c a n : Int) (lo ls lp : Nat) (fl : List Int) : Int :=
  if mm c ≤ 0 then 20 else if stray c a n lo ls lp = true then 23 else if a < 0 ∨ 65536 ≤ a then 21
  else if many c n lo ls lp < 1 ∨ mm c < many c n lo ls lp then 22
  else if c = 20 then ptsE fl lp else if 65536 < a + many c n lo ls lp then 21 else 0
end Go.Proofs.YtcmbdhmhkfhjfaaGreat
namespace Go.Proofs.YtcmbdhmhkfhjfaaGreat
open Go.RowKit
set_option linter.unusedVariables false

theorem maxMany_any (c : Int) (w : World) : Calls Tryz.prog 103 #[.int .i64 c] w fun e w' => e = .returned (.int .i64 (mm c)) ∧ w' = w := by
  rcases codes c with rfl | rfl | rfl | rfl | rfl | rfl | rfl | rfl | rfl | ⟨h1, h2, h3, h4, h5, h6, h7, h8, h9⟩
  iterate 9
    · go_enter Tryz.func103, Tryz.ntmps103
      go_wp2
      go_ret
      exact ⟨rfl, rfl⟩
  have e : mm c = 0 := by simp [mm, *]
  rw [e]
  have b1 := beq_false_of_ne h1
  have b2 := beq_false_of_ne h2
  have b3 := beq_false_of_ne h3
  have b4 := beq_false_of_ne h4
  have b5 := beq_false_of_ne h5
  have b6 := beq_false_of_ne h6
  have b7 := beq_false_of_ne h7
  have b8 := beq_false_of_ne h8
  have b9 := beq_false_of_ne h9
  go_enter Tryz.func103, Tryz.ntmps103
  go_wp2
  go_ret
  exact ⟨rfl, rfl⟩
theorem isCode_any (c : Int) (w : World) : Calls Tryz.prog 100 #[.int .i64 c] w fun e w' => e = .returned (.bool (decide (0 < mm c))) ∧ w' = w := by
  go_enter Tryz.func100, Tryz.ntmps100
  go_wp2_with fail
  refine (maxMany_any c w).mono ?_
  rintro e w' ⟨rfl, rfl⟩
  go_wp2
  go_ret
  exact ⟨rfl, rfl⟩

set_option maxHeartbeats 2000000 in
theorem hasStray_any (c a n : Int) (Ao As Ap : Option Addr) (lo co ls cs lp cp : Nat) (w : World) (h : 0 < mm c) :
    Calls Tryz.prog 101 #[.agg #[.int .i64 c, .int .i64 a, .int .i64 n, .slice Ao lo co, .slice As ls cs, .slice Ap lp cp]] w fun e w' => e = .returned (.bool (stray c a n lo ls lp)) ∧ Below w.heap.size w w' := by
  rcases mm_pos h with rfl | rfl | rfl | rfl | rfl | rfl | rfl | rfl | rfl
  iterate 9
    · go_enter Tryz.func101, Tryz.ntmps101
      go_wp2
      all_goals (go_ret; refine ⟨?_, bel_alloc _ _⟩; (simp [stray, *] <;> omega))

set_option maxHeartbeats 2000000 in
theorem howMany_any (c a n : Int) (Ao As Ap : Option Addr) (lo co ls cs lp cp : Nat) (w : World) (h : 0 < mm c) :
    Calls Tryz.prog 102 #[.agg #[.int .i64 c, .int .i64 a, .int .i64 n, .slice Ao lo co, .slice As ls cs, .slice Ap lp cp]] w fun e w' => e = .returned (.int .i64 (many c n lo ls lp)) ∧ Below w.heap.size w w' := by
  rcases mm_pos h with rfl | rfl | rfl | rfl | rfl | rfl | rfl | rfl | rfl
  iterate 9
    · go_enter Tryz.func102, Tryz.ntmps102
      go_wp2
      go_ret
      exact ⟨rfl, bel_alloc _ _⟩

end Go.Proofs.YtcmbdhmhkfhjfaaGreat
