/-
  Texts of the proof of PlanValues, joined.
-/
import Derived.Test.YtcmbdhmhkfhjfaaGreatJPlanValuesB
import Derived.Deep.RegionHeld3
import Derived.Deep.AppendLies
import Derived.Test.YtcmbdhmhkfhjfaaGreatJPlanValuesA
import Derived.Maps.AppendAt
import Derived.WalkMore
import Derived.Deep.LoopGhost
import Derived.IntWalk
import Derived.BigQuiet
namespace Go.Proofs.YtcmbdhmhkfhjfaaGreat
open Go.RowKit
set_option linter.unusedVariables false

/-- The first k parts as they stand in a PDU. -/
def pbytes (fl : List Int) : Nat → List Int
  | 0 => []
  | k + 1 => pbytes fl k ++ (6 :: wbytes [nth fl (3 * k), nth fl (3 * k + 1), nth fl (3 * k + 2)])
theorem pbytes_length (fl : List Int) (k : Nat) : (pbytes fl k).length = 7 * k := by
  induction k with
  | zero => rfl
  | succ k ih => rw [pbytes, List.length_append, ih, List.length_cons, wbytes_length]; simp; omega
theorem pbytes_wf (fl : List Int) (k : Nat) : ∀ x ∈ pbytes fl k, (Lit.int .u8 x).wf = true := by
  induction k with
  | zero => simp [pbytes]
  | succ k ih =>
    rw [pbytes]
    refine wf_append ih fun x hx => ?_
    rcases List.mem_cons.1 hx with rfl | hx
    · decide
    · exact wbytes_wf _ x hx
/-- What stands behind the code in a PDU. -/
def tl (c a n : Int) (on : List Bool) (set fl : List Int) (lo ls lp : Nat) : List Int :=
  if c = 5 then wbytes [a, if L.nth on 0 = true then 65280 else 0]
  else if c = 6 then wbytes [a, nth set 0]
  else if c = 15 then wbytes [a, (lo : Int)] ++ ((need lo : Nat) : Int) :: pk on (need lo)
  else if c = 16 then wbytes [a, (ls : Int)] ++ ((2 * ls : Nat) : Int) :: wbytes set
  else if c = 20 then ((7 * lp : Nat) : Int) :: pbytes fl lp
  else wbytes [a, n]

theorem chk_zero {c a n : Int} {lo ls lp : Nat} {fl : List Int} (h : chk c a n lo ls lp fl = 0) :
    0 < mm c ∧ stray c a n lo ls lp = false ∧ (0 ≤ a ∧ a < 65536) ∧ (1 ≤ many c n lo ls lp ∧ many c n lo ls lp ≤ mm c) ∧ (c = 20 → allOk fl lp = true ∧ sumTo fl lp ≤ 245) ∧ (c ≠ 20 → a + many c n lo ls lp ≤ 65536) := by
  unfold chk at h
  split at h
  · cases h
  split at h
  · cases h
  split at h
  · cases h
  split at h
  · cases h
  rename_i h1 h2 h3 h4
  refine ⟨by omega, by simpa using h2, by omega, by omega, ?_, ?_⟩
  · intro h20
    rw [if_pos h20, ptsE] at h
    split at h
    · rename_i hok
      refine ⟨hok, ?_⟩
      split at h
      · cases h
      · omega
    · cases h
  · intro h20
    rw [if_neg h20] at h
    split at h
    · cases h
    · omega

/-- One element's box, wherever it stands. -/
theorem Row.one_at (k : IntKind) (w : World) (t : TypeId) (x : Int) (h : (Lit.int k x).wf = true) {g : Nat} (hg : w.heap.size = g) : Row k (w.alloc (.cells #[.int k x] t)) (g + 1) (some ⟨g, 0, none⟩) [x] := by
  subst hg; exact Row.one k w t x h
theorem Row.lit_at (k : IntKind) (w : World) (t : TypeId) (xs : List Int) (h : ∀ x ∈ xs, (Lit.int k x).wf = true) {g : Nat} (hg : w.heap.size = g) : Row k (w.alloc (.cells (blk k xs) t)) (g + 1) (some ⟨g, 0, none⟩) xs := by
  subst hg; exact Row.new k w t xs xs h (List.prefix_refl _)

theorem Row.grown {k : IntKind} {w w' : World} {B : Nat} {A : Option Addr} {xs : List Int} {row : Option Nat} (h : Row k w B A xs) (hg : w.grownBy w' row) (hB : B ≤ w.heap.size) (hne : ∀ b o, A = some ⟨b, o, none⟩ → some b ≠ row) : Row k w' B A xs := by
  refine ⟨h.1, fun hn => ?_⟩
  obtain ⟨b, o, e, hb, hc⟩ := h.2 hn
  exact ⟨b, o, e, hb, fun i hi => hg.cell (hc i hi) (hne b o e)⟩

end Go.Proofs.YtcmbdhmhkfhjfaaGreat
namespace Go.Proofs.YtcmbdhmhkfhjfaaGreat
open Go.RowKit
set_option linter.unusedVariables false
/-- The cells of a request in its box. -/


theorem wf_two {a n : Int} (ha : 0 ≤ a ∧ a < 65536) (hn : 0 ≤ n ∧ n < 65536) : ∀ v ∈ [a, n], (Lit.int .u16 v).wf = true := by
  intro v hv
  simp only [List.mem_cons, List.not_mem_nil, or_false] at hv
  rcases hv with rfl | rfl
  · exact wf_word16 ha
  · exact wf_word16 hn
abbrev reqBox (c a n : Int) (Ao As Ap : Option Addr) (lo co ls cs lp cp : Nat) : Obj := .cells #[.int .i64 c, .int .i64 a, .int .i64 n, .slice Ao lo co, .slice As ls cs, .slice Ap lp cp] 68

end Go.Proofs.YtcmbdhmhkfhjfaaGreat
namespace Go.Proofs.YtcmbdhmhkfhjfaaGreat
open Go.RowKit

section
variable {P : Program}
theorem run_append_row (w : World) (base : Nat) (t ty : TypeId) (k : IntKind) (e : TypeId) (bytes : Nat) (ht : P.underlying t = some (.slice e)) (hi : (P.info? e).map (fun i => (i.zero, i.size, i.bytes)) = some (some (.int k 0), 1, bytes))
    (v : Value) (xs : List Int) (hown : Own k e w base v xs) (B : Nat) (A : Option Addr) (m c : Nat) (ys : List Int) (hr : Row k w B A ys) (hm : ys.length = m)
    (hbytes : (xs.length + m) * bytes ≤ 140737488355328) (h63 : xs.length + m ≤ maxLen) (hbase : base ≤ w.heap.size) :
    ∃ v' w', (Builtin.append_ #[t, t] ty #[v, .slice A m c]).run P w = .ok v' w' ∧ Own k e w' base v' (xs ++ ys) ∧ w.grownBy w' v.ownBlock := by
  obtain ⟨i, hi1, hz, hsz, hby⟩ := info_parts hi
  cases A with
  | none =>
    have hm0 : m = 0 := by
      rcases Nat.eq_zero_or_pos m with h0 | h0
      · exact h0
      · obtain ⟨b, o, h, _⟩ := hr.2 (by omega); cases h
    subst hm0
    have hy : ys = [] := List.eq_nil_of_length_eq_zero hm
    subst hy
    exact ⟨v, w, run_append_none (P := P) w t ty e i ht hi1 base v _ _ hown c, by simpa using hown, World.grownBy.refl _ _⟩
  | some ad =>
    have hcells : ∀ j u, (ys.map (Value.int k))[j]? = some u → w.cell? (ad.add j) = some u := by
      intro j u hu
      rw [List.getElem?_map] at hu
      by_cases hj : j < ys.length
      · obtain ⟨b, o, e1, _, hc⟩ := hr.2 (by omega)
        injection e1 with e1
        subst e1
        rw [List.getElem?_eq_getElem hj] at hu
        rw [Go.WideShapes.add_plain, hc j hj, nth_eq ys j hj]
        exact hu
      · rw [List.getElem?_eq_none (by omega)] at hu
        cases hu
    obtain ⟨v', w', hrun, h2, h3, _, _⟩ := run_append_own_at (P := P) w base t ty e i (.int k 0) 1 bytes ht hi1 hz hsz hby rfl (by omega) v _ _ hown ad m c (ys.map (Value.int k)) (by simp [hm]) hcells (ints_oneCell k ys) h63 hbytes hbase
    exact ⟨v', w', hrun, by simpa [Own, hm] using h2, h3⟩

theorem run_append_row2 (w : World) (base : Nat) (t ty : TypeId) (k : IntKind) (e : TypeId) (bytes : Nat) (ht : P.underlying t = some (.slice e)) (hi : (P.info? e).map (fun i => (i.zero, i.size, i.bytes)) = some (some (.int k 0), 1, bytes))
    (v : Value) (xs : List Int) (hown : Own k e w base v xs) (B : Nat) (A : Option Addr) (m c : Nat) (ys : List Int) (hr : Row k w B A ys) (hm : ys.length = m)
    (hbytes : (xs.length + m) * bytes ≤ 140737488355328) (h63 : xs.length + m ≤ maxLen) (hbase : base ≤ w.heap.size) :
    ∃ v' w', (Builtin.append_ #[t, t] ty #[v, .slice A m c]).run P w = .ok v' w' ∧ Own k e w' base v' (xs ++ ys) ∧ w.grownBy w' v.ownBlock ∧ (v'.ownBlock = v.ownBlock ∨ v'.ownBlock = some w.heap.size) := by
  obtain ⟨i, hi1, hz, hsz, hby⟩ := info_parts hi
  cases A with
  | none =>
    have hm0 : m = 0 := by
      rcases Nat.eq_zero_or_pos m with h0 | h0
      · exact h0
      · obtain ⟨b, o, h, _⟩ := hr.2 (by omega); cases h
    subst hm0
    have hy : ys = [] := List.eq_nil_of_length_eq_zero hm
    subst hy
    exact ⟨v, w, run_append_none (P := P) w t ty e i ht hi1 base v _ _ hown c, by simpa using hown, World.grownBy.refl _ _, .inl rfl⟩
  | some ad =>
    have hcells : ∀ j u, (ys.map (Value.int k))[j]? = some u → w.cell? (ad.add j) = some u := by
      intro j u hu
      rw [List.getElem?_map] at hu
      by_cases hj : j < ys.length
      · obtain ⟨b, o, e1, _, hc⟩ := hr.2 (by omega)
        injection e1 with e1
        subst e1
        rw [List.getElem?_eq_getElem hj] at hu
        rw [Go.WideShapes.add_plain, hc j hj, nth_eq ys j hj]
        exact hu
      · rw [List.getElem?_eq_none (by omega)] at hu
        cases hu
    obtain ⟨v', w', hrun, h2, h3, _, h5⟩ := run_append_own_at (P := P) w base t ty e i (.int k 0) 1 bytes ht hi1 hz hsz hby rfl (by omega) v _ _ hown ad m c (ys.map (Value.int k)) (by simp [hm]) hcells (ints_oneCell k ys) h63 hbytes hbase
    exact ⟨v', w', hrun, by simpa [Own, hm] using h2, h3, h5⟩

/-- 'append(v, src...)': v owned, src whatever row of integers; where the new row lies. -/
theorem wpList_append_row2 {ops : Array Oper} {rest : List Oper} {o : Oper} {a : Act} {Q : Exit → Act → World → Prop} (w : World) (hgd : o.guard = none) (s x : Operand) (t : TypeId)
    (ho : o.op = .call { callee := .builtin .append, args := #[s, x], argTypes := #[t, t] })
    (base : Nat) (k : IntKind) (e : TypeId) (bytes : Nat) (ht : P.underlying t = some (.slice e)) (hi : (P.info? e).map (fun i => (i.zero, i.size, i.bytes)) = some (some (.int k 0), 1, bytes))
    (v : Value) (xs : List Int) (hs : a.eval s = v) (hown : Own k e w base v xs) (B : Nat) (A : Option Addr) (m c : Nat) (ys : List Int) (hx : a.eval x = .slice A m c) (hr : Row k w B A ys) (hm : ys.length = m)
    (hbytes : (xs.length + m) * bytes ≤ 140737488355328) (h63 : xs.length + m ≤ maxLen) (hbase : base ≤ w.heap.size)
    (h : ∀ v' w', Own k e w' base v' (xs ++ ys) → w.grownBy w' v.ownBlock → (v'.ownBlock = v.ownBlock ∨ v'.ownBlock = some w.heap.size) → wpList P ops Q rest (a.put o.dst v') w') : wpList P ops Q (o :: rest) a w := by
  obtain ⟨v', w', hrun, h1, h2, h3⟩ := run_append_row2 (P := P) w base t o.type k e bytes ht hi v xs hown B A m c ys hr hm hbytes h63 hbase
  refine wpList_plain hgd fun K hK => ?_
  unfold Oper.wp
  simp [execOp, ho, resolve, invoke, builtin, hs, hx, hrun, Result.andThen]
  exact hK _ _ (h v' w' h1 h2 h3)

theorem step_append_row {ops : Array Oper} {o : Oper} {a : Act} {K : Act → World → Prop} {Q : Exit → Act → World → Prop} {E : Prop} (w : World) (hgd : o.guard = none) (s x : Operand) (t : TypeId)
    (ho : o.op = .call { callee := .builtin .append, args := #[s, x], argTypes := #[t, t] })
    (base : Nat) (k : IntKind) (e : TypeId) (bytes : Nat) (ht : P.underlying t = some (.slice e)) (hi : (P.info? e).map (fun i => (i.zero, i.size, i.bytes)) = some (some (.int k 0), 1, bytes))
    (v : Value) (xs : List Int) (hs : a.eval s = v) (hown : Own k e w base v xs) (B : Nat) (A : Option Addr) (m c : Nat) (ys : List Int) (hx : a.eval x = .slice A m c) (hr : Row k w B A ys) (hm : ys.length = m)
    (hbytes : (xs.length + m) * bytes ≤ 140737488355328) (h63 : xs.length + m ≤ maxLen) (hbase : base ≤ w.heap.size)
    (h : ∀ v' w', Own k e w' base v' (xs ++ ys) → w.grownBy w' v.ownBlock → K (a.put o.dst v') w') :
    if Region.wanted o (yielded ops a.tmps) = true then Oper.wp P o a w K Q else E := by
  have hw : Region.wanted o (yielded ops a.tmps) = true := by simp [Region.wanted, hgd]
  rw [if_pos hw]
  obtain ⟨v', w', hrun, h1, h2⟩ := run_append_row (P := P) w base t o.type k e bytes ht hi v xs hown B A m c ys hr hm hbytes h63 hbase
  unfold Oper.wp execOp
  simp only [ho, resolve, invoke, builtin, Sem.run_bind, Sem.run_pure, Result.andThen_ok, List.map_toArray, List.map_cons, List.map_nil, hs, hx, hrun]
  exact h v' w' h1 h2
end
end Go.Proofs.YtcmbdhmhkfhjfaaGreat
namespace Go.Proofs.YtcmbdhmhkfhjfaaGreat
open Go.RowKit
set_option linter.unusedVariables false

/-- The bounds of a right request. -/
theorem right_many {c a n : Int} {lo ls lp : Nat} {fl : List Int} (h : chk c a n lo ls lp fl = 0) : (lo ≤ 1968 ∧ ls ≤ 123) ∧ lp ≤ 35 := by
  obtain ⟨h1, h2, h3, h4, h5, h6⟩ := chk_zero h
  rcases mm_pos h1 with rfl | rfl | rfl | rfl | rfl | rfl | rfl | rfl | rfl <;> simp [stray, many, mm] at h2 h4 <;> omega
def pduOf (q : Req) (lo ls lp : Nat) : List Int := q.c :: tl q.c q.a q.n q.on q.set q.fl lo ls lp
theorem tl_length (c a n : Int) (on : List Bool) (set fl : List Int) (lo ls lp : Nat) : (tl c a n on set fl lo ls lp).length ≤ 5 + need lo + 2 * set.length + 7 * lp := by
  unfold tl
  split
  · rw [wbytes_length]; simp; omega
  · split
    · rw [wbytes_length]; simp; omega
    · split
      · simp [wbytes_length, pk_length]; omega
      · split
        · simp [wbytes_length]; omega
        · split
          · rw [List.length_cons, pbytes_length]; omega
          · rw [wbytes_length]; simp; omega
theorem tl_wf {c a n : Int} {on : List Bool} {set fl : List Int} {lo ls lp : Nat} (h : need lo ≤ 255 ∧ 2 * ls ≤ 255 ∧ 7 * lp ≤ 255) : ∀ x ∈ tl c a n on set fl lo ls lp, (Lit.int .u8 x).wf = true := by
  have hcons : ∀ (m : Nat) (l : List Int), m ≤ 255 → (∀ x ∈ l, (Lit.int .u8 x).wf = true) → ∀ x ∈ (m : Int) :: l, (Lit.int .u8 x).wf = true := by
    intro m l hm hl x hx
    rcases List.mem_cons.1 hx with rfl | hx
    · exact wf_byte m (by omega)
    · exact hl x hx
  unfold tl
  split
  · exact wbytes_wf _
  · split
    · exact wbytes_wf _
    · split
      · exact wf_append (wbytes_wf _) (hcons _ _ h.1 (pk_wf _ _))
      · split
        · exact wf_append (wbytes_wf _) (hcons _ _ h.2.1 (wbytes_wf _))
        · split
          · exact hcons _ _ h.2.2 (pbytes_wf _ _)
          · exact wbytes_wf _

theorem Asked.drew {w : World} {B : Nat} {q : Req} {Ao As Ap : Option Addr} {lo ls lp : Nat} (h : Asked w B q Ao As Ap lo ls lp) : Asked w.drew B q Ao As Ap lo ls lp := ⟨h.on, h.set, h.fl, h.lo, h.ls, h.lp⟩
theorem Asked.upDrew {w : World} {q : Req} {Ao As Ap : Option Addr} {lo ls lp : Nat} (h : Asked w w.heap.size q Ao As Ap lo ls lp) : Asked w.drew w.drew.heap.size q Ao As Ap lo ls lp := h.drew
theorem Asked.upAlloc {w : World} {q : Req} {Ao As Ap : Option Addr} {lo ls lp : Nat} (h : Asked w w.heap.size q Ao As Ap lo ls lp) (o : Obj) : Asked (w.alloc o) (w.alloc o).heap.size q Ao As Ap lo ls lp := h.up (bel_alloc w o)
theorem Bx.grown {w0 w w' : World} {g : Nat} {o : Obj} {row : Option Nat} (h : Bx w0 g o w) (hg : w.grownBy w' row) (hr : ∀ k, row = some k → g < k) : Bx w0 g o w' :=
  ⟨(hg.block g h.lt (fun e => by have := hr g e.symm; omega)).trans h.1, h.2.grown hg (Nat.le_of_lt h.lt) (fun k e => by have := hr k e; omega)⟩

end Go.Proofs.YtcmbdhmhkfhjfaaGreat
namespace Go.Proofs.YtcmbdhmhkfhjfaaGreat
open Go.RowKit
set_option linter.unusedVariables false

/-- The word that stands at a place. -/
def at2 (ys : List Int) (i : Nat) : Int := nth ys i * 256 + nth ys (i + 1)
theorem at2_range (ys : List Int) (hw : ∀ x ∈ ys, (Lit.int .u8 x).wf = true) (i : Nat) (h : i + 2 ≤ ys.length) : 0 ≤ at2 ys i ∧ at2 ys i < 65536 := by
  have h1 := wf_u8 (hw _ (nth_mem ys i (by omega)))
  have h2 := wf_u8 (hw _ (nth_mem ys (i + 1) (by omega)))
  unfold at2; omega
theorem bval_at2 (ys : List Int) (hw : ∀ x ∈ ys, (Lit.int .u8 x).wf = true) (i : Nat) (h : i + 2 ≤ ys.length) : ((bval ((ys.drop i).take 2) : Nat) : Int) = at2 ys i := by
  have h1 := wf_u8 (hw _ (nth_mem ys i (by omega)))
  have h2 := wf_u8 (hw _ (nth_mem ys (i + 1) (by omega)))
  rw [bval_two ys i h, at2]; omega
/-- How many bytes a PDU must have. -/
def szOf (ys : List Int) : Int :=
  if nth ys 0 = 15 ∨ nth ys 0 = 16 then (if ys.length < 6 then 6 else 6 + nth ys 5)
  else if nth ys 0 = 20 then (if ys.length < 2 then 2 else 2 + nth ys 1) else 5
/-- The numbers of the first k parts. -/
def flOf (ys : List Int) : Nat → List Int
  | 0 => []
  | k + 1 => flOf ys k ++ [at2 ys (7 * k + 1), at2 ys (7 * k + 3), at2 ys (7 * k + 5)]
theorem flOf_length (ys : List Int) (k : Nat) : (flOf ys k).length = 3 * k := by
  induction k with
  | zero => rfl
  | succ k ih => rw [flOf, List.length_append, ih]; simp; omega
/-- Do the first k parts begin with their mark? -/
def mkOk (ys : List Int) : Nat → Bool
  | 0 => true
  | k + 1 => mkOk ys k && decide (nth ys (7 * k) = 6)
theorem mkOk_le {ys : List Int} {n : Nat} (h : mkOk ys n = true) : ∀ k, k < n → nth ys (7 * k) = 6 := by
  induction n with
  | zero => intro k hk; omega
  | succ n ih =>
    rw [mkOk, Bool.and_eq_true, decide_eq_true_eq] at h
    intro k hk
    rcases Nat.lt_or_ge k n with h1 | h1
    · exact ih h.1 k h1
    · obtain rfl : k = n := by omega
      exact h.2
theorem mkOk_no {ys : List Int} {n k : Nat} (hk : k < n) (h : nth ys (7 * k) ≠ 6) : mkOk ys n = false := by
  cases hn : mkOk ys n with
  | false => rfl
  | true => exact absurd (mkOk_le hn k hk) h
theorem flOf_wf (ys : List Int) (hw : ∀ x ∈ ys, (Lit.int .u8 x).wf = true) (k : Nat) (h : 7 * k ≤ ys.length) : ∀ x ∈ flOf ys k, 0 ≤ x ∧ x < 65536 := by
  induction k with
  | zero => simp [flOf]
  | succ k ih =>
    intro x hx
    rw [flOf] at hx
    rcases List.mem_append.1 hx with hx | hx
    · exact ih (by omega) x hx
    · simp only [List.mem_cons, List.not_mem_nil, or_false] at hx
      rcases hx with rfl | rfl | rfl <;> exact at2_range ys hw _ (by omega)

/-- The bit that a word says of a coil. -/
def coilL (m : Int) : List Bool := if m = 65280 then [true] else if m = 0 then [false] else []
/-- Are bytes just n bits? -/
def bitsOk (ys : List Int) (n : Nat) : Bool := decide (ys.length = need n) && !spareB ys n
/-- Are bytes just parts? -/
def partsOk (ys : List Int) : Bool := decide (ys.length % 7 = 0) && mkOk ys (ys.length / 7)
/-- Parts are told, or it is said that there are none. -/
def PartsPost (w : World) (ys : List Int) (m : Nat) (e : Ending) (w' : World) : Prop :=
  (mkOk ys m = true ∧ ∃ v, e = .returned (.tuple #[v, .int .i64 0]) ∧ POwn 94 w' w.heap.size v (flOf ys m) ∧ Below w.heap.size w w') ∨
  (mkOk ys m = false ∧ e = .returned (.tuple #[.slice none 0 0, .int .i64 4]) ∧ Below w.heap.size w w')
end Go.Proofs.YtcmbdhmhkfhjfaaGreat
namespace Go.Proofs.YtcmbdhmhkfhjfaaGreat
open Go.RowKit
set_option linter.unusedVariables false

/-- A call returns a request in memory of its own, and a number. -/
def Told (w : World) (q : Req) (err : Int) (e : Ending) (w' : World) : Prop :=
  ∃ (A1 A2 : Option Addr) (m1 m2 g1 g2 : Nat) (vp : Value), e = .returned (.tuple #[.agg #[.int .i64 q.c, .int .i64 q.a, .int .i64 q.n, .slice A1 m1 m1, .slice A2 m2 m2, vp], .int .i64 err]) ∧
    L.Li w' A1 m1 g1 q.on [] ∧ W.Li w' A2 m2 g2 q.set [] ∧ POwn 94 w' w.heap.size vp q.fl ∧ (q.on.length = m1 ∧ q.set.length = m2) ∧ (w.heap.size ≤ g1 ∧ w.heap.size ≤ g2) ∧ Below w.heap.size w w'
/-- Do bytes of the right size say a request? -/
def rdOk (ys : List Int) : Bool :=
  if nth ys 0 = 20 then partsOk (ys.drop 2) else if nth ys 0 = 5 then decide (at2 ys 3 = 65280 ∨ at2 ys 3 = 0)
  else if nth ys 0 = 15 then bitsOk (ys.drop 6) (at2 ys 3).toNat else if nth ys 0 = 16 then decide ((ys.drop 6).length = 2 * (at2 ys 3).toNat) else true
/-- That request. -/
def rdQ (ys : List Int) : Req :=
  if nth ys 0 = 20 then ⟨20, 0, 0, [], [], flOf (ys.drop 2) ((ys.drop 2).length / 7)⟩
  else if nth ys 0 = 5 then ⟨5, at2 ys 1, 0, coilL (at2 ys 3), [], []⟩
  else if nth ys 0 = 6 then ⟨6, at2 ys 1, 0, [], [at2 ys 3], []⟩
  else if nth ys 0 = 15 then ⟨15, at2 ys 1, 0, unpk (ys.drop 6) (at2 ys 3).toNat, [], []⟩
  else if nth ys 0 = 16 then ⟨16, at2 ys 1, 0, [], wwords (ys.drop 6), []⟩
  else ⟨nth ys 0, at2 ys 1, at2 ys 3, [], [], []⟩

theorem row_head {w : World} {B : Nat} {A : Option Addr} {ys : List Int} (h : Row .u8 w B A ys) (h1 : 1 ≤ ys.length) :
    ∃ b o, A = some ⟨b, o, none⟩ ∧ b < B ∧ w.cell? ⟨b, o, none⟩ = some (.int .u8 (nth ys 0)) ∧ (0 ≤ nth ys 0 ∧ nth ys 0 < 256) := by
  obtain ⟨b, o, rfl, hb, hc⟩ := h.at_ (i := 0) (by omega)
  exact ⟨b, o, rfl, hb, by rwa [Nat.add_zero] at hc, wf_u8 (h.wf_at (i := 0) (by omega))⟩

end Go.Proofs.YtcmbdhmhkfhjfaaGreat
namespace Go.Proofs.YtcmbdhmhkfhjfaaGreat
open Go.RowKit
set_option linter.unusedVariables false

/-- What read tells: the request that the bytes say, or that they say none. -/
def Readd (w : World) (ys : List Int) (e : Ending) (w' : World) : Prop :=
  ∃ q E, Told w q E e w' ∧ (rdOk ys = true ∧ q = rdQ ys ∧ E = 0 ∨ rdOk ys = false ∧ E = 4)
/-- A list of bits that a call has made, and a number. -/
def LGot (w : World) (ok : Bool) (l0 : List Bool) (e : Ending) (w' : World) : Prop :=
  ∃ (A : Option Addr) (m g : Nat) (l : List Bool) (E : Int), e = .returned (.tuple #[.slice A m m, .int .i64 E]) ∧ L.Li w' A m g l [] ∧ l.length = m ∧ w.heap.size ≤ g ∧ Below w.heap.size w w' ∧ (ok = true ∧ l = l0 ∧ E = 0 ∨ ok = false ∧ E = 4)
def WGot (w : World) (ok : Bool) (l0 : List Int) (e : Ending) (w' : World) : Prop :=
  ∃ (A : Option Addr) (m g : Nat) (l : List Int) (E : Int), e = .returned (.tuple #[.slice A m m, .int .i64 E]) ∧ W.Li w' A m g l [] ∧ l.length = m ∧ w.heap.size ≤ g ∧ Below w.heap.size w w' ∧ (ok = true ∧ l = l0 ∧ E = 0 ∨ ok = false ∧ E = 4)
def PGot (w : World) (ok : Bool) (l0 : List Int) (e : Ending) (w' : World) : Prop :=
  ∃ (v : Value) (l : List Int) (E : Int), e = .returned (.tuple #[v, .int .i64 E]) ∧ POwn 94 w' w.heap.size v l ∧ Below w.heap.size w w' ∧ (ok = true ∧ l = l0 ∧ E = 0 ∨ ok = false ∧ E = 4)

theorem POwn.form {e : TypeId} {w : World} {base : Nat} {v : Value} {fl : List Int} (h : POwn e w base v fl) : ∃ A n c, v = .slice A n c := by
  rcases h with ⟨rfl, _⟩ | ⟨g, n, cap, r, rfl, _⟩
  · exact ⟨_, _, _, rfl⟩
  · exact ⟨_, _, _, rfl⟩
theorem L.Bk.set {w : World} {g g' : Nat} {l : List Bool} (h : L.Bk w g l) (hne : g ≠ g') (i : Nat) (u : Value) : L.Bk (w.setCell ⟨g', i, none⟩ u) g l := (Below.heap_setCell w ⟨g', i, none⟩ u g (by simpa using hne)).trans h
theorem W.Bk.set {w : World} {g g' : Nat} {l : List Int} (h : W.Bk w g l) (hne : g ≠ g') (i : Nat) (u : Value) : W.Bk (w.setCell ⟨g', i, none⟩ u) g l := (Below.heap_setCell w ⟨g', i, none⟩ u g (by simpa using hne)).trans h
theorem L.Li.set {w : World} {A : Option Addr} {m g g' : Nat} {l r : List Bool} (h : L.Li w A m g l r) (hne : g ≠ g') (i : Nat) (u : Value) : L.Li (w.setCell ⟨g', i, none⟩ u) A m g l r := by
  rcases h with h | ⟨h1, h2⟩
  · exact .inl h
  · exact .inr ⟨h1, h2.set hne i u⟩
theorem W.Li.set {w : World} {A : Option Addr} {m g g' : Nat} {l r : List Int} (h : W.Li w A m g l r) (hne : g ≠ g') (i : Nat) (u : Value) : W.Li (w.setCell ⟨g', i, none⟩ u) A m g l r := by
  rcases h with h | ⟨h1, h2⟩
  · exact .inl h
  · exact .inr ⟨h1, h2.set hne i u⟩
theorem L.Li.put6 {w : World} {A : Option Addr} {m g g' : Nat} {l r : List Bool} (h : L.Li w A m g l r) (hne : g ≠ g') (v0 v1 v2 v3 v4 v5 : Value) : L.Li (put6 w g' v0 v1 v2 v3 v4 v5) A m g l r :=
  (((((h.set hne 0 v0).set hne 1 v1).set hne 2 v2).set hne 3 v3).set hne 4 v4).set hne 5 v5
theorem W.Li.put6 {w : World} {A : Option Addr} {m g g' : Nat} {l r : List Int} (h : W.Li w A m g l r) (hne : g ≠ g') (v0 v1 v2 v3 v4 v5 : Value) : W.Li (put6 w g' v0 v1 v2 v3 v4 v5) A m g l r :=
  (((((h.set hne 0 v0).set hne 1 v1).set hne 2 v2).set hne 3 v3).set hne 4 v4).set hne 5 v5

end Go.Proofs.YtcmbdhmhkfhjfaaGreat
namespace Go.Proofs.YtcmbdhmhkfhjfaaGreat
open Go.RowKit
set_option linter.unusedVariables false
theorem L.Li.grown {w w' : World} {A : Option Addr} {m g : Nat} {l r : List Bool} (h : L.Li w A m g l r) {row : Option Nat} (hg : w.grownBy w' row) (hne : A = none ∨ some g ≠ row) : L.Li w' A m g l r := by
  rcases h with h | ⟨h1, h2⟩
  · exact .inl h
  · exact .inr ⟨h1, (hg.block g (block_lt h2) (hne.resolve_left (by rw [h1]; simp))).trans h2⟩
theorem W.Li.grown {w w' : World} {A : Option Addr} {m g : Nat} {l r : List Int} (h : W.Li w A m g l r) {row : Option Nat} (hg : w.grownBy w' row) (hne : A = none ∨ some g ≠ row) : W.Li w' A m g l r := by
  rcases h with h | ⟨h1, h2⟩
  · exact .inl h
  · exact .inr ⟨h1, (hg.block g (block_lt h2) (hne.resolve_left (by rw [h1]; simp))).trans h2⟩
theorem POwn.grown {e : TypeId} {w w' : World} {base : Nat} {v : Value} {fl : List Int} (h : POwn e w base v fl) {row : Option Nat} (hg : w.grownBy w' row) (hne : ∀ g, v.ownBlock = some g → some g ≠ row) : POwn e w' base v fl := by
  rcases h with h | ⟨g, n, cap, r, rfl, h2, h3, h4, h5⟩
  · exact .inl h
  · exact .inr ⟨g, n, cap, r, rfl, h2, h3, (hg.block g (block_lt h4) (hne g rfl)).trans h4, h5⟩
/-- Blocks of different types are different ones. -/
theorem blocks_ne {w : World} {g g' : Nat} {cs cs' : Array Value} {t t' : TypeId} {f f' : Nat × Nat} (h : w.heap[g]? = some (.cells cs t f)) (h' : w.heap[g']? = some (.cells cs' t' f')) (hne : t ≠ t') : g ≠ g' := by
  rintro rfl
  rw [h] at h'
  injection h' with h'
  injection h' with _ h2
  exact hne h2

end Go.Proofs.YtcmbdhmhkfhjfaaGreat
namespace Go.Proofs.YtcmbdhmhkfhjfaaGreat
open Go.RowKit
set_option linter.unusedVariables false

/-- What is wrong with a request. -/
def chkQ (q : Req) : Int := chk q.c q.a q.n q.on.length q.set.length (q.fl.length / 3) q.fl
/-- What is wrong with bytes. -/
def getE (ys : List Int) : Int :=
  if ys.length = 0 then 1 else if mm (nth ys 0) ≤ 0 then 20 else if (ys.length : Int) < szOf ys then 1 else if szOf ys < (ys.length : Int) then 2 else if rdOk ys = false then 4 else chkQ (rdQ ys)
def getQ (ys : List Int) : Req := if getE ys = 0 then rdQ ys else Req.zero

theorem Told.zero_ {w w' : World} {err : Int} {e : Ending} (h : e = .returned (.tuple #[.agg #[.int .i64 0, .int .i64 0, .int .i64 0, .slice none 0 0, .slice none 0 0, .slice none 0 0], .int .i64 err])) (hb : Below w.heap.size w w') : Told w Req.zero err e w' :=
  ⟨none, none, 0, 0, w.heap.size, w.heap.size, _, h, .inl ⟨rfl, rfl⟩, .inl ⟨rfl, rfl⟩, POwn.nil _ _ _, ⟨rfl, rfl⟩, ⟨Nat.le_refl _, Nat.le_refl _⟩, hb⟩

theorem POwn.row_at {e : TypeId} {w : World} {base n c : Nat} {A : Option Addr} {fl : List Int} (h : POwn e w base (.slice A n c) fl) (hw : ∀ x ∈ fl, (Lit.int .i64 x).wf = true) : Row .i64 w w.heap.size A fl ∧ fl.length = 3 * n := by
  obtain ⟨A', n', c', hv, hr, hl, _⟩ := h.row hw
  injection hv with h1 h2 h3
  subst h1 h2
  exact ⟨hr, hl⟩
theorem wf_i64_16 {x : Int} (h : 0 ≤ x ∧ x < 65536) : (Lit.int .i64 x).wf = true := by
  simp [Lit.wf, IntKind.min, IntKind.max, IntKind.signed, IntKind.bits]; omega
/-- What the lists of the request that bytes say hold. -/
theorem rdQ_wf (ys : List Int) (hw : ∀ x ∈ ys, (Lit.int .u8 x).wf = true) (h5 : nth ys 0 ≠ 20 → 5 ≤ ys.length) : (∀ x ∈ (rdQ ys).set, (Lit.int .u16 x).wf = true) ∧ ∀ x ∈ (rdQ ys).fl, (Lit.int .i64 x).wf = true := by
  unfold rdQ
  split
  · exact ⟨by simp, fun x hx => wf_i64_16 (flOf_wf _ (fun x hx => hw x (List.mem_of_mem_drop hx)) _ (by omega) x hx)⟩
  · split
    · exact ⟨by simp, by simp⟩
    · split
      · refine ⟨fun x hx => ?_, by simp⟩
        simp only [List.mem_singleton] at hx
        subst hx
        exact wf_word16 (at2_range ys hw 3 (h5 (by omega)))
      · split
        · exact ⟨by simp, by simp⟩
        · split
          · exact ⟨wwords_wf _ (fun x hx => hw x (List.mem_of_mem_drop hx)), by simp⟩
          · exact ⟨by simp, by simp⟩
theorem Told.asked {w : World} {q : Req} {A1 A2 A3 : Option Addr} {m1 m2 g1 g2 n3 c3 base : Nat} (h1 : L.Li w A1 m1 g1 q.on []) (h2 : W.Li w A2 m2 g2 q.set []) (h3 : POwn 94 w base (.slice A3 n3 c3) q.fl) (hl : q.on.length = m1 ∧ q.set.length = m2) (hw : (∀ x ∈ q.set, (Lit.int .u16 x).wf = true) ∧ ∀ x ∈ q.fl, (Lit.int .i64 x).wf = true) :
    Asked w w.heap.size q A1 A2 A3 m1 m2 n3 :=
  ⟨h1.row hl.1 (fun _ _ => rfl), h2.row hl.2 hw.1, (h3.row_at hw.2).1, hl.1, hl.2, (h3.row_at hw.2).2⟩
theorem szOf_le (ys : List Int) (hw : ∀ x ∈ ys, (Lit.int .u8 x).wf = true) : szOf ys ≤ 300 := by
  unfold szOf
  split
  · split
    · omega
    · have := wf_u8 (hw _ (nth_mem ys 5 (by omega))); omega
  · split
    · split
      · omega
      · have := wf_u8 (hw _ (nth_mem ys 1 (by omega))); omega
    · omega
theorem szOf_five (ys : List Int) (hw : ∀ x ∈ ys, (Lit.int .u8 x).wf = true) (hs : (ys.length : Int) = szOf ys) : nth ys 0 ≠ 20 → 5 ≤ ys.length := by
  intro h20
  unfold szOf at hs
  rw [if_neg h20] at hs
  split at hs
  · split at hs
    · omega
    · have := wf_u8 (hw _ (nth_mem ys 5 (by omega))); omega
  · omega

end Go.Proofs.YtcmbdhmhkfhjfaaGreat
namespace Go.Proofs.YtcmbdhmhkfhjfaaGreat
open Go.RowKit
set_option linter.unusedVariables false

def pduQ (q : Req) : List Int := pduOf q q.on.length q.set.length (q.fl.length / 3)
theorem nth_zero (x : Int) (l : List Int) : nth (x :: l) 0 = x := rfl
theorem nth_succ (x : Int) (l : List Int) (i : Nat) : nth (x :: l) (i + 1) = nth l i := by simp [nth]
theorem nth_pre (l : List Int) (k i : Nat) (h : i < k) : nth (l.take k) i = nth l i := by
  simp only [nth, List.getD_eq_getElem?_getD, List.getElem?_take_of_lt h]
theorem wbytes_one (a : Int) (l : List Int) (h : 0 ≤ a ∧ a < 65536) : wbytes (a :: l) = (a / 256) :: (a % 256) :: wbytes l := by
  rw [wbytes, be_two]
  have e1 : ((a.toNat / 256 % 256 : Nat) : Int) = a / 256 := by omega
  have e2 : ((a.toNat % 256 : Nat) : Int) = a % 256 := by omega
  rw [e1, e2]; rfl
theorem at2_one (x a : Int) (l : List Int) : at2 (x :: (a / 256) :: (a % 256) :: l) 1 = a := by
  rw [at2, nth_succ, nth_zero, nth_succ, nth_succ, nth_zero]; omega
theorem at2_three (x y z a : Int) (l : List Int) : at2 (x :: y :: z :: (a / 256) :: (a % 256) :: l) 3 = a := by
  rw [at2, nth_succ, nth_succ, nth_succ, nth_zero, nth_succ, nth_succ, nth_succ, nth_succ, nth_zero]; omega
theorem nil_of_not_lt {α : Type} {l : List α} (h : decide (0 < l.length) = false) : l = [] := by
  have : ¬ 0 < l.length := of_decide_eq_false h
  exact List.eq_nil_of_length_eq_zero (by omega)
theorem one_of_length {α : Type} {l : List α} (h : l.length = 1) : ∃ x, l = [x] := by
  match l, h with
  | [x], _ => exact ⟨x, rfl⟩
theorem flOf_pbytes (fl : List Int) (m : Nat) (hl : fl.length = 3 * m) (hok : allOk fl m = true) : mkOk (pbytes fl m) m = true ∧ flOf (pbytes fl m) m = fl := by
  have key : ∀ k, k ≤ m → ∀ r : List Int, mkOk (pbytes fl k ++ r) k = true ∧ flOf (pbytes fl k ++ r) k = fl.take (3 * k) := by
    intro k
    induction k with
    | zero => intro _ r; exact ⟨rfl, by simp [flOf]⟩
    | succ k ih =>
      intro hk r
      have hin := (inPl_iff _ _ _).1 (allOk_le hok k (by omega))
      rw [pbytes, List.append_assoc]
      obtain ⟨h1, h2⟩ := ih (by omega) (6 :: wbytes [nth fl (3 * k), nth fl (3 * k + 1), nth fl (3 * k + 2)] ++ r)
      have hpl := pbytes_length fl k
      have hT : (6 :: wbytes [nth fl (3 * k), nth fl (3 * k + 1), nth fl (3 * k + 2)] ++ r) = 6 :: (nth fl (3 * k) / 256) :: (nth fl (3 * k) % 256) :: (nth fl (3 * k + 1) / 256) :: (nth fl (3 * k + 1) % 256) :: (nth fl (3 * k + 2) / 256) :: (nth fl (3 * k + 2) % 256) :: r := by
        rw [wbytes_one _ _ (by omega), wbytes_one _ _ (by omega), wbytes_one _ _ (by omega)]; rfl
      rw [hT] at h1 h2 ⊢
      clear hT
      generalize hTT : (6 :: (nth fl (3 * k) / 256) :: (nth fl (3 * k) % 256) :: (nth fl (3 * k + 1) / 256) :: (nth fl (3 * k + 1) % 256) :: (nth fl (3 * k + 2) / 256) :: (nth fl (3 * k + 2) % 256) :: r) = T at *
      have hn : ∀ j, nth (pbytes fl k ++ T) (7 * k + j) = nth T j := by intro j; rw [← hpl, nth_right]
      have a1 : ∀ i, at2 (pbytes fl k ++ T) (7 * k + i) = at2 T i := by intro i; unfold at2; rw [hn i, Nat.add_assoc, hn (i + 1)]
      have n0 := hn 0
      rw [Nat.add_zero] at n0
      refine ⟨?_, ?_⟩
      · rw [mkOk, h1, Bool.true_and, n0, ← hTT]; rfl
      · rw [flOf, h2, take_three fl k (by omega), a1 1, a1 3, a1 5, ← hTT]
        simp only [at2, nth_succ, nth_zero]
        congr 1
        congr 1
        · omega
        · congr 1
          · omega
          · congr 1
            omega
  have := key m (Nat.le_refl _) []
  rw [List.append_nil, List.take_of_length_le (by omega)] at this
  exact this

theorem getE_ok {ys : List Int} (h0 : ys.length ≠ 0) (hm : 0 < mm (nth ys 0)) (hs : (ys.length : Int) = szOf ys) (hr : rdOk ys = true) (hk : chkQ (rdQ ys) = 0) : getE ys = 0 := by
  rw [getE, if_neg h0, if_neg (by omega), if_neg (by omega), if_neg (by omega), if_neg (by simp [hr]), hk]

set_option maxHeartbeats 1000000 in
/-- A right request is said by its PDU. -/
theorem pdu_back (q : Req) (hset : ∀ x ∈ q.set, (Lit.int .u16 x).wf = true) (h3 : q.fl.length % 3 = 0) (hk : chkQ q = 0) : getE (pduQ q) = 0 ∧ rdQ (pduQ q) = q ∧ (5 ≤ (pduQ q).length ∧ (pduQ q).length ≤ 253) := by
  obtain ⟨c, a, n, on, set, fl⟩ := q
  have hk' := hk
  simp only [chkQ] at hk
  obtain ⟨h1, h2, ha, h4, h5, h6⟩ := chk_zero hk
  simp only at hset h3
  simp only [pduQ, pduOf]
  have fin : ∀ ys : List Int, ys.length ≠ 0 → nth ys 0 = c → (ys.length : Int) = szOf ys → rdOk ys = true → rdQ ys = ⟨c, a, n, on, set, fl⟩ → (5 ≤ ys.length ∧ ys.length ≤ 253) → getE ys = 0 ∧ rdQ ys = ⟨c, a, n, on, set, fl⟩ ∧ (5 ≤ ys.length ∧ ys.length ≤ 253) := by
    intro ys g0 g1 g2 g3 g4 g5
    exact ⟨getE_ok g0 (by rw [g1]; exact h1) g2 g3 (by rw [g4]; exact hk'), g4, g5⟩
  clear hk' hk
  rcases mm_pos h1 with rfl | rfl | rfl | rfl | rfl | rfl | rfl | rfl | rfl
  iterate 4
    · have h4 : 1 ≤ n ∧ n ≤ 2000 := by simp only [many, mm] at h4; omega
      simp [stray] at h2
      obtain ⟨⟨rfl, rfl⟩, h2⟩ := h2
      obtain rfl : fl = [] := List.eq_nil_of_length_eq_zero (by omega)
      simp only [tl]
      rw [if_neg (by omega), if_neg (by omega), if_neg (by omega), if_neg (by omega), if_neg (by omega), wbytes_one _ _ ha, wbytes_one _ _ (by omega)]
      refine fin _ (by simp) rfl rfl rfl ?_ (by simp [wbytes])
      unfold rdQ
      rw [if_neg (by rw [nth_zero]; omega), if_neg (by rw [nth_zero]; omega), if_neg (by rw [nth_zero]; omega), if_neg (by rw [nth_zero]; omega), if_neg (by rw [nth_zero]; omega), at2_one, at2_three, nth_zero]
  · -- 5
    have h4 : 1 ≤ (on.length : Int) ∧ (on.length : Int) ≤ 1 := h4
    simp [stray] at h2
    obtain ⟨⟨rfl, rfl⟩, h2⟩ := h2
    obtain rfl : fl = [] := List.eq_nil_of_length_eq_zero (by omega)
    obtain ⟨b, rfl⟩ := one_of_length (l := on) (by omega)
    have hb : 0 ≤ (if b = true then (65280 : Int) else 0) ∧ (if b = true then (65280 : Int) else 0) < 65536 := by split <;> omega
    have e : tl 5 a 0 [b] [] [] [b].length ([] : List Int).length (([] : List Int).length / 3) = wbytes [a, if b = true then 65280 else 0] := rfl
    rw [e, wbytes_one _ _ ha, wbytes_one _ _ hb]
    refine fin _ (by simp) rfl rfl ?_ ?_ (by simp [wbytes])
    · unfold rdOk
      rw [if_neg (by rw [nth_zero]; omega), if_pos (nth_zero _ _), at2_three]
      cases b <;> decide
    · unfold rdQ
      rw [if_neg (by rw [nth_zero]; omega), if_pos (nth_zero _ _), at2_one, at2_three]
      cases b <;> rfl
  · -- 6
    have h4 : 1 ≤ (set.length : Int) ∧ (set.length : Int) ≤ 1 := h4
    simp [stray] at h2
    obtain ⟨⟨rfl, rfl⟩, h2⟩ := h2
    obtain rfl : fl = [] := List.eq_nil_of_length_eq_zero (by omega)
    obtain ⟨x, rfl⟩ := one_of_length (l := set) (by omega)
    have hx := wf_u16 (hset x (by simp))
    have e : tl 6 a 0 [] [x] [] ([] : List Bool).length [x].length (([] : List Int).length / 3) = wbytes [a, x] := rfl
    rw [e, wbytes_one _ _ ha, wbytes_one _ _ hx]
    refine fin _ (by simp) rfl rfl rfl ?_ (by simp [wbytes])
    unfold rdQ
    rw [if_neg (by rw [nth_zero]; omega), if_neg (by rw [nth_zero]; omega), if_pos (nth_zero _ _), at2_one, at2_three]
  · -- 15
    have h4 : 1 ≤ (on.length : Int) ∧ (on.length : Int) ≤ 1968 := h4
    simp [stray] at h2
    obtain ⟨⟨rfl, rfl⟩, h2⟩ := h2
    obtain rfl : fl = [] := List.eq_nil_of_length_eq_zero (by omega)
    have e : tl 15 a 0 on [] [] on.length ([] : List Int).length (([] : List Int).length / 3) = wbytes [a, (on.length : Int)] ++ ((need on.length : Nat) : Int) :: pk on (need on.length) := rfl
    have hne : 1 ≤ need on.length ∧ need on.length ≤ 246 := by unfold need; omega
    have hpl := pk_length on (need on.length)
    have hnn : ((on.length : Int)).toNat = on.length := by omega
    rw [e, wbytes_one _ _ ha, wbytes_one _ _ (by omega)]
    refine fin _ (by simp) rfl ?_ ?_ ?_ (by simp [wbytes, hpl]; omega)
    · unfold szOf
      rw [if_pos (by left; rfl), if_neg (by simp [wbytes])]
      show _ = 6 + ((need on.length : Nat) : Int)
      simp [wbytes, hpl]; omega
    · unfold rdOk
      rw [if_neg (by rw [nth_zero]; omega), if_neg (by rw [nth_zero]; omega), if_pos (nth_zero _ _)]
      show bitsOk (pk on (need on.length)) (at2 (15 :: (a / 256) :: (a % 256) :: ((on.length : Int) / 256) :: ((on.length : Int) % 256) :: (wbytes [] ++ ((need on.length : Nat) : Int) :: pk on (need on.length))) 3).toNat = true
      rw [at2_three, hnn, bitsOk, hpl, decide_eq_true rfl, Bool.true_and]
      cases hs : spareB (pk on (need on.length)) on.length with
      | false => rfl
      | true => exact absurd ((spareB_iff _ _).1 hs) (no_spare_pk on)
    · unfold rdQ
      rw [if_neg (by rw [nth_zero]; omega), if_neg (by rw [nth_zero]; omega), if_neg (by rw [nth_zero]; omega), if_pos (nth_zero _ _)]
      show (⟨15, at2 (15 :: (a / 256) :: (a % 256) :: ((on.length : Int) / 256) :: ((on.length : Int) % 256) :: (wbytes [] ++ ((need on.length : Nat) : Int) :: pk on (need on.length))) 1, 0, unpk (pk on (need on.length)) (at2 (15 :: (a / 256) :: (a % 256) :: ((on.length : Int) / 256) :: ((on.length : Int) % 256) :: (wbytes [] ++ ((need on.length : Nat) : Int) :: pk on (need on.length))) 3).toNat, [], []⟩ : Req) = _
      rw [at2_one, at2_three, hnn, unpk_pk]
  · -- 16
    have h4 : 1 ≤ (set.length : Int) ∧ (set.length : Int) ≤ 123 := h4
    simp [stray] at h2
    obtain ⟨⟨rfl, rfl⟩, h2⟩ := h2
    obtain rfl : fl = [] := List.eq_nil_of_length_eq_zero (by omega)
    have e : tl 16 a 0 [] set [] ([] : List Bool).length set.length (([] : List Int).length / 3) = wbytes [a, (set.length : Int)] ++ ((2 * set.length : Nat) : Int) :: wbytes set := rfl
    have hpl := wbytes_length set
    have hnn : ((set.length : Int)).toNat = set.length := by omega
    rw [e, wbytes_one _ _ ha, wbytes_one _ _ (by omega)]
    refine fin _ (by simp) rfl ?_ ?_ ?_ (by simp [wbytes, hpl]; omega)
    · unfold szOf
      rw [if_pos (by right; rfl), if_neg (by simp [wbytes])]
      show _ = 6 + ((2 * set.length : Nat) : Int)
      simp [wbytes, hpl]; omega
    · unfold rdOk
      rw [if_neg (by rw [nth_zero]; omega), if_neg (by rw [nth_zero]; omega), if_neg (by rw [nth_zero]; omega), if_pos (nth_zero _ _)]
      show decide ((wbytes set).length = 2 * (at2 (16 :: (a / 256) :: (a % 256) :: ((set.length : Int) / 256) :: ((set.length : Int) % 256) :: (wbytes [] ++ ((2 * set.length : Nat) : Int) :: wbytes set)) 3).toNat) = true
      rw [at2_three, hnn, hpl]; simp
    · unfold rdQ
      rw [if_neg (by rw [nth_zero]; omega), if_neg (by rw [nth_zero]; omega), if_neg (by rw [nth_zero]; omega), if_neg (by rw [nth_zero]; omega), if_pos (nth_zero _ _)]
      show (⟨16, at2 (16 :: (a / 256) :: (a % 256) :: ((set.length : Int) / 256) :: ((set.length : Int) % 256) :: (wbytes [] ++ ((2 * set.length : Nat) : Int) :: wbytes set)) 1, 0, [], wwords (wbytes set), []⟩ : Req) = _
      rw [at2_one, wwords_wbytes set hset]
  · -- 20
    have h4 : 1 ≤ ((fl.length / 3 : Nat) : Int) ∧ ((fl.length / 3 : Nat) : Int) ≤ 35 := h4
    simp [stray] at h2
    obtain ⟨⟨⟨rfl, rfl⟩, rfl⟩, rfl⟩ := h2
    obtain ⟨m, hm⟩ : ∃ m, fl.length = 3 * m := ⟨fl.length / 3, by omega⟩
    have hd : fl.length / 3 = m := by omega
    rw [hd] at h4 h5 ⊢
    have hok := (h5 rfl).1
    obtain ⟨k1, k2⟩ := flOf_pbytes fl m hm hok
    have hpl := pbytes_length fl m
    have e : tl 20 0 0 [] [] fl ([] : List Bool).length ([] : List Int).length m = ((7 * m : Nat) : Int) :: pbytes fl m := rfl
    rw [e]
    have hd7 : (pbytes fl m).length / 7 = m := by rw [hpl]; omega
    refine fin _ (by simp) rfl ?_ ?_ ?_ (by simp [hpl]; omega)
    · unfold szOf
      rw [if_neg (by rw [nth_zero]; omega), if_pos (nth_zero _ _), if_neg (by simp)]
      show _ = 2 + ((7 * m : Nat) : Int)
      simp [hpl]; omega
    · unfold rdOk
      rw [if_pos (nth_zero _ _)]
      show partsOk (pbytes fl m) = true
      rw [partsOk, hd7, k1, hpl, decide_eq_true (by omega)]; rfl
    · unfold rdQ
      rw [if_pos (nth_zero _ _)]
      show (⟨20, 0, 0, [], [], flOf (pbytes fl m) ((pbytes fl m).length / 7)⟩ : Req) = _
      rw [hd7, k2]

/-- What is left of parts that were read is put again. -/
theorem pbytes_flOf (ys : List Int) (hw : ∀ x ∈ ys, (Lit.int .u8 x).wf = true) (m : Nat) (hl : ys.length = 7 * m) (hok : mkOk ys m = true) : pbytes (flOf ys m) m = ys := by
  have hfl : ∀ k, k ≤ m → flOf ys k = (flOf ys m).take (3 * k) := by
    intro k hk
    have : ∀ d, flOf ys k = (flOf ys (k + d)).take (3 * k) := by
      intro d
      induction d with
      | zero => rw [Nat.add_zero, List.take_of_length_le (by rw [flOf_length]; omega)]
      | succ d ih =>
        rw [← Nat.add_assoc, flOf, List.take_append_of_le_length (by rw [flOf_length]; omega)]
        exact ih
    have h2 := this (m - k)
    rwa [show k + (m - k) = m by omega] at h2
  have hnth : ∀ k i, k < m → i < 3 → nth (flOf ys m) (3 * k + i) = at2 ys (7 * k + (1 + 2 * i)) := by
    intro k i hk hi
    rw [← nth_pre (flOf ys m) (3 * (k + 1)) (3 * k + i) (by omega), ← hfl (k + 1) (by omega), flOf]
    have hfk := flOf_length ys k
    rw [← hfk, nth_right]
    rcases (show i = 0 ∨ i = 1 ∨ i = 2 by omega) with rfl | rfl | rfl <;> rfl
  have key : ∀ k, k ≤ m → pbytes (flOf ys m) k = ys.take (7 * k) := by
    intro k
    induction k with
    | zero => intro _; rfl
    | succ k ih =>
      intro hk
      have h6 := mkOk_le hok k (by omega)
      have hb : ∀ i, i < 7 → (0 ≤ nth ys (7 * k + i) ∧ nth ys (7 * k + i) < 256) := fun i hi => wf_u8 (hw _ (nth_mem ys _ (by omega)))
      have r1 := at2_range ys hw (7 * k + 1) (by omega)
      have r3 := at2_range ys hw (7 * k + 3) (by omega)
      have r5 := at2_range ys hw (7 * k + 5) (by omega)
      have b1 := hb 1 (by omega)
      have b2 := hb 2 (by omega)
      have b3 := hb 3 (by omega)
      have b4 := hb 4 (by omega)
      have b5 := hb 5 (by omega)
      have b6 := hb 6 (by omega)
      have e0 := hnth k 0 (by omega) (by omega)
      have e1 := hnth k 1 (by omega) (by omega)
      have e2 := hnth k 2 (by omega) (by omega)
      simp only [Nat.add_zero, Nat.mul_zero, Nat.mul_one] at e0 e1 e2
      rw [pbytes, ih (by omega), e0, e1, e2, show 1 + 2 * 2 = 5 from rfl, show 1 + 2 = 3 from rfl, wbytes_one _ _ r1, wbytes_one _ _ r3, wbytes_one _ _ r5]
      rw [show 7 * (k + 1) = 7 * k + 1 + 1 + 1 + 1 + 1 + 1 + 1 by omega, take_step _ _ (by omega), take_step _ _ (by omega), take_step _ _ (by omega), take_step _ _ (by omega), take_step _ _ (by omega), take_step _ _ (by omega), take_step _ _ (by omega)]
      simp only [List.append_assoc, List.cons_append, List.nil_append]
      unfold at2
      rw [h6]
      simp only [Nat.add_assoc, Nat.reduceAdd, wbytes]
      congr 2
      congr 1
      · omega
      · congr 1
        · omega
        · congr 1
          · omega
          · congr 1
            · omega
            · congr 1
              · omega
              · congr 1
                omega
  rw [key m (Nat.le_refl _), List.take_of_length_le (by omega)]
theorem cons_of_length {α : Type} {l : List α} {n : Nat} (h : l.length = n + 1) : ∃ x t, l = x :: t ∧ t.length = n := by
  match l, h with
  | x :: t, h => exact ⟨x, t, rfl, by simpa using h⟩
theorem five_of {l : List Int} (h : l.length = 5) : ∃ x0 x1 x2 x3 x4, l = [x0, x1, x2, x3, x4] := by
  match l, h with
  | [x0, x1, x2, x3, x4], _ => exact ⟨_, _, _, _, _, rfl⟩
theorem six_of {l : List Int} (h : 6 ≤ l.length) : ∃ x0 x1 x2 x3 x4 x5 t, l = x0 :: x1 :: x2 :: x3 :: x4 :: x5 :: t := by
  match l, h with
  | x0 :: x1 :: x2 :: x3 :: x4 :: x5 :: t, _ => exact ⟨_, _, _, _, _, _, _, rfl⟩
theorem two_of {l : List Int} (h : 2 ≤ l.length) : ∃ x0 x1 t, l = x0 :: x1 :: t := by
  match l, h with
  | x0 :: x1 :: t, _ => exact ⟨_, _, _, rfl⟩
end Go.Proofs.YtcmbdhmhkfhjfaaGreat
namespace Go.Proofs.YtcmbdhmhkfhjfaaGreat
open Go.RowKit
set_option linter.unusedVariables false

theorem getE_zero {ys : List Int} (h : getE ys = 0) : ys.length ≠ 0 ∧ 0 < mm (nth ys 0) ∧ (ys.length : Int) = szOf ys ∧ rdOk ys = true ∧ chkQ (rdQ ys) = 0 := by
  unfold getE at h
  split at h
  · cases h
  split at h
  · cases h
  split at h
  · cases h
  split at h
  · cases h
  split at h
  · cases h
  rename_i h1 h2 h3 h4 h5
  exact ⟨h1, by omega, by omega, by simpa using h5, h⟩

set_option maxHeartbeats 1000000 in
theorem pdu_only (ys : List Int) (hw : ∀ x ∈ ys, (Lit.int .u8 x).wf = true) (h : getE ys = 0) : pduQ (rdQ ys) = ys := by
  obtain ⟨h0, hm, hs, hr, hk⟩ := getE_zero h
  have hb : ∀ i, i < ys.length → 0 ≤ nth ys i ∧ nth ys i < 256 := fun i hi => wf_u8 (hw _ (nth_mem ys i hi))
  have five : nth ys 0 ≠ 20 → nth ys 0 ≠ 15 → nth ys 0 ≠ 16 → ys.length = 5 := by
    intro a b c
    unfold szOf at hs
    rw [if_neg (by omega), if_neg a] at hs
    omega
  rcases mm_pos hm with hc | hc | hc | hc | hc | hc | hc | hc | hc
  iterate 4
    · obtain ⟨x0, x1, x2, x3, x4, rfl⟩ := five_of (five (by omega) (by omega) (by omega))
      rw [nth_zero] at hc
      have b1 := hb 1 (by simp)
      have b2 := hb 2 (by simp)
      have b3 := hb 3 (by simp)
      have b4 := hb 4 (by simp)
      simp only [nth_succ, nth_zero] at b1 b2 b3 b4
      have e : rdQ [x0, x1, x2, x3, x4] = ⟨x0, x1 * 256 + x2, x3 * 256 + x4, [], [], []⟩ := by
        unfold rdQ
        rw [if_neg (by rw [nth_zero]; omega), if_neg (by rw [nth_zero]; omega), if_neg (by rw [nth_zero]; omega), if_neg (by rw [nth_zero]; omega), if_neg (by rw [nth_zero]; omega)]
        rfl
      rw [e]
      show x0 :: tl x0 (x1 * 256 + x2) (x3 * 256 + x4) [] [] [] ([] : List Bool).length ([] : List Int).length (([] : List Int).length / 3) = _
      unfold tl
      rw [if_neg (by omega), if_neg (by omega), if_neg (by omega), if_neg (by omega), if_neg (by omega), wbytes_one _ _ (by omega), wbytes_one _ _ (by omega)]
      congr 1
      congr 1
      · omega
      · congr 1
        · omega
        · congr 1
          · omega
          · congr 1
            omega
  · -- 5
    obtain ⟨x0, x1, x2, x3, x4, rfl⟩ := five_of (five (by omega) (by omega) (by omega))
    rw [nth_zero] at hc
    subst hc
    have b1 := hb 1 (by simp)
    have b2 := hb 2 (by simp)
    have b3 := hb 3 (by simp)
    have b4 := hb 4 (by simp)
    simp only [nth_succ, nth_zero] at b1 b2 b3 b4
    have ea : at2 [5, x1, x2, x3, x4] 3 = x3 * 256 + x4 := rfl
    unfold rdOk at hr
    rw [if_neg (by rw [nth_zero]; omega), if_pos (nth_zero _ _), ea, decide_eq_true_eq] at hr
    have e : rdQ [5, x1, x2, x3, x4] = ⟨5, x1 * 256 + x2, 0, coilL (x3 * 256 + x4), [], []⟩ := by
      unfold rdQ
      rw [if_neg (by rw [nth_zero]; omega), if_pos (nth_zero _ _)]
      rfl
    rw [e]
    have e2 : ∀ on : List Bool, pduQ ⟨5, x1 * 256 + x2, 0, on, [], []⟩ = 5 :: wbytes [x1 * 256 + x2, if L.nth on 0 = true then 65280 else 0] := fun _ => rfl
    rw [e2, wbytes_one _ _ (by omega), wbytes_one _ _ (by split <;> omega)]
    rcases hr with hr | hr
    · have e3 : (if L.nth (coilL (x3 * 256 + x4)) 0 = true then (65280 : Int) else 0) = 65280 := by rw [hr]; rfl
      rw [e3]
      congr 1
      congr 1
      · omega
      · congr 1
        · omega
        · congr 1
          · omega
          · congr 1
            omega
    · have e3 : (if L.nth (coilL (x3 * 256 + x4)) 0 = true then (65280 : Int) else 0) = 0 := by rw [hr]; rfl
      rw [e3]
      congr 1
      congr 1
      · omega
      · congr 1
        · omega
        · congr 1
          · omega
          · congr 1
            omega
  · -- 6
    obtain ⟨x0, x1, x2, x3, x4, rfl⟩ := five_of (five (by omega) (by omega) (by omega))
    rw [nth_zero] at hc
    subst hc
    have b1 := hb 1 (by simp)
    have b2 := hb 2 (by simp)
    have b3 := hb 3 (by simp)
    have b4 := hb 4 (by simp)
    simp only [nth_succ, nth_zero] at b1 b2 b3 b4
    have e : rdQ [6, x1, x2, x3, x4] = ⟨6, x1 * 256 + x2, 0, [], [x3 * 256 + x4], []⟩ := by
      unfold rdQ
      rw [if_neg (by rw [nth_zero]; omega), if_neg (by rw [nth_zero]; omega), if_pos (nth_zero _ _)]
      rfl
    rw [e]
    have e2 : ∀ x : Int, pduQ ⟨6, x1 * 256 + x2, 0, [], [x], []⟩ = 6 :: wbytes [x1 * 256 + x2, x] := fun _ => rfl
    rw [e2, wbytes_one _ _ (by omega), wbytes_one _ _ (by omega)]
    congr 1
    congr 1
    · omega
    · congr 1
      · omega
      · congr 1
        · omega
        · congr 1
          omega
  · -- 15
    have hlen : 6 ≤ ys.length := by
      unfold szOf at hs
      rw [if_pos (.inl hc)] at hs
      split at hs <;> omega
    obtain ⟨x0, x1, x2, x3, x4, x5, t, rfl⟩ := six_of hlen
    rw [nth_zero] at hc
    subst hc
    have b1 := hb 1 (by simp)
    have b2 := hb 2 (by simp)
    have b3 := hb 3 (by simp)
    have b4 := hb 4 (by simp)
    have b5 := hb 5 (by simp)
    simp only [nth_succ, nth_zero] at b1 b2 b3 b4 b5
    have ht : (t.length : Int) = x5 := by
      unfold szOf at hs
      rw [if_pos (.inl (nth_zero _ _)), if_neg (by simp)] at hs
      simp only [nth_succ, nth_zero, List.length_cons] at hs
      omega
    have hwt : ∀ x ∈ t, (Lit.int .u8 x).wf = true := fun x hx => hw x (by simp [hx])
    obtain ⟨n, hn⟩ : ∃ n : Nat, x3 * 256 + x4 = n := ⟨(x3 * 256 + x4).toNat, by omega⟩
    have ea : at2 (15 :: x1 :: x2 :: x3 :: x4 :: x5 :: t) 3 = n := hn
    have e : rdQ (15 :: x1 :: x2 :: x3 :: x4 :: x5 :: t) = ⟨15, x1 * 256 + x2, 0, unpk t n, [], []⟩ := by
      unfold rdQ
      rw [if_neg (by rw [nth_zero]; omega), if_neg (by rw [nth_zero]; omega), if_neg (by rw [nth_zero]; omega), if_pos (nth_zero _ _), ea, Int.toNat_natCast]
      rfl
    unfold rdOk at hr
    rw [if_neg (by rw [nth_zero]; omega), if_neg (by rw [nth_zero]; omega), if_pos (nth_zero _ _), ea, Int.toNat_natCast] at hr
    have hr : bitsOk t n = true := hr
    simp only [bitsOk, Bool.and_eq_true, decide_eq_true_eq, Bool.not_eq_true'] at hr
    have hsp : ¬ spare t n := fun h => by rw [(spareB_iff t n).2 h] at hr; cases hr.2
    rw [e]
    have e2 : pduQ ⟨15, x1 * 256 + x2, 0, unpk t n, [], []⟩ = 15 :: (wbytes [x1 * 256 + x2, ((unpk t n).length : Int)] ++ ((need (unpk t n).length : Nat) : Int) :: pk (unpk t n) (need (unpk t n).length)) := rfl
    rw [e2, unpk_length, pk_unpk t n hwt hr.1 hsp, wbytes_one _ _ (by omega), wbytes_one _ _ (by omega)]
    show 15 :: (x1 * 256 + x2) / 256 :: (x1 * 256 + x2) % 256 :: (n : Int) / 256 :: (n : Int) % 256 :: ((need n : Nat) : Int) :: t = _
    congr 1
    congr 1
    · omega
    · congr 1
      · omega
      · congr 1
        · omega
        · congr 1
          · omega
          · congr 1
            omega
  · -- 16
    have hlen : 6 ≤ ys.length := by
      unfold szOf at hs
      rw [if_pos (.inr hc)] at hs
      split at hs <;> omega
    obtain ⟨x0, x1, x2, x3, x4, x5, t, rfl⟩ := six_of hlen
    rw [nth_zero] at hc
    subst hc
    have b1 := hb 1 (by simp)
    have b2 := hb 2 (by simp)
    have b3 := hb 3 (by simp)
    have b4 := hb 4 (by simp)
    have b5 := hb 5 (by simp)
    simp only [nth_succ, nth_zero] at b1 b2 b3 b4 b5
    have ht : (t.length : Int) = x5 := by
      unfold szOf at hs
      rw [if_pos (.inr (nth_zero _ _)), if_neg (by simp)] at hs
      simp only [nth_succ, nth_zero, List.length_cons] at hs
      omega
    have hwt : ∀ x ∈ t, (Lit.int .u8 x).wf = true := fun x hx => hw x (by simp [hx])
    obtain ⟨n, hn⟩ : ∃ n : Nat, x3 * 256 + x4 = n := ⟨(x3 * 256 + x4).toNat, by omega⟩
    have ea : at2 (16 :: x1 :: x2 :: x3 :: x4 :: x5 :: t) 3 = n := hn
    have e : rdQ (16 :: x1 :: x2 :: x3 :: x4 :: x5 :: t) = ⟨16, x1 * 256 + x2, 0, [], wwords t, []⟩ := by
      unfold rdQ
      rw [if_neg (by rw [nth_zero]; omega), if_neg (by rw [nth_zero]; omega), if_neg (by rw [nth_zero]; omega), if_neg (by rw [nth_zero]; omega), if_pos (nth_zero _ _)]
      rfl
    unfold rdOk at hr
    rw [if_neg (by rw [nth_zero]; omega), if_neg (by rw [nth_zero]; omega), if_neg (by rw [nth_zero]; omega), if_pos (nth_zero _ _), ea, Int.toNat_natCast, decide_eq_true_eq] at hr
    have hr : t.length = 2 * n := hr
    rw [e]
    have e2 : pduQ ⟨16, x1 * 256 + x2, 0, [], wwords t, []⟩ = 16 :: (wbytes [x1 * 256 + x2, ((wwords t).length : Int)] ++ ((2 * (wwords t).length : Nat) : Int) :: wbytes (wwords t)) := rfl
    have hwl : (wwords t).length = n := by rw [wwords_length]; omega
    rw [e2, hwl, wbytes_wwords t hwt (by omega), wbytes_one _ _ (by omega), wbytes_one _ _ (by omega)]
    show 16 :: (x1 * 256 + x2) / 256 :: (x1 * 256 + x2) % 256 :: (n : Int) / 256 :: (n : Int) % 256 :: ((2 * n : Nat) : Int) :: t = _
    congr 1
    congr 1
    · omega
    · congr 1
      · omega
      · congr 1
        · omega
        · congr 1
          · omega
          · congr 1
            omega
  · -- 20
    have hlen : 2 ≤ ys.length := by
      unfold szOf at hs
      rw [if_neg (by omega), if_pos hc] at hs
      split at hs <;> omega
    obtain ⟨x0, x1, t, rfl⟩ := two_of hlen
    rw [nth_zero] at hc
    subst hc
    have ht : (t.length : Int) = x1 := by
      unfold szOf at hs
      rw [if_neg (by rw [nth_zero]; omega), if_pos (nth_zero _ _), if_neg (by simp)] at hs
      simp only [nth_succ, nth_zero, List.length_cons] at hs
      omega
    have hwt : ∀ x ∈ t, (Lit.int .u8 x).wf = true := fun x hx => hw x (by simp [hx])
    have e : rdQ (20 :: x1 :: t) = ⟨20, 0, 0, [], [], flOf t (t.length / 7)⟩ := by
      unfold rdQ
      rw [if_pos (nth_zero _ _)]
      rfl
    unfold rdOk at hr
    rw [if_pos (nth_zero _ _)] at hr
    have hr : partsOk t = true := hr
    simp only [partsOk, Bool.and_eq_true, decide_eq_true_eq] at hr
    have hl3 : (flOf t (t.length / 7)).length / 3 = t.length / 7 := by rw [flOf_length]; omega
    rw [e]
    have e2 : ∀ m, (flOf t (t.length / 7)).length / 3 = m → pduQ ⟨20, 0, 0, [], [], flOf t (t.length / 7)⟩ = 20 :: ((7 * m : Nat) : Int) :: pbytes (flOf t (t.length / 7)) m := fun m hm => by subst hm; rfl
    rw [e2 _ hl3, pbytes_flOf t hwt _ (by omega) hr.2]
    congr 2
    omega

theorem szOf_take {ys : List Int} (hs : (ys.length : Int) = szOf ys) {k : Nat} (h1 : 1 ≤ k) (h2 : k < ys.length) : (k : Int) < szOf (ys.take k) := by
  have hl : (ys.take k).length = k := by simp; omega
  have h0 := nth_pre ys k 0 (by omega)
  unfold szOf at hs ⊢
  rw [h0, hl]
  split
  · rename_i hc
    rw [if_pos hc] at hs
    split
    · omega
    · rw [if_neg (by omega)] at hs
      rw [nth_pre ys k 5 (by omega)]
      omega
  · rename_i hc
    rw [if_neg hc] at hs
    split
    · rename_i h20
      rw [if_pos h20] at hs
      split
      · omega
      · rw [if_neg (by omega)] at hs
        rw [nth_pre ys k 1 (by omega)]
        omega
    · rename_i h20
      rw [if_neg h20] at hs
      omega
/-- A beginning of a PDU is too short. -/
theorem getE_take {ys : List Int} (h : getE ys = 0) (k : Nat) (hk : k < ys.length) : getE (ys.take k) = 1 := by
  obtain ⟨h0, hm, hs, hr, hc⟩ := getE_zero h
  have hl : (ys.take k).length = k := by simp; omega
  unfold getE
  rw [hl]
  split
  · rfl
  · rename_i hk0
    rw [nth_pre ys k 0 (by omega), if_neg (by omega), if_pos (szOf_take hs (by omega) hk)]
/-- A PDU with more bytes behind it is too long. -/
theorem getE_more {ys : List Int} (h : getE ys = 0) (more : List Int) (hm0 : 0 < more.length) : getE (ys ++ more) = 2 := by
  obtain ⟨h0, hm, hs, hr, hc⟩ := getE_zero h
  have hl : (ys ++ more).length = ys.length + more.length := List.length_append
  have n0 : nth (ys ++ more) 0 = nth ys 0 := nth_left _ _ _ (by omega)
  have hsz : szOf (ys ++ more) = szOf ys := by
    unfold szOf at hs ⊢
    rw [n0, hl]
    split
    · rename_i hc
      rw [if_pos hc] at hs
      split at hs
      · omega
      · rw [if_neg (by omega), if_neg (by omega), nth_left _ _ _ (by omega)]
    · rename_i hc
      rw [if_neg hc] at hs
      split
      · rename_i h20
        rw [if_pos h20] at hs
        split at hs
        · omega
        · rw [if_neg (by omega), if_neg (by omega), nth_left _ _ _ (by omega)]
      · rfl
  unfold getE
  rw [hl, n0, hsz, if_neg (by omega), if_neg (by omega), if_neg (by omega), if_pos (by omega)]
end Go.Proofs.YtcmbdhmhkfhjfaaGreat
namespace Go.Proofs.YtcmbdhmhkfhjfaaGreat
open Go.RowKit
set_option linter.unusedVariables false

/-- What Put tells: the PDU. -/
def putL (q : Req) : List Int := if chkQ q = 0 then pduQ q else []
theorem chkQ_of {w : World} {B : Nat} {q : Req} {Ao As Ap : Option Addr} {lo ls lp : Nat} (h : Asked w B q Ao As Ap lo ls lp) : chk q.c q.a q.n lo ls lp q.fl = chkQ q := by
  rw [chkQ, h.lo, h.ls, h.lp, Nat.mul_div_cancel_left lp (by omega)]
theorem pduQ_of {w : World} {B : Nat} {q : Req} {Ao As Ap : Option Addr} {lo ls lp : Nat} (h : Asked w B q Ao As Ap lo ls lp) : pduOf q lo ls lp = pduQ q := by
  rw [pduQ, h.lo, h.ls, h.lp, Nat.mul_div_cancel_left lp (by omega)]
theorem right_lengths {q : Req} (hk : chkQ q = 0) : (q.on.length ≤ 1968 ∧ q.set.length ≤ 123) ∧ q.fl.length / 3 ≤ 35 := right_many hk
theorem putL_len (q : Req) (hset : ∀ x ∈ q.set, (Lit.int .u16 x).wf = true) (h3 : q.fl.length % 3 = 0) : (putL q).length ≤ 253 := by
  unfold putL
  split
  · rename_i hk; exact (pdu_back q hset h3 hk).2.2.2
  · simp
theorem putL_wf (q : Req) : ∀ x ∈ putL q, (Lit.int .u8 x).wf = true := by
  unfold putL
  split
  · rename_i hk
    have h2 := right_lengths hk
    have hc := mm_pos (chk_zero hk).1
    intro x hx
    rw [pduQ, pduOf] at hx
    rcases List.mem_cons.1 hx with rfl | hx
    · have := wf_byte q.c.toNat (by omega)
      rwa [show ((q.c.toNat : Nat) : Int) = q.c by omega] at this
    · exact tl_wf (by unfold need; omega) x hx
  · intro x hx; cases hx
/-- Check, of any request. -/
theorem Check_Q (q : Req) (Ao As Ap : Option Addr) (lo ls lp co cs cp : Nat) (w : World) (h : Asked w w.heap.size q Ao As Ap lo ls lp) :
    Calls Tryz.prog 67 #[.agg #[.int .i64 q.c, .int .i64 q.a, .int .i64 q.n, .slice Ao lo co, .slice As ls cs, .slice Ap lp cp]] w fun e w' => e = .returned (.int .i64 (chkQ q)) ∧ Below w.heap.size w w' := by
  have h2 := Check_any q Ao As Ap lo ls lp co cs cp w h
  rwa [chkQ_of h] at h2

def ex3 : Req := ⟨3, 107, 3, [], [], []⟩
def ex3L : List Int := [3, 0, 107, 0, 3]
theorem ex3_put : putL ex3 = ex3L := by decide
theorem ex3_chk : chkQ ex3 = 0 := by decide
theorem ex3_getE : getE ex3L = 0 := by decide
theorem ex3_getQ : getQ ex3L = ex3 := by
  unfold getQ
  rw [if_pos ex3_getE]
  rfl
theorem ex3_wf : ∀ x ∈ ex3L, (Lit.int .u8 x).wf = true := by decide
theorem Asked.of_nil (w : World) (B : Nat) (c a n : Int) : Asked w B ⟨c, a, n, [], [], []⟩ none none none 0 0 0 := ⟨L.Row.nil _ _ _ _, Row.nil _ _ _ _, Row.nil _ _ _ _, rfl, rfl, rfl⟩
/-- A request of the call's own, told with a number, reads as its lists. -/
theorem Told.view {w w' : World} {q : Req} {err : Int} {e : Ending} (h : Told w q err e w') (hw : (∀ x ∈ q.set, (Lit.int .u16 x).wf = true) ∧ ∀ x ∈ q.fl, (Lit.int .i64 x).wf = true) :
    ∃ (A1 A2 A3 : Option Addr) (m1 m2 n3 c3 : Nat), e = .returned (.tuple #[.agg #[.int .i64 q.c, .int .i64 q.a, .int .i64 q.n, .slice A1 m1 m1, .slice A2 m2 m2, .slice A3 n3 c3], .int .i64 err]) ∧ Asked w' w'.heap.size q A1 A2 A3 m1 m2 n3 ∧ Below w.heap.size w w' := by
  obtain ⟨A1, A2, m1, m2, g1, g2, vp, he, h1, h2, h3, hl, hg, hb⟩ := h
  obtain ⟨A3, n3, c3, rfl⟩ := h3.form
  exact ⟨A1, A2, A3, m1, m2, n3, c3, he, Told.asked h1 h2 h3 hl hw, hb⟩
/-- Get of what is refused, or of what is right, holds what it may. -/
theorem getQ_wf (ys : List Int) (hw : ∀ x ∈ ys, (Lit.int .u8 x).wf = true) : (∀ x ∈ (getQ ys).set, (Lit.int .u16 x).wf = true) ∧ ∀ x ∈ (getQ ys).fl, (Lit.int .i64 x).wf = true := by
  unfold getQ
  split
  · rename_i h
    obtain ⟨h0, hm, hs, hr, hk⟩ := getE_zero h
    exact rdQ_wf ys hw (szOf_five ys hw hs)
  · exact ⟨by simp [Req.zero], by simp [Req.zero]⟩
end Go.Proofs.YtcmbdhmhkfhjfaaGreat
namespace Go.Proofs.YtcmbdhmhkfhjfaaGreat
open Go.RowKit
set_option linter.unusedVariables false

theorem grown_of_alloc {w w' : World} {o : Obj} {row : Option Nat} (h : (w.alloc o).grownBy w' row) : w.grownBy w' row :=
  ⟨h.os, h.tape, h.output, by have := h.size; simp at this; omega, fun k hk hne => (h.block k (by simp; omega) hne).trans (heap_alloc_old w o hk)⟩
theorem shl_pow (r : Nat) (h : r < 8) : (2 : Nat) ^ r < 256 := Nat.lt_of_le_of_lt (Nat.pow_le_pow_right (n := 2) (by omega) (show r ≤ 7 by omega)) (by omega)
end Go.Proofs.YtcmbdhmhkfhjfaaGreat
namespace Go.Proofs.YtcmbdhmhkfhjfaaGreat
open Go.RowKit
set_option linter.unusedVariables false
theorem wbytes_cons (a : Int) (l : List Int) : wbytes (a :: l) = wbytes [a] ++ wbytes l := by simp [wbytes]
theorem Bx.old {w0 w : World} {g : Nat} {o : Obj} (h : Bx w0 g o w) {b i : Nat} {v : Value} (hb : b < g) (hc : w0.cell? ⟨b, i, none⟩ = some v) : w.cell? ⟨b, i, none⟩ = some v := (h.2.cell (p := ⟨b, i, none⟩) hb).trans hc

end Go.Proofs.YtcmbdhmhkfhjfaaGreat
namespace Go.Proofs.YtcmbdhmhkfhjfaaGreat
open Go.RowKit
set_option linter.unusedVariables false

end Go.Proofs.YtcmbdhmhkfhjfaaGreat
namespace Go.Proofs.YtcmbdhmhkfhjfaaGreat
open Go.RowKit
set_option linter.unusedVariables false
/-- Where a part lies, in whatever world a box above it is kept. -/
theorem Bx.parts {w0 w : World} {g : Nat} {t : TypeId} {v0 v1 v2 v3 v4 v5 p0 p1 p2 : Value} {b i : Nat} (h : Bx w0 g (.cells #[v0, v1, v2, v3, v4, v5] t (0, 0)) w) (hb : b < g) (h0 : w0.cell? ⟨b, i, none⟩ = some p0) (h1 : w0.cell? ⟨b, i + 1, none⟩ = some p1) (h2 : w0.cell? ⟨b, i + 2, none⟩ = some p2) :
    w.cell? ⟨b, i, none⟩ = some p0 ∧ w.cell? ⟨b, i + 1, none⟩ = some p1 ∧ w.cell? ⟨b, i + 2, none⟩ = some p2 ∧ w.cell? ⟨g, 0, none⟩ = some v0 ∧ w.cell? ⟨g, 1, none⟩ = some v1 ∧ w.cell? ⟨g, 2, none⟩ = some v2 ∧ w.cell? ⟨g, 3, none⟩ = some v3 ∧ w.cell? ⟨g, 4, none⟩ = some v4 ∧ w.cell? ⟨g, 5, none⟩ = some v5 :=
  ⟨h.old hb h0, h.old hb h1, h.old hb h2, h.six⟩

/-- Does a request write? -/
def wrB (c : Int) : Bool := decide (c = 5 ∨ c = 6 ∨ c = 15 ∨ c = 16)
end Go.Proofs.YtcmbdhmhkfhjfaaGreat
namespace Go.Proofs.YtcmbdhmhkfhjfaaGreat
open Go.RowKit
set_option linter.unusedVariables false
/-- How long a PDU is that begins so, or -1: that can't be told yet. -/
def lenR (ys : List Int) : Int := if (nth ys 0 = 15 ∨ nth ys 0 = 16) ∧ ys.length < 6 then -1 else if nth ys 0 = 20 ∧ ys.length < 2 then -1 else szOf ys
end Go.Proofs.YtcmbdhmhkfhjfaaGreat
namespace Go.Proofs.YtcmbdhmhkfhjfaaGreat
open Go.RowKit
set_option linter.unusedVariables false

/-- The box of the result and the box of the request under way; what lies below is as it was. -/
structure TB (w0 : World) (B : Nat) (o1 o2 : Obj) (w : World) : Prop where
  ret : w.heap[B]? = some o1
  box : w.heap[B + 1]? = some o2
  bel : Below B w0 w
theorem TB.lt {w0 w : World} {B : Nat} {o1 o2 : Obj} (h : TB w0 B o1 o2 w) : B + 1 < w.heap.size := block_lt h.box
theorem TB.below {w0 w w' : World} {B : Nat} {o1 o2 : Obj} (h : TB w0 B o1 o2 w) (hb : Below w.heap.size w w') : TB w0 B o1 o2 w' := by
  have h1 := h.lt
  exact ⟨(hb.block B (by omega)).trans h.ret, (hb.block (B + 1) (by omega)).trans h.box, h.bel.trans (hb.mono (by omega))⟩
theorem TB.grown {w0 w w' : World} {B : Nat} {o1 o2 : Obj} {row : Option Nat} (h : TB w0 B o1 o2 w) (hg : w.grownBy w' row) (hr : ∀ g, row = some g → B + 2 ≤ g) : TB w0 B o1 o2 w' := by
  have h1 := h.lt
  have hn : ∀ k, k < B + 2 → some k ≠ row := fun k hk e => by have := hr k e.symm; omega
  refine ⟨(hg.block B (by omega) (hn _ (by omega))).trans h.ret, (hg.block (B + 1) (by omega) (hn _ (by omega))).trans h.box, ?_⟩
  exact ⟨hg.os.trans h.bel.os, hg.tape.trans h.bel.tape, hg.output.trans h.bel.output, by have := h.bel.size; have := hg.size; omega, fun k hk => (hg.block k (by omega) (hn _ (by omega))).trans (h.bel.block k hk)⟩
theorem TB.new (w : World) (c1 c2 : Array Value) (t : TypeId) : TB w w.heap.size (.cells c1 t (0, 0)) (.cells c2 t (0, 0)) ((w.alloc (.cells c1 t)).alloc (.cells c2 t)) :=
  ⟨(heap_alloc_old _ _ (by simp)).trans (heap_alloc_new w _), heap_new_at _ _ (by simp), (bel_alloc w _).alloc (by simp) _⟩
theorem TB.set {w0 w : World} {B : Nat} {o1 : Obj} {cs : Array Value} {t : TypeId} (h : TB w0 B o1 (.cells cs t (0, 0)) w) (i : Nat) (v : Value) : TB w0 B o1 (.cells (cs.setIfInBounds i v) t (0, 0)) (w.setCell ⟨B + 1, i, none⟩ v) :=
  ⟨(Below.heap_setCell w ⟨B + 1, i, none⟩ v B (by simp)).trans h.ret, box_set h.box i v, below_setCell h.bel (Nat.le_succ _) i v⟩
theorem L.Own.laid {k : Unit} {t : TypeId} {w : World} {base g : Nat} {l : List Bool} {n : Nat} (hg : w.heap[g]? = some (.cells (L.blk k l) t (0, 0))) (hb : base ≤ g) (hl : l.length = n) (hm : n ≤ maxLen) : L.Own k t w base (.slice (some ⟨g, 0, none⟩) n n) l := by
  subst hl
  exact ⟨by simp, .inr ⟨g, _, _, rfl, hb, hg, Nat.le_refl _, hm, by simp [L.blk], by rw [Nat.mul_one, List.take_of_length_le (by simp [L.blk])]; simp [L.blk]⟩⟩
theorem TB.c6 {w0 w : World} {B : Nat} {o1 : Obj} {t : TypeId} {v0 v1 v2 v3 v4 v5 : Value} (h : TB w0 B o1 (.cells #[v0, v1, v2, v3, v4, v5] t (0, 0)) w) :
    w.cell? ⟨B + 1, 0, none⟩ = some v0 ∧ w.cell? ⟨B + 1, 1, none⟩ = some v1 ∧ w.cell? ⟨B + 1, 2, none⟩ = some v2 ∧ w.cell? ⟨B + 1, 3, none⟩ = some v3 ∧ w.cell? ⟨B + 1, 4, none⟩ = some v4 ∧ w.cell? ⟨B + 1, 5, none⟩ = some v5 ∧ ∀ i, w.frozen? ⟨B + 1, i, none⟩ = false := by
  obtain ⟨⟨a, b, c⟩, ⟨d, e, f⟩, g⟩ := cells6 h.box
  exact ⟨a, b, c, d, e, f, g⟩
theorem TB.r6 {w0 w : World} {B : Nat} {o2 : Obj} {t : TypeId} {v0 v1 v2 v3 v4 v5 : Value} (h : TB w0 B (.cells #[v0, v1, v2, v3, v4, v5] t (0, 0)) o2 w) :
    w.cell? ⟨B, 0, none⟩ = some v0 ∧ w.cell? ⟨B, 1, none⟩ = some v1 ∧ w.cell? ⟨B, 2, none⟩ = some v2 ∧ w.cell? ⟨B, 3, none⟩ = some v3 ∧ w.cell? ⟨B, 4, none⟩ = some v4 ∧ w.cell? ⟨B, 5, none⟩ = some v5 ∧ ∀ i, w.frozen? ⟨B, i, none⟩ = false := by
  obtain ⟨⟨a, b, c⟩, ⟨d, e, f⟩, g⟩ := cells6 h.ret
  exact ⟨a, b, c, d, e, f, g⟩
theorem TB.put {w0 w : World} {B : Nat} {o2 : Obj} {t : TypeId} {u0 u1 u2 u3 u4 u5 : Value} (h : TB w0 B (.cells #[u0, u1, u2, u3, u4, u5] t (0, 0)) o2 w) (v0 v1 v2 v3 v4 v5 : Value) :
    (put6 w B v0 v1 v2 v3 v4 v5).heap[B]? = some (.cells #[v0, v1, v2, v3, v4, v5] t (0, 0)) ∧ Below B w0 (put6 w B v0 v1 v2 v3 v4 v5) :=
  ⟨put6_heap h.ret v0 v1 v2 v3 v4 v5, below_put6 h.bel (Nat.le_refl _) v0 v1 v2 v3 v4 v5⟩

theorem TB.drew {w0 w : World} {B : Nat} {o1 o2 : Obj} (h : TB w0 B o1 o2 w) : TB w0 B o1 o2 w.drew := h.below ⟨rfl, rfl, rfl, Nat.le_refl _, fun _ _ => rfl⟩
theorem TB.alloc {w0 w : World} {B : Nat} {o1 o2 : Obj} (h : TB w0 B o1 o2 w) (o : Obj) : TB w0 B o1 o2 (w.alloc o) := h.below (bel_alloc w o)
theorem TB.all {w0 w : World} {B : Nat} {o1 : Obj} {t : TypeId} {v0 v1 v2 v3 v4 v5 u : Value} {b i : Nat} (h : TB w0 B o1 (.cells #[v0, v1, v2, v3, v4, v5] t (0, 0)) w) (hb : b < B) (hc : w0.cell? ⟨b, i, none⟩ = some u) :
    w.cell? ⟨b, i, none⟩ = some u ∧ w.cell? ⟨B + 1, 0, none⟩ = some v0 ∧ w.cell? ⟨B + 1, 1, none⟩ = some v1 ∧ w.cell? ⟨B + 1, 2, none⟩ = some v2 ∧ w.cell? ⟨B + 1, 3, none⟩ = some v3 ∧ w.cell? ⟨B + 1, 4, none⟩ = some v4 ∧ w.cell? ⟨B + 1, 5, none⟩ = some v5 ∧ ∀ i, w.frozen? ⟨B + 1, i, none⟩ = false :=
  ⟨(h.bel.cell (p := ⟨b, i, none⟩) hb).trans hc, h.c6⟩

theorem TB.set3 {w0 w : World} {B : Nat} {o1 : Obj} {t : TypeId} {v0 v1 v2 v3 v4 v5 : Value} (h : TB w0 B o1 (.cells #[v0, v1, v2, v3, v4, v5] t (0, 0)) w) (u : Value) : TB w0 B o1 (.cells #[v0, v1, v2, u, v4, v5] t (0, 0)) (w.setCell ⟨B + 1, 3, none⟩ u) := h.set 3 u
theorem TB.set4 {w0 w : World} {B : Nat} {o1 : Obj} {t : TypeId} {v0 v1 v2 v3 v4 v5 : Value} (h : TB w0 B o1 (.cells #[v0, v1, v2, v3, v4, v5] t (0, 0)) w) (u : Value) : TB w0 B o1 (.cells #[v0, v1, v2, v3, u, v5] t (0, 0)) (w.setCell ⟨B + 1, 4, none⟩ u) := h.set 4 u
theorem TB.set5 {w0 w : World} {B : Nat} {o1 : Obj} {t : TypeId} {v0 v1 v2 v3 v4 v5 : Value} (h : TB w0 B o1 (.cells #[v0, v1, v2, v3, v4, v5] t (0, 0)) w) (u : Value) : TB w0 B o1 (.cells #[v0, v1, v2, v3, v4, u] t (0, 0)) (w.setCell ⟨B + 1, 5, none⟩ u) := h.set 5 u
theorem TB.st {w0 w : World} {B : Nat} {o1 : Obj} {t : TypeId} {v0 v1 v2 v3 v4 v5 u : Value} {b i : Nat} (h : TB w0 B o1 (.cells #[v0, v1, v2, v3, v4, v5] t (0, 0)) w) (hb : b < B) (hc : w0.cell? ⟨b, i, none⟩ = some u) :
    w.cell? ⟨b, i, none⟩ = some u ∧ ∀ i, w.frozen? ⟨B + 1, i, none⟩ = false :=
  ⟨(h.bel.cell (p := ⟨b, i, none⟩) hb).trans hc, h.c6.2.2.2.2.2.2⟩

/-- Whatever lies at A lies in a block from B on. -/
def Fresh (B : Nat) (A : Option Addr) : Prop := ∀ b o f, A = some ⟨b, o, f⟩ → B ≤ b
theorem Fresh.nil (B : Nat) : Fresh B none := fun _ _ _ h => by cases h
theorem Fresh.at {B g o : Nat} {f : Option Nat} (h : B ≤ g) : Fresh B (some ⟨g, o, f⟩) := fun b o f e => by injection e with e; injection e with e1; omega
theorem Fresh.own {k : IntKind} {e : TypeId} {w : World} {base n c B : Nat} {A : Option Addr} {xs : List Int} (h : Own k e w base (.slice A n c) xs) (hB : B ≤ base) : Fresh B A := by
  rcases h.2 with ⟨h, _⟩ | ⟨g, cap, cur, h, hb, _⟩
  · injection h with h; subst h; exact Fresh.nil _
  · injection h with h; subst h; exact Fresh.at (Nat.le_trans hB hb)
theorem Fresh.ownL {k : Unit} {e : TypeId} {w : World} {base n c B : Nat} {A : Option Addr} {xs : List Bool} (h : L.Own k e w base (.slice A n c) xs) (hB : B ≤ base) : Fresh B A := by
  rcases h.2 with ⟨h, _⟩ | ⟨g, cap, cur, h, hb, _⟩
  · injection h with h; subst h; exact Fresh.nil _
  · injection h with h; subst h; exact Fresh.at (Nat.le_trans hB hb)
theorem Fresh.ownP {e : TypeId} {w : World} {base n c B : Nat} {A : Option Addr} {fl : List Int} (h : POwn e w base (.slice A n c) fl) (hB : B ≤ base) : Fresh B A := by
  rcases h with ⟨h, _⟩ | ⟨g, n, cap, r, h, hb, _⟩
  · injection h with h; subst h; exact Fresh.nil _
  · injection h with h; subst h; exact Fresh.at (Nat.le_trans hB hb)

/-- What said tells: the request that the bytes say, or that they say none. -/
def RSaid (w : World) (ys : List Int) (e : Ending) (w' : World) : Prop :=
  ∃ (q : Req) (A1 A2 A3 : Option Addr) (m1 m2 m3 c1 c2 c3 : Nat) (ok : Bool), e = .returned (.tuple #[.agg #[.int .i64 q.c, .int .i64 q.a, .int .i64 q.n, .slice A1 m1 c1, .slice A2 m2 c2, .slice A3 m3 c3], .bool ok]) ∧
    Asked w' w'.heap.size q A1 A2 A3 m1 m2 m3 ∧ Below w.heap.size w w' ∧ (Fresh w.heap.size A1 ∧ Fresh w.heap.size A2 ∧ Fresh w.heap.size A3) ∧ (ok = true ∧ rdOk ys = true ∧ q = rdQ ys ∨ ok = false ∧ rdOk ys = false)
theorem Row.tb {k : IntKind} {w0 w : World} {B : Nat} {o1 o2 : Obj} {A : Option Addr} {xs : List Int} (h : Row k w0 B A xs) (ht : TB w0 B o1 o2 w) : Row k w B A xs := h.below ht.bel

end Go.Proofs.YtcmbdhmhkfhjfaaGreat
namespace Go.Proofs.YtcmbdhmhkfhjfaaGreat
open Go.RowKit
set_option linter.unusedVariables false

/-- An answer: its number, its bits, its words, and its files. -/
structure Rep where
  x : Int
  on : List Bool
  set : List Int
  fs : List (List Int)
def Rep.zero : Rep := ⟨0, [], [], []⟩
def nthF (fs : List (List Int)) (i : Nat) : List Int := fs.getD i []
/-- A list of lists of words: each in a slice of its own. -/
def FRow (w : World) (B : Nat) (A : Option Addr) (fs : List (List Int)) : Prop :=
  0 < fs.length → ∃ b o, A = some ⟨b, o, none⟩ ∧ b < B ∧ ∀ i, i < fs.length → ∃ Ai ci, w.cell? ⟨b, o + i, none⟩ = some (.slice Ai (nthF fs i).length ci) ∧ Row .u16 w B Ai (nthF fs i) ∧ (nthF fs i).length ≤ ci
theorem FRow.nil (w : World) (B : Nat) (A : Option Addr) : FRow w B A [] := fun h => absurd h (by simp)
theorem FRow.below {w w' : World} {B : Nat} {A : Option Addr} {fs : List (List Int)} (h : FRow w B A fs) (hb : Below B w w') : FRow w' B A fs := fun h0 => by
  obtain ⟨b, o, hA, hB, hc⟩ := h h0
  refine ⟨b, o, hA, hB, fun i hi => ?_⟩
  obtain ⟨Ai, ci, h1, h2, h3⟩ := hc i hi
  exact ⟨Ai, ci, (hb.cell (p := ⟨b, o + i, none⟩) hB).trans h1, h2.below hb, h3⟩
theorem FRow.more {w : World} {B B' : Nat} {A : Option Addr} {fs : List (List Int)} (h : FRow w B A fs) (hB : B ≤ B') : FRow w B' A fs := fun h0 => by
  obtain ⟨b, o, hA, hb, hc⟩ := h h0
  refine ⟨b, o, hA, by omega, fun i hi => ?_⟩
  obtain ⟨Ai, ci, h1, h2, h3⟩ := hc i hi
  exact ⟨Ai, ci, h1, h2.more hB, h3⟩
/-- The three lists of an answer, where they lie and how long they are. -/
structure Repd (w : World) (B : Nat) (r : Rep) (Bo Bs Bf : Option Addr) (mo ms mf : Nat) : Prop where
  on : L.Row () w B Bo r.on
  set : Row .u16 w B Bs r.set
  fs : FRow w B Bf r.fs
  mo : r.on.length = mo
  ms : r.set.length = ms
  mf : r.fs.length = mf
theorem Repd.below {w w' : World} {B : Nat} {r : Rep} {Bo Bs Bf : Option Addr} {mo ms mf : Nat} (h : Repd w B r Bo Bs Bf mo ms mf) (hb : Below B w w') : Repd w' B r Bo Bs Bf mo ms mf :=
  ⟨h.on.below hb, h.set.below hb, h.fs.below hb, h.mo, h.ms, h.mf⟩
theorem Repd.more {w : World} {B B' : Nat} {r : Rep} {Bo Bs Bf : Option Addr} {mo ms mf : Nat} (h : Repd w B r Bo Bs Bf mo ms mf) (hB : B ≤ B') : Repd w B' r Bo Bs Bf mo ms mf :=
  ⟨h.on.more hB, h.set.more hB, h.fs.more hB, h.mo, h.ms, h.mf⟩
theorem Repd.up {w w' : World} {r : Rep} {Bo Bs Bf : Option Addr} {mo ms mf : Nat} (h : Repd w w.heap.size r Bo Bs Bf mo ms mf) (hb : Below w.heap.size w w') : Repd w' w'.heap.size r Bo Bs Bf mo ms mf :=
  (h.below hb).more hb.size
theorem Repd.zero (w : World) (B : Nat) (x : Int) : Repd w B ⟨x, [], [], []⟩ none none none 0 0 0 := ⟨L.Row.nil _ _ _ _, Row.nil _ _ _ _, FRow.nil _ _ _, rfl, rfl, rfl⟩

theorem TB.c4 {w0 w : World} {B : Nat} {o1 : Obj} {t : TypeId} {v0 v1 v2 v3 : Value} (h : TB w0 B o1 (.cells #[v0, v1, v2, v3] t (0, 0)) w) :
    w.cell? ⟨B + 1, 0, none⟩ = some v0 ∧ w.cell? ⟨B + 1, 1, none⟩ = some v1 ∧ w.cell? ⟨B + 1, 2, none⟩ = some v2 ∧ w.cell? ⟨B + 1, 3, none⟩ = some v3 ∧ ∀ i, w.frozen? ⟨B + 1, i, none⟩ = false :=
  ⟨cell_of_row w _ 0 _ _ _ h.box, cell_of_row w _ 1 _ _ _ h.box, cell_of_row w _ 2 _ _ _ h.box, cell_of_row w _ 3 _ _ _ h.box, fun i => block_frozen w _ i _ _ h.box⟩

theorem isExc_any (n : Int) (w : World) : Calls Tryz.prog 108 #[.int .i64 n] w fun e w' => e = .returned (.bool (decide (1 ≤ n ∧ n ≤ 127))) ∧ w' = w := by
  go_enter Tryz.func108, Tryz.ntmps108
  go_wp2
  all_goals (go_ret; refine ⟨?_, rfl⟩; first | rfl | (simp [*]; done) | (simp [*]; omega))

def anyB (mo ms mf : Nat) : Bool := decide (0 < mo) || decide (0 < ms) || decide (0 < mf)
theorem hasList_any (x : Int) (Bo Bs Bf : Option Addr) (mo ms mf eo es ef : Nat) (w : World) :
    Calls Tryz.prog 109 #[.agg #[.int .i64 x, .slice Bo mo eo, .slice Bs ms es, .slice Bf mf ef]] w fun e w' => e = .returned (.bool (anyB mo ms mf)) ∧ Below w.heap.size w w' := by
  have h : anyB mo ms mf = (decide (0 < (mo : Int)) || decide (0 < (ms : Int)) || decide (0 < (mf : Int))) := by simp [anyB]
  rw [h]
  clear h
  go_enter Tryz.func109, Tryz.ntmps109
  go_wp2
  all_goals (go_ret; refine ⟨?_, bel_alloc _ _⟩; first | rfl | (simp [*]; done) | (simp [*]; omega))

/-- Something stands in a list that an answer to the code does not have. -/
def strayB (c : Int) (mo ms mf : Nat) : Bool := anyB (if c = 1 ∨ c = 2 then 0 else mo) (if c = 3 ∨ c = 4 then 0 else ms) (if c = 20 then 0 else mf)
theorem rpStray_bits (c x : Int) (Bo Bs Bf : Option Addr) (mo ms mf eo es ef : Nat) (w : World) (hc : c = 1 ∨ c = 2) :
    Calls Tryz.prog 77 #[.int .i64 c, .agg #[.int .i64 x, .slice Bo mo eo, .slice Bs ms es, .slice Bf mf ef]] w fun e w' => e = .returned (.bool (strayB c mo ms mf)) ∧ Below w.heap.size w w' := by
  have HS : Hid (strayB c mo ms mf = anyB 0 ms mf) := Lib.hid (by rw [strayB, if_pos hc, if_neg (by omega), if_neg (by omega)])
  rw [HS.out]
  rcases hc with rfl | rfl
  all_goals
    go_enter Tryz.func77, Tryz.ntmps77
    go_wp2_with fail
    refine (hasList_any x none Bs Bf 0 ms mf 0 es ef _).mono ?_
    rintro e w1 ⟨rfl, b1⟩
    go_wp2
    go_ret
    exact ⟨rfl, (bel_alloc w _).trans (b1.mono (by simp))⟩
theorem rpStray_words (c x : Int) (Bo Bs Bf : Option Addr) (mo ms mf eo es ef : Nat) (w : World) (hc : c = 3 ∨ c = 4) :
    Calls Tryz.prog 77 #[.int .i64 c, .agg #[.int .i64 x, .slice Bo mo eo, .slice Bs ms es, .slice Bf mf ef]] w fun e w' => e = .returned (.bool (strayB c mo ms mf)) ∧ Below w.heap.size w w' := by
  have HS : Hid (strayB c mo ms mf = anyB mo 0 mf) := Lib.hid (by rw [strayB, if_neg (by omega), if_pos hc, if_neg (by omega)])
  rw [HS.out]
  rcases hc with rfl | rfl
  all_goals
    go_enter Tryz.func77, Tryz.ntmps77
    go_wp2_with fail
    refine (hasList_any x Bo none Bf mo 0 mf eo 0 ef _).mono ?_
    rintro e w1 ⟨rfl, b1⟩
    go_wp2
    go_ret
    exact ⟨rfl, (bel_alloc w _).trans (b1.mono (by simp))⟩
theorem rpStray_file (x : Int) (Bo Bs Bf : Option Addr) (mo ms mf eo es ef : Nat) (w : World) :
    Calls Tryz.prog 77 #[.int .i64 20, .agg #[.int .i64 x, .slice Bo mo eo, .slice Bs ms es, .slice Bf mf ef]] w fun e w' => e = .returned (.bool (strayB 20 mo ms mf)) ∧ Below w.heap.size w w' := by
  have HS : Hid (strayB 20 mo ms mf = anyB mo ms 0) := Lib.hid (by rw [strayB, if_neg (by omega), if_neg (by omega), if_pos rfl])
  rw [HS.out]
  go_enter Tryz.func77, Tryz.ntmps77
  go_wp2_with fail
  refine (hasList_any x Bo Bs none mo ms 0 eo es 0 _).mono ?_
  rintro e w1 ⟨rfl, b1⟩
  go_wp2
  go_ret
  exact ⟨rfl, (bel_alloc w _).trans (b1.mono (by simp))⟩
theorem rpStray_else (c x : Int) (Bo Bs Bf : Option Addr) (mo ms mf eo es ef : Nat) (w : World) (h1 : ¬ (c = 1 ∨ c = 2)) (h2 : ¬ (c = 3 ∨ c = 4)) (h3 : c ≠ 20) :
    Calls Tryz.prog 77 #[.int .i64 c, .agg #[.int .i64 x, .slice Bo mo eo, .slice Bs ms es, .slice Bf mf ef]] w fun e w' => e = .returned (.bool (strayB c mo ms mf)) ∧ Below w.heap.size w w' := by
  have HS : Hid (strayB c mo ms mf = anyB mo ms mf) := Lib.hid (by rw [strayB, if_neg h1, if_neg h2, if_neg h3])
  rw [HS.out]
  have b1 : (c == 1) = false := beq_false_of_ne (by omega)
  have b2 : (c == 2) = false := beq_false_of_ne (by omega)
  have b3 : (c == 3) = false := beq_false_of_ne (by omega)
  have b4 : (c == 4) = false := beq_false_of_ne (by omega)
  have b5 : (c == 20) = false := beq_false_of_ne h3
  clear h1 h2 h3
  go_enter Tryz.func77, Tryz.ntmps77
  go_wp2_with fail
  refine (hasList_any x Bo Bs Bf mo ms mf eo es ef _).mono ?_
  rintro e w1 ⟨rfl, b1⟩
  go_wp2
  go_ret
  exact ⟨rfl, (bel_alloc w _).trans (b1.mono (by simp))⟩
theorem rpStray_any (c x : Int) (Bo Bs Bf : Option Addr) (mo ms mf eo es ef : Nat) (w : World) :
    Calls Tryz.prog 77 #[.int .i64 c, .agg #[.int .i64 x, .slice Bo mo eo, .slice Bs ms es, .slice Bf mf ef]] w fun e w' => e = .returned (.bool (strayB c mo ms mf)) ∧ Below w.heap.size w w' := by
  by_cases h1 : c = 1 ∨ c = 2
  · exact rpStray_bits c x Bo Bs Bf mo ms mf eo es ef w h1
  · by_cases h2 : c = 3 ∨ c = 4
    · exact rpStray_words c x Bo Bs Bf mo ms mf eo es ef w h2
    · by_cases h3 : c = 20
      · subst h3; exact rpStray_file x Bo Bs Bf mo ms mf eo es ef w
      · exact rpStray_else c x Bo Bs Bf mo ms mf eo es ef w h1 h2 h3

theorem checkExc_any (x : Int) (Bo Bs Bf : Option Addr) (mo ms mf eo es ef : Nat) (w : World) :
    Calls Tryz.prog 76 #[.agg #[.int .i64 x, .slice Bo mo eo, .slice Bs ms es, .slice Bf mf ef]] w fun e w' => e = .returned (.int .i64 (if 1 ≤ x ∧ x ≤ 127 then (if anyB mo ms mf = true then 23 else 0) else 3)) ∧ Below w.heap.size w w' := by
  obtain ⟨u, hu⟩ : ∃ u, Hid (decide (1 ≤ x ∧ x ≤ 127) = u) := ⟨_, Lib.hid rfl⟩
  obtain ⟨v, hv⟩ : ∃ v, Hid (anyB mo ms mf = v) := ⟨_, Lib.hid rfl⟩
  obtain ⟨E, hE⟩ : ∃ E : Int, Hid ((if 1 ≤ x ∧ x ≤ 127 then (if anyB mo ms mf = true then 23 else 0) else 3) = E) := ⟨_, Lib.hid rfl⟩
  rw [hE.out]
  have bx := bel_alloc w (.cells #[.int .i64 x, .slice Bo mo eo, .slice Bs ms es, .slice Bf mf ef] 30)
  cases u with
  | false =>
    have h1 : Hid (E = 3) := Lib.hid (by rw [← hE.out, if_neg (of_decide_eq_false hu.out)])
    go_enter Tryz.func76, Tryz.ntmps76
    go_wp2_with fail
    refine (isExc_any x _).mono ?_
    rintro e w1 ⟨rfl, rfl⟩
    rw [hu.out]
    go_wp2
    go_ret
    exact ⟨by rw [h1.out]; rfl, bx⟩
  | true =>
    have h1 : Hid (E = if v = true then 23 else 0) := Lib.hid (by rw [← hE.out, if_pos (of_decide_eq_true hu.out), hv.out])
    cases v with
    | true =>
      go_enter Tryz.func76, Tryz.ntmps76
      go_wp2_with fail
      refine (isExc_any x _).mono ?_
      rintro e w1 ⟨rfl, rfl⟩
      rw [hu.out]
      go_wp2_with fail
      refine (hasList_any x Bo Bs Bf mo ms mf eo es ef _).mono ?_
      rintro e w1 ⟨rfl, b1⟩
      rw [hv.out]
      go_wp2
      go_ret
      exact ⟨by rw [h1.out]; rfl, bx.trans (b1.mono (by simp))⟩
    | false =>
      go_enter Tryz.func76, Tryz.ntmps76
      go_wp2_with fail
      refine (isExc_any x _).mono ?_
      rintro e w1 ⟨rfl, rfl⟩
      rw [hu.out]
      go_wp2_with fail
      refine (hasList_any x Bo Bs Bf mo ms mf eo es ef _).mono ?_
      rintro e w1 ⟨rfl, b1⟩
      rw [hv.out]
      go_wp2
      go_ret
      exact ⟨by rw [h1.out]; rfl, bx.trans (b1.mono (by simp))⟩
end Go.Proofs.YtcmbdhmhkfhjfaaGreat
namespace Go.Proofs.YtcmbdhmhkfhjfaaGreat
open Go.ChangeShapes Go.WideShapes Go.ChangeAt Go.RowKit Go.Deep
set_option linter.unusedVariables false

section
variable {H : Type} {enc : TypeId × Value → H} {P : Program} {W : World}
/-- A slice of slices of words. -/
theorem files_in {t e ew : TypeId} {a : Option Addr} {len cap fuel : Nat} {y : DataW H × List MemPlace} (ht : P.underlying t = some (.slice e)) (he : P.underlying e = some (.slice ew)) (hw : P.underlying ew = some (.int .u16)) (hC : P.cellsOf e = 1) (hCw : P.cellsOf ew = 1)
    (h : DataW.trod enc P W 0 (fun _ => true) true fuel t [.slice a len cap] = some y) (lt : ∀ x ∈ y.2, x.block < W.heap.size) :
    ∃ fs, FRow W W.heap.size a fs ∧ fs.length = len := by
  rcases open_slice1 ht hC h with ⟨hcs, _⟩ | ⟨x, l, c, m, n, V, D, Pl, hcs, _, hl, hm, hmm, hx, hi⟩
  · injection hcs with hcs
    injection hcs with e1 e2 e3
    subst e1 e2 e3
    exact ⟨[], FRow.nil _ _ _, rfl⟩
  · injection hcs with hcs
    injection hcs with e1 e2 e3
    subst e1 e2 e3
    have hm2 : m = cap := by simpa using hmm
    rcases Nat.eq_zero_or_pos len with hz | hpos
    · subst hz; exact ⟨[], FRow.nil _ _ _, rfl⟩
    have each : ∀ i, ∃ xs, i < len → ∃ Ai ci, W.cell? (x.add i) = some (.slice Ai xs.length ci) ∧ Row .u16 W W.heap.size Ai xs ∧ xs.length ≤ ci := by
      intro i
      by_cases hil : i < len
      · obtain ⟨hc, ht'⟩ := hi i (by omega)
        obtain ⟨Ai, li, ci, hv⟩ := slice_form he ht'
        rw [hv] at hc ht'
        have hlt : ∀ z ∈ Pl i, z.block < W.heap.size := fun z hz => lt z (by
          rw [hx]
          exact List.mem_append.2 (.inr (List.mem_flatMap.2 ⟨i, List.mem_range.2 (by omega), hz⟩)))
        obtain ⟨xs, hr, hlen, hle, _⟩ := row_in he hw hCw ⟨n, ht'⟩ hlt
        exact ⟨xs, fun _ => ⟨Ai, ci, by rw [hlen]; exact hc, hr, by omega⟩⟩
      · exact ⟨[], fun h => absurd h hil⟩
    obtain ⟨X, hX⟩ := Classical.axiomOfChoice each
    obtain ⟨b, off, spot⟩ := x
    obtain ⟨A0, c0, h0, _, _⟩ := hX 0 hpos
    have hspot : spot = none := by simpa [Addr.add] using World.cell?_spot h0
    subst hspot
    have hb : b < W.heap.size := by
      have := lt (.cell b off) (by
        rw [hx]
        refine List.mem_append.2 (.inl (MemPlace.mem_row.2 ⟨0, ?_, by simp⟩))
        omega)
      exact this
    refine ⟨(List.range len).map X, fun _ => ⟨b, off, rfl, hb, fun i hi' => ?_⟩, by simp⟩
    have hi2 : i < len := by simpa using hi'
    obtain ⟨Ai, ci, h1, h2, h3⟩ := hX i hi2
    have hn : nthF ((List.range len).map X) i = X i := by
      unfold nthF
      rw [List.getD_eq_getElem?_getD, List.getElem?_map, List.getElem?_range hi2]
      rfl
    rw [hn]
    exact ⟨Ai, ci, by rw [← Go.WideShapes.add_plain]; exact h1, h2, h3⟩

/-- An answer that came in by value. -/
theorem rep_in {r : Reach} {b0 : Nat} {t : TypeId} {f0 f1 f2 f3 : Field} {el ew ef eg : TypeId} {v : Value} {d : DataW H} {p : List MemPlace}
    (hs : P.underlying t = some (.struct #[f0, f1, f2, f3])) (hone : oneCellFields P #[f0, f1, f2, f3] = true) (hC : P.cellsOf t = 4)
    (k0 : P.underlying f0.type = some (.int .i64))
    (k1 : P.underlying f1.type = some (.slice el)) (l1 : P.underlying el = some .bool) (m1 : P.cellsOf el = 1)
    (k2 : P.underlying f2.type = some (.slice ew)) (l2 : P.underlying ew = some (.int .u16)) (m2 : P.cellsOf ew = 1)
    (k3 : P.underlying f3.type = some (.slice ef)) (l3 : P.underlying ef = some (.slice eg)) (n3 : P.underlying eg = some (.int .u16)) (m3 : P.cellsOf ef = 1) (o3 : P.cellsOf eg = 1)
    (hv : Value.okWide P W r b0 t v) (h : DataW.Trod enc P W 0 (fun _ => true) true t v d p) (lt : ∀ x ∈ p, x.block < W.heap.size) :
    ∃ (q : Rep) (Bo Bs Bf : Option Addr) (mo ms mf eo es ef : Nat), v = .agg #[.int .i64 q.x, .slice Bo mo eo, .slice Bs ms es, .slice Bf mf ef] ∧ Repd W W.heap.size q Bo Bs Bf mo ms mf ∧ (Lit.int .i64 q.x).wf = true := by
  obtain ⟨cells, rfl, hsz⟩ := okWide_struct hs hv
  obtain ⟨l⟩ := cells
  match l, hsz.trans hC with
  | [c0, c1, c2, c3], _ =>
    obtain ⟨fuel, hf⟩ := h
    obtain ⟨xs, n, _, hx, _, hlen, hg⟩ := DataW.trod_struct hs hf
    obtain ⟨o0, q0⟩ := hone_of hone 0 f0 rfl
    obtain ⟨o1, q1⟩ := hone_of hone 1 f1 rfl
    obtain ⟨o2, q2⟩ := hone_of hone 2 f2 rfl
    obtain ⟨o3', q3⟩ := hone_of hone 3 f3 rfl
    match xs, hlen with
    | [y0, y1, y2, y3], _ =>
      simp only [Prod.mk.injEq] at hx
      have t0 : DataW.trod enc P W 0 (fun _ => true) true n f0.type [c0] = some y0 := by simpa [Value.cells, o0, q0] using hg 0 f0 rfl
      have t1 : DataW.trod enc P W 0 (fun _ => true) true n f1.type [c1] = some y1 := by simpa [Value.cells, o1, q1] using hg 1 f1 rfl
      have t2 : DataW.trod enc P W 0 (fun _ => true) true n f2.type [c2] = some y2 := by simpa [Value.cells, o2, q2] using hg 2 f2 rfl
      have t3 : DataW.trod enc P W 0 (fun _ => true) true n f3.type [c3] = some y3 := by simpa [Value.cells, o3', q3] using hg 3 f3 rfl
      have hp : p = y0.2 ++ (y1.2 ++ (y2.2 ++ y3.2)) := by simpa using hx.2
      obtain ⟨a, e0, _, w0⟩ := DataW.trod_int k0 t0
      injection e0 with e0
      subst e0
      obtain ⟨Bo, mo, eo, rfl⟩ := slice_form k1 t1
      obtain ⟨Bs, ms, es, rfl⟩ := slice_form k2 t2
      obtain ⟨Bf, mf, ef, rfl⟩ := slice_form k3 t3
      obtain ⟨on, r1, hl1, _⟩ := L.row_in k1 l1 m1 (d := y1.1) (p := y1.2) ⟨n, t1⟩ (fun x hx => lt x (by rw [hp]; simp [hx]))
      obtain ⟨set, r2, hl2, _⟩ := row_in k2 l2 m2 (d := y2.1) (p := y2.2) ⟨n, t2⟩ (fun x hx => lt x (by rw [hp]; simp [hx]))
      obtain ⟨fs, r3, hl3⟩ := files_in k3 l3 n3 m3 o3 t3 (fun x hx => lt x (by rw [hp]; simp [hx]))
      exact ⟨⟨a, on, set, fs⟩, Bo, Bs, Bf, mo, ms, mf, eo, es, ef, rfl, ⟨r1, r2, r3, hl1, hl2, hl3⟩, w0⟩
end
end Go.Proofs.YtcmbdhmhkfhjfaaGreat
namespace Go.Proofs.YtcmbdhmhkfhjfaaGreat
open Go.ChangeShapes Go.WideShapes Go.ChangeAt Go.RowKit Go.Deep
set_option linter.unusedVariables false

section
variable {H : Type} {enc : TypeId × Value → H} {P : Program} {W : World}
theorem weights_mem_all {e : TypeId} {ds : List (DataW H)} {d : DataW H} (hd : d ∈ ds) {n : Nat} (hn : n ∈ d.weights P e) : n ∈ DataW.weightsAll P e ds := by
  induction ds with
  | nil => cases hd
  | cons x xs ih =>
    simp only [DataW.weightsAll, List.mem_append]
    rcases List.mem_cons.1 hd with h | h
    · subst h; exact .inl hn
    · exact .inr (ih h)
/-- A slice of slices of words. -/
theorem files_in2 {t e ew : TypeId} {a : Option Addr} {len cap fuel : Nat} {y : DataW H × List MemPlace} (ht : P.underlying t = some (.slice e)) (he : P.underlying e = some (.slice ew)) (hw : P.underlying ew = some (.int .u16)) (hC : P.cellsOf e = 1) (hCw : P.cellsOf ew = 1)
    (h : DataW.trod enc P W 0 (fun _ => true) true fuel t [.slice a len cap] = some y) (lt : ∀ x ∈ y.2, x.block < W.heap.size) (hb2 : P.bytesOf ew = 2) (hwt : ∀ n ∈ y.1.weights P t, n ≤ reachBytes) :
    ∃ fs, FRow W W.heap.size a fs ∧ fs.length = len ∧ ∀ i, i < len → (nthF fs i).length ≤ 70368744175616 := by
  rcases open_slice1 ht hC h with ⟨hcs, _⟩ | ⟨x, l, c, m, n, V, D, Pl, hcs, _, hl, hm, hmm, hx, hi⟩
  · injection hcs with hcs
    injection hcs with e1 e2 e3
    subst e1 e2 e3
    exact ⟨[], FRow.nil _ _ _, rfl, fun i hi => absurd hi (by omega)⟩
  · injection hcs with hcs
    injection hcs with e1 e2 e3
    subst e1 e2 e3
    have hm2 : m = cap := by simpa using hmm
    rcases Nat.eq_zero_or_pos len with hz | hpos
    · subst hz; exact ⟨[], FRow.nil _ _ _, rfl, fun i hi => absurd hi (by omega)⟩
    have each : ∀ i, ∃ xs, i < len → ∃ Ai ci, W.cell? (x.add i) = some (.slice Ai xs.length ci) ∧ Row .u16 W W.heap.size Ai xs ∧ xs.length ≤ ci ∧ ci ≤ 70368744175616 := by
      intro i
      by_cases hil : i < len
      · obtain ⟨hc, ht'⟩ := hi i (by omega)
        obtain ⟨Ai, li, ci, hv⟩ := slice_form he ht'
        rw [hv] at hc ht'
        have hlt : ∀ z ∈ Pl i, z.block < W.heap.size := fun z hz => lt z (by
          rw [hx]
          exact List.mem_append.2 (.inr (List.mem_flatMap.2 ⟨i, List.mem_range.2 (by omega), hz⟩)))
        obtain ⟨xs, hr, hlen, hle, hcap⟩ := row_in he hw hCw ⟨n, ht'⟩ hlt
        refine ⟨xs, fun _ => ⟨Ai, ci, by rw [hlen]; exact hc, hr, by omega, ?_⟩⟩
        rcases hcap with h0 | ⟨el, sp, hD, hle2⟩
        · omega
        · have hD : D i = .slice el sp := hD
          have hmem : (el.length + sp.length) * P.bytesOf ew ∈ y.1.weights P t := by
            rw [hx]
            show _ ∈ DataW.weights P t (.slice ((List.range len).map D) _)
            simp only [DataW.weights, ht]
            refine List.mem_cons_of_mem _ (List.mem_append.2 (.inl ?_))
            refine weights_mem_all (d := D i) (List.mem_map.2 ⟨i, List.mem_range.2 hil, rfl⟩) ?_
            rw [hD]
            simp [DataW.weights, he]
          have := hwt _ hmem
          rw [hb2] at this
          simp only [reachBytes] at this
          omega
      · exact ⟨[], fun h => absurd h hil⟩
    obtain ⟨X, hX⟩ := Classical.axiomOfChoice each
    obtain ⟨b, off, spot⟩ := x
    obtain ⟨A0, c0, h0, _, _, _⟩ := hX 0 hpos
    have hspot : spot = none := by simpa [Addr.add] using World.cell?_spot h0
    subst hspot
    have hb : b < W.heap.size := by
      have := lt (.cell b off) (by
        rw [hx]
        refine List.mem_append.2 (.inl (MemPlace.mem_row.2 ⟨0, ?_, by simp⟩))
        omega)
      exact this
    have hnf : ∀ i, i < len → nthF ((List.range len).map X) i = X i := by
      intro i hi2
      unfold nthF
      rw [List.getD_eq_getElem?_getD, List.getElem?_map, List.getElem?_range hi2]
      rfl
    refine ⟨(List.range len).map X, fun _ => ⟨b, off, rfl, hb, fun i hi' => ?_⟩, by simp, fun i hi => ?_⟩
    case refine_2 =>
      obtain ⟨Ai, ci, h1, h2, h3, h4⟩ := hX i hi
      rw [hnf i hi]
      omega
    have hi2 : i < len := by simpa using hi'
    obtain ⟨Ai, ci, h1, h2, h3, _⟩ := hX i hi2
    have hn : nthF ((List.range len).map X) i = X i := by
      unfold nthF
      rw [List.getD_eq_getElem?_getD, List.getElem?_map, List.getElem?_range hi2]
      rfl
    rw [hn]
    exact ⟨Ai, ci, by rw [← Go.WideShapes.add_plain]; exact h1, h2, h3⟩

/-- An answer that came in by value. -/
theorem rep_in2 {r : Reach} {b0 : Nat} {t : TypeId} {f0 f1 f2 f3 : Field} {el ew ef eg : TypeId} {v : Value} {d : DataW H} {p : List MemPlace}
    (hs : P.underlying t = some (.struct #[f0, f1, f2, f3])) (hone : oneCellFields P #[f0, f1, f2, f3] = true) (hC : P.cellsOf t = 4)
    (k0 : P.underlying f0.type = some (.int .i64))
    (k1 : P.underlying f1.type = some (.slice el)) (l1 : P.underlying el = some .bool) (m1 : P.cellsOf el = 1)
    (k2 : P.underlying f2.type = some (.slice ew)) (l2 : P.underlying ew = some (.int .u16)) (m2 : P.cellsOf ew = 1)
    (k3 : P.underlying f3.type = some (.slice ef)) (l3 : P.underlying ef = some (.slice eg)) (n3 : P.underlying eg = some (.int .u16)) (m3 : P.cellsOf ef = 1) (o3 : P.cellsOf eg = 1)
    (hv : Value.okWide P W r b0 t v) (h : DataW.Trod enc P W 0 (fun _ => true) true t v d p) (lt : ∀ x ∈ p, x.block < W.heap.size)
    (hb2 : P.bytesOf eg = 2) {ts : List TypeId} {ds : List (DataW H)} (hsz' : (DataW.weightsEach P ts ds).all (· ≤ reachBytes) = true) (j : Nat) (htj : ts[j]? = some t) (hdj : ds[j]? = some d) :
    ∃ (q : Rep) (Bo Bs Bf : Option Addr) (mo ms mf eo es ef : Nat), v = .agg #[.int .i64 q.x, .slice Bo mo eo, .slice Bs ms es, .slice Bf mf ef] ∧ Repd W W.heap.size q Bo Bs Bf mo ms mf ∧ (Lit.int .i64 q.x).wf = true ∧ ∀ i, i < mf → (nthF q.fs i).length ≤ 70368744175616 := by
  obtain ⟨cells, rfl, hsz⟩ := okWide_struct hs hv
  obtain ⟨l⟩ := cells
  match l, hsz.trans hC with
  | [c0, c1, c2, c3], _ =>
    obtain ⟨fuel, hf⟩ := h
    obtain ⟨xs, n, _, hx, _, hlen, hg⟩ := DataW.trod_struct hs hf
    obtain ⟨o0, q0⟩ := hone_of hone 0 f0 rfl
    obtain ⟨o1, q1⟩ := hone_of hone 1 f1 rfl
    obtain ⟨o2, q2⟩ := hone_of hone 2 f2 rfl
    obtain ⟨o3', q3⟩ := hone_of hone 3 f3 rfl
    match xs, hlen with
    | [y0, y1, y2, y3], _ =>
      simp only [Prod.mk.injEq] at hx
      have t0 : DataW.trod enc P W 0 (fun _ => true) true n f0.type [c0] = some y0 := by simpa [Value.cells, o0, q0] using hg 0 f0 rfl
      have t1 : DataW.trod enc P W 0 (fun _ => true) true n f1.type [c1] = some y1 := by simpa [Value.cells, o1, q1] using hg 1 f1 rfl
      have t2 : DataW.trod enc P W 0 (fun _ => true) true n f2.type [c2] = some y2 := by simpa [Value.cells, o2, q2] using hg 2 f2 rfl
      have t3 : DataW.trod enc P W 0 (fun _ => true) true n f3.type [c3] = some y3 := by simpa [Value.cells, o3', q3] using hg 3 f3 rfl
      have hp : p = y0.2 ++ (y1.2 ++ (y2.2 ++ y3.2)) := by simpa using hx.2
      obtain ⟨a, e0, _, w0⟩ := DataW.trod_int k0 t0
      injection e0 with e0
      subst e0
      obtain ⟨Bo, mo, eo, rfl⟩ := slice_form k1 t1
      obtain ⟨Bs, ms, es, rfl⟩ := slice_form k2 t2
      obtain ⟨Bf, mf, ef, rfl⟩ := slice_form k3 t3
      obtain ⟨on, r1, hl1, _⟩ := L.row_in k1 l1 m1 (d := y1.1) (p := y1.2) ⟨n, t1⟩ (fun x hx => lt x (by rw [hp]; simp [hx]))
      obtain ⟨set, r2, hl2, _⟩ := row_in k2 l2 m2 (d := y2.1) (p := y2.2) ⟨n, t2⟩ (fun x hx => lt x (by rw [hp]; simp [hx]))
      have hd : d = .agg [y0.1, y1.1, y2.1, y3.1] := by simpa using hx.1
      subst hd
      have hw3 : ∀ n ∈ y3.1.weights P f3.type, n ≤ reachBytes := fun n hn => by
        have h1 := reach_fields hsz' j htj hdj hs
        have h2 := List.all_eq_true.1 h1 n (DataW.weights_mem_each (j := 3) (t := f3.type) (d := y3.1) rfl rfl n hn)
        simpa using h2
      obtain ⟨fs, r3, hl3, hsh⟩ := files_in2 k3 l3 n3 m3 o3 t3 (fun x hx => lt x (by rw [hp]; simp [hx])) hb2 hw3
      exact ⟨⟨a, on, set, fs⟩, Bo, Bs, Bf, mo, ms, mf, eo, es, ef, rfl, ⟨r1, r2, r3, hl1, hl2, hl3⟩, w0, hsh⟩
end
end Go.Proofs.YtcmbdhmhkfhjfaaGreat
namespace Go.Proofs.YtcmbdhmhkfhjfaaGreat
open Go.ChangeShapes Go.WideShapes Go.ChangeAt Go.RowKit Go.Deep
set_option linter.unusedVariables false
set_option maxRecDepth 100000

section
variable {H : Type} {enc : TypeId × Value → H} {P : Program} {W : World}
/-- An answer that came in by value. -/
theorem rep_in3 {r : Reach} {b0 : Nat} {t : TypeId} {f0 f1 f2 f3 : Field} {el ew ef eg : TypeId} {v : Value} {d : DataW H} {p : List MemPlace}
    (hs : P.underlying t = some (.struct #[f0, f1, f2, f3])) (hone : oneCellFields P #[f0, f1, f2, f3] = true) (hC : P.cellsOf t = 4)
    (k0 : P.underlying f0.type = some (.int .i64))
    (k1 : P.underlying f1.type = some (.slice el)) (l1 : P.underlying el = some .bool) (m1 : P.cellsOf el = 1)
    (k2 : P.underlying f2.type = some (.slice ew)) (l2 : P.underlying ew = some (.int .u16)) (m2 : P.cellsOf ew = 1)
    (k3 : P.underlying f3.type = some (.slice ef)) (l3 : P.underlying ef = some (.slice eg)) (n3 : P.underlying eg = some (.int .u16)) (m3 : P.cellsOf ef = 1) (o3 : P.cellsOf eg = 1)
    (hv : Value.okWide P W r b0 t v) (h : DataW.Trod enc P W 0 (fun _ => true) true t v d p) (lt : ∀ x ∈ p, x.block < W.heap.size)
    (hb2 : P.bytesOf eg = 2) (hb1 : 0 < P.bytesOf ew) {ts : List TypeId} {ds : List (DataW H)} (hsz' : (DataW.weightsEach P ts ds).all (· ≤ reachBytes) = true) (j : Nat) (htj : ts[j]? = some t) (hdj : ds[j]? = some d) :
    ∃ (q : Rep) (Bo Bs Bf : Option Addr) (mo ms mf eo es ef : Nat), v = .agg #[.int .i64 q.x, .slice Bo mo eo, .slice Bs ms es, .slice Bf mf ef] ∧ Repd W W.heap.size q Bo Bs Bf mo ms mf ∧ (Lit.int .i64 q.x).wf = true ∧ (∀ i, i < mf → (nthF q.fs i).length ≤ 70368744175616) ∧ ms ≤ es ∧ es ≤ 140737488351232 := by
  obtain ⟨cells, rfl, hsz⟩ := okWide_struct hs hv
  obtain ⟨l⟩ := cells
  match l, hsz.trans hC with
  | [c0, c1, c2, c3], _ =>
    obtain ⟨fuel, hf⟩ := h
    obtain ⟨xs, n, _, hx, _, hlen, hg⟩ := DataW.trod_struct hs hf
    obtain ⟨o0, q0⟩ := hone_of hone 0 f0 rfl
    obtain ⟨o1, q1⟩ := hone_of hone 1 f1 rfl
    obtain ⟨o2, q2⟩ := hone_of hone 2 f2 rfl
    obtain ⟨o3', q3⟩ := hone_of hone 3 f3 rfl
    match xs, hlen with
    | [y0, y1, y2, y3], _ =>
      simp only [Prod.mk.injEq] at hx
      have t0 : DataW.trod enc P W 0 (fun _ => true) true n f0.type [c0] = some y0 := by simpa [Value.cells, o0, q0] using hg 0 f0 rfl
      have t1 : DataW.trod enc P W 0 (fun _ => true) true n f1.type [c1] = some y1 := by simpa [Value.cells, o1, q1] using hg 1 f1 rfl
      have t2 : DataW.trod enc P W 0 (fun _ => true) true n f2.type [c2] = some y2 := by simpa [Value.cells, o2, q2] using hg 2 f2 rfl
      have t3 : DataW.trod enc P W 0 (fun _ => true) true n f3.type [c3] = some y3 := by simpa [Value.cells, o3', q3] using hg 3 f3 rfl
      have hp : p = y0.2 ++ (y1.2 ++ (y2.2 ++ y3.2)) := by simpa using hx.2
      obtain ⟨a, e0, _, w0⟩ := DataW.trod_int k0 t0
      injection e0 with e0
      subst e0
      obtain ⟨Bo, mo, eo, rfl⟩ := slice_form k1 t1
      obtain ⟨Bs, ms, es, rfl⟩ := slice_form k2 t2
      obtain ⟨Bf, mf, ef, rfl⟩ := slice_form k3 t3
      obtain ⟨on, r1, hl1, _⟩ := L.row_in k1 l1 m1 (d := y1.1) (p := y1.2) ⟨n, t1⟩ (fun x hx => lt x (by rw [hp]; simp [hx]))
      obtain ⟨set, r2, hl2, hle2, hcp2⟩ := row_in k2 l2 m2 (d := y2.1) (p := y2.2) ⟨n, t2⟩ (fun x hx => lt x (by rw [hp]; simp [hx]))
      have hd : d = .agg [y0.1, y1.1, y2.1, y3.1] := by simpa using hx.1
      subst hd
      have hw3 : ∀ n ∈ y3.1.weights P f3.type, n ≤ reachBytes := fun n hn => by
        have h1 := reach_fields hsz' j htj hdj hs
        have h2 := List.all_eq_true.1 h1 n (DataW.weights_mem_each (j := 3) (t := f3.type) (d := y3.1) rfl rfl n hn)
        simpa using h2
      obtain ⟨fs, r3, hl3, hsh⟩ := files_in2 k3 l3 n3 m3 o3 t3 (fun x hx => lt x (by rw [hp]; simp [hx])) hb2 hw3
      exact ⟨⟨a, on, set, fs⟩, Bo, Bs, Bf, mo, ms, mf, eo, es, ef, rfl, ⟨r1, r2, r3, hl1, hl2, hl3⟩, w0, hsh, hle2, reach_in (reach_fields hsz' j htj hdj hs) 2 rfl rfl k2 hb1 hcp2⟩

/-- A poll that came in by value: five integers and a list of integers. -/
theorem poll_in {r : Reach} {b0 : Nat} {t : TypeId} {f0 f1 f2 f3 f4 f5 : Field} {el : TypeId} {v : Value} {d : DataW H} {p : List MemPlace}
    (hs : P.underlying t = some (.struct #[f0, f1, f2, f3, f4, f5])) (hone : oneCellFields P #[f0, f1, f2, f3, f4, f5] = true) (hC : P.cellsOf t = 6)
    (k0 : P.underlying f0.type = some (.int .i64)) (k1 : P.underlying f1.type = some (.int .i64)) (k2 : P.underlying f2.type = some (.int .i64)) (k3 : P.underlying f3.type = some (.int .i64)) (k4 : P.underlying f4.type = some (.int .i64))
    (k5 : P.underlying f5.type = some (.slice el)) (l5 : P.underlying el = some (.int .i64)) (m5 : P.cellsOf el = 1)
    (hv : Value.okWide P W r b0 t v) (h : DataW.Trod enc P W 0 (fun _ => true) true t v d p) (lt : ∀ x ∈ p, x.block < W.heap.size) :
    ∃ (u k a c e : Int) (A : Option Addr) (n m : Nat) (tg : List Int), v = .agg #[.int .i64 u, .int .i64 k, .int .i64 a, .int .i64 c, .int .i64 e, .slice A n m] ∧ Row .i64 W W.heap.size A tg ∧ tg.length = n ∧
      ((Lit.int .i64 u).wf = true ∧ (Lit.int .i64 k).wf = true ∧ (Lit.int .i64 a).wf = true ∧ (Lit.int .i64 c).wf = true ∧ (Lit.int .i64 e).wf = true) := by
  obtain ⟨cells, rfl, hsz⟩ := okWide_struct hs hv
  obtain ⟨l⟩ := cells
  match l, hsz.trans hC with
  | [c0, c1, c2, c3, c4, c5], _ =>
    obtain ⟨fuel, hf⟩ := h
    obtain ⟨xs, n, _, hx, _, hlen, hg⟩ := DataW.trod_struct hs hf
    obtain ⟨o0, q0⟩ := hone_of hone 0 f0 rfl
    obtain ⟨o1, q1⟩ := hone_of hone 1 f1 rfl
    obtain ⟨o2, q2⟩ := hone_of hone 2 f2 rfl
    obtain ⟨o3, q3⟩ := hone_of hone 3 f3 rfl
    obtain ⟨o4, q4⟩ := hone_of hone 4 f4 rfl
    obtain ⟨o5', q5⟩ := hone_of hone 5 f5 rfl
    match xs, hlen with
    | [y0, y1, y2, y3, y4, y5], _ =>
      simp only [Prod.mk.injEq] at hx
      have t0 : DataW.trod enc P W 0 (fun _ => true) true n f0.type [c0] = some y0 := by simpa [Value.cells, o0, q0] using hg 0 f0 rfl
      have t1 : DataW.trod enc P W 0 (fun _ => true) true n f1.type [c1] = some y1 := by simpa [Value.cells, o1, q1] using hg 1 f1 rfl
      have t2 : DataW.trod enc P W 0 (fun _ => true) true n f2.type [c2] = some y2 := by simpa [Value.cells, o2, q2] using hg 2 f2 rfl
      have t3 : DataW.trod enc P W 0 (fun _ => true) true n f3.type [c3] = some y3 := by simpa [Value.cells, o3, q3] using hg 3 f3 rfl
      have t4 : DataW.trod enc P W 0 (fun _ => true) true n f4.type [c4] = some y4 := by simpa [Value.cells, o4, q4] using hg 4 f4 rfl
      have t5 : DataW.trod enc P W 0 (fun _ => true) true n f5.type [c5] = some y5 := by simpa [Value.cells, o5', q5] using hg 5 f5 rfl
      have hp : p = y0.2 ++ (y1.2 ++ (y2.2 ++ (y3.2 ++ (y4.2 ++ y5.2)))) := by simpa using hx.2
      obtain ⟨u, e0, _, w0⟩ := DataW.trod_int k0 t0
      obtain ⟨k, e1, _, w1⟩ := DataW.trod_int k1 t1
      obtain ⟨a, e2, _, w2⟩ := DataW.trod_int k2 t2
      obtain ⟨c, e3, _, w3⟩ := DataW.trod_int k3 t3
      obtain ⟨e, e4, _, w4⟩ := DataW.trod_int k4 t4
      injection e0 with e0
      injection e1 with e1
      injection e2 with e2
      injection e3 with e3
      injection e4 with e4
      subst e0 e1 e2 e3 e4
      obtain ⟨A, ln, cm, rfl⟩ := slice_form k5 t5
      obtain ⟨tg, r5, hl5, _⟩ := row_in k5 l5 m5 (d := y5.1) (p := y5.2) ⟨n, t5⟩ (fun x hx => lt x (by rw [hp]; simp [hx]))
      exact ⟨u, k, a, c, e, A, ln, cm, tg, rfl, r5, hl5, w0, w1, w2, w3, w4⟩
end
end Go.Proofs.YtcmbdhmhkfhjfaaGreat
namespace Go.Proofs.YtcmbdhmhkfhjfaaGreat
open Go.RowKit
set_option linter.unusedVariables false

def liesB (v lo hi : Int) : Bool := decide (lo ≤ v ∧ v ≤ hi)
theorem liesB_eq {v lo hi : Int} (h : lo ≤ hi) : (v == max lo (min v hi)) = liesB v lo hi := by
  rw [liesB, Bool.eq_iff_iff, beq_iff_eq, decide_eq_true_eq]; omega
theorem chkS_eq (wd sg sw : Bool) (mu di ad : Int) : chkS (⟨wd, sg, sw, mu, di, ad⟩ : Sc) = if (!(mu == 0) && liesB mu (-1000000) 1000000 && liesB di 1 1000000 && liesB ad (-1099511627776) 1099511627776 && (!sw || wd)) = true then 0 else 25 := by
  unfold chkS Sc.Ok
  congr 1
  simp only [Bool.and_eq_true, Bool.not_eq_true', Bool.or_eq_true, liesB, decide_eq_true_eq, beq_eq_false_iff_ne, ne_eq, eq_iff_iff, and_assoc]
  cases sw <;> cases wd <;> simp

theorem bring_any (v lo hi : Int) (w : World) : Calls Tryz.prog 86 #[.int .i64 v, .int .i64 lo, .int .i64 hi] w fun e w' => e = .returned (.int .i64 (max lo (min v hi))) ∧ w' = w := by
  go_enter Tryz.func86, Tryz.ntmps86
  go_wp2
  all_goals (go_ret; refine ⟨?_, rfl⟩; show Ending.returned (Value.int .i64 _) = Ending.returned (Value.int .i64 _); congr 2; omega)
theorem lies_at {v lo hi : Int} {b : Bool} (hle : lo ≤ hi) (h : Hid (liesB v lo hi = b)) (w : World) : Calls Tryz.prog 84 #[.int .i64 v, .int .i64 lo, .int .i64 hi] w fun e w' => e = .returned (.bool b) ∧ w' = w := by
  have h2 := (liesB_eq hle).trans h.out
  have H2 := Lib.hid h2
  clear h2
  go_enter Tryz.func84, Tryz.ntmps84
  go_wp2_with (go_at_call 86; refine (bring_any _ _ _ _).mono ?_; rintro e w' ⟨rfl, rfl⟩)
  rw [H2.out]
  go_ret
  exact ⟨rfl, rfl⟩


set_option maxHeartbeats 1000000 in
theorem Check6_any (wd sg sw : Bool) (mu di ad : Int) (w : World) : Calls Tryz.prog 79 #[.agg #[.bool wd, .bool sg, .bool sw, .int .i64 mu, .int .i64 di, .int .i64 ad]] w fun e w' => e = .returned (.int .i64 (chkS (⟨wd, sg, sw, mu, di, ad⟩ : Sc))) ∧ Below w.heap.size w w' := by
  obtain ⟨c, hc⟩ : ∃ c, Hid (chkS (⟨wd, sg, sw, mu, di, ad⟩ : Sc) = c) := ⟨_, Lib.hid rfl⟩
  rw [hc.out]
  have hc2 := hc.out
  rw [chkS_eq] at hc2
  obtain ⟨b0, h0⟩ : ∃ b, Hid ((mu == 0) = b) := ⟨_, Lib.hid rfl⟩
  obtain ⟨b1, h1⟩ : ∃ b, Hid (liesB mu (-1000000) 1000000 = b) := ⟨_, Lib.hid rfl⟩
  obtain ⟨b2, h2⟩ : ∃ b, Hid (liesB di 1 1000000 = b) := ⟨_, Lib.hid rfl⟩
  obtain ⟨b3, h3⟩ : ∃ b, Hid (liesB ad (-1099511627776) 1099511627776 = b) := ⟨_, Lib.hid rfl⟩
  rw [h0.out, h1.out, h2.out, h3.out] at hc2
  have HC := Lib.hid hc2
  have t0 := h0.out
  have bel := bel_alloc w (.cells #[.bool wd, .bool sg, .bool sw, .int .i64 mu, .int .i64 di, .int .i64 ad] 45)
  clear hc2 hc h0
  cases b0
  case true =>
    have HC2 : Hid (c = 25) := Lib.hid (by rw [← HC.out]; rfl)
    go_enter Tryz.func79, Tryz.ntmps79
    go_wp2
    go_ret
    exact ⟨by rw [HC2.out]; rfl, bel⟩
  case false =>
  cases b1
  case false =>
    have HC2 : Hid (c = 25) := Lib.hid (by rw [← HC.out]; rfl)
    go_enter Tryz.func79, Tryz.ntmps79
    go_wp2_with (go_at_call 84; refine (lies_at (by omega) h1 _).mono ?_; rintro e w' ⟨rfl, rfl⟩)
    go_ret
    exact ⟨by rw [HC2.out]; rfl, bel⟩
  case true =>
  cases b2
  case false =>
    have HC2 : Hid (c = 25) := Lib.hid (by rw [← HC.out]; rfl)
    go_enter Tryz.func79, Tryz.ntmps79
    go_wp2_with (go_at_call 84; (with_reducible first | refine (lies_at (by omega) h1 _).mono ?_ | refine (lies_at (by omega) h2 _).mono ?_); rintro e w' ⟨rfl, rfl⟩)
    go_ret
    exact ⟨by rw [HC2.out]; rfl, bel⟩
  case true =>
  cases b3
  case false =>
    have HC2 : Hid (c = 25) := Lib.hid (by rw [← HC.out]; rfl)
    go_enter Tryz.func79, Tryz.ntmps79
    go_wp2_with (go_at_call 84; (with_reducible first | refine (lies_at (by omega) h1 _).mono ?_ | refine (lies_at (by omega) h2 _).mono ?_ | refine (lies_at (by omega) h3 _).mono ?_); rintro e w' ⟨rfl, rfl⟩)
    go_ret
    exact ⟨by rw [HC2.out]; rfl, bel⟩
  case true =>
  cases sw
  case false =>
    have HC2 : Hid (c = 0) := Lib.hid (by rw [← HC.out]; rfl)
    go_enter Tryz.func79, Tryz.ntmps79
    go_wp2_with (go_at_call 84; (with_reducible first | refine (lies_at (by omega) h1 _).mono ?_ | refine (lies_at (by omega) h2 _).mono ?_ | refine (lies_at (by omega) h3 _).mono ?_); rintro e w' ⟨rfl, rfl⟩)
    go_ret
    exact ⟨by rw [HC2.out]; rfl, bel⟩
  case true =>
  cases wd
  all_goals
    go_enter Tryz.func79, Tryz.ntmps79
    go_wp2_with (go_at_call 84; (with_reducible first | refine (lies_at (by omega) h1 _).mono ?_ | refine (lies_at (by omega) h2 _).mono ?_ | refine (lies_at (by omega) h3 _).mono ?_); rintro e w' ⟨rfl, rfl⟩)
    go_ret
    exact ⟨by rw [← HC.out]; rfl, bel⟩
end Go.Proofs.YtcmbdhmhkfhjfaaGreat
namespace Go.Proofs.YtcmbdhmhkfhjfaaGreat
open Go.RowKit
set_option linter.unusedVariables false

theorem Many_any (wd sg sw : Bool) (mu di ad : Int) (w : World) : Calls Tryz.prog 96 #[.agg #[.bool wd, .bool sg, .bool sw, .int .i64 mu, .int .i64 di, .int .i64 ad]] w fun e w' => e = .returned (.int .i64 (many6 (⟨wd, sg, sw, mu, di, ad⟩ : Sc))) ∧ Below w.heap.size w w' := by
  have bel := bel_alloc w (.cells #[.bool wd, .bool sg, .bool sw, .int .i64 mu, .int .i64 di, .int .i64 ad] 45)
  cases wd
  all_goals
    go_enter Tryz.func96, Tryz.ntmps96
    go_wp2
    go_ret
    exact ⟨rfl, bel⟩

set_option maxHeartbeats 1000000 in
theorem refCheck6_any (wd sg sw : Bool) (mu di ad : Int) (w : World) : Calls Tryz.prog 88 #[.agg #[.bool wd, .bool sg, .bool sw, .int .i64 mu, .int .i64 di, .int .i64 ad]] w fun e w' => e = .returned (.int .i64 (chkS (⟨wd, sg, sw, mu, di, ad⟩ : Sc))) ∧ Below w.heap.size w w' := by
  obtain ⟨c, hc⟩ : ∃ c, Hid (chkS (⟨wd, sg, sw, mu, di, ad⟩ : Sc) = c) := ⟨_, Lib.hid rfl⟩
  rw [hc.out]
  have bel := bel_alloc w (.cells #[.bool wd, .bool sg, .bool sw, .int .i64 mu, .int .i64 di, .int .i64 ad] 45)
  have no : ¬ Sc.Ok (⟨wd, sg, sw, mu, di, ad⟩ : Sc) → Hid (c = 25) := fun h => Lib.hid (by rw [← hc.out]; exact chkS_no h)
  by_cases g0 : mu = 0
  · have HC := no (fun h => h.1 g0)
    have t0 : (mu == 0) = true := beq_iff_eq.2 g0
    clear no hc g0
    go_enter Tryz.func88, Tryz.ntmps88
    go_wp2
    go_ret
    exact ⟨by rw [HC.out]; rfl, bel⟩
  have t0 : (mu == 0) = false := beq_false_of_ne g0
  by_cases g1 : mu < -1000000
  · have HC := no (fun h => by have := h.2.1.1; simp only at this; omega)
    clear no hc g0
    go_enter Tryz.func88, Tryz.ntmps88
    go_wp2
    go_ret
    exact ⟨by rw [HC.out]; rfl, bel⟩
  by_cases g2 : 1000000 < mu
  · have HC := no (fun h => by have := h.2.1.2; simp only at this; omega)
    clear no hc g0
    go_enter Tryz.func88, Tryz.ntmps88
    go_wp2
    go_ret
    exact ⟨by rw [HC.out]; rfl, bel⟩
  by_cases g3 : di < 1
  · have HC := no (fun h => by have := h.2.2.1.1; simp only at this; omega)
    clear no hc g0
    go_enter Tryz.func88, Tryz.ntmps88
    go_wp2
    go_ret
    exact ⟨by rw [HC.out]; rfl, bel⟩
  by_cases g4 : 1000000 < di
  · have HC := no (fun h => by have := h.2.2.1.2; simp only at this; omega)
    clear no hc g0
    go_enter Tryz.func88, Tryz.ntmps88
    go_wp2
    go_ret
    exact ⟨by rw [HC.out]; rfl, bel⟩
  by_cases g5 : ad < -1099511627776
  · have HC := no (fun h => by have := h.2.2.2.1.1; simp only at this; omega)
    clear no hc g0
    go_enter Tryz.func88, Tryz.ntmps88
    go_wp2
    go_ret
    exact ⟨by rw [HC.out]; rfl, bel⟩
  by_cases g6 : 1099511627776 < ad
  · have HC := no (fun h => by have := h.2.2.2.1.2; simp only at this; omega)
    clear no hc g0
    go_enter Tryz.func88, Tryz.ntmps88
    go_wp2
    go_ret
    exact ⟨by rw [HC.out]; rfl, bel⟩
  have yes : (sw = true → wd = true) → Hid (c = 0) := fun h => Lib.hid (by rw [← hc.out]; exact chkS_yes ⟨g0, ⟨by simp only; omega, by simp only; omega⟩, ⟨by simp only; omega, by simp only; omega⟩, ⟨by simp only; omega, by simp only; omega⟩, h⟩)
  cases sw
  · have HC := yes (fun h => by cases h)
    clear no yes hc g0
    go_enter Tryz.func88, Tryz.ntmps88
    go_wp2
    go_ret
    exact ⟨by rw [HC.out]; rfl, bel⟩
  cases wd
  · have HC := no (fun h => by have := h.2.2.2.2; simp at this)
    clear no yes hc g0
    go_enter Tryz.func88, Tryz.ntmps88
    go_wp2
    go_ret
    exact ⟨by rw [HC.out]; rfl, bel⟩
  · have HC := yes (fun h => rfl)
    clear no yes hc g0
    go_enter Tryz.func88, Tryz.ntmps88
    go_wp2
    go_ret
    exact ⟨by rw [HC.out]; rfl, bel⟩
end Go.Proofs.YtcmbdhmhkfhjfaaGreat
namespace Go.Proofs.YtcmbdhmhkfhjfaaGreat
open Go.RowKit
set_option linter.unusedVariables false

theorem sub_uint (a b : Int) (ha : (-9223372036854775808 ≤ a ∧ a < 9223372036854775808)) (hb : (-9223372036854775808 ≤ b ∧ b < 9223372036854775808)) (h : b ≤ a) : IntKind.u64.wrap (IntKind.u64.wrap a - IntKind.u64.wrap b) = a - b := by
  simp only [IntKind.wrap_u64]; omega
theorem distI_hi {a b : Int} (h : b ≤ a) : distI a b = a - b := by unfold distI; omega
theorem distI_lo {a b : Int} (h : a ≤ b) : distI a b = b - a := by unfold distI; omega
theorem distI_lt {a b : Int} (ha : (-9223372036854775808 ≤ a ∧ a < 9223372036854775808)) (hb : (-9223372036854775808 ≤ b ∧ b < 9223372036854775808)) : distI a b < 18446744073709551616 := by unfold distI; omega

theorem farB_pos {d : Int} (a b : Int) (h : 0 ≤ d) : farB7 d a b = decide (d < distI a b) := by unfold farB7; rw [show max d 0 = d by omega]
theorem farB_neg {d : Int} (a b : Int) (h : d < 0) : farB7 d a b = decide (0 < distI a b) := by unfold farB7; rw [show max d 0 = 0 by omega]
theorem bel_three (w : World) (a b c : Obj) (n : Nat) : Below w.heap.size w ((((w.alloc a).alloc b).alloc c).drewN n) :=
  below_drewN (((bel_alloc w a).alloc (by simp) b).alloc (by simp; omega) c) n
end Go.Proofs.YtcmbdhmhkfhjfaaGreat
