/-
  Texts of the proof of ReplyKnown, joined.
-/
import Derived.Test.YtobhllcnljggiaaGreatJReplyKnownE
import Derived.Test.YtobhllcnljggiaaGreatJReplyKnownG
import Derived.Test.YtobhllcnljggiaaGreatJReplyKnownC
import Derived.Deep.RegionHeld3
import Derived.Test.YtobhllcnljggiaaGreatProg
import Derived.Test.YtobhllcnljggiaaGreatJReplyKnownA
import Derived.Test.YtobhllcnljggiaaGreatJReplyKnownB
import Derived.Laws.CopyOwn
import Derived.StillTailTactics
import Derived.IntWalk
import Derived.Deep.AppendLies
import Derived.Deep.RegionLaw
import Derived.Deep.RegionWith
namespace Go.Proofs.YtobhllcnljggiaaGreat
open Go.RowKit
set_option linter.unusedVariables false

/-- A slice that fills a block whose cells are the integers xs. -/
def KFull (k : IntKind) (e : TypeId) (w : World) (base : Nat) (v : Value) (xs : List Int) : Prop :=
  ∃ g n : Nat, v = .slice (some ⟨g, 0, none⟩) n n ∧ base ≤ g ∧ xs.length = n ∧ n ≤ maxLen ∧ w.heap[g]? = some (.cells (blk k xs) e (0, 0))
theorem KFull.laid {k : IntKind} {t : TypeId} {w : World} {base g : Nat} {l : List Int} {n : Nat} (hg : w.heap[g]? = some (.cells (blk k l) t (0, 0))) (hb : base ≤ g) (hl : l.length = n) (hm : n ≤ maxLen) : KFull k t w base (.slice (some ⟨g, 0, none⟩) n n) l :=
  ⟨g, n, rfl, hb, hl, hm, hg⟩
theorem KFull.kown {k : IntKind} {e : TypeId} {w : World} {base : Nat} {v : Value} {xs : List Int} (h : KFull k e w base v xs) : KOwn k e w base v xs := by
  obtain ⟨g, n, rfl, hb, hl, hm, hg⟩ := h
  exact .inr ⟨g, n, n, [], rfl, hb, hl, by rw [List.append_nil]; exact hg, Nat.le_refl _, hm, by simpa using hl, by simp⟩
theorem zerosK_wf (k : IntKind) (m : Nat) (hk : (Lit.int k 0).wf = true) : ∀ x ∈ List.replicate m (0 : Int), (Lit.int k x).wf = true := fun x hx => by rw [List.eq_of_mem_replicate hx]; exact hk
theorem wf_zero (k : IntKind) : (Lit.int k 0).wf = true := by cases k <;> decide
/-- What is taken of a list of the call's own. -/
theorem KOwn.front {k : IntKind} {e : TypeId} {w : World} {base n c m : Nat} {A : Option Addr} {xs : List Int} (h : KOwn k e w base (.slice A n c) xs) (hw : ∀ x ∈ xs, (Lit.int k x).wf = true) (hm : m ≤ xs.length) : KOwn k e w base (.slice A m c) (xs.take m) := by
  rcases h with ⟨hv, rfl⟩ | ⟨g, n', cap, r, hv, h1, h2, h3, h4, h5, h6, h7⟩
  · injection hv with a b c'
    subst a c'
    obtain rfl : m = 0 := by simpa using hm
    exact .inl ⟨rfl, rfl⟩
  · injection hv with a b c'
    subst a c'
    refine .inr ⟨g, m, c, xs.drop m ++ r, rfl, h1, by rw [List.length_take]; omega, by rw [← List.append_assoc, List.take_append_drop]; exact h3, by omega, h5, by simp; omega, fun x hx => ?_⟩
    rcases List.mem_append.1 hx with hx | hx
    · exact hw x (List.mem_of_mem_drop hx)
    · exact h7 x hx
def MakesK (w : World) (xs : List Int) (e : Ending) (w' : World) : Prop := ∃ v, e = .returned v ∧ KOwn .u8 5 w' w.heap.size v xs ∧ Below w.heap.size w w'
def MakesK2 (w : World) (xs : List Int) (e : Ending) (w' : World) : Prop := ∃ v, e = .returned (.tuple #[v, .int .i64 0]) ∧ KOwn .u8 5 w' w.heap.size v xs ∧ Below w.heap.size w w'
/-- A call returns a pair: a list of its own, its block known whole, and a number. -/
def GivesK (w : World) (l : List Int) (err : Int) (e : Ending) (w' : World) : Prop :=
  ∃ v, e = .returned (.tuple #[v, .int .i64 err]) ∧ KOwn .u8 5 w' w.heap.size v l ∧ Below w.heap.size w w'

section
variable {P : Program}
theorem run_append_rowK {ys : List Int} (h1 : 1 ≤ ys.length) (w : World) (base : Nat) (t : TypeId) (k : IntKind) (e : TypeId) (bytes : Nat) (ht : P.underlying t = some (.slice e)) (hi : (P.info? e).map (fun i => (i.zero, i.size, i.bytes)) = some (some (.int k 0), 1, bytes))
    (v : Value) (xs : List Int) (hown : KFull k e w base v xs) (B : Nat) (A : Option Addr) (m c : Nat) (hr : Row k w B A ys) (hm : ys.length = m)
    (hbytes : (xs.length + m) * bytes ≤ 140737488355328) (h63 : xs.length + m ≤ maxLen) (hbase : base ≤ w.heap.size) :
    ∃ v' w', (∀ ty, (Builtin.append_ #[t, t] ty #[v, .slice A m c]).run P w = .ok v' w') ∧ KOwn k e w' base v' (xs ++ ys) ∧ w.grownBy w' v.ownBlock := by
  obtain ⟨g, n, rfl, hb, hl, hmx, hg⟩ := hown
  subst hl
  obtain ⟨cap, h2, h3, h4⟩ := run_append_full (P := P) w t k e bytes ht hi g xs.length xs hg rfl B A m c ys hr hm (by omega) hbytes h63
  refine ⟨_, _, h2, .inr ⟨w.heap.size, xs.length + m, cap, List.replicate (cap - (xs.length + m)) 0, rfl, hbase, by rw [List.length_append, hm], ?_, h3, h4, by rw [List.length_append, List.length_replicate, hm]; omega, zerosK_wf k _ (wf_zero k)⟩, ?_⟩
  · exact heap_alloc_new w.drew _
  · have hbel : Below w.heap.size w (w.drew.alloc (.cells (blk k (xs ++ ys ++ List.replicate (cap - (xs.length + m)) 0)) e)) := (below_drew (Below.refl _ _)).alloc (by show _ ≤ w.heap.size; exact Nat.le_refl _) _
    exact ⟨hbel.os, hbel.tape, hbel.output, hbel.size, fun i hi _ => hbel.block i hi⟩
theorem step_append_rowK {ops : Array Oper} {o : Oper} {a : Act} {K : Act → World → Prop} {Q : Exit → Act → World → Prop} {E : Prop} {ys : List Int} (h1 : 1 ≤ ys.length) (w : World) (hgd : o.guard = none) (s x : Operand) (t : TypeId)
    (ho : o.op = .call { callee := .builtin .append, args := #[s, x], argTypes := #[t, t] })
    (base : Nat) (k : IntKind) (e : TypeId) (bytes : Nat) (ht : P.underlying t = some (.slice e)) (hi : (P.info? e).map (fun i => (i.zero, i.size, i.bytes)) = some (some (.int k 0), 1, bytes))
    (v : Value) (xs : List Int) (hs : a.eval s = v) (hown : KFull k e w base v xs) (B : Nat) (A : Option Addr) (m c : Nat) (ys' : List Int) (hx : a.eval x = .slice A m c) (hr : Row k w B A ys) (hm : ys.length = m)
    (hbytes : (xs.length + m) * bytes ≤ 140737488355328) (h63 : xs.length + m ≤ maxLen) (hbase : base ≤ w.heap.size)
    (h : ∀ v' w', KOwn k e w' base v' (xs ++ ys) → w.grownBy w' v.ownBlock → K (a.put o.dst v') w') :
    if Region.wanted o (yielded ops a.tmps) = true then Oper.wp P o a w K Q else E := by
  have hw : Region.wanted o (yielded ops a.tmps) = true := by simp [Region.wanted, hgd]
  rw [if_pos hw]
  obtain ⟨v', w', hrun, h1, h2⟩ := run_append_rowK (P := P) h1 w base t k e bytes ht hi v xs hown B A m c hr hm hbytes h63 hbase
  unfold Oper.wp execOp
  simp only [ho, resolve, invoke, builtin, Sem.run_bind, Sem.run_pure, Result.andThen_ok, List.map_toArray, List.map_cons, List.map_nil, hs, hx, hrun]
  exact h v' w' h1 h2
theorem wpList_append_rowK {ops : Array Oper} {rest : List Oper} {o : Oper} {a : Act} {Q : Exit → Act → World → Prop} {ys : List Int} (h1 : 1 ≤ ys.length) (w : World) (hgd : o.guard = none) (s x : Operand) (t : TypeId)
    (ho : o.op = .call { callee := .builtin .append, args := #[s, x], argTypes := #[t, t] })
    (base : Nat) (k : IntKind) (e : TypeId) (bytes : Nat) (ht : P.underlying t = some (.slice e)) (hi : (P.info? e).map (fun i => (i.zero, i.size, i.bytes)) = some (some (.int k 0), 1, bytes))
    (v : Value) (xs : List Int) (hs : a.eval s = v) (hown : KFull k e w base v xs)
    (B : Nat) (A : Option Addr) (m c : Nat) (ys' : List Int) (hx : a.eval x = .slice A m c) (hr : Row k w B A ys) (hm : ys.length = m)
    (hbytes : (xs.length + m) * bytes ≤ 140737488355328) (h63 : xs.length + m ≤ maxLen) (hbase : base ≤ w.heap.size)
    (h : ∀ v' w', KOwn k e w' base v' (xs ++ ys) → w.grownBy w' v.ownBlock → wpList P ops Q rest (a.put o.dst v') w') : wpList P ops Q (o :: rest) a w := by
  obtain ⟨v', w', hrun, h1, h2⟩ := run_append_rowK (P := P) h1 w base t k e bytes ht hi v xs hown B A m c hr hm hbytes h63 hbase
  exact wpList_append_run w hgd s x t ho v (.slice A m c) v' w' hs hx hrun (h v' w' h1 h2)
end

set_option maxHeartbeats 1000000 in
theorem rpCountedK_any (c : Int) (A : Option Addr) (m cap : Nat) (ys : List Int) (w : World) (hr : Row .u8 w w.heap.size A ys) (hm : ys.length = m) (hm1 : 1 ≤ ys.length) (hm2 : m ≤ 255) (hc : 0 ≤ c ∧ c < 256) :
    Calls Tryz.prog 79 #[.int .i64 c, .slice A m cap] w (MakesK w (c :: (m : Int) :: ys)) := by
  have e1 : IntKind.u8.wrap c = c := by rw [IntKind.wrap_u8]; omega
  have e2 : IntKind.u8.wrap (m : Int) = m := by rw [IntKind.wrap_u8]; omega
  have HR := Lib.hid (hr.alloc (Nat.le_refl _) (.cells (blk .u8 [c, (m : Int)]) 5))
  have HM := Lib.hid hm
  have hown := KFull.laid (k := .u8) (base := w.heap.size) (n := 2) (heap_alloc_new w (.cells (blk .u8 [c, (m : Int)]) 5)) (Nat.le_refl _) (show [c, (m : Int)].length = 2 from rfl) (by simp [maxLen])
  have bel := bel_alloc w (.cells (blk .u8 [c, (m : Int)]) 5)
  clear hr hm
  go_enter Tryz.func79, Tryz.ntmps79
  go_wp2_with (at_builtin; refine wpList_append_rowK hm1 _ rfl (.tmp 10) (.tmp 11) 34 rfl w.heap.size .u8 5 1 Tryz.underlying34 info_u8 (.slice (some ⟨w.heap.size, 0, none⟩) 2 2) [c, (m : Int)] rfl hown _ _ m cap ys rfl HR.out HM.out (by simp; omega) (by simp [maxLen]; omega) (by simp) ?_; intro v1 w1 hown1 hg1)
  go_ret
  exact ⟨_, rfl, hown1, bel.grown hg1 (by simp) (fun g e => by have e : some w.heap.size = some g := e; injection e with e; omega)⟩

set_option maxHeartbeats 1000000 in
set_option maxRecDepth 100000 in
theorem PutK_ok (q : Req) (Ao As Ap : Option Addr) (lo ls lp co cs cp : Nat) (w : World) (h : Asked w w.heap.size q Ao As Ap lo ls lp) (hk : chk q.c q.a q.n lo ls lp q.fl = 0) (h5 : 1 ≤ (tl q.c q.a q.n q.on q.set q.fl lo ls lp).length) :
    Calls Tryz.prog 101 #[.agg #[.int .i64 q.c, .int .i64 q.a, .int .i64 q.n, .slice Ao lo co, .slice As ls cs, .slice Ap lp cp]] w (MakesK2 w (pduOf q lo ls lp)) := by
  have H := Lib.hid (h.alloc (Nat.le_refl _) (.cells #[.int .i64 q.c, .int .i64 q.a, .int .i64 q.n, .slice Ao lo co, .slice As ls cs, .slice Ap lp cp] 26))
  have HC := Lib.hid (Check_any q Ao As Ap lo ls lp co cs cp (w.alloc (.cells #[.int .i64 q.c, .int .i64 q.a, .int .i64 q.n, .slice Ao lo co, .slice As ls cs, .slice Ap lp cp] 26)) (H.out.more (by simp)))
  rw [hk] at HC
  have hcb : 0 ≤ q.c ∧ q.c < 256 := by
    have := (chk_zero hk).1
    have := mm_pos this
    omega
  obtain ⟨⟨hlo, hls⟩, hlp⟩ := right_many hk
  have e1 : IntKind.u8.wrap q.c = q.c := by rw [IntKind.wrap_u8]; omega
  have hcw : Hid ((Lit.int .u8 q.c).wf = true) := Lib.hid (by have := wf_byte q.c.toNat (by omega); rwa [show ((q.c.toNat : Nat) : Int) = q.c by omega] at this)
  have HP : Hid (pduOf q lo ls lp = [q.c] ++ tl q.c q.a q.n q.on q.set q.fl lo ls lp) := Lib.hid rfl
  have HTL : Hid ((tl q.c q.a q.n q.on q.set q.fl lo ls lp).length ≤ 1000) := Lib.hid (by
    have := tl_length q.c q.a q.n q.on q.set q.fl lo ls lp
    have h1 := h.ls
    unfold need at this
    omega)
  have HTW := Lib.hid (tl_wf (c := q.c) (a := q.a) (n := q.n) (on := q.on) (set := q.set) (fl := q.fl) (lo := lo) (ls := ls) (lp := lp) (by unfold need; omega))
  have HK := Lib.hid hk
  have hx0 := Bx.new w (.cells #[.int .i64 q.c, .int .i64 q.a, .int .i64 q.n, .slice Ao lo co, .slice As ls cs, .slice Ap lp cp] 26)
  rw [HP.out]
  clear h hk
  go_enter Tryz.func101, Tryz.ntmps101
  go_wp2_with fail
  refine HC.out.mono ?_
  rintro e w1 ⟨rfl, bel⟩
  have h9 := hx0.below bel
  have HA := Lib.hid ((H.out.below (bel.mono (by simp))).more (show w.heap.size ≤ w1.heap.size from Nat.le_of_lt h9.lt))
  have hz9 := h9.lt
  clear HC H hx0 bel
  go_wp2_with fail
  go_region_held3 (fun w' => Bx w w.heap.size (.cells #[.int .i64 q.c, .int .i64 q.a, .int .i64 q.n, .slice Ao lo co, .slice As ls cs, .slice Ap lp cp] 26) w' ∧ w'.cell? ⟨w.heap.size, 0, none⟩ = some (.int .i64 q.c) ∧ w'.cell? ⟨w.heap.size, 1, none⟩ = some (.int .i64 q.a) ∧ w'.cell? ⟨w.heap.size, 2, none⟩ = some (.int .i64 q.n) ∧ w'.cell? ⟨w.heap.size, 3, none⟩ = some (.slice Ao lo co) ∧ w'.cell? ⟨w.heap.size, 4, none⟩ = some (.slice As ls cs) ∧ w'.cell? ⟨w.heap.size, 5, none⟩ = some (.slice Ap lp cp))
    ((first
      | exact ⟨h9.drew, h9.drew.six⟩
      | exact ⟨(h9.alloc _).drew, (h9.alloc _).drew.six⟩
      | exact ⟨h12, h12.six⟩
      | exact ⟨h10, h10.six⟩
      | exact ⟨h10.alloc _, (h10.alloc _).six⟩))
    (first
      | (go_at_call 106
         refine (behind_any q Ao As Ap lo ls lp co cs cp _ (by first | exact (HA.out.upAlloc _).upDrew | exact HA.out.upDrew) HK.out).mono ?_
         rintro e w2 ⟨v2, rfl, own2, b2⟩
         obtain ⟨A2, c2, rfl, row2, _, _⟩ := own2.row HTW.out
         have h10 : Bx w w.heap.size (.cells #[.int .i64 q.c, .int .i64 q.a, .int .i64 q.n, .slice Ao lo co, .slice As ls cs, .slice Ap lp cp] 26) w2 := by first | exact (h9.alloc _).drew.below b2 | exact h9.drew.below b2)
      | (refine step_append_rowK h5 w2 rfl _ _ 34 rfl (w.heap.size + 1) .u8 5 1 Tryz.underlying34 info_u8 (.slice (some ⟨w1.heap.size, 0, none⟩) 1 1) [q.c] rfl (KFull.laid (l := [q.c]) ((b2.block w1.heap.size (by simp)).trans (heap_alloc_new w1 _)) hz9 rfl (by simp [maxLen])) _ A2 _ c2 (tl q.c q.a q.n q.on q.set q.fl lo ls lp) rfl row2 rfl (by have := HTL.out; simp only [List.length_singleton]; omega) (by have := HTL.out; simp only [List.length_singleton, maxLen]; omega) (by have := h10.lt; omega) ?_
         intro v3 w3 own3 g3
         have h12 := h10.grown g3 (by simp [Value.ownBlock]; omega))
      | (refine step_append_rowK h5 (w2.alloc (.cells (blk .u8 [q.c]) 5)) rfl _ _ 34 rfl (w.heap.size + 1) .u8 5 1 Tryz.underlying34 info_u8 (.slice (some ⟨w2.heap.size, 0, none⟩) 1 1) [q.c] rfl (KFull.laid (l := [q.c]) (heap_alloc_new w2 _) h10.lt rfl (by simp [maxLen])) _ A2 _ c2 (tl q.c q.a q.n q.on q.set q.fl lo ls lp) rfl (row2.alloc (Nat.le_refl _) _) rfl (by have := HTL.out; simp only [List.length_singleton]; omega) (by have := HTL.out; simp only [List.length_singleton, maxLen]; omega) (by have := h10.lt; simp; omega) ?_
         intro v3 w3 own3 g3
         have hz10 := h10.lt
         have h12 := (h10.alloc _).grown g3 (by simp [Value.ownBlock]; omega)))
  all_goals
    go_wp2
    go_ret2
    exact ⟨v3, rfl, own3.mono (by omega), h12.2⟩

theorem tl_four {q : Req} {lo ls lp : Nat} (h5 : 5 ≤ (pduOf q lo ls lp).length) : 1 ≤ (tl q.c q.a q.n q.on q.set q.fl lo ls lp).length := by
  have : (pduOf q lo ls lp).length = (tl q.c q.a q.n q.on q.set q.fl lo ls lp).length + 1 := rfl
  omega
/-- Put of a right request that is none for files. -/
theorem PutK_yes (q : Req) (Ao As Ap : Option Addr) (lo ls lp co cs cp : Nat) (w : World) (hk : chkQ q = 0) (h5 : 5 ≤ (putL q).length) (n20 : q.c ≠ 20) (h : Asked w w.heap.size q Ao As Ap lo ls lp) :
    Calls Tryz.prog 101 #[.agg #[.int .i64 q.c, .int .i64 q.a, .int .i64 q.n, .slice Ao lo co, .slice As ls cs, .slice Ap lp cp]] w (MakesK2 w (putL q)) := by
  rw [putL, if_pos hk, ← pduQ_of h] at h5 ⊢
  exact PutK_ok q Ao As Ap lo ls lp co cs cp w h (by rw [chkQ_of h, hk]) (tl_four h5)

theorem echoK_any (q : Req) (Ao As Ap : Option Addr) (lo ls lp co cs cp : Nat) (w : World) (h : Asked w w.heap.size q Ao As Ap lo ls lp) (hk : chkQ q = 0) (h5 : 5 ≤ (putL q).length) (n20 : q.c ≠ 20) :
    Calls Tryz.prog 83 #[.agg #[.int .i64 q.c, .int .i64 q.a, .int .i64 q.n, .slice Ao lo co, .slice As ls cs, .slice Ap lp cp]] w (MakesK w ((putL q).take 5)) := by
  have bx := Bx.new w (.cells #[.int .i64 q.c, .int .i64 q.a, .int .i64 q.n, .slice Ao lo co, .slice As ls cs, .slice Ap lp cp] 26)
  have HP := Lib.hid (PutK_yes q Ao As Ap lo ls lp co cs cp _ hk h5 n20 (h.upAlloc (.cells #[.int .i64 q.c, .int .i64 q.a, .int .i64 q.n, .slice Ao lo co, .slice As ls cs, .slice Ap lp cp] 26)))
  have H5 := Lib.hid h5
  clear h hk h5
  go_enter Tryz.func83, Tryz.ntmps83
  go_wp2_with fail
  refine HP.out.mono ?_
  rintro e w1 ⟨v1, rfl, own1, b1⟩
  obtain ⟨A1, c1, rfl, _, hle, _⟩ := own1.row (putL_wf q)
  have OW := Lib.hid ((own1.front (putL_wf q) H5.out).mono (base' := w.heap.size) (by simp))
  have bel := (bx.below b1).2
  obtain ⟨n1, hn1⟩ : ∃ n, (putL q).length = n := ⟨_, rfl⟩
  rw [hn1] at hle
  rw [hn1]
  have hc5 : (5 : Int) ≤ (c1 : Int) := by have := H5.out; omega
  clear own1 b1 bx hn1 HP
  go_wp2
  go_ret
  exact ⟨_, rfl, OW.out, bel⟩

end Go.Proofs.YtobhllcnljggiaaGreat
namespace Go.Proofs.YtobhllcnljggiaaGreat
open Go.RowKit
set_option linter.unusedVariables false

/-- A right answer that is no exception has something in its list. -/
theorem rep_one {q : Req} {r : Rep} (h : chkR q r = 0) (hx : r.x = 0) : (q.c = 1 ∨ q.c = 2 → 1 ≤ r.on.length) ∧ (q.c = 3 ∨ q.c = 4 → 1 ≤ r.set.length) ∧ (q.c = 20 → 1 ≤ r.fs.length) := by
  obtain ⟨h1, h2⟩ := chkR_zero h hx
  have hz := (chk_zero h1).2.2.2.1
  unfold manyB at h2
  refine ⟨fun hc => ?_, fun hc => ?_, fun hc => ?_⟩
  · rw [if_pos hc] at h2
    have h2 := of_decide_eq_true h2
    rcases hc with hc | hc <;> rw [hc] at hz <;> simp [many, mm] at hz <;> omega
  · rw [if_neg (show ¬ (q.c = 1 ∨ q.c = 2) by omega), if_pos hc] at h2
    have h2 := of_decide_eq_true h2
    rcases hc with hc | hc <;> rw [hc] at hz <;> simp [many, mm] at hz <;> omega
  · rw [if_neg (show ¬ (q.c = 1 ∨ q.c = 2) by omega), if_neg (show ¬ (q.c = 3 ∨ q.c = 4) by omega), if_pos hc] at h2
    obtain ⟨hl, _⟩ := fits_true h2
    rw [hc] at hz
    simp [many, mm] at hz
    omega
theorem fbytes_one (fs : List (List Int)) (k : Nat) (h : 1 ≤ k) : 1 ≤ (fbytes fs k).length := by
  obtain ⟨j, rfl⟩ : ∃ j, k = j + 1 := ⟨k - 1, by omega⟩
  rw [fbytes, List.length_append, List.length_append]
  simp only [List.length_cons, List.length_nil]
  omega
set_option maxHeartbeats 1000000 in
set_option maxRecDepth 100000 in
theorem rpFormK_bits (q : Req) (r : Rep) (Ao As Ap Bo Bs Bf : Option Addr) (lo ls lp co cs cp mo ms mf eo es ef : Nat) (w : World) (h : Asked w w.heap.size q Ao As Ap lo ls lp) (hr : Repd w w.heap.size r Bo Bs Bf mo ms mf) (hc : q.c = 1 ∨ q.c = 2) (hm : mo ≤ 2000) (hp1 : 1 ≤ mo) :
    Calls Tryz.prog 47 #[.agg #[.int .i64 q.c, .int .i64 q.a, .int .i64 q.n, .slice Ao lo co, .slice As ls cs, .slice Ap lp cp], .agg #[.int .i64 r.x, .slice Bo mo eo, .slice Bs ms es, .slice Bf mf ef]] w (MakesK w (q.c :: ((need mo : Nat) : Int) :: pk r.on (need mo))) := by
  obtain ⟨c, a, n, on, set, fl⟩ := q
  simp only at *
  have t0 := TB.new2 w #[.int .i64 c, .int .i64 a, .int .i64 n, .slice Ao lo co, .slice As ls cs, .slice Ap lp cp] #[.int .i64 r.x, .slice Bo mo eo, .slice Bs ms es, .slice Bf mf ef] 26 29
  have HSET := Lib.hid hr.on
  have HMS := Lib.hid hr.mo
  obtain ⟨m2, hm2⟩ : ∃ m2, need mo = m2 := ⟨_, rfl⟩
  have hm3 : m2 ≤ 255 := by rw [← hm2]; unfold need; omega
  have HM2 := Lib.hid hm2
  rw [hm2]
  have HWL : Hid ((pk r.on m2).length = m2) := Lib.hid (pk_length _ _)
  have HP1 : Hid (1 ≤ (pk r.on m2).length) := Lib.hid (by rw [HWL.out, ← hm2]; unfold need; omega)
  clear h hr hm2
  rcases hc with rfl | rfl
  · go_enter Tryz.func47, Tryz.ntmps47
    go_wp2_with fail
    go_region_held3 (fun w' => TB w w.heap.size (.cells #[.int .i64 1, .int .i64 a, .int .i64 n, .slice Ao lo co, .slice As ls cs, .slice Ap lp cp] 26 (0, 0)) (.cells #[.int .i64 r.x, .slice Bo mo eo, .slice Bs ms es, .slice Bf mf ef] 29 (0, 0)) w' ∧ w'.cell? ⟨w.heap.size, 0, none⟩ = some (.int .i64 1) ∧ w'.cell? ⟨w.heap.size + 1, 0, none⟩ = some (.int .i64 r.x) ∧ w'.cell? ⟨w.heap.size + 1, 1, none⟩ = some (.slice Bo mo eo) ∧ w'.cell? ⟨w.heap.size + 1, 2, none⟩ = some (.slice Bs ms es) ∧ w'.cell? ⟨w.heap.size + 1, 3, none⟩ = some (.slice Bf mf ef))
      ((first
        | exact ⟨t0.drew, t0.drew.r6.1, t0.drew.c4.1, t0.drew.c4.2.1, t0.drew.c4.2.2.1, t0.drew.c4.2.2.2.1⟩
        | exact ⟨t2, t2.r6.1, t2.c4.1, t2.c4.2.1, t2.c4.2.2.1, t2.c4.2.2.2.1⟩
        | exact ⟨t1, t1.r6.1, t1.c4.1, t1.c4.2.1, t1.c4.2.2.1, t1.c4.2.2.2.1⟩))
      (first
        | (go_at_call 80; refine (Bits_row Bo mo eo (w.heap.size + 1 + 1) r.on _ (by simp) ((HSET.out.below t0.drew.bel).more (by omega)) HMS.out (by omega)).mono ?_; rw [HM2.out]; rintro e w1 ⟨rfl, g1, b1⟩; have t1 := t0.drew.below2 b1 (by omega); have hg1 := block_lt g1)
        | (go_at_call 79; refine (rpCountedK_any _ _ m2 m2 (pk r.on m2) _ ((Row.of_block g1 (pk r.on m2) (pk_wf _ _) (List.prefix_refl _)).more hg1) HWL.out HP1.out hm3 (by omega)).mono ?_; rintro e w2 ⟨v2, rfl, own2, b2⟩; have t2 := t1.below b2))
    go_wp2
    go_ret
    exact ⟨_, rfl, own2.mono (by have := t1.lt; omega), t2.bel⟩
  · go_enter Tryz.func47, Tryz.ntmps47
    go_wp2_with fail
    go_region_held3 (fun w' => TB w w.heap.size (.cells #[.int .i64 2, .int .i64 a, .int .i64 n, .slice Ao lo co, .slice As ls cs, .slice Ap lp cp] 26 (0, 0)) (.cells #[.int .i64 r.x, .slice Bo mo eo, .slice Bs ms es, .slice Bf mf ef] 29 (0, 0)) w' ∧ w'.cell? ⟨w.heap.size, 0, none⟩ = some (.int .i64 2) ∧ w'.cell? ⟨w.heap.size + 1, 0, none⟩ = some (.int .i64 r.x) ∧ w'.cell? ⟨w.heap.size + 1, 1, none⟩ = some (.slice Bo mo eo) ∧ w'.cell? ⟨w.heap.size + 1, 2, none⟩ = some (.slice Bs ms es) ∧ w'.cell? ⟨w.heap.size + 1, 3, none⟩ = some (.slice Bf mf ef))
      ((first
        | exact ⟨t0.drew, t0.drew.r6.1, t0.drew.c4.1, t0.drew.c4.2.1, t0.drew.c4.2.2.1, t0.drew.c4.2.2.2.1⟩
        | exact ⟨t2, t2.r6.1, t2.c4.1, t2.c4.2.1, t2.c4.2.2.1, t2.c4.2.2.2.1⟩
        | exact ⟨t1, t1.r6.1, t1.c4.1, t1.c4.2.1, t1.c4.2.2.1, t1.c4.2.2.2.1⟩))
      (first
        | (go_at_call 80; refine (Bits_row Bo mo eo (w.heap.size + 1 + 1) r.on _ (by simp) ((HSET.out.below t0.drew.bel).more (by omega)) HMS.out (by omega)).mono ?_; rw [HM2.out]; rintro e w1 ⟨rfl, g1, b1⟩; have t1 := t0.drew.below2 b1 (by omega); have hg1 := block_lt g1)
        | (go_at_call 79; refine (rpCountedK_any _ _ m2 m2 (pk r.on m2) _ ((Row.of_block g1 (pk r.on m2) (pk_wf _ _) (List.prefix_refl _)).more hg1) HWL.out HP1.out hm3 (by omega)).mono ?_; rintro e w2 ⟨v2, rfl, own2, b2⟩; have t2 := t1.below b2))
    go_wp2
    go_ret
    exact ⟨_, rfl, own2.mono (by have := t1.lt; omega), t2.bel⟩

set_option maxHeartbeats 1000000 in
set_option maxRecDepth 100000 in
theorem rpFormK_words (q : Req) (r : Rep) (Ao As Ap Bo Bs Bf : Option Addr) (lo ls lp co cs cp mo ms mf eo es ef : Nat) (w : World) (h : Asked w w.heap.size q Ao As Ap lo ls lp) (hr : Repd w w.heap.size r Bo Bs Bf mo ms mf) (hc : q.c = 3 ∨ q.c = 4) (hm : ms ≤ 125) (hp1 : 1 ≤ ms) :
    Calls Tryz.prog 47 #[.agg #[.int .i64 q.c, .int .i64 q.a, .int .i64 q.n, .slice Ao lo co, .slice As ls cs, .slice Ap lp cp], .agg #[.int .i64 r.x, .slice Bo mo eo, .slice Bs ms es, .slice Bf mf ef]] w (MakesK w (q.c :: 2 * (ms : Int) :: wbytes r.set)) := by
  obtain ⟨c, a, n, on, set, fl⟩ := q
  simp only at *
  have t0 := TB.new2 w #[.int .i64 c, .int .i64 a, .int .i64 n, .slice Ao lo co, .slice As ls cs, .slice Ap lp cp] #[.int .i64 r.x, .slice Bo mo eo, .slice Bs ms es, .slice Bf mf ef] 26 29
  have HSET := Lib.hid hr.set
  have HMS := Lib.hid hr.ms
  have HWL : Hid ((wbytes r.set).length = 2 * ms) := Lib.hid (by rw [wbytes_length, hr.ms])
  have hcast : ((2 * ms : Nat) : Int) = 2 * (ms : Int) := by omega
  obtain ⟨m2, hm2⟩ : ∃ m2, 2 * ms = m2 := ⟨_, rfl⟩
  rw [hm2] at HWL hcast
  rw [← hcast]
  have hm3 : m2 ≤ 255 := by omega
  have HM2 := Lib.hid hm2
  have HP1 : Hid (1 ≤ (wbytes r.set).length) := Lib.hid (by rw [HWL.out]; omega)
  clear h hr hm2 hcast
  rcases hc with rfl | rfl
  · go_enter Tryz.func47, Tryz.ntmps47
    go_wp2_with fail
    go_region_held3 (fun w' => TB w w.heap.size (.cells #[.int .i64 3, .int .i64 a, .int .i64 n, .slice Ao lo co, .slice As ls cs, .slice Ap lp cp] 26 (0, 0)) (.cells #[.int .i64 r.x, .slice Bo mo eo, .slice Bs ms es, .slice Bf mf ef] 29 (0, 0)) w' ∧ w'.cell? ⟨w.heap.size, 0, none⟩ = some (.int .i64 3) ∧ w'.cell? ⟨w.heap.size + 1, 0, none⟩ = some (.int .i64 r.x) ∧ w'.cell? ⟨w.heap.size + 1, 1, none⟩ = some (.slice Bo mo eo) ∧ w'.cell? ⟨w.heap.size + 1, 2, none⟩ = some (.slice Bs ms es) ∧ w'.cell? ⟨w.heap.size + 1, 3, none⟩ = some (.slice Bf mf ef))
      ((first
        | exact ⟨t0.drew, t0.drew.r6.1, t0.drew.c4.1, t0.drew.c4.2.1, t0.drew.c4.2.2.1, t0.drew.c4.2.2.2.1⟩
        | exact ⟨t2, t2.r6.1, t2.c4.1, t2.c4.2.1, t2.c4.2.2.1, t2.c4.2.2.2.1⟩
        | exact ⟨t1, t1.r6.1, t1.c4.1, t1.c4.2.1, t1.c4.2.2.1, t1.c4.2.2.2.1⟩))
      (first
        | (go_at_call 81; refine (Bytes_row Bs ms es (w.heap.size + 1 + 1) r.set _ (by simp) ((HSET.out.below t0.drew.bel).more (by omega)) HMS.out (by omega)).mono ?_; rintro e w1 ⟨rfl, g1, b1⟩; rw [HM2.out]; have t1 := t0.drew.below2 b1 (by omega); have hg1 := block_lt g1)
        | (go_at_call 79; refine (rpCountedK_any _ _ m2 m2 (wbytes r.set) _ ((Row.of_block g1 (wbytes r.set) (wbytes_wf r.set) (List.prefix_refl _)).more hg1) HWL.out HP1.out hm3 (by omega)).mono ?_; rintro e w2 ⟨v2, rfl, own2, b2⟩; have t2 := t1.below b2))
    go_wp2
    go_ret
    exact ⟨_, rfl, own2.mono (by have := t1.lt; omega), t2.bel⟩
  · go_enter Tryz.func47, Tryz.ntmps47
    go_wp2_with fail
    go_region_held3 (fun w' => TB w w.heap.size (.cells #[.int .i64 4, .int .i64 a, .int .i64 n, .slice Ao lo co, .slice As ls cs, .slice Ap lp cp] 26 (0, 0)) (.cells #[.int .i64 r.x, .slice Bo mo eo, .slice Bs ms es, .slice Bf mf ef] 29 (0, 0)) w' ∧ w'.cell? ⟨w.heap.size, 0, none⟩ = some (.int .i64 4) ∧ w'.cell? ⟨w.heap.size + 1, 0, none⟩ = some (.int .i64 r.x) ∧ w'.cell? ⟨w.heap.size + 1, 1, none⟩ = some (.slice Bo mo eo) ∧ w'.cell? ⟨w.heap.size + 1, 2, none⟩ = some (.slice Bs ms es) ∧ w'.cell? ⟨w.heap.size + 1, 3, none⟩ = some (.slice Bf mf ef))
      ((first
        | exact ⟨t0.drew, t0.drew.r6.1, t0.drew.c4.1, t0.drew.c4.2.1, t0.drew.c4.2.2.1, t0.drew.c4.2.2.2.1⟩
        | exact ⟨t2, t2.r6.1, t2.c4.1, t2.c4.2.1, t2.c4.2.2.1, t2.c4.2.2.2.1⟩
        | exact ⟨t1, t1.r6.1, t1.c4.1, t1.c4.2.1, t1.c4.2.2.1, t1.c4.2.2.2.1⟩))
      (first
        | (go_at_call 81; refine (Bytes_row Bs ms es (w.heap.size + 1 + 1) r.set _ (by simp) ((HSET.out.below t0.drew.bel).more (by omega)) HMS.out (by omega)).mono ?_; rintro e w1 ⟨rfl, g1, b1⟩; rw [HM2.out]; have t1 := t0.drew.below2 b1 (by omega); have hg1 := block_lt g1)
        | (go_at_call 79; refine (rpCountedK_any _ _ m2 m2 (wbytes r.set) _ ((Row.of_block g1 (wbytes r.set) (wbytes_wf r.set) (List.prefix_refl _)).more hg1) HWL.out HP1.out hm3 (by omega)).mono ?_; rintro e w2 ⟨v2, rfl, own2, b2⟩; have t2 := t1.below b2))
    go_wp2
    go_ret
    exact ⟨_, rfl, own2.mono (by have := t1.lt; omega), t2.bel⟩

set_option maxHeartbeats 1000000 in
set_option maxRecDepth 100000 in
theorem rpFormK_file (q : Req) (r : Rep) (Ao As Ap Bo Bs Bf : Option Addr) (lo ls lp co cs cp mo ms mf eo es ef : Nat) (w : World) (h : Asked w w.heap.size q Ao As Ap lo ls lp) (hr : Repd w w.heap.size r Bo Bs Bf mo ms mf) (hc : q.c = 20) (hm : mf ≤ 100) (hl : ∀ i, i < mf → (nthF r.fs i).length ≤ 127) (hf : (fbytes r.fs mf).length ≤ 255) (hf1 : 1 ≤ (fbytes r.fs mf).length) :
    Calls Tryz.prog 47 #[.agg #[.int .i64 q.c, .int .i64 q.a, .int .i64 q.n, .slice Ao lo co, .slice As ls cs, .slice Ap lp cp], .agg #[.int .i64 r.x, .slice Bo mo eo, .slice Bs ms es, .slice Bf mf ef]] w (MakesK w (20 :: (((fbytes r.fs mf).length : Nat) : Int) :: fbytes r.fs mf)) := by
  obtain ⟨c, a, n, on, set, fl⟩ := q
  simp only at *
  subst hc
  have t0 := TB.new2 w #[.int .i64 20, .int .i64 a, .int .i64 n, .slice Ao lo co, .slice As ls cs, .slice Ap lp cp] #[.int .i64 r.x, .slice Bo mo eo, .slice Bs ms es, .slice Bf mf ef] 26 29
  have HFS := Lib.hid hr.fs
  have HMF := Lib.hid hr.mf
  have HL := Lib.hid hl
  have HW := Lib.hid (fbytes_wf r.fs mf hl)
  obtain ⟨m2, hm2⟩ : ∃ m2, (fbytes r.fs mf).length = m2 := ⟨_, rfl⟩
  have hm3 : m2 ≤ 255 := by omega
  have HM2 := Lib.hid hm2
  rw [hm2]
  obtain ⟨F, hF⟩ : ∃ F, Hid (fbytes r.fs mf = F) := ⟨_, Lib.hid rfl⟩
  rw [hF.out] at HM2 HW ⊢
  have HP1 : Hid (1 ≤ F.length) := Lib.hid (by rw [HM2.out, ← hm2]; exact hf1)
  clear h hr hm2 hl hf hf1
  go_enter Tryz.func47, Tryz.ntmps47
  go_wp2_with fail
  go_region_held3 (fun w' => TB w w.heap.size (.cells #[.int .i64 20, .int .i64 a, .int .i64 n, .slice Ao lo co, .slice As ls cs, .slice Ap lp cp] 26 (0, 0)) (.cells #[.int .i64 r.x, .slice Bo mo eo, .slice Bs ms es, .slice Bf mf ef] 29 (0, 0)) w' ∧ w'.cell? ⟨w.heap.size, 0, none⟩ = some (.int .i64 20) ∧ w'.cell? ⟨w.heap.size + 1, 0, none⟩ = some (.int .i64 r.x) ∧ w'.cell? ⟨w.heap.size + 1, 1, none⟩ = some (.slice Bo mo eo) ∧ w'.cell? ⟨w.heap.size + 1, 2, none⟩ = some (.slice Bs ms es) ∧ w'.cell? ⟨w.heap.size + 1, 3, none⟩ = some (.slice Bf mf ef))
    ((first
      | exact ⟨t0.drew, t0.drew.r6.1, t0.drew.c4.1, t0.drew.c4.2.1, t0.drew.c4.2.2.1, t0.drew.c4.2.2.2.1⟩
      | exact ⟨t2, t2.r6.1, t2.c4.1, t2.c4.2.1, t2.c4.2.2.1, t2.c4.2.2.2.1⟩
      | exact ⟨t1, t1.r6.1, t1.c4.1, t1.c4.2.1, t1.c4.2.2.1, t1.c4.2.2.2.1⟩))
    (first
      | (go_at_call 82; refine (fileBytes_any Bf mf ef r.fs _ ((HFS.out.below t0.drew.bel).more t0.drew.bel.size) HMF.out hm HL.out).mono ?_; rw [hF.out]; rintro e w1 ⟨v1, rfl, own1, b1⟩; have t1 := t0.drew.below b1; obtain ⟨A1, c1, hv1, row1, _, _⟩ := own1.row HW.out; rw [HM2.out] at hv1; subst hv1)
      | (go_at_call 79; refine (rpCountedK_any _ _ m2 c1 F _ row1 HM2.out HP1.out hm3 (by omega)).mono ?_; rintro e w2 ⟨v2, rfl, own2, b2⟩; have t2 := t1.below b2))
  go_wp2
  go_ret
  exact ⟨_, rfl, own2.mono (by have := t1.lt; omega), t2.bel⟩

set_option maxHeartbeats 1000000 in
set_option maxRecDepth 100000 in
theorem rpFormK_echo (q : Req) (r : Rep) (Ao As Ap Bo Bs Bf : Option Addr) (lo ls lp co cs cp mo ms mf eo es ef : Nat) (w : World) (h : Asked w w.heap.size q Ao As Ap lo ls lp) (hr : Repd w w.heap.size r Bo Bs Bf mo ms mf) (hk : chkQ q = 0) (h5 : 5 ≤ (putL q).length) (n1 : q.c ≠ 1) (n2 : q.c ≠ 2) (n3 : q.c ≠ 3) (n4 : q.c ≠ 4) (n20 : q.c ≠ 20) :
    Calls Tryz.prog 47 #[.agg #[.int .i64 q.c, .int .i64 q.a, .int .i64 q.n, .slice Ao lo co, .slice As ls cs, .slice Ap lp cp], .agg #[.int .i64 r.x, .slice Bo mo eo, .slice Bs ms es, .slice Bf mf ef]] w (MakesK w ((putL q).take 5)) := by
  have t0 := TB.new2 w #[.int .i64 q.c, .int .i64 q.a, .int .i64 q.n, .slice Ao lo co, .slice As ls cs, .slice Ap lp cp] #[.int .i64 r.x, .slice Bo mo eo, .slice Bs ms es, .slice Bf mf ef] 26 29
  have HE := Lib.hid (echoK_any q Ao As Ap lo ls lp co cs cp _ ((h.below t0.bel).more t0.bel.size) hk h5 n20)
  have b1 : (q.c == 1) = false := beq_false_of_ne n1
  have b2 : (q.c == 2) = false := beq_false_of_ne n2
  have b3 : (q.c == 3) = false := beq_false_of_ne n3
  have b4 : (q.c == 4) = false := beq_false_of_ne n4
  have b20 : (q.c == 20) = false := beq_false_of_ne n20
  have hsz := t0.bel.size
  have bel := t0.bel
  clear h hr hk h5 n1 n2 n3 n4 n20 t0
  go_enter Tryz.func47, Tryz.ntmps47
  go_wp2_with fail
  refine HE.out.mono ?_
  rintro e w2 ⟨v2, rfl, own2, b2⟩
  go_wp2
  go_ret
  exact ⟨_, rfl, own2.mono hsz, bel.trans (b2.mono hsz)⟩

theorem rpFormK_any (q : Req) (r : Rep) (Ao As Ap Bo Bs Bf : Option Addr) (lo ls lp co cs cp mo ms mf eo es ef : Nat) (w : World) (h : Asked w w.heap.size q Ao As Ap lo ls lp) (hr : Repd w w.heap.size r Bo Bs Bf mo ms mf) (hk : chkR q r = 0) (hx : r.x = 0) :
    Calls Tryz.prog 47 #[.agg #[.int .i64 q.c, .int .i64 q.a, .int .i64 q.n, .slice Ao lo co, .slice As ls cs, .slice Ap lp cp], .agg #[.int .i64 r.x, .slice Bo mo eo, .slice Bs ms es, .slice Bf mf ef]] w (MakesK w (formR q r)) := by
  have hq := (chkR_zero hk hx).1
  unfold formR
  by_cases h1 : q.c = 1 ∨ q.c = 2
  · rw [if_pos h1, hr.mo]
    exact rpFormK_bits q r Ao As Ap Bo Bs Bf lo ls lp co cs cp mo ms mf eo es ef w h hr h1 (by have := rep_bits hk hx h1; have := hr.mo; omega) (by have := (rep_one hk hx).1 h1; have := hr.mo; omega)
  · rw [if_neg h1]
    by_cases h2 : q.c = 3 ∨ q.c = 4
    · rw [if_pos h2, hr.ms]
      exact rpFormK_words q r Ao As Ap Bo Bs Bf lo ls lp co cs cp mo ms mf eo es ef w h hr h2 (by have := rep_words hk hx h2; have := hr.ms; omega) (by have := (rep_one hk hx).2.1 h2; have := hr.ms; omega)
    · rw [if_neg h2]
      by_cases h3 : q.c = 20
      · obtain ⟨f1, f2, f3⟩ := rep_files hk hx h3
        rw [hr.mf] at f1 f2 f3
        rw [if_pos h3, hr.mf]
        exact rpFormK_file q r Ao As Ap Bo Bs Bf lo ls lp co cs cp mo ms mf eo es ef w h hr h3 (by omega) f2 f3 (fbytes_one r.fs mf (by have := (rep_one hk hx).2.2 h3; have := hr.mf; omega))
      · rw [if_neg h3]
        exact rpFormK_echo q r Ao As Ap Bo Bs Bf lo ls lp co cs cp mo ms mf eo es ef w h hr hq (putL_five hq h3) (by omega) (by omega) (by omega) (by omega) h3
end Go.Proofs.YtobhllcnljggiaaGreat
namespace Go.Proofs.YtobhllcnljggiaaGreat
open Go.RowKit
set_option linter.unusedVariables false

set_option maxHeartbeats 2000000 in
theorem rpPutK_any (q : Req) (r : Rep) (Ao As Ap Bo Bs Bf : Option Addr) (lo ls lp co cs cp mo ms mf eo es ef : Nat) (w : World) (h : Asked w w.heap.size q Ao As Ap lo ls lp) (hr : Repd w w.heap.size r Bo Bs Bf mo ms mf) (hb : lp ≤ 100000) :
    Calls Tryz.prog 19 #[.agg #[.int .i64 q.c, .int .i64 q.a, .int .i64 q.n, .slice Ao lo co, .slice As ls cs, .slice Ap lp cp], .agg #[.int .i64 r.x, .slice Bo mo eo, .slice Bs ms es, .slice Bf mf ef]] w (GivesK w (putR q r) (chkR q r)) := by
  have t0 := TB.new2 w #[.int .i64 q.c, .int .i64 q.a, .int .i64 q.n, .slice Ao lo co, .slice As ls cs, .slice Ap lp cp] #[.int .i64 r.x, .slice Bo mo eo, .slice Bs ms es, .slice Bf mf ef] 26 29
  have hsz : w.heap.size ≤ ((w.alloc (.cells #[.int .i64 q.c, .int .i64 q.a, .int .i64 q.n, .slice Ao lo co, .slice As ls cs, .slice Ap lp cp] 26)).alloc (.cells #[.int .i64 r.x, .slice Bo mo eo, .slice Bs ms es, .slice Bf mf ef] 29)).heap.size := t0.bel.size
  have H := Lib.hid ((h.below t0.bel).more hsz)
  have HR := Lib.hid ((hr.below t0.bel).more hsz)
  have HC := Lib.hid (rpCheck_any q r Ao As Ap Bo Bs Bf lo ls lp co cs cp mo ms mf eo es ef _ H.out HR.out hb)
  clear h hr
  obtain ⟨E, hE⟩ : ∃ E, Hid (chkR q r = E) := ⟨_, Lib.hid rfl⟩
  rw [hE.out] at HC ⊢
  by_cases hE0 : E = 0
  · subst hE0
    by_cases hx : r.x = 0
    · have HL : Hid (putR q r = formR q r) := Lib.hid (by unfold putR; rw [if_neg (show ¬ chkR q r ≠ 0 by rw [hE.out]; simp), if_neg (show ¬ r.x ≠ 0 by simp [hx])])
      rw [HL.out]
      have u1 : (r.x != 0) = false := by simp [hx]
      have u2 : (r.x == 0) = true := by simp [hx]
      have HX := Lib.hid hx
      clear hx
      go_enter Tryz.func19, Tryz.ntmps19
      go_wp2_with fail
      refine HC.out.mono ?_
      rintro e w1 ⟨rfl, b1⟩
      have t1 := t0.below b1
      have hlt := t1.lt
      have HF := Lib.hid (rpFormK_any q r Ao As Ap Bo Bs Bf lo ls lp co cs cp mo ms mf eo es ef w1 (H.out.up b1) (HR.out.up b1) hE.out HX.out)
      clear b1 t0 HC hsz
      obtain ⟨d0, d1, d2, d3, d4⟩ := t1.c4
      obtain ⟨r0, r1, r2, r3, r4, r5, r6⟩ := t1.r6
      go_wp2_with fail
      refine HF.out.mono ?_
      rintro e w2 ⟨v2, rfl, own2, b2⟩
      have t2 := t1.below b2
      go_wp2
      go_ret2
      exact ⟨_, rfl, own2.mono (by omega), t2.bel⟩
    · have HL : Hid (putR q r = [q.c + 128, r.x]) := Lib.hid (by unfold putR; rw [if_neg (show ¬ chkR q r ≠ 0 by rw [hE.out]; simp), if_pos hx])
      rw [HL.out]
      have hq : chkQ q = 0 := by
        have h2 := hE.out
        unfold chkR at h2
        by_cases hk : chkQ q ≠ 0
        · rw [if_pos hk] at h2; exact h2
        · simpa using hk
      have hxr : 1 ≤ r.x ∧ r.x ≤ 127 := by
        have h2 := hE.out
        unfold chkR at h2
        rw [if_neg (show ¬ chkQ q ≠ 0 by rw [hq]; simp), if_pos hx] at h2
        split at h2
        · assumption
        · cases h2
      have hcr := mm_le _ (chk_code hq)
      have u1 : (r.x != 0) = true := by simpa using hx
      have u2 : (r.x == 0) = false := beq_false_of_ne hx
      have e1 : IntKind.i64.wrap (q.c + 128) = q.c + 128 := IntWalk.i64_in _ (by omega)
      have e2 : IntKind.u8.wrap (q.c + 128) = q.c + 128 := by rw [IntKind.wrap_u8]; omega
      have e3 : IntKind.u8.wrap r.x = r.x := by rw [IntKind.wrap_u8]; omega
      clear hq hx
      go_enter Tryz.func19, Tryz.ntmps19
      go_wp2_with fail
      refine HC.out.mono ?_
      rintro e w1 ⟨rfl, b1⟩
      have t1 := t0.below b1
      have hlt := t1.lt
      clear b1 t0 HC hsz
      obtain ⟨d0, d1, d2, d3, d4⟩ := t1.c4
      obtain ⟨r0, r1, r2, r3, r4, r5, r6⟩ := t1.r6
      go_wp2
      go_ret2
      exact ⟨_, rfl, KFull.kown (KFull.laid (heap_alloc_new w1 (.cells (blk .u8 [q.c + 128, r.x]) 5)) (by omega) rfl (by simp [maxLen])), t1.bel.alloc (by omega) _⟩
  · have HL : Hid (putR q r = []) := Lib.hid (by unfold putR; rw [if_pos (show chkR q r ≠ 0 by rw [hE.out]; exact hE0)])
    rw [HL.out]
    have u1 : (E != 0) = true := by simpa using hE0
    have u2 : (E == 0) = false := beq_false_of_ne hE0
    clear hE0
    go_enter Tryz.func19, Tryz.ntmps19
    go_wp2_with fail
    refine HC.out.mono ?_
    rintro e w1 ⟨rfl, b1⟩
    have t1 := t0.below b1
    go_wp2
    go_ret2
    exact ⟨_, rfl, KOwn.nil _ _ _ _, t1.bel⟩
end Go.Proofs.YtobhllcnljggiaaGreat
namespace Go.Proofs.YtobhllcnljggiaaGreat
open Go.RowKit
set_option linter.unusedVariables false

set_option maxHeartbeats 2000000 in
theorem refPutR_bad (q : Req) (r : Rep) (Ao As Ap Bo Bs Bf : Option Addr) (lo ls lp co cs cp mo ms mf eo es ef : Nat) (w : World) (h : Asked w w.heap.size q Ao As Ap lo ls lp) (hr : Repd w w.heap.size r Bo Bs Bf mo ms mf) (hb : lp ≤ 100000) (hE0 : chkR q r ≠ 0) :
    Calls Tryz.prog 20 #[.agg #[.int .i64 q.c, .int .i64 q.a, .int .i64 q.n, .slice Ao lo co, .slice As ls cs, .slice Ap lp cp], .agg #[.int .i64 r.x, .slice Bo mo eo, .slice Bs ms es, .slice Bf mf ef]] w (GivesOwn w (putR q r) (chkR q r)) := by
  have t0 := TB.new2 w #[.int .i64 q.c, .int .i64 q.a, .int .i64 q.n, .slice Ao lo co, .slice As ls cs, .slice Ap lp cp] #[.int .i64 r.x, .slice Bo mo eo, .slice Bs ms es, .slice Bf mf ef] 26 29
  have hsz : w.heap.size ≤ ((w.alloc (.cells #[.int .i64 q.c, .int .i64 q.a, .int .i64 q.n, .slice Ao lo co, .slice As ls cs, .slice Ap lp cp] 26)).alloc (.cells #[.int .i64 r.x, .slice Bo mo eo, .slice Bs ms es, .slice Bf mf ef] 29)).heap.size := t0.bel.size
  have H := Lib.hid ((h.below t0.bel).more hsz)
  have HR := Lib.hid ((hr.below t0.bel).more hsz)
  have HC := Lib.hid (refRp_any q r Ao As Ap Bo Bs Bf lo ls lp co cs cp mo ms mf eo es ef _ H.out HR.out hb)
  clear h hr
  obtain ⟨E, hE⟩ : ∃ E, Hid (chkR q r = E) := ⟨_, Lib.hid rfl⟩
  rw [hE.out] at HC hE0 ⊢
  have HL : Hid (putR q r = []) := Lib.hid (by unfold putR; rw [if_pos (show chkR q r ≠ 0 by rw [hE.out]; exact hE0)])
  rw [HL.out]
  have u1 : (E != 0) = true := by simpa using hE0
  have u2 : (E == 0) = false := beq_false_of_ne hE0
  clear hE0
  go_enter Tryz.func20, Tryz.ntmps20
  go_wp2_with fail
  refine HC.out.mono ?_
  rintro e w1 ⟨rfl, b1⟩
  have t1 := t0.below b1
  go_wp2
  go_ret2
  exact ⟨_, rfl, Own.nil _ _ _ _, t1.bel⟩

set_option maxHeartbeats 2000000 in
theorem refPutR_exc (q : Req) (r : Rep) (Ao As Ap Bo Bs Bf : Option Addr) (lo ls lp co cs cp mo ms mf eo es ef : Nat) (w : World) (h : Asked w w.heap.size q Ao As Ap lo ls lp) (hr : Repd w w.heap.size r Bo Bs Bf mo ms mf) (hb : lp ≤ 100000) (hk : chkR q r = 0) (hx : r.x ≠ 0) :
    Calls Tryz.prog 20 #[.agg #[.int .i64 q.c, .int .i64 q.a, .int .i64 q.n, .slice Ao lo co, .slice As ls cs, .slice Ap lp cp], .agg #[.int .i64 r.x, .slice Bo mo eo, .slice Bs ms es, .slice Bf mf ef]] w (GivesOwn w (putR q r) 0) := by
  have t0 := TB.new2 w #[.int .i64 q.c, .int .i64 q.a, .int .i64 q.n, .slice Ao lo co, .slice As ls cs, .slice Ap lp cp] #[.int .i64 r.x, .slice Bo mo eo, .slice Bs ms es, .slice Bf mf ef] 26 29
  have hsz : w.heap.size ≤ ((w.alloc (.cells #[.int .i64 q.c, .int .i64 q.a, .int .i64 q.n, .slice Ao lo co, .slice As ls cs, .slice Ap lp cp] 26)).alloc (.cells #[.int .i64 r.x, .slice Bo mo eo, .slice Bs ms es, .slice Bf mf ef] 29)).heap.size := t0.bel.size
  have H := Lib.hid ((h.below t0.bel).more hsz)
  have HR := Lib.hid ((hr.below t0.bel).more hsz)
  have HC := Lib.hid (refRp_any q r Ao As Ap Bo Bs Bf lo ls lp co cs cp mo ms mf eo es ef _ H.out HR.out hb)
  clear h hr
  have hE := Lib.hid hk
  rw [hk] at HC
  clear hk
  have HL : Hid (putR q r = [q.c + 128, r.x]) := Lib.hid (by unfold putR; rw [if_neg (show ¬ chkR q r ≠ 0 by rw [hE.out]; simp), if_pos hx])
  rw [HL.out]
  have hq : chkQ q = 0 := by
    have h2 := hE.out
    unfold chkR at h2
    by_cases hk : chkQ q ≠ 0
    · rw [if_pos hk] at h2; exact h2
    · simpa using hk
  have hxr : 1 ≤ r.x ∧ r.x ≤ 127 := by
    have h2 := hE.out
    unfold chkR at h2
    rw [if_neg (show ¬ chkQ q ≠ 0 by rw [hq]; simp), if_pos hx] at h2
    split at h2
    · assumption
    · cases h2
  have hcr := mm_le _ (chk_code hq)
  have u1 : (r.x != 0) = true := by simpa using hx
  have u2 : (r.x == 0) = false := beq_false_of_ne hx
  have e1 : IntKind.i64.wrap (q.c + 128) = q.c + 128 := IntWalk.i64_in _ (by omega)
  have e2 : IntKind.u8.wrap (q.c + 128) = q.c + 128 := by rw [IntKind.wrap_u8]; omega
  have e3 : IntKind.u8.wrap r.x = r.x := by rw [IntKind.wrap_u8]; omega
  clear hq hx
  go_enter Tryz.func20, Tryz.ntmps20
  go_wp2_with fail
  refine HC.out.mono ?_
  rintro e w1 ⟨rfl, b1⟩
  have t1 := t0.below b1
  have hlt := t1.lt
  clear b1 t0 HC hsz
  obtain ⟨d0, d1, d2, d3, d4⟩ := t1.c4
  obtain ⟨r0, r1, r2, r3, r4, r5, r6⟩ := t1.r6
  go_wp2
  go_ret2
  exact ⟨_, rfl, Own.laid (heap_alloc_new w1 (.cells (blk .u8 [q.c + 128, r.x]) 5)) (by omega) rfl (by simp [maxLen]), t1.bel.alloc (by omega) _⟩
end Go.Proofs.YtobhllcnljggiaaGreat
namespace Go.Proofs.YtobhllcnljggiaaGreat
open Go.RowKit
set_option linter.unusedVariables false
/-- A list with each byte written over, up to a place. -/
def spoil8 (k : Nat) (l : List Int) : List Int := (l.take k).map (bits .xor .u8 · 90) ++ l.drop k
theorem spoil8_length (k : Nat) (l : List Int) : (spoil8 k l).length = l.length := by simp [spoil8]; omega
theorem xor90_wf (x : Int) (h : (Lit.int .u8 x).wf = true) : (Lit.int .u8 (bits .xor .u8 x 90)).wf = true := by
  have hx := wf_u8 h
  obtain ⟨n, rfl⟩ := Int.eq_ofNat_of_zero_le hx.1
  have hn : n < 256 := by omega
  have := u8_xor_nat n 90 hn (by omega)
  show (Lit.int .u8 (bits .xor .u8 (n : Int) ((90 : Nat) : Int))).wf = true
  rw [this]
  have hlt : n ^^^ 90 < 256 := Nat.xor_lt_two_pow (n := 8) hn (by omega)
  simp [Lit.wf, IntKind.min, IntKind.max, IntKind.signed, IntKind.bits]; omega
theorem spoil8_wf (k : Nat) (l : List Int) (h : ∀ x ∈ l, (Lit.int .u8 x).wf = true) : ∀ x ∈ spoil8 k l, (Lit.int .u8 x).wf = true := by
  intro x hx
  rcases List.mem_append.1 hx with hx | hx
  · obtain ⟨y, hy, rfl⟩ := List.mem_map.1 hx
    exact xor90_wf y (h y (List.mem_of_mem_take hy))
  · exact h x (List.mem_of_mem_drop hx)
theorem spoil8_at (k : Nat) (l : List Int) (hk : k < l.length) : nth (spoil8 k l) k = nth l k := by
  have hl : ((l.take k).map (bits .xor .u8 · 90)).length = k := by simp; omega
  have := nth_right ((l.take k).map (bits .xor .u8 · 90)) (l.drop k) 0
  rw [hl, Nat.add_zero] at this
  rw [spoil8, this, nth, nth, List.getD_eq_getElem?_getD, List.getD_eq_getElem?_getD, List.getElem?_drop, Nat.add_zero]
theorem spoil8_set (k : Nat) (l : List Int) (hk : k < l.length) : (spoil8 k l).set k (bits .xor .u8 (nth l k) 90) = spoil8 (k + 1) l := by
  have hl : ((l.take k).map (bits .xor .u8 · 90)).length = k := by simp; omega
  have hd := List.drop_eq_getElem_cons hk
  rw [spoil8, List.set_append_right _ _ (by omega), hl, Nat.sub_self, spoil8, take_step l k hk]
  simp
  rw [hd]
  rfl
theorem spoil8_zero (l : List Int) : spoil8 0 l = l := by simp [spoil8]

set_option maxHeartbeats 400000 in
theorem spoil_u8 (g n c : Nat) (l r : List Int) (w : World) (hg : w.heap[g]? = some (.cells (blk .u8 (l ++ r)) 5 (0, 0))) (hl : l.length = c) (hn : n ≤ c) (hc : c ≤ 140737488355328) :
    Calls Tryz.prog 58 #[.slice (some ⟨g, 0, none⟩) n c] w fun e w' => e = .returned (.tuple #[]) ∧ w'.heap[g]? = some (.cells (blk .u8 (spoil8 c l ++ r)) 5 (0, 0)) ∧ w.grownBy w' (some g) ∧ w'.heap.size = w.heap.size := by
  have hl' := Lib.hid hl
  clear hl
  go_enter Tryz.func58, Tryz.ntmps58
  go_wp2
  go_loopw [3] (fun i wr => ∃ k : Nat, k ≤ c ∧ i = .int .i64 k ∧ Hid (wr.heap[g]? = some (.cells (blk .u8 (spoil8 k l ++ r)) 5 (0, 0))) ∧ w.grownBy wr (some g) ∧ Hid (wr.heap.size = w.heap.size)) (fun i _ => c - (intOf i).toNat)
  case atStart => exact ⟨0, by omega, rfl, Lib.hid (by rw [spoil8_zero]; exact hg), World.grownBy.refl _ _, Lib.hid rfl⟩
  case round =>
    obtain ⟨k, hk, rfl, hb, hgr, hsz⟩ := hrel
    by_cases hlt : k < c
    · have hc1 : wr.cell? ⟨g, k, none⟩ = some (.int .u8 (nth l k)) := by
        rw [cell_of_row wr g k _ _ _ hb.out, blk_get _ _ _ (by rw [List.length_append, spoil8_length, hl'.out]; omega), nth_left _ _ _ (by rw [spoil8_length, hl'.out]; exact hlt), spoil8_at k l (by have := hl'.out; omega)]
      have hfz := block_frozen wr g k _ _ hb.out
      have hnew := Lib.hid (block_setCell wr g k .u8 5 _ (bits .xor .u8 (nth l k) 90) hb.out)
      rw [List.set_append_left _ _ (by rw [spoil8_length, hl'.out]; exact hlt), spoil8_set k l (by have := hl'.out; omega)] at hnew
      have hgr2 := grown_setCell hgr k (.int .u8 (bits .xor .u8 (nth l k) 90))
      have hsz2 : Hid ((wr.setCell ⟨g, k, none⟩ (.int .u8 (bits .xor .u8 (nth l k) 90))).heap.size = w.heap.size) := by
        show _ = _
        rw [← hsz.out]; simp [World.setCell]
      go_wp2
      go_roundw
      case rel => exact ⟨k + 1, by omega, by go_num, hnew, hgr2, hsz2⟩
      case measure => simp [intOf]; omega
    · obtain rfl : k = c := by omega
      go_wp2
      go_end0
      exact ⟨rfl, hb.out, hgr, hsz.out⟩
theorem spoil_nil (w : World) :
    Calls Tryz.prog 58 #[.slice none 0 0] w fun e w' => e = .returned (.tuple #[]) ∧ w = w' := by
  go_enter Tryz.func58, Tryz.ntmps58
  go_wp2
  go_loop [3] (fun i => i = .int .i64 0) (fun _ => 0)
  case atStart => rfl
  case round =>
    subst hrel
    go_wp2
    go_end0
    exact ⟨rfl, rfl⟩

end Go.Proofs.YtobhllcnljggiaaGreat
namespace Go.Proofs.YtobhllcnljggiaaGreat
open Go.RowKit
set_option linter.unusedVariables false
/-- Rows that lie in blocks of their own, each known whole (or nil), their slices in the array of block gl. -/
structure Parts (w : World) (B gl m : Nat) (A : Nat → Option Addr) (n c : Nat → Nat) (l r : Nat → List Int) : Prop where
  at_ : ∀ k, k < m → w.cell? ⟨gl, k, none⟩ = some (.slice (A k) (n k) (c k))
  size : ∀ k, k < m → n k ≤ c k ∧ c k ≤ 140737488355328 ∧ (l k).length = c k
  wf : ∀ k, k < m → ∀ x ∈ l k, (Lit.int .u8 x).wf = true
  lies : ∀ k, k < m → (A k = none ∧ n k = 0 ∧ c k = 0) ∨ ∃ g, A k = some ⟨g, 0, none⟩ ∧ B ≤ g ∧ g ≠ gl ∧ w.heap[g]? = some (.cells (blk .u8 (l k ++ r k)) 5 (0, 0))
  apart : ∀ i k, i < m → k < m → i ≠ k → ∀ g, A i = some ⟨g, 0, none⟩ → A k ≠ some ⟨g, 0, none⟩
  gl_lt : gl < w.heap.size

theorem Parts.row {w : World} {B gl m : Nat} {A : Nat → Option Addr} {n c : Nat → Nat} {l r : Nat → List Int} (h : Parts w B gl m A n c l r) {k : Nat} (hk : k < m) :
    Row .u8 w w.heap.size (A k) ((l k).take (n k)) ∧ ((l k).take (n k)).length = n k := by
  have hs := h.size k hk
  refine ⟨?_, by simp; omega⟩
  rcases h.lies k hk with ⟨ha, hn, hc⟩ | ⟨g, ha, _, _, hg⟩
  · rw [hn, List.take_zero]; exact Row.nil _ _ _ _
  · rw [ha]
    exact (Row.of_block hg _ (fun x hx => h.wf k hk x (List.mem_of_mem_take hx)) ((List.take_prefix _ _).trans (List.prefix_append _ _))).more (block_lt hg)
/-- A step that leaves all old blocks leaves the parts. -/
theorem Parts.below {w w' : World} {B gl m : Nat} {A : Nat → Option Addr} {n c : Nat → Nat} {l r : Nat → List Int} (h : Parts w B gl m A n c l r) (hb : Below w.heap.size w w') : Parts w' B gl m A n c l r where
  at_ := fun k hk => (hb.cell (p := ⟨gl, k, none⟩) h.gl_lt).trans (h.at_ k hk)
  size := h.size
  wf := h.wf
  lies := fun k hk => by
    rcases h.lies k hk with h0 | ⟨g, ha, hB, hne, hg⟩
    · exact .inl h0
    · exact .inr ⟨g, ha, hB, hne, (hb.block g (block_lt hg)).trans hg⟩
  apart := h.apart
  gl_lt := Nat.lt_of_lt_of_le h.gl_lt hb.size
/-- One part is written over. -/
theorem Parts.spoil {w w' : World} {B gl m : Nat} {A : Nat → Option Addr} {n c : Nat → Nat} {l r : Nat → List Int} (h : Parts w B gl m A n c l r) {i g : Nat} (hi : i < m) (ha : A i = some ⟨g, 0, none⟩)
    (hg : w'.heap[g]? = some (.cells (blk .u8 (spoil8 (c i) (l i) ++ r i)) 5 (0, 0))) (hgr : w.grownBy w' (some g)) : Parts w' B gl m A n c (fun k => if k = i then spoil8 (c i) (l i) else l k) r where
  at_ := fun k hk => by
    rcases h.lies i hi with ⟨h0, _⟩ | ⟨g', ha', _, hne, _⟩
    · rw [ha] at h0; cases h0
    · rw [ha] at ha'
      injection ha' with ha'
      injection ha' with ha'
      subst ha'
      exact (World.cell?_of_block (hgr.block gl h.gl_lt (fun e => hne (by injection e with e; exact e.symm)))).trans (h.at_ k hk)
  size := fun k hk => by
    have := h.size k hk
    refine ⟨this.1, this.2.1, ?_⟩
    split
    · rename_i e; subst e; rw [spoil8_length]; exact this.2.2
    · exact this.2.2
  wf := fun k hk => by
    show ∀ x ∈ (if k = i then spoil8 (c i) (l i) else l k), _
    split
    · exact spoil8_wf _ _ (h.wf i hi)
    · exact h.wf k hk
  lies := fun k hk => by
    by_cases e : k = i
    · subst e
      rcases h.lies k hi with ⟨h0, _⟩ | ⟨g', ha', hB, hne, _⟩
      · rw [ha] at h0; cases h0
      · rw [ha] at ha'
        injection ha' with ha'
        injection ha' with ha'
        subst ha'
        exact .inr ⟨g, ha, hB, hne, by rw [if_pos rfl]; exact hg⟩
    · rcases h.lies k hk with h0 | ⟨g', ha', hB, hne, hg'⟩
      · exact .inl h0
      · refine .inr ⟨g', ha', hB, hne, ?_⟩
        rw [if_neg e, hgr.block g' (block_lt hg') (fun e' => ?_)]
        · exact hg'
        · injection e' with e'
          subst e'
          exact h.apart k i hk hi e _ ha' ha
  apart := h.apart
  gl_lt := Nat.lt_of_lt_of_le h.gl_lt hgr.size

set_option maxHeartbeats 1000000 in
theorem apart_u8 (gl m B : Nat) (A : Nat → Option Addr) (n c : Nat → Nat) (l0 r : Nat → List Int) (w : World) (hP : Parts w B gl m A n c l0 r) (hB : B ≤ w.heap.size) (hm : m ≤ 1000) :
    Calls Tryz.prog 24 #[.slice (some ⟨gl, 0, none⟩) m m] w fun e w' => e = .returned (.bool true) ∧ Below B w w' := by
  go_enter Tryz.func24, Tryz.ntmps24
  go_wp2
  go_loopw [3, 4, 5] (fun i _ _ wr => ∃ (j : Nat) (l : Nat → List Int), j ≤ m ∧ i = .int .i64 j ∧ Parts wr B gl m A n c l r ∧ Below B w wr) (fun i _ _ _ => m - (intOf i).toNat)
  case atStart => exact ⟨0, l0, by omega, rfl, hP, Below.refl _ _⟩
  case round =>
    obtain ⟨i, l1, hi, rfl, hP1, hb1⟩ := hrel
    by_cases hlt : i < m
    · go_wp2
      obtain ⟨wo, hwo⟩ : ∃ wo : World, wo = wr := ⟨_, rfl⟩
      subst hwo
      go_loopw [4, 5] (fun k _ wr => ∃ (j : Nat) (l : Nat → List Int), j ≤ m ∧ k = .int .i64 j ∧ Parts wr B gl m A n c l r ∧ Below B w wr) (fun k _ _ => m - (intOf k).toNat)
      case atStart => exact ⟨0, l1, by omega, rfl, hP1, hb1⟩
      case round =>
        obtain ⟨k, l, hk, rfl, hP2, hb2⟩ := hrel
        by_cases hlk : k < m
        · by_cases hik : i = k
          · subst hik
            go_wp2
            go_roundw
            case rel => exact ⟨i + 1, l, by omega, by go_num, hP2, hb2⟩
            case measure => simp [intOf]; omega
          · have ht : ((i : Int) == (k : Int)) = false := by simp; omega
            have hck := hP2.at_ k hlk
            have hci := hP2.at_ i hlt
            obtain ⟨hrow, hrl⟩ := hP2.row hlk
            have hrl' := Lib.hid hrl
            clear hrl
            have hsk := hP2.size k hlk
            go_wp2_with fail
            refine (copy_u8 _ _ _ _ _ hrow hrl'.out (by omega)).mono ?_
            rintro e w1 ⟨v1, rfl, own1, bel1⟩
            have hP3 := hP2.below bel1
            have hb3 : Below B w w1 := hb2.trans (bel1.mono (Nat.le_trans hB hb2.size))
            have hck1 := hP3.at_ k hlk
            have hci1 := hP3.at_ i hlt
            have hwf := hrow.1
            rcases hP3.lies i hlt with ⟨hA, hN, hC⟩ | ⟨g, hA, hBg, hgl, hg⟩
            · rw [hA, hN, hC] at hci1
              clear hA hN hC hck hci hrow
              obtain ⟨A1, c1, rfl, row1, _, _⟩ := own1.row hwf
              rw [hrl'.out]
              obtain ⟨hrow3, hrl3⟩ := hP3.row hlk
              have hrl3' := Lib.hid hrl3
              clear hrl3
              go_wp2_with fail
              refine (spoil_nil _).mono ?_
              rintro e w' ⟨rfl, rfl⟩
              go_wp2_with fail
              refine (same_yes_u8 _ _ _ _ _ _ _ _ _ row1 hrow3 hrl3'.out (by omega)).mono ?_
              rintro e w' ⟨rfl, mq, rfl⟩
              have hP4 := hP3.below (w' := w1.drewN mq) ⟨rfl, rfl, rfl, Nat.le_refl _, fun _ _ => rfl⟩
              have hb4 : Below B w (w1.drewN mq) := hb3.trans ⟨rfl, rfl, rfl, Nat.le_refl _, fun _ _ => rfl⟩
              go_wp2
              go_roundw
              case rel => exact ⟨k + 1, l, by omega, by go_num, hP4, hb4⟩
              case measure => simp [intOf]; omega
            · have hsi := hP3.size i hlt
              have hglt : g < wr.heap.size := by
                rcases hP2.lies i hlt with ⟨h0, _⟩ | ⟨g', hA', _, _, hg'⟩
                · rw [hA] at h0; cases h0
                · rw [hA] at hA'
                  injection hA' with hA'
                  injection hA' with hA'
                  rw [hA']
                  exact block_lt hg'
              rw [hA] at hci1
              clear hck hci hrow
              have hsi3 := Lib.hid hsi.2.2
              go_wp2_with fail
              refine (spoil_u8 g _ _ (l i) (r i) _ hg hsi3.out hsi.1 hsi.2.1).mono ?_
              rintro e w2 ⟨rfl, hg2, hgr2, hsz2⟩
              have hP4 := hP3.spoil hlt hA hg2 hgr2
              have hb4 : Below B w w2 := hb3.grown hgr2 (Nat.le_trans hB hb3.size) (fun q e => by injection e; omega)
              have own2 := own1.kept hgr2 (by
                cases hv : v1.ownBlock with
                | none => exact .inl rfl
                | some q =>
                  refine .inr fun e => ?_
                  have h1 := (own1.block q hv).1
                  injection e with e
                  omega)
              have hck2 := hP4.at_ k hlk
              obtain ⟨hrow4, hrl4⟩ := hP4.row hlk
              simp only [if_neg (show ¬ k = i by omega)] at hrow4 hrl4
              have hrl4' := Lib.hid hrl4
              obtain ⟨A1, c1, rfl, row1, _, _⟩ := own2.row hwf
              rw [hrl'.out]
              clear hsz2 hrl4 hck1 hci1 hgr2 hg2 hg hA
              go_wp2_with fail
              refine (same_yes_u8 _ _ _ _ _ _ _ _ _ row1 hrow4 hrl4'.out (by omega)).mono ?_
              rintro e w' ⟨rfl, mq, rfl⟩
              have hP5 := hP4.below (w' := w2.drewN mq) ⟨rfl, rfl, rfl, Nat.le_refl _, fun _ _ => rfl⟩
              have hb5 : Below B w (w2.drewN mq) := hb4.trans ⟨rfl, rfl, rfl, Nat.le_refl _, fun _ _ => rfl⟩
              go_wp2
              go_roundw
              case rel => exact ⟨k + 1, _, by omega, by go_num, hP5, hb5⟩
              case measure => simp [intOf]; omega
        · go_wp2
          go_roundw
          case rel => exact ⟨i + 1, l, by omega, by go_num, hP2, hb2⟩
          case measure => simp [intOf]; omega
    · go_wp2
      go_ret
      exact ⟨rfl, hb1⟩

/-- A slice that is handed to ApartBytes: nil, or the beginning of a block that is known whole. -/
structure Ent where
  a : Option Nat
  n : Nat
  c : Nat
  l : List Int
  r : List Int
def Ent.none_ : Ent := ⟨none, 0, 0, [], []⟩
def Ent.adr (e : Ent) : Option Addr := e.a.map fun g => ⟨g, 0, none⟩
def Ent.val (e : Ent) : Value := .slice e.adr e.n e.c
structure Ent.Ok (w : World) (B : Nat) (e : Ent) : Prop where
  size : e.n ≤ e.c ∧ e.c ≤ 140737488355328 ∧ e.l.length = e.c
  wf : ∀ x ∈ e.l, (Lit.int .u8 x).wf = true
  lies : (e.a = none ∧ e.n = 0 ∧ e.c = 0) ∨ ∃ g, e.a = some g ∧ B ≤ g ∧ w.heap[g]? = some (.cells (blk .u8 (e.l ++ e.r)) 5 (0, 0))
def Ent.Far (e e' : Ent) : Prop := ∀ g, e.a = some g → e'.a ≠ some g
theorem Ent.adr_some {e : Ent} {g : Nat} (h : e.adr = some ⟨g, 0, none⟩) : e.a = some g := by
  unfold Ent.adr at h
  cases ha : e.a with
  | none => rw [ha] at h; cases h
  | some q => rw [ha] at h; simp at h; rw [h]

theorem parts_of_list (w : World) (B : Nat) (L : List Ent) (t : TypeId) (hok : ∀ e ∈ L, e.Ok w B) (hfar : L.Pairwise Ent.Far) :
    Parts (w.alloc (.cells (L.map Ent.val).toArray t)) B w.heap.size L.length (fun k => (L.getD k Ent.none_).adr) (fun k => (L.getD k Ent.none_).n) (fun k => (L.getD k Ent.none_).c) (fun k => (L.getD k Ent.none_).l) (fun k => (L.getD k Ent.none_).r) where
  at_ := fun k hk => by
    rw [World.cell?_alloc_at _ _ _ _ rfl]
    simp [List.getElem?_eq_getElem hk, List.getD_eq_getElem?_getD, Ent.val]
  size := fun k hk => by
    simp only [List.getD_eq_getElem?_getD, List.getElem?_eq_getElem hk, Option.getD_some]
    exact (hok _ (List.getElem_mem hk)).size
  wf := fun k hk => by
    simp only [List.getD_eq_getElem?_getD, List.getElem?_eq_getElem hk, Option.getD_some]
    exact (hok _ (List.getElem_mem hk)).wf
  lies := fun k hk => by
    simp only [List.getD_eq_getElem?_getD, List.getElem?_eq_getElem hk, Option.getD_some]
    rcases (hok _ (List.getElem_mem hk)).lies with ⟨h1, h2⟩ | ⟨g, h1, h2, h3⟩
    · exact .inl ⟨by rw [Ent.adr, h1]; rfl, h2⟩
    · have := block_lt h3
      exact .inr ⟨g, by rw [Ent.adr, h1]; rfl, h2, by omega, (Below.heap_alloc w _ g this).trans h3⟩
  apart := fun i k hi hk hne g h1 h2 => by
    simp only [List.getD_eq_getElem?_getD, List.getElem?_eq_getElem hi, List.getElem?_eq_getElem hk, Option.getD_some] at h1 h2
    have h1 := Ent.adr_some h1
    have h2 := Ent.adr_some h2
    rcases Nat.lt_or_gt_of_ne hne with h | h
    · exact List.pairwise_iff_getElem.1 hfar i k hi hk h g h1 h2
    · exact List.pairwise_iff_getElem.1 hfar k i hk hi h g h2 h1
  gl_lt := by simp

theorem apart_list_u8 (w : World) (B : Nat) (L : List Ent) (t : TypeId) (hok : ∀ e ∈ L, e.Ok w B) (hfar : L.Pairwise Ent.Far) (hB : B ≤ w.heap.size) (hm : L.length ≤ 1000) :
    Calls Tryz.prog 24 #[.slice (some ⟨w.heap.size, 0, none⟩) L.length L.length] (w.alloc (.cells (L.map Ent.val).toArray t)) fun e w' => e = .returned (.bool true) ∧ Below B w w' :=
  (apart_u8 _ _ B _ _ _ _ _ _ (parts_of_list w B L t hok hfar) (by simp; omega) hm).mono fun _ _ ⟨he, hb⟩ => ⟨he, ((Below.refl B w).alloc hB _).trans hb⟩
end Go.Proofs.YtobhllcnljggiaaGreat
namespace Go.Proofs.YtobhllcnljggiaaGreat
open Go.RowKit
set_option linter.unusedVariables false
theorem pow_256 (n : Nat) : (2 : Nat) ^ (8 * n) = 256 ^ n := by rw [Nat.pow_mul]
theorem div_zero_iff (v n : Nat) : v / 256 ^ n = 0 ↔ v < 256 ^ n := by
  rw [Nat.div_eq_zero_iff]
  have : (256 : Nat) ^ n ≠ 0 := Nat.ne_of_gt (Nat.pow_pos (by omega))
  omega
end Go.Proofs.YtobhllcnljggiaaGreat
namespace Go.Proofs.YtobhllcnljggiaaGreat
open Go.RowKit
set_option linter.unusedVariables false

end Go.Proofs.YtobhllcnljggiaaGreat
namespace Go.Proofs.YtobhllcnljggiaaGreat
open Go.RowKit
set_option linter.unusedVariables false
theorem be_take_step (n v k : Nat) (h : k < n) : (be n v).take (k + 1) = (be n v).take k ++ [((v / 256 ^ (n - 1 - k) % 256 : Nat) : Int)] := by
  rw [take_step _ _ (by rw [be_length]; exact h), be_nth n v k h]
end Go.Proofs.YtobhllcnljggiaaGreat
namespace Go.Proofs.YtobhllcnljggiaaGreat.W
open Go.RowKit
set_option linter.unusedVariables false
/-- Rows that lie in blocks of their own, each known whole (or nil), their slices in the array of block gl. -/
structure Parts (w : World) (B gl m : Nat) (A : Nat → Option Addr) (n c : Nat → Nat) (l r : Nat → List Int) : Prop where
  at_ : ∀ k, k < m → w.cell? ⟨gl, k, none⟩ = some (.slice (A k) (n k) (c k))
  size : ∀ k, k < m → n k ≤ c k ∧ c k ≤ 70368744177664 ∧ (l k).length = c k
  wf : ∀ k, k < m → ∀ x ∈ l k, (Lit.int .u16 x).wf = true
  lies : ∀ k, k < m → (A k = none ∧ n k = 0 ∧ c k = 0) ∨ ∃ g, A k = some ⟨g, 0, none⟩ ∧ B ≤ g ∧ g ≠ gl ∧ w.heap[g]? = some (.cells (blk .u16 (l k ++ r k)) 32 (0, 0))
  apart : ∀ i k, i < m → k < m → i ≠ k → ∀ g, A i = some ⟨g, 0, none⟩ → A k ≠ some ⟨g, 0, none⟩
  gl_lt : gl < w.heap.size

theorem Parts.row {w : World} {B gl m : Nat} {A : Nat → Option Addr} {n c : Nat → Nat} {l r : Nat → List Int} (h : Parts w B gl m A n c l r) {k : Nat} (hk : k < m) :
    Row .u16 w w.heap.size (A k) ((l k).take (n k)) ∧ ((l k).take (n k)).length = n k := by
  have hs := h.size k hk
  refine ⟨?_, by simp; omega⟩
  rcases h.lies k hk with ⟨ha, hn, hc⟩ | ⟨g, ha, _, _, hg⟩
  · rw [hn, List.take_zero]; exact Row.nil _ _ _ _
  · rw [ha]
    exact (Row.of_block hg _ (fun x hx => h.wf k hk x (List.mem_of_mem_take hx)) ((List.take_prefix _ _).trans (List.prefix_append _ _))).more (block_lt hg)
/-- A step that leaves all old blocks leaves the parts. -/
theorem Parts.below {w w' : World} {B gl m : Nat} {A : Nat → Option Addr} {n c : Nat → Nat} {l r : Nat → List Int} (h : Parts w B gl m A n c l r) (hb : Below w.heap.size w w') : Parts w' B gl m A n c l r where
  at_ := fun k hk => (hb.cell (p := ⟨gl, k, none⟩) h.gl_lt).trans (h.at_ k hk)
  size := h.size
  wf := h.wf
  lies := fun k hk => by
    rcases h.lies k hk with h0 | ⟨g, ha, hB, hne, hg⟩
    · exact .inl h0
    · exact .inr ⟨g, ha, hB, hne, (hb.block g (block_lt hg)).trans hg⟩
  apart := h.apart
  gl_lt := Nat.lt_of_lt_of_le h.gl_lt hb.size
/-- One part is written over. -/
theorem Parts.spoil {w w' : World} {B gl m : Nat} {A : Nat → Option Addr} {n c : Nat → Nat} {l r : Nat → List Int} (h : Parts w B gl m A n c l r) {i g : Nat} (hi : i < m) (ha : A i = some ⟨g, 0, none⟩)
    (hg : w'.heap[g]? = some (.cells (blk .u16 (spoil16 (c i) (l i) ++ r i)) 32 (0, 0))) (hgr : w.grownBy w' (some g)) : Parts w' B gl m A n c (fun k => if k = i then spoil16 (c i) (l i) else l k) r where
  at_ := fun k hk => by
    rcases h.lies i hi with ⟨h0, _⟩ | ⟨g', ha', _, hne, _⟩
    · rw [ha] at h0; cases h0
    · rw [ha] at ha'
      injection ha' with ha'
      injection ha' with ha'
      subst ha'
      exact (World.cell?_of_block (hgr.block gl h.gl_lt (fun e => hne (by injection e with e; exact e.symm)))).trans (h.at_ k hk)
  size := fun k hk => by
    have := h.size k hk
    refine ⟨this.1, this.2.1, ?_⟩
    split
    · rename_i e; subst e; rw [spoil16_length]; exact this.2.2
    · exact this.2.2
  wf := fun k hk => by
    show ∀ x ∈ (if k = i then spoil16 (c i) (l i) else l k), _
    split
    · exact spoil16_wf _ _ (h.wf i hi)
    · exact h.wf k hk
  lies := fun k hk => by
    by_cases e : k = i
    · subst e
      rcases h.lies k hi with ⟨h0, _⟩ | ⟨g', ha', hB, hne, _⟩
      · rw [ha] at h0; cases h0
      · rw [ha] at ha'
        injection ha' with ha'
        injection ha' with ha'
        subst ha'
        exact .inr ⟨g, ha, hB, hne, by rw [if_pos rfl]; exact hg⟩
    · rcases h.lies k hk with h0 | ⟨g', ha', hB, hne, hg'⟩
      · exact .inl h0
      · refine .inr ⟨g', ha', hB, hne, ?_⟩
        rw [if_neg e, hgr.block g' (block_lt hg') (fun e' => ?_)]
        · exact hg'
        · injection e' with e'
          subst e'
          exact h.apart k i hk hi e _ ha' ha
  apart := h.apart
  gl_lt := Nat.lt_of_lt_of_le h.gl_lt hgr.size

/-- A slice that is handed to ApartWords: nil, or the beginning of a block that is known whole. -/
structure Ent where
  a : Option Nat
  n : Nat
  c : Nat
  l : List Int
  r : List Int
def Ent.none_ : Ent := ⟨none, 0, 0, [], []⟩
def Ent.adr (e : Ent) : Option Addr := e.a.map fun g => ⟨g, 0, none⟩
def Ent.val (e : Ent) : Value := .slice e.adr e.n e.c
structure Ent.Ok (w : World) (B : Nat) (e : Ent) : Prop where
  size : e.n ≤ e.c ∧ e.c ≤ 70368744177664 ∧ e.l.length = e.c
  wf : ∀ x ∈ e.l, (Lit.int .u16 x).wf = true
  lies : (e.a = none ∧ e.n = 0 ∧ e.c = 0) ∨ ∃ g, e.a = some g ∧ B ≤ g ∧ w.heap[g]? = some (.cells (blk .u16 (e.l ++ e.r)) 32 (0, 0))
def Ent.Far (e e' : Ent) : Prop := ∀ g, e.a = some g → e'.a ≠ some g
theorem Ent.adr_some {e : Ent} {g : Nat} (h : e.adr = some ⟨g, 0, none⟩) : e.a = some g := by
  unfold Ent.adr at h
  cases ha : e.a with
  | none => rw [ha] at h; cases h
  | some q => rw [ha] at h; simp at h; rw [h]

theorem parts_of_list (w : World) (B : Nat) (L : List Ent) (t : TypeId) (hok : ∀ e ∈ L, e.Ok w B) (hfar : L.Pairwise Ent.Far) :
    Parts (w.alloc (.cells (L.map Ent.val).toArray t)) B w.heap.size L.length (fun k => (L.getD k Ent.none_).adr) (fun k => (L.getD k Ent.none_).n) (fun k => (L.getD k Ent.none_).c) (fun k => (L.getD k Ent.none_).l) (fun k => (L.getD k Ent.none_).r) where
  at_ := fun k hk => by
    rw [World.cell?_alloc_at _ _ _ _ rfl]
    simp [List.getElem?_eq_getElem hk, List.getD_eq_getElem?_getD, Ent.val]
  size := fun k hk => by
    simp only [List.getD_eq_getElem?_getD, List.getElem?_eq_getElem hk, Option.getD_some]
    exact (hok _ (List.getElem_mem hk)).size
  wf := fun k hk => by
    simp only [List.getD_eq_getElem?_getD, List.getElem?_eq_getElem hk, Option.getD_some]
    exact (hok _ (List.getElem_mem hk)).wf
  lies := fun k hk => by
    simp only [List.getD_eq_getElem?_getD, List.getElem?_eq_getElem hk, Option.getD_some]
    rcases (hok _ (List.getElem_mem hk)).lies with ⟨h1, h2⟩ | ⟨g, h1, h2, h3⟩
    · exact .inl ⟨by rw [Ent.adr, h1]; rfl, h2⟩
    · have := block_lt h3
      exact .inr ⟨g, by rw [Ent.adr, h1]; rfl, h2, by omega, (Below.heap_alloc w _ g this).trans h3⟩
  apart := fun i k hi hk hne g h1 h2 => by
    simp only [List.getD_eq_getElem?_getD, List.getElem?_eq_getElem hi, List.getElem?_eq_getElem hk, Option.getD_some] at h1 h2
    have h1 := Ent.adr_some h1
    have h2 := Ent.adr_some h2
    rcases Nat.lt_or_gt_of_ne hne with h | h
    · exact List.pairwise_iff_getElem.1 hfar i k hi hk h g h1 h2
    · exact List.pairwise_iff_getElem.1 hfar k i hk hi h g h2 h1
  gl_lt := by simp

end Go.Proofs.YtobhllcnljggiaaGreat.W
namespace Go.Proofs.YtobhllcnljggiaaGreat.W
open Go.RowKit
set_option linter.unusedVariables false
/-- A slice that is nil or the beginning of a block, as an entry. -/
theorem Li.ent {w : World} {A : Option Addr} {m g B : Nat} {l r : List Int} (h : Li w A m g l r) (hm : l.length = m) (hw : ∀ x ∈ l, (Lit.int .u16 x).wf = true) (hB : B ≤ g) (hmm : m ≤ 70368744173568) :
    ∃ E : Ent, E.val = .slice A m m ∧ E.Ok w B ∧ (E.a = none ∨ E.a = some g) ∧ (A = none → E.a = none) := by
  rcases h with ⟨h1, h2⟩ | ⟨h1, h2⟩
  · subst h1 h2
    exact ⟨⟨none, 0, 0, l, r⟩, rfl, ⟨⟨Nat.le_refl _, by show 0 ≤ _; omega, hm⟩, hw, .inl ⟨rfl, rfl, rfl⟩⟩, .inl rfl, fun _ => rfl⟩
  · subst h1
    exact ⟨⟨some g, m, m, l, r⟩, rfl, ⟨⟨Nat.le_refl _, by show m ≤ _; omega, hm⟩, hw, .inr ⟨g, rfl, hB, h2⟩⟩, .inr rfl, fun h => by cases h⟩

end Go.Proofs.YtobhllcnljggiaaGreat.W
namespace Go.Proofs.YtobhllcnljggiaaGreat
open Go.RowKit
set_option linter.unusedVariables false
theorem refWords_odd (A : Option Addr) (n c : Nat) (w : World) (hb : n ≤ 1000000) (h : n % 2 = 1) :
    Calls Tryz.prog 89 #[.slice A n c] w (Errs 22 w) := by
  have h1 : ((n : Int) % 2 == 1) = true := by simp; omega
  clear h
  go_enter Tryz.func89, Tryz.ntmps89
  go_wp2
  go_ret2
  exact ⟨rfl, rfl⟩
set_option maxHeartbeats 1000000 in
theorem refBytes_any (A : Option Addr) (n c : Nat) (xs : List Int) (w : World) (hr : Row .u16 w w.heap.size A xs) (hn : xs.length = n) (hb : n ≤ 1000000) :
    Calls Tryz.prog 49 #[.slice A n c] w (Makes .u8 5 w (wbytes xs)) := by
  have hn' := Lib.hid hn
  clear hn
  go_enter Tryz.func49, Tryz.ntmps49
  go_wp2
  go_loopw [3, 4] (fun t i wr => ∃ k : Nat, k ≤ n ∧ i = .int .i64 k ∧ Own .u8 5 wr w.heap.size t (wbytes (xs.take k)) ∧ Below w.heap.size w wr) (fun _ i _ => n - (intOf i).toNat)
  case atStart => exact ⟨0, by omega, rfl, Own.nil _ _ _ _, Below.refl _ _⟩
  case round =>
    obtain ⟨k, hk, rfl, hown, hbel⟩ := hrel
    by_cases hlt : k < n
    · obtain ⟨b, o, rfl, hb1, hc1⟩ := (hr.below hbel).at_ (i := k) (by have := hn'.out; omega)
      have hwf := wf_u16 (hr.wf_at (i := k) (by have := hn'.out; omega))
      have hl : Hid ((wbytes (xs.take k)).length = 2 * k) := Lib.hid (by have := hn'.out; rw [wbytes_length]; simp; omega)
      have HT := Lib.hid (take_step xs k (by have := hn'.out; omega))
      have HS := wbytes_snoc (xs.take k) (nth xs k)
      have hsz := hbel.size
      obtain ⟨x, hx⟩ := Int.eq_ofNat_of_zero_le hwf.1
      rw [hx, Int.toNat_natCast, be_two, show ((x / 256 % 256 : Nat) : Int) = (x : Int) / 256 by omega, show ((x % 256 : Nat) : Int) = (x : Int) % 256 by omega] at HS
      have HS' := Lib.hid HS
      have HX := Lib.hid hx
      rw [hx] at hc1 hwf
      clear hx HS
      have hw1 : IntKind.u8.wrap ((x : Int) / 256) = (x : Int) / 256 := by rw [IntKind.wrap_u8]; omega
      have hw2 : IntKind.u8.wrap ((x : Int) % 256) = (x : Int) % 256 := by rw [IntKind.wrap_u8]; omega
      have one1 := Row.one .u8 wr 5 ((x : Int) / 256) (by have := wf_byte (x / 256) (by omega); rwa [show ((x / 256 : Nat) : Int) = (x : Int) / 256 by omega] at this)
      have wf2 : (Lit.int .u8 ((x : Int) % 256)).wf = true := by have := wf_byte (x % 256) (by omega); rwa [show ((x % 256 : Nat) : Int) = (x : Int) % 256 by omega] at this
      go_wp2_with (first
        | (at_builtin; refine wpList_append_row _ rfl _ _ 34 rfl w.heap.size .u8 5 1 Tryz.underlying34 info_u8 u3 (wbytes (xs.take k)) rfl (hown.alloc _) _ _ 1 1 [(x : Int) / 256] rfl one1 rfl (by rw [hl.out]; omega) (by rw [hl.out]; simp only [maxLen]; omega) (by simp; omega) ?_; intro v1 w1 hown1 hg1; have hbel1 := Below.own1 hbel hsz hown hg1; have hc2 := (hbel1.cell (p := ⟨b, o + k, none⟩) hb1).trans ((hbel.cell (p := ⟨b, o + k, none⟩) hb1).symm.trans hc1); have hsz1 := hbel1.size; clear hg1)
        | (at_builtin; refine wpList_append_row _ rfl _ _ 34 rfl w.heap.size .u8 5 1 Tryz.underlying34 info_u8 v1 (wbytes (xs.take k) ++ [(x : Int) / 256]) rfl (hown1.alloc _) _ _ 1 1 [(x : Int) % 256] rfl (Row.one .u8 w1 5 ((x : Int) % 256) wf2) rfl (by rw [List.length_append, hl.out]; simp; omega) (by rw [List.length_append, hl.out]; simp [maxLen]; omega) (by simp; omega) ?_; intro v2 w2 hown2 hg2; have hbel2 := Below.own1 hbel1 hsz1 hown1 hg2; clear hg2))
      rw [List.append_assoc, show [(x : Int) / 256] ++ [(x : Int) % 256] = [(x : Int) / 256, (x : Int) % 256] from rfl, ← HS'.out, ← HX.out, ← HT.out] at hown2
      go_roundw
      case rel => exact ⟨k + 1, by omega, by go_num, hown2, hbel2⟩
      case measure => simp [intOf]; omega
    · have hx : xs.take k = xs := List.take_of_length_le (by have := hn'.out; omega)
      rw [hx] at hown
      clear hx
      go_wp2
      go_ret
      exact ⟨_, rfl, hown, hbel⟩

/-- A call returns a pair: a list of words of its own, and no error. -/
def MakesW (w : World) (xs : List Int) (e : Ending) (w' : World) : Prop := ∃ v, e = .returned (.tuple #[v, .int .i64 0]) ∧ Own .u16 32 w' w.heap.size v xs ∧ Below w.heap.size w w'
set_option maxHeartbeats 1000000 in
theorem refWords_ok (A : Option Addr) (n c m : Nat) (ys : List Int) (w : World) (hr : Row .u8 w w.heap.size A ys) (hn : ys.length = n) (hb : n ≤ 1000000) (h : n = 2 * m) :
    Calls Tryz.prog 89 #[.slice A n c] w (MakesW w (wwords ys)) := by
  have hn' := Lib.hid hn
  have h2 : ((n : Int) % 2 == 1) = false := beq_false_of_ne (by omega)
  have hy2 : Hid (ys.length / 2 = m) := Lib.hid (by omega)
  have hm' := Lib.hid h
  have hm2 : m ≤ 500000 := by omega
  clear hn h
  go_enter Tryz.func89, Tryz.ntmps89
  go_wp2
  go_loopw [4, 5] (fun t i wr => ∃ k : Nat, k ≤ m ∧ i = .int .i64 (2 * k : Nat) ∧ Own .u16 32 wr w.heap.size t ((wwords ys).take k) ∧ Below w.heap.size w wr) (fun _ i _ => n - (intOf i).toNat)
  case atStart => exact ⟨0, by omega, rfl, Own.nil _ _ _ _, Below.refl _ _⟩
  case round =>
    obtain ⟨k, hk, rfl, hown, hbel⟩ := hrel
    by_cases hlt : k < m
    · obtain ⟨b, o, rfl, hb1, hc1⟩ := (hr.below hbel).at_ (i := 2 * k) (by have := hn'.out; have := hm'.out; omega)
      obtain ⟨b', o', e2, _, hc2⟩ := (hr.below hbel).at_ (i := 2 * k + 1) (by have := hn'.out; have := hm'.out; omega)
      injection e2 with e2
      injection e2 with e2 e3
      subst e2 e3
      have hwb := word_bound ys hr.1 k (by have := hy2.out; omega)
      have HT := wwords_take ys k (by have := hy2.out; omega)
      rw [word] at HT
      have HT' := Lib.hid HT
      clear HT
      have hl : Hid (((wwords ys).take k).length = k) := Lib.hid (by rw [List.length_take, wwords_length]; have := hy2.out; omega)
      have hsz := hbel.size
      have hk1 : 2 * k + 1 < n := by have := hm'.out; omega
      generalize nth ys (2 * k) = p at *
      generalize nth ys (2 * k + 1) = q at *
      have e1 : IntKind.u16.wrap (p * 256) = p * 256 := by rw [IntKind.wrap_u16]; omega
      have e2 : IntKind.u16.wrap (p * 256 + q) = p * 256 + q := by rw [IntKind.wrap_u16]; omega
      have e3 : IntKind.i64.wrap (2 * (k : Int) + 1) = 2 * (k : Int) + 1 := IntWalk.i64_in _ (by omega)
      have e4 : (2 * (k : Int) + 1).toNat = 2 * k + 1 := by omega
      have e5 : (2 * (k : Int)).toNat = 2 * k := by omega
      have e6 : 0 ≤ 2 * (k : Int) + 1 := by omega
      have e7 : 2 * (k : Int) + 1 < (n : Int) := by omega
      have e8 : 2 * (k : Int) < (n : Int) := by omega
      have e9 : (0 : Int) ≤ 2 * (k : Int) := by omega
      have e10 : IntKind.u16.wrap p = p := by rw [IntKind.wrap_u16]; omega
      have e11 : IntKind.u16.wrap q = q := by rw [IntKind.wrap_u16]; omega
      have hpq := wf_word16 (n := p * 256 + q) (by omega)
      have hown' : wr.ownsRow w.heap.size 32 1 u4 k (((wwords ys).take k).map (Value.int .u16)) := by have h0 := hown; unfold Own at h0; rwa [hl.out] at h0
      have HO := Lib.hid hown'
      clear hown'
      have hfar : some b ≠ u4.ownBlock := fun e => by have := (hown.block b e.symm).1; omega
      have lb : b < wr.heap.size := by omega
      obtain ⟨i0, hi0, hz0, hz1, hz2⟩ := info_parts W.info_u16
      go_wp2_with fail
      go_region_held3 (fun w' => w'.cell? ⟨b, o + 2 * k, none⟩ = some (.int .u8 p) ∧ w'.cell? ⟨b, o + (2 * k + 1), none⟩ = some (.int .u8 q))
        (first
          | go_keep
          | (go_split_ands
             refine ⟨?_, ?_⟩
             · (rw [hgrow.cell_far _ (by simp; omega) hfar]; assumption)
             · (rw [hgrow.cell_far _ (by simp; omega) hfar]; assumption)))
        ((refine step_append_lies _ (by rfl) _ _ _ (by rfl) w.heap.size 32 i0 _ 1 2 Tryz.underlying23 hi0 hz0 hz1 hz2 rfl (by omega) u4 k _ (by rfl) ((World.ownsRow.alloc HO.out _).drew)
            ⟨wr.heap.size, 0, none⟩ 1 1 [.int .u16 (p * 256 + q)] (by rfl) (by rfl) (World.news_of_block (cs := #[.int .u16 (p * 256 + q)]) (t := 32) (fr := (0, 0)) (heap_alloc_new wr _)) (by simp [Value.oneCell'])
            (by omega) (by simp only [maxLen]; omega) (by omega) (by simp; omega) (wr.heap.size + 1) (by simp) ?_; intro gg cap w1 hown1 hgrow hat hlt1))
      clear e1 e2 e3 e4 e5 e6 e7 e8 e9 e10 e11
      have hown2 : Own .u16 32 w1 w.heap.size (.slice (some ⟨gg, 0, none⟩) (k + 1) cap) ((wwords ys).take (k + 1)) := by
        rw [HT'.out]
        unfold Own
        rw [List.length_append, hl.out, List.map_append]
        exact hown1
      have hbel0 := hbel.alloc hsz (.cells #[.int .u16 (p * 256 + q)] 32)
      have hbel1 : Below w.heap.size w w1 := Below.grown (w := (wr.alloc (.cells #[.int .u16 (p * 256 + q)] 32)).drew) ⟨hbel0.os, hbel0.tape, hbel0.output, hbel0.size, hbel0.block⟩ hgrow (by simp; omega) (fun g e => (hown.block g e).1)
      clear hbel0
      clear hgrow hat hlt1 hown1 hown hbel
      go_wp2
      go_roundw
      case rel => exact ⟨k + 1, by omega, by go_num, hown2, hbel1⟩
      case measure => simp [intOf]; omega
    · obtain rfl : k = m := by omega
      have hx : (wwords ys).take k = wwords ys := List.take_of_length_le (by rw [wwords_length]; have := hy2.out; omega)
      rw [hx] at hown
      clear hx
      have h5 : ¬ ((2 * (k : Int) + 1) < (n : Int)) := by have := hm'.out; omega
      go_wp2
      go_ret2
      exact ⟨_, rfl, hown, hbel⟩
end Go.Proofs.YtobhllcnljggiaaGreat
namespace Go.Proofs.YtobhllcnljggiaaGreat.L
open Go.RowKit
set_option linter.unusedVariables false
set_option linter.unusedVariables false
/-- Rows that lie in blocks of their own, each known whole (or nil), their slices in the array of block gl. -/
structure Parts (w : World) (B gl m : Nat) (A : Nat → Option Addr) (n c : Nat → Nat) (l r : Nat → List Bool) : Prop where
  at_ : ∀ k, k < m → w.cell? ⟨gl, k, none⟩ = some (.slice (A k) (n k) (c k))
  size : ∀ k, k < m → n k ≤ c k ∧ c k ≤ 140737488355328 ∧ (l k).length = c k
  wf : ∀ k, k < m → ∀ x ∈ l k, (Lit.bool x).wf = true
  lies : ∀ k, k < m → (A k = none ∧ n k = 0 ∧ c k = 0) ∨ ∃ g, A k = some ⟨g, 0, none⟩ ∧ B ≤ g ∧ g ≠ gl ∧ w.heap[g]? = some (.cells (blk () (l k ++ r k)) 4 (0, 0))
  apart : ∀ i k, i < m → k < m → i ≠ k → ∀ g, A i = some ⟨g, 0, none⟩ → A k ≠ some ⟨g, 0, none⟩
  gl_lt : gl < w.heap.size

theorem Parts.row {w : World} {B gl m : Nat} {A : Nat → Option Addr} {n c : Nat → Nat} {l r : Nat → List Bool} (h : Parts w B gl m A n c l r) {k : Nat} (hk : k < m) :
    Row () w w.heap.size (A k) ((l k).take (n k)) ∧ ((l k).take (n k)).length = n k := by
  have hs := h.size k hk
  refine ⟨?_, by simp; omega⟩
  rcases h.lies k hk with ⟨ha, hn, hc⟩ | ⟨g, ha, _, _, hg⟩
  · rw [hn, List.take_zero]; exact Row.nil _ _ _ _
  · rw [ha]
    exact (Row.of_block hg _ (fun x hx => h.wf k hk x (List.mem_of_mem_take hx)) ((List.take_prefix _ _).trans (List.prefix_append _ _))).more (block_lt hg)
/-- A step that leaves all old blocks leaves the parts. -/
theorem Parts.below {w w' : World} {B gl m : Nat} {A : Nat → Option Addr} {n c : Nat → Nat} {l r : Nat → List Bool} (h : Parts w B gl m A n c l r) (hb : Below w.heap.size w w') : Parts w' B gl m A n c l r where
  at_ := fun k hk => (hb.cell (p := ⟨gl, k, none⟩) h.gl_lt).trans (h.at_ k hk)
  size := h.size
  wf := h.wf
  lies := fun k hk => by
    rcases h.lies k hk with h0 | ⟨g, ha, hB, hne, hg⟩
    · exact .inl h0
    · exact .inr ⟨g, ha, hB, hne, (hb.block g (block_lt hg)).trans hg⟩
  apart := h.apart
  gl_lt := Nat.lt_of_lt_of_le h.gl_lt hb.size
/-- One part is written over. -/
theorem Parts.spoil {w w' : World} {B gl m : Nat} {A : Nat → Option Addr} {n c : Nat → Nat} {l r : Nat → List Bool} (h : Parts w B gl m A n c l r) {i g : Nat} (hi : i < m) (ha : A i = some ⟨g, 0, none⟩)
    (hg : w'.heap[g]? = some (.cells (blk () (spoilL (c i) (l i) ++ r i)) 4 (0, 0))) (hgr : w.grownBy w' (some g)) : Parts w' B gl m A n c (fun k => if k = i then spoilL (c i) (l i) else l k) r where
  at_ := fun k hk => by
    rcases h.lies i hi with ⟨h0, _⟩ | ⟨g', ha', _, hne, _⟩
    · rw [ha] at h0; cases h0
    · rw [ha] at ha'
      injection ha' with ha'
      injection ha' with ha'
      subst ha'
      exact (World.cell?_of_block (hgr.block gl h.gl_lt (fun e => hne (by injection e with e; exact e.symm)))).trans (h.at_ k hk)
  size := fun k hk => by
    have := h.size k hk
    refine ⟨this.1, this.2.1, ?_⟩
    split
    · rename_i e; subst e; rw [spoilL_length]; exact this.2.2
    · exact this.2.2
  wf := fun k hk => by
    show ∀ x ∈ (if k = i then spoilL (c i) (l i) else l k), _
    split
    · exact spoilL_wf _ _ (h.wf i hi)
    · exact h.wf k hk
  lies := fun k hk => by
    by_cases e : k = i
    · subst e
      rcases h.lies k hi with ⟨h0, _⟩ | ⟨g', ha', hB, hne, _⟩
      · rw [ha] at h0; cases h0
      · rw [ha] at ha'
        injection ha' with ha'
        injection ha' with ha'
        subst ha'
        exact .inr ⟨g, ha, hB, hne, by rw [if_pos rfl]; exact hg⟩
    · rcases h.lies k hk with h0 | ⟨g', ha', hB, hne, hg'⟩
      · exact .inl h0
      · refine .inr ⟨g', ha', hB, hne, ?_⟩
        rw [if_neg e, hgr.block g' (block_lt hg') (fun e' => ?_)]
        · exact hg'
        · injection e' with e'
          subst e'
          exact h.apart k i hk hi e _ ha' ha
  apart := h.apart
  gl_lt := Nat.lt_of_lt_of_le h.gl_lt hgr.size

/-- A slice that is handed to ApartBools: nil, or the beginning of a block that is known whole. -/
structure Ent where
  a : Option Nat
  n : Nat
  c : Nat
  l : List Bool
  r : List Bool
def Ent.none_ : Ent := ⟨none, 0, 0, [], []⟩
def Ent.adr (e : Ent) : Option Addr := e.a.map fun g => ⟨g, 0, none⟩
def Ent.val (e : Ent) : Value := .slice e.adr e.n e.c
structure Ent.Ok (w : World) (B : Nat) (e : Ent) : Prop where
  size : e.n ≤ e.c ∧ e.c ≤ 140737488355328 ∧ e.l.length = e.c
  wf : ∀ x ∈ e.l, (Lit.bool x).wf = true
  lies : (e.a = none ∧ e.n = 0 ∧ e.c = 0) ∨ ∃ g, e.a = some g ∧ B ≤ g ∧ w.heap[g]? = some (.cells (blk () (e.l ++ e.r)) 4 (0, 0))
def Ent.Far (e e' : Ent) : Prop := ∀ g, e.a = some g → e'.a ≠ some g
theorem Ent.adr_some {e : Ent} {g : Nat} (h : e.adr = some ⟨g, 0, none⟩) : e.a = some g := by
  unfold Ent.adr at h
  cases ha : e.a with
  | none => rw [ha] at h; cases h
  | some q => rw [ha] at h; simp at h; rw [h]

theorem parts_of_list (w : World) (B : Nat) (L : List Ent) (t : TypeId) (hok : ∀ e ∈ L, e.Ok w B) (hfar : L.Pairwise Ent.Far) :
    Parts (w.alloc (.cells (L.map Ent.val).toArray t)) B w.heap.size L.length (fun k => (L.getD k Ent.none_).adr) (fun k => (L.getD k Ent.none_).n) (fun k => (L.getD k Ent.none_).c) (fun k => (L.getD k Ent.none_).l) (fun k => (L.getD k Ent.none_).r) where
  at_ := fun k hk => by
    rw [World.cell?_alloc_at _ _ _ _ rfl]
    simp [List.getElem?_eq_getElem hk, List.getD_eq_getElem?_getD, Ent.val]
  size := fun k hk => by
    simp only [List.getD_eq_getElem?_getD, List.getElem?_eq_getElem hk, Option.getD_some]
    exact (hok _ (List.getElem_mem hk)).size
  wf := fun k hk => by
    simp only [List.getD_eq_getElem?_getD, List.getElem?_eq_getElem hk, Option.getD_some]
    exact (hok _ (List.getElem_mem hk)).wf
  lies := fun k hk => by
    simp only [List.getD_eq_getElem?_getD, List.getElem?_eq_getElem hk, Option.getD_some]
    rcases (hok _ (List.getElem_mem hk)).lies with ⟨h1, h2⟩ | ⟨g, h1, h2, h3⟩
    · exact .inl ⟨by rw [Ent.adr, h1]; rfl, h2⟩
    · have := block_lt h3
      exact .inr ⟨g, by rw [Ent.adr, h1]; rfl, h2, by omega, (Below.heap_alloc w _ g this).trans h3⟩
  apart := fun i k hi hk hne g h1 h2 => by
    simp only [List.getD_eq_getElem?_getD, List.getElem?_eq_getElem hi, List.getElem?_eq_getElem hk, Option.getD_some] at h1 h2
    have h1 := Ent.adr_some h1
    have h2 := Ent.adr_some h2
    rcases Nat.lt_or_gt_of_ne hne with h | h
    · exact List.pairwise_iff_getElem.1 hfar i k hi hk h g h1 h2
    · exact List.pairwise_iff_getElem.1 hfar k i hk hi h g h2 h1
  gl_lt := by simp

end Go.Proofs.YtobhllcnljggiaaGreat.L
namespace Go.Proofs.YtobhllcnljggiaaGreat.L
open Go.RowKit
set_option linter.unusedVariables false
set_option linter.unusedVariables false
/-- A slice that is nil or the beginning of a block, as an entry. -/
theorem Li.ent {w : World} {A : Option Addr} {m g B : Nat} {l r : List Bool} (h : Li w A m g l r) (hm : l.length = m) (hw : ∀ x ∈ l, (Lit.bool x).wf = true) (hB : B ≤ g) (hmm : m ≤ 140737488351232) :
    ∃ E : Ent, E.val = .slice A m m ∧ E.Ok w B ∧ (E.a = none ∨ E.a = some g) ∧ (A = none → E.a = none) := by
  rcases h with ⟨h1, h2⟩ | ⟨h1, h2⟩
  · subst h1 h2
    exact ⟨⟨none, 0, 0, l, r⟩, rfl, ⟨⟨Nat.le_refl _, by show 0 ≤ _; omega, hm⟩, hw, .inl ⟨rfl, rfl, rfl⟩⟩, .inl rfl, fun _ => rfl⟩
  · subst h1
    exact ⟨⟨some g, m, m, l, r⟩, rfl, ⟨⟨Nat.le_refl _, by show m ≤ _; omega, hm⟩, hw, .inr ⟨g, rfl, hB, h2⟩⟩, .inr rfl, fun h => by cases h⟩

end Go.Proofs.YtobhllcnljggiaaGreat.L
namespace Go.Proofs.YtobhllcnljggiaaGreat
open Go.RowKit
set_option linter.unusedVariables false
theorem refNeed_any (n : Nat) (w : World) (h : n < 9223372036854775808) : Calls Tryz.prog 88 #[.int .i64 n] w fun e w' => e = .returned (.int .i64 (need n : Nat)) ∧ w = w' := by
  by_cases h8 : n % 8 = 0
  · have h1 : ¬ (0 < (n : Int) % 8) := by omega
    have e : Hid ((n : Int) / 8 = ((need n : Nat) : Int)) := Lib.hid (by unfold need; omega)
    clear h8
    go_enter Tryz.func88, Tryz.ntmps88
    go_wp2
    go_ret
    exact ⟨congrArg (fun x => Ending.returned (Value.int .i64 x)) e.out, rfl⟩
  · have h1 : 0 < (n : Int) % 8 := by omega
    have e : Hid ((n : Int) / 8 + 1 = ((need n : Nat) : Int)) := Lib.hid (by unfold need; omega)
    clear h8
    go_enter Tryz.func88, Tryz.ntmps88
    go_wp2
    go_ret
    exact ⟨congrArg (fun x => Ending.returned (Value.int .i64 x)) e.out, rfl⟩
theorem refWeight_any (r : Nat) (w : World) (h : r < 8) : Calls Tryz.prog 84 #[.int .i64 r] w fun e w' => e = .returned (.int .i64 (2 ^ r : Nat)) ∧ w' = w := by
  go_enter Tryz.func84, Tryz.ntmps84
  go_wp2
  go_loop [3, 4] (fun t i => ∃ k : Nat, k ≤ r ∧ i = .int .i64 k ∧ t = .int .i64 (2 ^ k : Nat)) (fun _ i => r - (intOf i).toNat)
  case atStart => exact ⟨0, by omega, rfl, rfl⟩
  case round =>
    obtain ⟨k, hk, rfl, rfl⟩ := hrel
    by_cases hlt : k < r
    · have hp : 2 ^ k ≤ 128 := Nat.pow_le_pow_right (n := 2) (by omega) (show k ≤ 7 by omega)
      have hs := Lib.hid (Nat.pow_succ 2 k)
      generalize 2 ^ k = q at *
      go_wp2
      go_round
      case rel => exact ⟨k + 1, by omega, by go_num, by rw [hs.out]; congr 1; omega⟩
      case measure => simp [intOf]; omega
    · obtain rfl : k = r := by omega
      go_wp2
      go_ret
      exact ⟨rfl, rfl⟩
end Go.Proofs.YtobhllcnljggiaaGreat
namespace Go.Proofs.YtobhllcnljggiaaGreat
open Go.RowKit
set_option linter.unusedVariables false
theorem need_more (k : Nat) (h : k % 8 = 0) : need (k + 1) = need k + 1 := by unfold need; omega
theorem need_same (k : Nat) (h : k % 8 ≠ 0) : need (k + 1) = need k := by unfold need; omega
theorem pk_grow (bs : List Bool) (k : Nat) (h : k % 8 = 0) : pk (bs.take k) (need k) ++ [0] = pk (bs.take k) (need (k + 1)) := by
  rw [need_more k h, pk, pk, List.range_succ, List.map_append, List.map_singleton]
  congr 2
  rw [bsum_stop (bs.take k) (need k) 0 8 (by omega) (fun r _ => nth_take_off _ _ _ (by unfold need; omega))]
  rfl
end Go.Proofs.YtobhllcnljggiaaGreat
namespace Go.Proofs.YtobhllcnljggiaaGreat
open Go.RowKit
set_option linter.unusedVariables false
set_option maxHeartbeats 1000000 in
theorem refBits_any (A : Option Addr) (n c : Nat) (bs : List Bool) (w : World) (hr : L.Row () w w.heap.size A bs) (hn : bs.length = n) (hb : n ≤ 1000000) :
    Calls Tryz.prog 48 #[.slice A n c] w (Makes .u8 5 w (pk bs (need n))) := by
  have hn' := Lib.hid hn
  clear hn
  go_enter Tryz.func48, Tryz.ntmps48
  go_wp2
  go_loopw [3, 4] (fun t i wr => ∃ k : Nat, k ≤ n ∧ i = .int .i64 k ∧ Own .u8 5 wr w.heap.size t (pk (bs.take k) (need k)) ∧ Below w.heap.size w wr) (fun _ i _ => n - (intOf i).toNat)
  case atStart => exact ⟨0, by omega, rfl, Own.nil _ _ _ _, Below.refl _ _⟩
  case round =>
    obtain ⟨k, hk, rfl, hown, hbel⟩ := hrel
    by_cases hlt : k < n
    · obtain ⟨b, o, rfl, hb1, hc1⟩ := (hr.below hbel).at_ (i := k) (by have := hn'.out; omega)
      obtain ⟨v, hv⟩ : ∃ v, Hid (L.nth bs k = v) := ⟨_, Lib.hid rfl⟩
      rw [hv.out] at hc1
      have hsz := hbel.size
      have hnl : Hid ((pk (bs.take k) (need k)).length ≤ 1000000) := Lib.hid (by rw [pk_length]; unfold need; omega)
      by_cases h8 : k % 8 = 0
      · have e8 : ((k : Int) % 8 == 0) = true := by simp; omega
        have one1 := Row.one .u8 wr 5 0 (by decide)
        have hgr := Lib.hid (pk_grow bs k h8)
        clear h8
        cases v with
        | false =>
          have hoff := Lib.hid (pk_off bs k (need (k + 1)) hv.out)
          go_wp2_with (at_builtin; refine wpList_append_row _ rfl _ _ 34 rfl w.heap.size .u8 5 1 Tryz.underlying34 info_u8 u3 _ rfl (hown.alloc _) _ _ 1 1 [0] rfl one1 rfl (by have := hnl.out; omega) (by have := hnl.out; simp only [maxLen]; omega) (by simp; omega) ?_; intro v1 w1 hown1 hg1; have hbel1 := Below.own1 hbel hsz hown hg1; have hc2 := (hbel1.cell (p := ⟨b, o + k, none⟩) hb1).trans ((hbel.cell (p := ⟨b, o + k, none⟩) hb1).symm.trans hc1); rw [hgr.out, ← hoff.out] at hown1; clear hg1)
          go_roundw
          case rel => exact ⟨k + 1, by omega, by go_num, hown1, hbel1⟩
          case measure => simp [intOf]; omega
        | true =>
          go_wp2_with (at_builtin; refine wpList_append_row _ rfl _ _ 34 rfl w.heap.size .u8 5 1 Tryz.underlying34 info_u8 u3 _ rfl (hown.alloc _) _ _ 1 1 [0] rfl one1 rfl (by have := hnl.out; omega) (by have := hnl.out; simp only [maxLen]; omega) (by simp; omega) ?_; intro v1 w1 hown1 hg1; have hbel1 := Below.own1 hbel hsz hown hg1; have hc9 := (hbel1.cell (p := ⟨b, o + k, none⟩) hb1).trans ((hbel.cell (p := ⟨b, o + k, none⟩) hb1).symm.trans hc1); rw [hgr.out] at hown1; clear hg1)
          have hk8 : k / 8 < need (k + 1) := by unfold need; omega
          have hlow := pk_low bs k
          have hpl : (pk (bs.take k) (need (k + 1))).length = need (k + 1) := pk_length _ _
          obtain ⟨g, cap, rfl, hg0, hg1, hg2, hcs, hfz, hset⟩ := hown1.cells (by rw [hpl]; omega)
          have hcap : k / 8 < cap := by rw [hpl] at hg2; omega
          have hc2 := hcs (k / 8) (by rw [hpl]; exact hk8)
          rw [pk_nth _ _ _ hk8] at hc2
          have hfz := hfz (k / 8)
          have hnew := hset w1.drew (k / 8) ((bsum (bs.take k) (k / 8) 8 + 2 ^ (k % 8) : Nat) : Int) rfl (by rw [hpl]; exact hk8)
          rw [pk_on bs k _ hk8 hv.out] at hnew
          have HN := Lib.hid hnew
          have belD : Below w.heap.size w w1.drew := ⟨hbel1.os, hbel1.tape, hbel1.output, hbel1.size, hbel1.block⟩
          have bel2 := belD.setCell hg0 (p := ⟨g, k / 8, none⟩) (.int .u8 ((bsum (bs.take k) (k / 8) 8 + 2 ^ (k % 8) : Nat) : Int))
          have hp8 : 2 ^ (k % 8) ≤ 128 := Nat.pow_le_pow_right (n := 2) (by omega) (show k % 8 ≤ 7 by omega)
          have hlt8 : bsum (bs.take k) (k / 8) 8 + 2 ^ (k % 8) < 256 := by omega
          rw [hpl] at *
          have hln : k / 8 < need (k + 1) := hk8
          clear hcs hset belD hnew hlow hg2 hown1
          generalize bsum (bs.take k) (k / 8) 8 = a at *
          obtain ⟨r, hr8⟩ : ∃ r, k % 8 = r := ⟨_, rfl⟩
          obtain ⟨j, hj⟩ : ∃ j, k / 8 = j := ⟨_, rfl⟩
          have e6 : (k : Int) % 8 = ((r : Nat) : Int) := by omega
          have e7 : (k : Int).tmod 8 = ((r : Nat) : Int) := by rw [Int.tmod_eq_emod_of_nonneg (by omega)]; omega
          have hr9 : r < 8 := by omega
          have e1 : (k : Int) / 8 = (j : Int) := by omega
          have e3 : (k : Int).tdiv 8 = (j : Int) := by rw [Int.tdiv_eq_ediv_of_nonneg (by omega)]; omega
          have e4 : (0 : Int) ≤ (j : Int) := by omega
          have e9 : IntKind.i64.wrap (j : Int) = (j : Int) := IntWalk.i64_in _ (by omega)
          have e10 : IntKind.i64.wrap (r : Int) = (r : Int) := IntWalk.i64_in _ (by omega)
          rw [hr8] at hp8 hlt8 HN bel2
          rw [hj] at hc2 hfz HN bel2 hk8 hln hcap
          clear hr8 hj
          obtain ⟨d, hd⟩ : ∃ d, Hid (need (k + 1) = d) := ⟨_, Lib.hid rfl⟩
          rw [hd.out] at HN hk8 hln ⊢
          have e2 : (j : Int) < (d : Int) := by omega
          obtain ⟨q, hq⟩ : ∃ q : Nat, 2 ^ r = q := ⟨_, rfl⟩
          have HQ := Lib.hid hq
          rw [hq] at hp8 hlt8 HN bel2
          clear hq
          have e5 : IntKind.u8.wrap (q : Int) = (q : Int) := by rw [IntKind.wrap_u8]; omega
          have e8 : IntKind.u8.wrap ((a : Int) + (q : Int)) = ((a + q : Nat) : Int) := by rw [IntKind.wrap_u8]; omega
          go_wp2
          go_region_law ((go_simp; go_at_call 84; refine (refWeight_any r _ hr9).mono ?_; rintro e w' ⟨rfl, rfl⟩; rw [HQ.out]))
          all_goals
            go_wp2
            go_roundw
            case rel => exact ⟨k + 1, by omega, by go_num, by rw [hd.out]; exact HN.out, bel2⟩
            case measure => simp [intOf]; omega
      · have e8 : ((k : Int) % 8 == 0) = false := beq_false_of_ne (by omega)
        rw [← need_same k h8] at hown
        clear h8
        cases v with
        | false =>
          have hoff := Lib.hid (pk_off bs k (need (k + 1)) hv.out)
          rw [← hoff.out] at hown
          go_wp2
          go_roundw
          case rel => exact ⟨k + 1, by omega, by go_num, hown, hbel⟩
          case measure => simp [intOf]; omega
        | true =>
          have hk8 : k / 8 < need (k + 1) := by unfold need; omega
          have hlow := pk_low bs k
          have hpl : (pk (bs.take k) (need (k + 1))).length = need (k + 1) := pk_length _ _
          obtain ⟨g, cap, rfl, hg0, hg1, hg2, hcs, hfz, hset⟩ := hown.cells (by rw [hpl]; omega)
          have hcap : k / 8 < cap := by rw [hpl] at hg2; omega
          have hc2 := hcs (k / 8) (by rw [hpl]; exact hk8)
          rw [pk_nth _ _ _ hk8] at hc2
          have hfz := hfz (k / 8)
          have hnew := hset wr.drew (k / 8) ((bsum (bs.take k) (k / 8) 8 + 2 ^ (k % 8) : Nat) : Int) rfl (by rw [hpl]; exact hk8)
          rw [pk_on bs k _ hk8 hv.out] at hnew
          have HN := Lib.hid hnew
          have belD : Below w.heap.size w wr.drew := ⟨hbel.os, hbel.tape, hbel.output, hbel.size, hbel.block⟩
          have bel2 := belD.setCell hg0 (p := ⟨g, k / 8, none⟩) (.int .u8 ((bsum (bs.take k) (k / 8) 8 + 2 ^ (k % 8) : Nat) : Int))
          have hp8 : 2 ^ (k % 8) ≤ 128 := Nat.pow_le_pow_right (n := 2) (by omega) (show k % 8 ≤ 7 by omega)
          have hlt8 : bsum (bs.take k) (k / 8) 8 + 2 ^ (k % 8) < 256 := by omega
          rw [hpl] at *
          have hln : k / 8 < need (k + 1) := hk8
          clear hcs hset belD hnew hlow hg2 hown
          generalize bsum (bs.take k) (k / 8) 8 = a at *
          obtain ⟨r, hr8⟩ : ∃ r, k % 8 = r := ⟨_, rfl⟩
          obtain ⟨j, hj⟩ : ∃ j, k / 8 = j := ⟨_, rfl⟩
          have e6 : (k : Int) % 8 = ((r : Nat) : Int) := by omega
          have e7 : (k : Int).tmod 8 = ((r : Nat) : Int) := by rw [Int.tmod_eq_emod_of_nonneg (by omega)]; omega
          have hr9 : r < 8 := by omega
          have e1 : (k : Int) / 8 = (j : Int) := by omega
          have e3 : (k : Int).tdiv 8 = (j : Int) := by rw [Int.tdiv_eq_ediv_of_nonneg (by omega)]; omega
          have e4 : (0 : Int) ≤ (j : Int) := by omega
          have e9 : IntKind.i64.wrap (j : Int) = (j : Int) := IntWalk.i64_in _ (by omega)
          have e10 : IntKind.i64.wrap (r : Int) = (r : Int) := IntWalk.i64_in _ (by omega)
          rw [hr8] at hp8 hlt8 HN bel2
          rw [hj] at hc2 hfz HN bel2 hk8 hln hcap
          clear hr8 hj
          obtain ⟨d, hd⟩ : ∃ d, Hid (need (k + 1) = d) := ⟨_, Lib.hid rfl⟩
          rw [hd.out] at HN hk8 hln ⊢
          have e2 : (j : Int) < (d : Int) := by omega
          obtain ⟨q, hq⟩ : ∃ q : Nat, 2 ^ r = q := ⟨_, rfl⟩
          have HQ := Lib.hid hq
          rw [hq] at hp8 hlt8 HN bel2
          clear hq
          have e5 : IntKind.u8.wrap (q : Int) = (q : Int) := by rw [IntKind.wrap_u8]; omega
          have e8 : IntKind.u8.wrap ((a : Int) + (q : Int)) = ((a + q : Nat) : Int) := by rw [IntKind.wrap_u8]; omega
          go_wp2
          go_region_law ((go_simp; go_at_call 84; refine (refWeight_any r _ hr9).mono ?_; rintro e w' ⟨rfl, rfl⟩; rw [HQ.out]))
          all_goals
            go_wp2
            go_roundw
            case rel => exact ⟨k + 1, by omega, by go_num, by rw [hd.out]; exact HN.out, bel2⟩
            case measure => simp [intOf]; omega
    · obtain rfl : k = n := by omega
      have hx : bs.take k = bs := List.take_of_length_le (by have := hn'.out; omega)
      rw [hx] at hown
      clear hx
      go_wp2
      go_ret
      exact ⟨_, rfl, hown, hbel⟩
end Go.Proofs.YtobhllcnljggiaaGreat
namespace Go.Proofs.YtobhllcnljggiaaGreat
open Go.RowKit
set_option linter.unusedVariables false

/-- A right answer that is no exception has no list but its own. -/
theorem rep_stray {q : Req} {r : Rep} (h : chkR q r = 0) (hx : r.x = 0) : (¬ (q.c = 1 ∨ q.c = 2) → r.on.length = 0) ∧ (¬ (q.c = 3 ∨ q.c = 4) → r.set.length = 0) ∧ (q.c ≠ 20 → r.fs.length = 0) := by
  unfold chkR at h
  by_cases hk : chkQ q ≠ 0
  · rw [if_pos hk] at h; exact absurd h hk
  · rw [if_neg hk, if_neg (show ¬ r.x ≠ 0 by simp [hx])] at h
    by_cases hs : strayB q.c r.on.length r.set.length r.fs.length = true
    · rw [if_pos hs] at h; cases h
    · simp only [strayB, anyB, Bool.or_eq_true, decide_eq_true_eq, not_or, Nat.not_lt, Nat.le_zero] at hs
      obtain ⟨⟨h1, h2⟩, h3⟩ := hs
      refine ⟨fun g => ?_, fun g => ?_, fun g => ?_⟩
      · rwa [if_neg g] at h1
      · rwa [if_neg g] at h2
      · rwa [if_neg g] at h3
theorem Row.more2 {k : IntKind} {w w' : World} {A : Option Addr} {xs : List Int} {o1 o2 : Obj} (h : Row k w w.heap.size A xs) (t : TB w w.heap.size o1 o2 w') : Row k w' w'.heap.size A xs := (h.below t.bel).more t.bel.size
theorem L.Row.more2 {w w' : World} {A : Option Addr} {xs : List Bool} {o1 o2 : Obj} (h : L.Row () w w.heap.size A xs) (t : TB w w.heap.size o1 o2 w') : L.Row () w' w'.heap.size A xs := (h.below t.bel).more t.bel.size
theorem Own.view2 {k : IntKind} {e : TypeId} {w : World} {base : Nat} {v : Value} {xs : List Int} (h : Own k e w base v xs) (hw : ∀ x ∈ xs, (Lit.int k x).wf = true) : ∃ A n c, v = .slice A n c ∧ Row k w w.heap.size A xs ∧ xs.length = n := by
  obtain ⟨A, c, e, hr, _⟩ := h.row hw
  exact ⟨A, _, c, e, hr, rfl⟩

set_option maxHeartbeats 4000000 in
set_option maxRecDepth 100000 in
theorem refPutR_words (c a n : Int) (on : List Bool) (set fl : List Int) (x : Int) (ron : List Bool) (rset : List Int) (fs : List (List Int)) (Ao As Ap Bo Bs Bf : Option Addr) (lo ls lp co cs cp mo ms mf eo es ef : Nat) (w : World) (h : Asked w w.heap.size (⟨c, a, n, on, set, fl⟩ : Req) Ao As Ap lo ls lp) (hr : Repd w w.heap.size (⟨x, ron, rset, fs⟩ : Rep) Bo Bs Bf mo ms mf) (hb : lp ≤ 100000) (hk : chkR (⟨c, a, n, on, set, fl⟩ : Req) (⟨x, ron, rset, fs⟩ : Rep) = 0) (hx : x = 0) (hc : c = 3 ∨ c = 4) :
    Calls Tryz.prog 20 #[.agg #[.int .i64 c, .int .i64 a, .int .i64 n, .slice Ao lo co, .slice As ls cs, .slice Ap lp cp], .agg #[.int .i64 x, .slice Bo mo eo, .slice Bs ms es, .slice Bf mf ef]] w (GivesOwn w (putR (⟨c, a, n, on, set, fl⟩ : Req) (⟨x, ron, rset, fs⟩ : Rep)) 0) := by
  have t0 := TB.new2 w #[.int .i64 c, .int .i64 a, .int .i64 n, .slice Ao lo co, .slice As ls cs, .slice Ap lp cp] #[.int .i64 x, .slice Bo mo eo, .slice Bs ms es, .slice Bf mf ef] 26 29
  have hsz : w.heap.size ≤ ((w.alloc (.cells #[.int .i64 c, .int .i64 a, .int .i64 n, .slice Ao lo co, .slice As ls cs, .slice Ap lp cp] 26)).alloc (.cells #[.int .i64 x, .slice Bo mo eo, .slice Bs ms es, .slice Bf mf ef] 29)).heap.size := t0.bel.size
  have H := Lib.hid ((h.below t0.bel).more hsz)
  have HR := Lib.hid ((hr.below t0.bel).more hsz)
  have HC := Lib.hid (refRp_any (⟨c, a, n, on, set, fl⟩ : Req) (⟨x, ron, rset, fs⟩ : Rep) Ao As Ap Bo Bs Bf lo ls lp co cs cp mo ms mf eo es ef _ H.out HR.out hb)
  rw [hk] at HC
  obtain ⟨q1, q2, q3⟩ := rep_stray hk hx
  have hm := rep_words hk hx hc
  simp only at q1 q2 q3 hm
  have hcr := mm_le _ (chk_code (chkR_zero hk hx).1)
  simp only at hcr
  obtain ⟨L, hL⟩ : ∃ L, Hid (wbytes rset = L) := ⟨_, Lib.hid rfl⟩
  have HLEN : Hid (rset.length = ms) := Lib.hid hr.ms
  have hlen : ms ≤ 125 := by have := HLEN.out; omega
  have hLn : L.length ≤ 250 := by rw [← hL.out]; rw [wbytes_length, HLEN.out]; omega
  have HP : Hid (putR (⟨c, a, n, on, set, fl⟩ : Req) (⟨x, ron, rset, fs⟩ : Rep) = c :: (L.length : Int) :: L) := Lib.hid (by
    unfold putR formR
    rw [if_neg (show ¬ chkR (⟨c, a, n, on, set, fl⟩ : Req) (⟨x, ron, rset, fs⟩ : Rep) ≠ 0 by rw [hk]; simp), if_neg (show ¬ x ≠ 0 by rw [hx]; simp), if_neg (show ¬ (c = 1 ∨ c = 2) by omega), if_pos hc]
    rw [← hL.out, wbytes_length]; congr 2)
  have HWF : Hid (∀ y ∈ L, (Lit.int .u8 y).wf = true) := Lib.hid (by rw [← hL.out]; exact wbytes_wf _)
  have HSET := Lib.hid hr.set
  have hmf : mf = 0 := by have h1 := hr.mf; have h2 := q3 (by omega); simp only at h1; omega
  have kB : Hid (clB c = false) := Lib.hid (by unfold clB; simp; omega)
  have kW : Hid (clW c = true) := Lib.hid (by unfold clW; simp; omega)
  have kF : Hid (clF c = false) := Lib.hid (by unfold clF; simp; omega)
  have u1 : IntKind.u8.wrap c = c := by rw [IntKind.wrap_u8]; omega
  subst hx hmf
  clear h hr hk q1 q2 q3 hc hm
  go_enter Tryz.func20, Tryz.ntmps20
  go_wp2_with fail
  refine HC.out.mono ?_
  rintro e w1 ⟨rfl, b1⟩
  have t1 := t0.below b1
  clear b1 t0 HC hsz
  obtain ⟨d0, d1, d2, d3, _⟩ := t1.c4
  obtain ⟨r0, r1, r2, r3, r4, r5, _⟩ := t1.r6
  go_wp2_with fail
  refine (refKindBits_any c a n Ao As Ap lo co ls cs lp cp _).mono ?_
  rintro e w1b ⟨rfl, b1b⟩
  rw [kB.out]
  have t1b := t1.below b1b
  clear d0 d1 d2 d3 r0 r1 r2 r3 r4 r5 t1 b1b
  obtain ⟨d0, d1, d2, d3, _⟩ := t1b.c4
  obtain ⟨r0, r1, r2, r3, r4, r5, _⟩ := t1b.r6
  go_wp2_with fail
  refine (refWords_kind c a n Ao As Ap lo co ls cs lp cp _).mono ?_
  rintro e w2 ⟨rfl, b2⟩
  rw [kW.out]
  have t2 := t1b.below b2
  clear d0 d1 d2 d3 r0 r1 r2 r3 r4 r5 t1b b2
  obtain ⟨d0, d1, d2, d3, _⟩ := t2.c4
  obtain ⟨r0, r1, r2, r3, r4, r5, _⟩ := t2.r6
  go_wp2_with fail
  refine (refBytes_any Bs ms es rset _ (HSET.out.more2 t2) HLEN.out (by omega)).mono ?_
  rintro e w3 ⟨v3, rfl, own3, b3⟩
  rw [hL.out] at own3
  have t3 := t2.below b3
  have own3 := own3.mono (base' := w.heap.size) (by have := t2.lt; omega)
  clear d0 d1 d2 d3 r0 r1 r2 r3 r4 r5 t2 b3
  obtain ⟨d0, d1, d2, d3, _⟩ := t3.c4
  obtain ⟨r0, r1, r2, r3, r4, r5, _⟩ := t3.r6
  have t4 := t3
  have own4 := own3
  clear t3 own3
  obtain ⟨A4, n4, c4, hv4⟩ := own_form own4
  subst hv4
  go_wp2
  go_loopw [7, 8] (fun v i wr => i = .int .i64 0 ∧ v = .slice A4 n4 c4 ∧ Own .u8 5 wr w.heap.size (.slice A4 n4 c4) L ∧ TB w w.heap.size (.cells #[.int .i64 c, .int .i64 a, .int .i64 n, .slice Ao lo co, .slice As ls cs, .slice Ap lp cp] 26 (0, 0)) (.cells #[.int .i64 0, .slice Bo mo eo, .slice Bs ms es, .slice Bf 0 ef] 29 (0, 0)) wr) (fun _ i _ => 0)
  case atStart => exact ⟨rfl, rfl, own4, t4⟩
  case round =>
    clear t4 own4
    obtain ⟨rfl, rfl, own5, t5⟩ := hrel
    clear d0 d1 d2 d3 r0 r1 r2 r3 r4 r5
    obtain ⟨d0, d1, d2, d3, _⟩ := t5.c4
    obtain ⟨r0, r1, r2, r3, r4, r5, _⟩ := t5.r6
    go_wp2_with fail
    refine (refKindBits_any c a n Ao As Ap lo co ls cs lp cp _).mono ?_
    rintro e w6 ⟨rfl, b6⟩
    rw [kB.out]
    have t6 := t5.below b6
    have own6 := own5.below b6 (Nat.le_refl _)
    clear d0 d1 d2 d3 r0 r1 r2 r3 r4 r5 t5 b6 own5
    obtain ⟨d0, d1, d2, d3, _⟩ := t6.c4
    obtain ⟨r0, r1, r2, r3, r4, r5, _⟩ := t6.r6
    go_wp2_with fail
    refine (refWords_kind c a n Ao As Ap lo co ls cs lp cp _).mono ?_
    rintro e w7 ⟨rfl, b7⟩
    rw [kW.out]
    have t7 := t6.below b7
    have own7 := own6.below b7 (Nat.le_refl _)
    clear d0 d1 d2 d3 r0 r1 r2 r3 r4 r5 t6 b7 own6
    obtain ⟨d0, d1, d2, d3, _⟩ := t7.c4
    obtain ⟨r0, r1, r2, r3, r4, r5, _⟩ := t7.r6
    have hsz7 := t7.bel.size
    have hlt7 := t7.lt
    obtain ⟨hrow7, hlen7⟩ : Row .u8 w7 w7.heap.size A4 L ∧ L.length = n4 := by
      obtain ⟨A, n, c, e, r, l⟩ := own7.view2 HWF.out
      injection e with e1 e2 e3
      subst e1 e2 e3
      exact ⟨r, l⟩
    have R7 := Lib.hid (hrow7.alloc (Nat.le_refl _) (.cells (blk .u8 [c, (n4 : Int)]) 5))
    have L7 := Lib.hid hlen7
    have hn4 : n4 ≤ 250 := by omega
    have e2 : IntKind.u8.wrap (n4 : Int) = n4 := by rw [IntKind.wrap_u8]; omega
    have hown := Own.laid (k := .u8) (base := w.heap.size) (n := 2) (heap_alloc_new w7 (.cells (blk .u8 [c, (n4 : Int)]) 5)) hsz7 (show [c, (n4 : Int)].length = 2 from rfl) (by simp [maxLen])
    have belA := t7.bel.alloc hsz7 (.cells (blk .u8 [c, (n4 : Int)]) 5)
    have hsA : w.heap.size ≤ (w7.alloc (.cells (blk .u8 [c, (n4 : Int)]) 5)).heap.size := by simp; omega
    obtain ⟨g7, hg7⟩ : ∃ g, w7.heap.size = g := ⟨_, rfl⟩
    rw [hg7] at hown
    clear hrow7 hlen7
    go_wp2_with (at_builtin; refine wpList_append_row _ rfl (.tmp 96) (.tmp 97) 34 rfl w.heap.size .u8 5 1 Tryz.underlying34 info_u8 (.slice (some ⟨g7, 0, none⟩) 2 2) [c, (n4 : Int)] rfl hown _ _ n4 c4 L rfl R7.out L7.out (by simp; omega) (by simp [maxLen]; omega) hsA ?_; intro v1 w8 hown8 hg8)
    go_ret2
    exact ⟨_, rfl, by rw [HP.out, L7.out]; exact hown8, Below.own belA hsA hown hg8⟩

set_option maxHeartbeats 4000000 in
set_option maxRecDepth 100000 in
theorem refPutR_bits (c a n : Int) (on : List Bool) (set fl : List Int) (x : Int) (ron : List Bool) (rset : List Int) (fs : List (List Int)) (Ao As Ap Bo Bs Bf : Option Addr) (lo ls lp co cs cp mo ms mf eo es ef : Nat) (w : World) (h : Asked w w.heap.size (⟨c, a, n, on, set, fl⟩ : Req) Ao As Ap lo ls lp) (hr : Repd w w.heap.size (⟨x, ron, rset, fs⟩ : Rep) Bo Bs Bf mo ms mf) (hb : lp ≤ 100000) (hk : chkR (⟨c, a, n, on, set, fl⟩ : Req) (⟨x, ron, rset, fs⟩ : Rep) = 0) (hx : x = 0) (hc : c = 1 ∨ c = 2) :
    Calls Tryz.prog 20 #[.agg #[.int .i64 c, .int .i64 a, .int .i64 n, .slice Ao lo co, .slice As ls cs, .slice Ap lp cp], .agg #[.int .i64 x, .slice Bo mo eo, .slice Bs ms es, .slice Bf mf ef]] w (GivesOwn w (putR (⟨c, a, n, on, set, fl⟩ : Req) (⟨x, ron, rset, fs⟩ : Rep)) 0) := by
  have t0 := TB.new2 w #[.int .i64 c, .int .i64 a, .int .i64 n, .slice Ao lo co, .slice As ls cs, .slice Ap lp cp] #[.int .i64 x, .slice Bo mo eo, .slice Bs ms es, .slice Bf mf ef] 26 29
  have hsz : w.heap.size ≤ ((w.alloc (.cells #[.int .i64 c, .int .i64 a, .int .i64 n, .slice Ao lo co, .slice As ls cs, .slice Ap lp cp] 26)).alloc (.cells #[.int .i64 x, .slice Bo mo eo, .slice Bs ms es, .slice Bf mf ef] 29)).heap.size := t0.bel.size
  have H := Lib.hid ((h.below t0.bel).more hsz)
  have HR := Lib.hid ((hr.below t0.bel).more hsz)
  have HC := Lib.hid (refRp_any (⟨c, a, n, on, set, fl⟩ : Req) (⟨x, ron, rset, fs⟩ : Rep) Ao As Ap Bo Bs Bf lo ls lp co cs cp mo ms mf eo es ef _ H.out HR.out hb)
  rw [hk] at HC
  obtain ⟨q1, q2, q3⟩ := rep_stray hk hx
  have hm := rep_bits hk hx hc
  simp only at q1 q2 q3 hm
  have hcr := mm_le _ (chk_code (chkR_zero hk hx).1)
  simp only at hcr
  obtain ⟨L, hL⟩ : ∃ L, Hid (pk ron (need mo) = L) := ⟨_, Lib.hid rfl⟩
  have HLEN : Hid (ron.length = mo) := Lib.hid hr.mo
  have hlen : mo ≤ 2000 := by have := HLEN.out; omega
  have hLn : L.length ≤ 250 := by rw [← hL.out]; rw [pk_length]; unfold need; omega
  have HP : Hid (putR (⟨c, a, n, on, set, fl⟩ : Req) (⟨x, ron, rset, fs⟩ : Rep) = c :: (L.length : Int) :: L) := Lib.hid (by
    unfold putR formR
    rw [if_neg (show ¬ chkR (⟨c, a, n, on, set, fl⟩ : Req) (⟨x, ron, rset, fs⟩ : Rep) ≠ 0 by rw [hk]; simp), if_neg (show ¬ x ≠ 0 by rw [hx]; simp), if_pos hc]
    rw [← hL.out, HLEN.out, pk_length])
  have HWF : Hid (∀ y ∈ L, (Lit.int .u8 y).wf = true) := Lib.hid (by rw [← hL.out]; exact pk_wf _ _)
  have HON := Lib.hid hr.on
  have hmf : mf = 0 := by have h1 := hr.mf; have h2 := q3 (by omega); simp only at h1; omega
  have kB : Hid (clB c = true) := Lib.hid (by unfold clB; simp; omega)
  have kW : Hid (clW c = false) := Lib.hid (by unfold clW; simp; omega)
  have kF : Hid (clF c = false) := Lib.hid (by unfold clF; simp; omega)
  have u1 : IntKind.u8.wrap c = c := by rw [IntKind.wrap_u8]; omega
  subst hx hmf
  clear h hr hk q1 q2 q3 hc hm
  go_enter Tryz.func20, Tryz.ntmps20
  go_wp2_with fail
  refine HC.out.mono ?_
  rintro e w1 ⟨rfl, b1⟩
  have t1 := t0.below b1
  clear b1 t0 HC hsz
  obtain ⟨d0, d1, d2, d3, _⟩ := t1.c4
  obtain ⟨r0, r1, r2, r3, r4, r5, _⟩ := t1.r6
  go_wp2_with fail
  refine (refKindBits_any c a n Ao As Ap lo co ls cs lp cp _).mono ?_
  rintro e w2 ⟨rfl, b2⟩
  rw [kB.out]
  have t2 := t1.below b2
  clear d0 d1 d2 d3 r0 r1 r2 r3 r4 r5 t1 b2
  obtain ⟨d0, d1, d2, d3, _⟩ := t2.c4
  obtain ⟨r0, r1, r2, r3, r4, r5, _⟩ := t2.r6
  go_wp2_with fail
  refine (refBits_any Bo mo eo ron _ (HON.out.more2 t2) HLEN.out (by omega)).mono ?_
  rintro e w3 ⟨v3, rfl, own3, b3⟩
  rw [hL.out] at own3
  have t3 := t2.below b3
  have own3 := own3.mono (base' := w.heap.size) (by have := t2.lt; omega)
  clear d0 d1 d2 d3 r0 r1 r2 r3 r4 r5 t2 b3
  obtain ⟨d0, d1, d2, d3, _⟩ := t3.c4
  obtain ⟨r0, r1, r2, r3, r4, r5, _⟩ := t3.r6
  go_wp2_with fail
  refine (refWords_kind c a n Ao As Ap lo co ls cs lp cp _).mono ?_
  rintro e w4 ⟨rfl, b4⟩
  rw [kW.out]
  have t4 := t3.below b4
  have own4 := own3.below b4 (Nat.le_refl _)
  clear d0 d1 d2 d3 r0 r1 r2 r3 r4 r5 t3 b4 own3
  obtain ⟨d0, d1, d2, d3, _⟩ := t4.c4
  obtain ⟨r0, r1, r2, r3, r4, r5, _⟩ := t4.r6
  obtain ⟨A4, n4, c4, hv4⟩ := own_form own4
  subst hv4
  go_wp2
  go_loopw [7, 8] (fun v i wr => i = .int .i64 0 ∧ v = .slice A4 n4 c4 ∧ Own .u8 5 wr w.heap.size (.slice A4 n4 c4) L ∧ TB w w.heap.size (.cells #[.int .i64 c, .int .i64 a, .int .i64 n, .slice Ao lo co, .slice As ls cs, .slice Ap lp cp] 26 (0, 0)) (.cells #[.int .i64 0, .slice Bo mo eo, .slice Bs ms es, .slice Bf 0 ef] 29 (0, 0)) wr) (fun _ i _ => 0)
  case atStart => exact ⟨rfl, rfl, own4, t4⟩
  case round =>
    clear t4 own4
    obtain ⟨rfl, rfl, own5, t5⟩ := hrel
    clear d0 d1 d2 d3 r0 r1 r2 r3 r4 r5
    obtain ⟨d0, d1, d2, d3, _⟩ := t5.c4
    obtain ⟨r0, r1, r2, r3, r4, r5, _⟩ := t5.r6
    go_wp2_with fail
    refine (refKindBits_any c a n Ao As Ap lo co ls cs lp cp _).mono ?_
    rintro e w6 ⟨rfl, b6⟩
    rw [kB.out]
    have t6 := t5.below b6
    have own6 := own5.below b6 (Nat.le_refl _)
    clear d0 d1 d2 d3 r0 r1 r2 r3 r4 r5 t5 b6 own5
    obtain ⟨d0, d1, d2, d3, _⟩ := t6.c4
    obtain ⟨r0, r1, r2, r3, r4, r5, _⟩ := t6.r6
    have t7 := t6
    have own7 := own6
    clear t6 own6
    have hsz7 := t7.bel.size
    have hlt7 := t7.lt
    obtain ⟨hrow6, hlen7⟩ : Row .u8 w6 w6.heap.size A4 L ∧ L.length = n4 := by
      obtain ⟨A, n, c, e, r, l⟩ := own7.view2 HWF.out
      injection e with e1 e2 e3
      subst e1 e2 e3
      exact ⟨r, l⟩
    have R7 := Lib.hid (hrow6.alloc (Nat.le_refl _) (.cells (blk .u8 [c, (n4 : Int)]) 5))
    have L7 := Lib.hid hlen7
    have hn4 : n4 ≤ 250 := by omega
    have e2 : IntKind.u8.wrap (n4 : Int) = n4 := by rw [IntKind.wrap_u8]; omega
    have hown := Own.laid (k := .u8) (base := w.heap.size) (n := 2) (heap_alloc_new w6 (.cells (blk .u8 [c, (n4 : Int)]) 5)) hsz7 (show [c, (n4 : Int)].length = 2 from rfl) (by simp [maxLen])
    have belA := t7.bel.alloc hsz7 (.cells (blk .u8 [c, (n4 : Int)]) 5)
    have hsA : w.heap.size ≤ (w6.alloc (.cells (blk .u8 [c, (n4 : Int)]) 5)).heap.size := by simp; omega
    obtain ⟨g7, hg7⟩ : ∃ g, w6.heap.size = g := ⟨_, rfl⟩
    rw [hg7] at hown
    clear hrow6 hlen7
    go_wp2_with (at_builtin; refine wpList_append_row _ rfl (.tmp 96) (.tmp 97) 34 rfl w.heap.size .u8 5 1 Tryz.underlying34 info_u8 (.slice (some ⟨g7, 0, none⟩) 2 2) [c, (n4 : Int)] rfl hown _ _ n4 c4 L rfl R7.out L7.out (by simp; omega) (by simp [maxLen]; omega) hsA ?_; intro v1 w8 hown8 hg8)
    go_ret2
    exact ⟨_, rfl, by rw [HP.out, L7.out]; exact hown8, Below.own belA hsA hown hg8⟩
end Go.Proofs.YtobhllcnljggiaaGreat
