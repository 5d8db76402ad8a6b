/-
  The statement ChunkCut of outstationlaw13 holds: for every input that can be read, the call returns true, and each argument reads as it did. No condition of its own.
-/
import Derived.Test.YtooelfmfcihlkaaJChunkCutA
import Derived.Test.YtooelfmfcihlkaaProg
import Derived.Lib.Bytes
import Derived.IntWalk
import Derived.Lib.SlBytesConst
import Derived.Laws.AppendOwn
import Derived.Deep.RegionLaw
import Derived.Test.YtooelfmfcihlkaaRows
namespace Go.Proofs.Ytooelfmfcihlkaa
open Go.RowKit
set_option linter.unusedVariables false

theorem zeros_wfK (k : IntKind) (m : Nat) : ∀ x ∈ List.replicate m (0 : Int), (Lit.int k x).wf = true := fun x hx => by
  rw [List.eq_of_mem_replicate hx]; cases k <;> decide
section
variable {P : Program}
theorem run_append_K (w : World) (base : Nat) (t : TypeId) (k : IntKind) (e : TypeId) (bytes : Nat) (ht : P.underlying t = some (.slice e)) (hi : (P.info? e).map (fun i => (i.zero, i.size, i.bytes)) = some (some (.int k 0), 1, bytes))
    (v : Value) (xs : List Int) (hown : KOwn k e w base v xs) (B : Nat) (A : Option Addr) (m c : Nat) (ys : List Int) (hr : Row k w B A ys) (hm : ys.length = m) (h1 : 1 ≤ m)
    (hbytes : (xs.length + m) * bytes ≤ 140737488355328) (h63 : xs.length + m ≤ maxLen) (hbase : base ≤ w.heap.size) :
    ∃ v' w', (∀ ty, (Builtin.append_ #[t, t] ty #[v, .slice A m c]).run P w = .ok v' w') ∧ KOwn k e w' base v' (xs ++ ys) ∧ w.grownBy w' v.ownBlock ∧ (v'.ownBlock = some w.heap.size ∨ (v'.ownBlock = v.ownBlock ∧ v.ownBlock ≠ none)) ∧ ∃ A' n' c', v' = .slice A' n' c' := by
  obtain ⟨i, hi1, hz, hsz, hby⟩ := info_parts hi
  have h64 := h63
  simp only [maxLen] at h64
  obtain ⟨b, o, rfl, _, hc⟩ := hr.2 (by omega)
  have hnews : ∀ j u, (ys.map (Value.int k))[j]? = some u → w.cell? ((⟨b, o, none⟩ : Addr).add j) = some u := by
    intro j u hu
    rw [List.getElem?_map] at hu
    by_cases hj : j < ys.length
    · rw [List.getElem?_eq_getElem hj] at hu
      rw [Go.WideShapes.add_plain, hc j hj, nth_eq ys j hj]
      exact hu
    · rw [List.getElem?_eq_none (by omega)] at hu
      cases hu
  have hnl : (ys.map (Value.int k)).length = m * i.size := by rw [List.length_map, hsz, hm, Nat.mul_one]
  rcases hown with ⟨rfl, rfl⟩ | ⟨g, n, cap, r, rfl, h2, h3, h4, h5, h6, h7, h8⟩
  · simp only [List.length_nil, Nat.zero_add] at hbytes h63 h64
    have hrun := fun ty => run_append_nil (P := P) w t ty e i _ ht hi1 hz ⟨b, o, none⟩ m c (ys.map (Value.int k)) hnl hnews (by omega) (by omega) (by rw [hby]; omega)
    have hge := grownCap_ge w m 0 e
    refine ⟨_, _, hrun, .inr ⟨w.heap.size, m, grownCap w m 0 e, List.replicate (grownCap w m 0 e - m) 0, rfl, hbase, by simpa using hm, ?_, hge, grownCap_le_maxLen w m 0 e h63, by simp; omega, zeros_wfK _ _⟩, ⟨rfl, rfl, rfl, by simp, fun q hq _ => heap_alloc_old w.drew _ hq⟩, .inl rfl, _, _, _, rfl⟩
    rw [zero_one, show ((ys.map (Value.int k)).toArray ++ blk k (List.replicate (grownCap w m 0 e - m) 0)) = blk k ([] ++ ys ++ List.replicate (grownCap w m 0 e - m) 0) by simp [blk]]
    exact heap_alloc_new w.drew _
  · by_cases hroom : n + m ≤ cap
    · have hsz4 : (blk k (xs ++ r)).size = cap := by rw [blk_size, List.length_append]; exact h7
      have hrun := fun ty => run_append_room (P := P) w t ty e i ht hi1 g n cap (blk k (xs ++ r)) h4 ⟨b, o, none⟩ m c (ys.map (Value.int k)) hnl hnews (ints_oneCell k ys) hroom (by rw [hsz4, hsz, Nat.mul_one, List.length_map]; omega)
      refine ⟨_, _, hrun, .inr ⟨g, n + m, cap, r.drop m, rfl, h2, by rw [List.length_append]; omega, ?_, hroom, h6, by rw [List.length_append, List.length_drop]; omega, fun x hx => h8 x (List.mem_of_mem_drop hx)⟩, ⟨rfl, rfl, rfl, by simp, fun q _ hq => setRow_other w g q _ (fun e => hq (by simp [Value.ownBlock, e]))⟩, .inr ⟨rfl, by simp [Value.ownBlock]⟩, _, _, _, rfl⟩
      have hcells : ((blk k (xs ++ r)).toList.take (n * i.size) ++ ys.map (Value.int k) ++ (blk k (xs ++ r)).toList.drop (n * i.size + (ys.map (Value.int k)).length)).toArray = blk k (xs ++ ys ++ r.drop m) := by
        rw [hsz, Nat.mul_one, List.length_map, hm]
        simp only [blk, List.map_append, ← h3]
        congr 1
        rw [List.take_left' (by simp), ← List.drop_drop, List.drop_left' (by simp), List.map_drop]
      rw [hcells]
      exact setRow_heap w g _ _ e _ h4
    · have holds : ∀ j u, (xs.map (Value.int k))[j]? = some u → w.cell? ((⟨g, 0, none⟩ : Addr).add j) = some u := by
        intro j u hu
        have hj : j < xs.length := by have := (List.getElem?_eq_some_iff.1 hu).1; simpa using this
        rw [Go.WideShapes.add_plain, Nat.zero_add, cell_of_row w g j _ _ _ h4, blk_get _ _ _ (by rw [List.length_append]; omega), nth_left _ _ _ hj]
        rw [List.getElem?_map, List.getElem?_eq_getElem hj] at hu
        rw [nth_eq _ _ hj]
        exact hu
      have hrun := fun ty => run_append_grow (P := P) w t ty e i _ ht hi1 hz ⟨g, 0, none⟩ n cap (xs.map (Value.int k)) (by rw [hsz]; simp; omega) holds ⟨b, o, none⟩ m c (ys.map (Value.int k)) hnl hnews (by omega) (by omega) (growslice_fits (by omega) (by rw [hby, ← h3]; exact hbytes))
      have hge := grownCap_ge w (n + m) cap e
      refine ⟨_, _, hrun, .inr ⟨w.heap.size, n + m, grownCap w (n + m) cap e, List.replicate (grownCap w (n + m) cap e - (n + m)) 0, rfl, hbase, by rw [List.length_append]; omega, ?_, hge, grownCap_le_maxLen w (n + m) cap e (by omega), by rw [List.length_append, List.length_replicate]; omega, zeros_wfK _ _⟩, ⟨rfl, rfl, rfl, by simp, fun q hq _ => heap_alloc_old w.drew _ hq⟩, .inl rfl, _, _, _, rfl⟩
      rw [zero_one, show ((xs.map (Value.int k)).toArray ++ (ys.map (Value.int k)).toArray ++ blk k (List.replicate (grownCap w (n + m) cap e - (n + m)) 0)) = blk k (xs ++ ys ++ List.replicate (grownCap w (n + m) cap e - (n + m)) 0) by simp [blk]]
      exact heap_alloc_new w.drew _
theorem step_append_K {ops : Array Oper} {o : Oper} {a : Act} {K : Act → World → Prop} {Q : Exit → Act → World → Prop} {E : Prop} (w : World) (hgd : o.guard = none) (s x : Operand) (t : TypeId)
    (ho : o.op = .call { callee := .builtin .append, args := #[s, x], argTypes := #[t, t] })
    (base : Nat) (k : IntKind) (e : TypeId) (bytes : Nat) (ht : P.underlying t = some (.slice e)) (hi : (P.info? e).map (fun i => (i.zero, i.size, i.bytes)) = some (some (.int k 0), 1, bytes))
    (v : Value) (xs : List Int) (hs : a.eval s = v) (hown : KOwn k e w base v xs) (B : Nat) (A : Option Addr) (m c : Nat) (ys : List Int) (hx : a.eval x = .slice A m c) (hr : Row k w B A ys) (hm : ys.length = m) (h1 : 1 ≤ m)
    (hbytes : (xs.length + m) * bytes ≤ 140737488355328) (h63 : xs.length + m ≤ maxLen) (hbase : base ≤ w.heap.size)
    (h : ∀ v' w', KOwn k e w' base v' (xs ++ ys) → w.grownBy w' v.ownBlock → (v'.ownBlock = some w.heap.size ∨ (v'.ownBlock = v.ownBlock ∧ v.ownBlock ≠ none)) → (∃ A' n' c', v' = .slice A' n' c') → K (a.put o.dst v') w') :
    if Region.wanted o (yielded ops a.tmps) = true then Oper.wp P o a w K Q else E := by
  have hw : Region.wanted o (yielded ops a.tmps) = true := by simp [Region.wanted, hgd]
  rw [if_pos hw]
  obtain ⟨v', w', hrun, g1, g2, g3, g4⟩ := run_append_K (P := P) w base t k e bytes ht hi v xs hown B A m c ys hr hm h1 hbytes h63 hbase
  unfold Oper.wp execOp
  simp only [ho, resolve, invoke, builtin, Sem.run_bind, Sem.run_pure, Result.andThen_ok, List.map_toArray, List.map_cons, List.map_nil, hs, hx, hrun]
  exact h v' w' g1 g2 g3 g4
theorem wpList_append_K {ops : Array Oper} {rest : List Oper} {o : Oper} {a : Act} {Q : Exit → Act → World → Prop} (w : World) (hgd : o.guard = none) (s x : Operand) (t : TypeId)
    (ho : o.op = .call { callee := .builtin .append, args := #[s, x], argTypes := #[t, t] })
    (base : Nat) (k : IntKind) (e : TypeId) (bytes : Nat) (ht : P.underlying t = some (.slice e)) (hi : (P.info? e).map (fun i => (i.zero, i.size, i.bytes)) = some (some (.int k 0), 1, bytes))
    (v : Value) (xs : List Int) (hs : a.eval s = v) (hown : KOwn k e w base v xs)
    (B : Nat) (A : Option Addr) (m c : Nat) (ys : List Int) (hx : a.eval x = .slice A m c) (hr : Row k w B A ys) (hm : ys.length = m) (h1 : 1 ≤ m)
    (hbytes : (xs.length + m) * bytes ≤ 140737488355328) (h63 : xs.length + m ≤ maxLen) (hbase : base ≤ w.heap.size)
    (h : ∀ v' w', KOwn k e w' base v' (xs ++ ys) → w.grownBy w' v.ownBlock → (v'.ownBlock = some w.heap.size ∨ (v'.ownBlock = v.ownBlock ∧ v.ownBlock ≠ none)) → (∃ A' n' c', v' = .slice A' n' c') → wpList P ops Q rest (a.put o.dst v') w') : wpList P ops Q (o :: rest) a w := by
  obtain ⟨v', w', hrun, g1, g2, g3, g4⟩ := run_append_K (P := P) w base t k e bytes ht hi v xs hown B A m c ys hr hm h1 hbytes h63 hbase
  exact wpList_append_run w hgd s x t ho v (.slice A m c) v' w' hs hx hrun (h v' w' g1 g2 g3 g4)
end
end Go.Proofs.Ytooelfmfcihlkaa
namespace Go.Proofs.Ytooelfmfcihlkaa
open Go.RowKit
set_option linter.unusedVariables false
set_option maxRecDepth 100000

theorem KOwn.form {k : IntKind} {e : TypeId} {w : World} {base : Nat} {v : Value} {xs : List Int} (h : KOwn k e w base v xs) : ∃ A c, v = .slice A xs.length c ∧ xs.length ≤ c ∧ c ≤ maxLen := by
  rcases h with ⟨rfl, rfl⟩ | ⟨g, n, cap, r, rfl, _, h3, _, h5, h6, _⟩
  · exact ⟨none, 0, rfl, Nat.le_refl _, Nat.zero_le _⟩
  · subst h3
    exact ⟨_, cap, rfl, h5, h6⟩
theorem run_append0 {w : World} {base : Nat} {v : Value} {xs : List Int} (h : KOwn .u8 5 w base v xs) (A : Option Addr) (c : Nat) (ty : TypeId) : (Builtin.append_ #[22, 22] ty #[v, .slice A 0 c]).run Try.prog w = .ok v w := by
  obtain ⟨i, hi1, hz, hsz, hby⟩ := info_parts info_u8
  rcases h with ⟨rfl, rfl⟩ | ⟨g, n, cap, r, rfl, h2, h3, h4, h5, h6⟩
  · cases A with
    | none => simp [Builtin.append_, run_underlying Try.underlying22, sizeOf, typeInfo, hi1, Builtin.lenOf, Builtin.firstCells]
    | some a => simp [Builtin.append_, run_underlying Try.underlying22, sizeOf, typeInfo, hi1, Builtin.lenOf, Builtin.firstCells, loadCells, loadCellsFrom]
  · cases A with
    | none => simp [Builtin.append_, run_underlying Try.underlying22, sizeOf, typeInfo, hi1, Builtin.lenOf, Builtin.firstCells, h5, storeCells]
    | some a => simp [Builtin.append_, run_underlying Try.underlying22, sizeOf, typeInfo, hi1, Builtin.lenOf, Builtin.firstCells, h5, storeCells, loadCells, loadCellsFrom]
/-- 'append(v, src...)', v a list of the call's own whose block is known whole, src of any length. -/
theorem run_append8 (w0 w : World) (base : Nat) (v : Value) (xs : List Int) (h : KOwn .u8 5 w base v xs) (B : Nat) (A : Option Addr) (m c : Nat) (ys : List Int) (hr : Row .u8 w B A ys) (hm : ys.length = m) (hb : xs.length + m ≤ 140737488355328) (hbase : base ≤ w.heap.size) (hbel : Below base w0 w) :
    ∃ v' w', (∀ ty, (Builtin.append_ #[22, 22] ty #[v, .slice A m c]).run Try.prog w = .ok v' w') ∧ KOwn .u8 5 w' base v' (xs ++ ys) ∧ w.grownBy w' v.ownBlock ∧ Below base w0 w' := by
  by_cases h1 : 1 ≤ m
  · obtain ⟨v', w', r1, r2, r3, _⟩ := run_append_K w base 22 .u8 5 1 Try.underlying22 info_u8 v xs h B A m c ys hr hm h1 (by omega) (by unfold maxLen; omega) hbase
    exact ⟨v', w', r1, r2, r3, hbel.grown r3 hbase fun g e => (h.block g e).1⟩
  · obtain rfl : m = 0 := by omega
    obtain rfl : ys = [] := List.eq_nil_of_length_eq_zero hm
    exact ⟨v, w, run_append0 h A c, by rw [List.append_nil]; exact h, World.grownBy.refl _ _, hbel⟩
/-- A call returns a list of its own, known whole, and an error. -/
def ChMakes (w : World) (xs : List Int) (E : Int) (e : Ending) (w' : World) : Prop := ∃ v, e = .returned (.tuple #[v, .int .i64 E]) ∧ KOwn .u8 5 w' w.heap.size v xs ∧ Below w.heap.size w w'
theorem ckPE_big {xs : List Int} (h : 1024 < xs.length) : ckPE xs = 2 := if_pos h
theorem ckPE_ok {xs : List Int} (h : xs.length ≤ 1024) : ckPE xs = 0 := if_neg (by omega)
theorem ckPut_big {xs : List Int} (h : 1024 < xs.length) : ckPut xs = [] := if_pos h
theorem ckPut_ok {xs : List Int} (h : xs.length ≤ 1024) : ckPut xs = ckL xs := if_neg (by omega)
theorem ckPut_len (xs : List Int) : (ckPut xs).length ≤ 1030 := by
  by_cases h : xs.length ≤ 1024
  · rw [ckPut_ok h, ckL_len]; omega
  · rw [ckPut_big (by omega)]; simp
theorem ckPut_wf {xs : List Int} (h : ∀ x ∈ xs, (Lit.int .u8 x).wf = true) : ∀ x ∈ ckPut xs, (Lit.int .u8 x).wf = true := by
  by_cases h1 : xs.length ≤ 1024
  · rw [ckPut_ok h1]; exact ckL_wf (by omega) h
  · rw [ckPut_big (by omega)]; intro x hx; cases hx

theorem chPut_any (A : Option Addr) (n c : Nat) (xs : List Int) (w : World) (hr : Row .u8 w w.heap.size A xs) (hn : xs.length = n) (hm : n ≤ 140737488355328) :
    Calls Try.prog 11 #[.slice A n c] w (ChMakes w (ckPut xs) (ckPE xs)) := by
  by_cases hlt : 1024 < n
  · rw [ckPut_big (by omega), ckPE_big (by omega)]
    have i1 : (n : Int) > 1024 := by omega
    clear hr hn
    go_enter Try.func11, Try.ntmps11
    go_wp2
    go_ret2
    exact ⟨_, rfl, KOwn.nil _ _ _ _, Below.refl _ _⟩
  · rw [ckPut_ok (by omega), ckPE_ok (by omega)]
    have HC : Hid (∀ w1 : World, w1.heap[w.heap.size]? = some (.cells (blk .u8 (ckH xs.length ++ be4 (ckS xs))) 5 (0, 0)) → Below w.heap.size w w1 → ∃ v' w', (∀ ty, (Builtin.append_ #[22, 22] ty #[.slice (some ⟨w.heap.size, 0, none⟩) 6 6, .slice A n c]).run Try.prog w1 = .ok v' w') ∧ KOwn .u8 5 w' w.heap.size v' (ckL xs) ∧ Below w.heap.size w w') := Lib.hid (fun w1 hg hb => by
      have hl : (ckH xs.length ++ be4 (ckS xs)).length = 6 := by simp [ckH, be4]
      have hk : KOwn .u8 5 w1 w.heap.size (.slice (some ⟨w.heap.size, 0, none⟩) 6 6) (ckH xs.length ++ be4 (ckS xs)) := .inr ⟨w.heap.size, 6, 6, [], rfl, Nat.le_refl _, hl, by rw [List.append_nil]; exact hg, Nat.le_refl _, by unfold maxLen; omega, by rw [hl]; rfl, by simp⟩
      obtain ⟨v', w', r1, r2, _, r4⟩ := run_append8 w w1 w.heap.size _ _ hk _ A n c xs (hr.below hb) hn (by omega) hb.size hb
      exact ⟨v', w', r1, by rw [ckL, ← List.append_assoc]; exact r2, r4⟩)
    have i1 : ¬ (n : Int) > 1024 := by omega
    go_enter Try.func11, Try.ntmps11
    go_wp2_with (first
      | (go_at_call 25; refine (head_any A n c xs _ hr hn (by omega)).mono ?_; rintro e w1 ⟨rfl, hg, hb⟩; obtain ⟨v', w', r1, r2, r3⟩ := HC.out w1 hg hb; have R2 := Lib.hid r2; have R1 := Lib.hid r1; clear hg r2 r1)
      | (at_builtin; refine wpList_append_run _ rfl (.tmp 8) (.tmp 9) 22 rfl (.slice (some ⟨w.heap.size, 0, none⟩) 6 6) (.slice A n c) v' w' rfl rfl R1.out ?_))
    go_ret2
    exact ⟨_, rfl, R2.out, r3⟩
end Go.Proofs.Ytooelfmfcihlkaa
namespace Go.Proofs.Ytooelfmfcihlkaa
open Go.RowKit
set_option linter.unusedVariables false


/-- What 'string(b)' of a row of bytes is. -/
theorem conv_row (w : World) (B : Nat) (A : Option Addr) (n c : Nat) (xs : List Int) (h : Row .u8 w B A xs) (hn : xs.length = n) : (convert 22 9 (.slice A n c)).run Try.prog w = .ok (.string (strOfNums xs)) w := by
  rcases Nat.eq_zero_or_pos n with h0 | h0
  · subst h0
    have hx : xs = [] := List.eq_nil_of_length_eq_zero hn
    subst hx
    rw [run_convert_bytes_string w _ _ _ _ 0 c Try.underlying22 Try.underlying5 Try.underlying9]
    cases A <;> simp [Conv.bytesToString, loadCells]
    all_goals rfl
  · obtain ⟨b, o, rfl, _, hc⟩ := h.2 (by omega)
    exact run_convert_bytes_arg (P := Try.prog) w _ _ Try.underlying22 Try.underlying5 b o n c xs hn (fun i hi => hc i (by omega)) _ Try.underlying9

theorem strs_eq (xs ys : List Int) (hx : ∀ x ∈ xs, (Lit.int .u8 x).wf = true) (hy : ∀ x ∈ ys, (Lit.int .u8 x).wf = true) (h : (strOfNums xs).toList = (strOfNums ys).toList) : xs = ys := by
  have inj : ∀ a b : Int, (Lit.int .u8 a).wf = true → (Lit.int .u8 b).wf = true → UInt8.ofNat a.toNat = UInt8.ofNat b.toNat → a = b := by
    intro a b ha hb e
    have ha := wf_u8 ha
    have hb := wf_u8 hb
    have := congrArg UInt8.toNat e
    simp at this
    omega
  rw [Lib.strOfNums_toList, Lib.strOfNums_toList] at h
  unfold Lib.bytesOf at h
  revert ys
  induction xs with
  | nil => intro ys _ h; cases ys with | nil => rfl | cons _ _ => simp at h
  | cons a xs ih =>
    intro ys hy h
    cases ys with
    | nil => simp at h
    | cons b ys =>
      simp only [List.map_cons, List.cons.injEq] at h
      rw [inj a b (hx a (by simp)) (hy b (by simp)) h.1, ih (fun x hm => hx x (by simp [hm])) ys (fun x hm => hy x (by simp [hm])) h.2]

theorem equal_yes (A A' : Option Addr) (n n' c c' : Nat) (xs : List Int) (w : World) (B B' : Nat) (hr : Row .u8 w B A xs) (hr' : Row .u8 w B' A' xs) (hn : xs.length = n) (hn' : xs.length = n') :
    Calls Try.prog 28 #[.slice A n c, .slice A' n' c'] w fun e w' => e = .returned (.bool true) ∧ w = w' := by
  have h1 := conv_row w B A n c xs hr hn
  have h2 := conv_row w B' A' n' c' xs hr' hn'
  clear hr hr' hn hn'
  generalize strOfNums xs = s at *
  have h3 : (s.toList == s.toList) = true := by simp
  go_enter Try.func28, Try.ntmps28
  go_wp2
  go_ret
  exact ⟨rfl, rfl⟩
theorem equal_no (A A' : Option Addr) (n n' c c' : Nat) (xs ys : List Int) (w : World) (B B' : Nat) (hr : Row .u8 w B A xs) (hr' : Row .u8 w B' A' ys) (hn : xs.length = n) (hn' : ys.length = n') (hne : xs ≠ ys) :
    Calls Try.prog 28 #[.slice A n c, .slice A' n' c'] w fun e w' => e = .returned (.bool false) ∧ w = w' := by
  have h1 := conv_row w B A n c xs hr hn
  have h2 := conv_row w B' A' n' c' ys hr' hn'
  have h3 : ((strOfNums xs).toList == (strOfNums ys).toList) = false := by
    rw [beq_eq_false_iff_ne]
    exact fun h => hne (strs_eq xs ys hr.1 hr'.1 h)
  clear hr hr' hn hn' hne
  generalize strOfNums xs = s at *
  generalize strOfNums ys = t at *
  go_enter Try.func28, Try.ntmps28
  go_wp2
  go_ret
  exact ⟨rfl, rfl⟩

end Go.Proofs.Ytooelfmfcihlkaa
namespace Go.Proofs.Ytooelfmfcihlkaa
open Go.RowKit
set_option linter.unusedVariables false

/-- A call returns a new slice, its own, that holds xs; its block is known whole. -/
def MakesCl (w : World) (xs : List Int) (e : Ending) (w' : World) : Prop := ∃ v, e = .returned v ∧ KOwn .u8 5 w' w.heap.size v xs ∧ Below w.heap.size w w'
theorem info_cl : (Try.prog.info? 5).map (fun i => (i.zero, i.size, i.bytes)) = some (some (.int .u8 0), 1, 1) := by kernel_rfl
theorem zeros_cl (m : Nat) : ∀ x ∈ List.replicate m (0 : Int), (Lit.int .u8 x).wf = true := fun x hx => by rw [List.eq_of_mem_replicate hx]; decide
/-- 'append([]byte{}, ..)' of a row that is not empty. -/
theorem append_cl (A : Option Addr) (n c : Nat) (xs : List Int) (w : World) (hr : Row .u8 w w.heap.size A xs) (hn : xs.length = n) (h1 : 1 ≤ n) (hb : n ≤ 140737488351232) :
    ∃ cap w', (∀ ty, (Builtin.append_ #[22, 22] ty #[.slice (some ⟨w.heap.size, 0, none⟩) 0 0, .slice A n c]).run Try.prog (w.alloc (.cells #[] 5)) = .ok (.slice (some ⟨w.heap.size + 1, 0, none⟩) n cap) w') ∧ KOwn .u8 5 w' w.heap.size (.slice (some ⟨w.heap.size + 1, 0, none⟩) n cap) xs ∧ Below w.heap.size w w' := by
  have h := run_append_full (P := Try.prog) (w.alloc (.cells #[] 5)) 22 .u8 5 1 Try.underlying22 info_cl w.heap.size 0 [] (heap_alloc_new w _) rfl _ _ n c xs (hr.alloc (Nat.le_refl _) _) hn h1 (by omega) (by simp only [maxLen]; omega)
  obtain ⟨cap, h2, h3, h4⟩ := h
  have hz : (w.alloc (.cells #[] 5)).heap.size = w.heap.size + 1 := by simp
  simp only [Nat.zero_add, List.nil_append, hz] at h2
  refine ⟨cap, _, h2, ?_, ?_⟩
  · refine .inr ⟨_, n, cap, List.replicate (cap - n) 0, rfl, by omega, hn, ?_, by omega, h4, by rw [List.length_replicate]; omega, zeros_cl _⟩
    have := heap_alloc_new ((w.alloc (.cells #[] 5)).drew) (.cells (blk .u8 (xs ++ List.replicate (cap - n) 0)) 5)
    rw [show ((w.alloc (.cells #[] 5)).drew).heap.size = w.heap.size + 1 from hz] at this
    exact this
  · exact (below_drew (bel_alloc w _)).alloc (by show _ ≤ (w.alloc _).heap.size; omega) _
set_option maxRecDepth 100000 in
theorem clone_any (A : Option Addr) (n c : Nat) (xs : List Int) (w : World) (hr : Row .u8 w w.heap.size A xs) (hn : xs.length = n) (hb : n ≤ 140737488351232) :
    Calls Try.prog 29 #[.slice A n c] w (MakesCl w xs) := by
  by_cases h1 : 1 ≤ n
  · obtain ⟨b, o, rfl, _⟩ := hr.2 (by omega)
    obtain ⟨cap, w1, hap, hk, hbel⟩ := append_cl (some ⟨b, o, none⟩) n c xs w hr hn h1 hb
    have HK := Lib.hid hk
    clear hr hn hk
    have he : ∀ W : World, (binOp .eql 22 (.slice (some ⟨b, o, none⟩) n c) (.slice none 0 0)).run Try.prog W = .ok (.bool false) W := fun _ => rfl
    go_enter Try.func29, Try.ntmps29
    go_wp2_with (at_builtin; refine wpList_append_run _ rfl (.tmp 5) (.tmp 6) 22 rfl (.slice (some ⟨w.heap.size, 0, none⟩) 0 0) (.slice (some ⟨b, o, none⟩) n c) (.slice (some ⟨w.heap.size + 1, 0, none⟩) n cap) w1 rfl rfl hap ?_)
    go_ret
    exact ⟨_, rfl, HK.out, hbel⟩
  obtain rfl : n = 0 := by omega
  obtain rfl : xs = [] := List.eq_nil_of_length_eq_zero hn
  clear hn hb hr
  cases A with
  | none =>
    have he : ∀ W : World, (binOp .eql 22 (.slice none 0 c) (.slice none 0 0)).run Try.prog W = .ok (.bool true) W := fun _ => rfl
    go_enter Try.func29, Try.ntmps29
    go_wp2
    go_ret
    exact ⟨_, rfl, KOwn.nil _ _ _ _, Below.refl _ _⟩
  | some a =>
    have he : ∀ W : World, (binOp .eql 22 (.slice (some a) 0 c) (.slice none 0 0)).run Try.prog W = .ok (.bool false) W := fun _ => rfl
    go_enter Try.func29, Try.ntmps29
    go_wp2
    go_ret
    refine ⟨_, rfl, .inr ⟨w.heap.size, 0, 0, [], rfl, Nat.le_refl _, rfl, ?_, Nat.le_refl _, by unfold maxLen; omega, rfl, by simp⟩, bel_alloc w _⟩
    exact heap_alloc_new w _
end Go.Proofs.Ytooelfmfcihlkaa
namespace Go.Proofs.Ytooelfmfcihlkaa
open Go.RowKit
set_option linter.unusedVariables false
set_option maxRecDepth 100000

theorem or_u8 (x y : Int) (hx : 0 ≤ x ∧ x < 256) (hy : 0 ≤ y ∧ y < 256) : bits .or .i64 (x * 256) y = x * 256 + y := by
  have orw : ∀ x y : Nat, y < 256 → (x * 256) ||| y = x * 256 + y := fun x y hy => by
    have h := Nat.two_pow_add_eq_or_of_lt (i := 8) (b := y) (by omega) x
    rw [Nat.mul_comm x 256]
    exact h.symm
  obtain ⟨a, rfl⟩ := Int.eq_ofNat_of_zero_le hx.1
  obtain ⟨b, rfl⟩ := Int.eq_ofNat_of_zero_le hy.1
  show IntKind.i64.wrap ((BitVec.ofInt 64 ((a : Int) * 256) ||| BitVec.ofInt 64 (b : Int)).toNat : Int) = _
  have e1 : (a : Int) * 256 = ((a * 256 : Nat) : Int) := by omega
  have f1 : (BitVec.ofInt 64 ((a * 256 : Nat) : Int)).toNat = a * 256 := by rw [BitVec.ofInt_natCast, BitVec.toNat_ofNat]; exact Nat.mod_eq_of_lt (by omega)
  have f2 : (BitVec.ofInt 64 ((b : Nat) : Int)).toNat = b := by rw [BitVec.ofInt_natCast, BitVec.toNat_ofNat]; exact Nat.mod_eq_of_lt (by omega)
  rw [e1, BitVec.toNat_or, f1, f2, orw a b (by omega)]
  exact IntWalk.i64_in _ (by omega)
/-- What bytes say, case by case. -/
theorem ckE_1 {b : List Int} (h : b.length < 6) : ckE b = 1 := if_pos h
theorem ckE_2 {b : List Int} (h : ¬ b.length < 6) (h2 : 1024 < ckN b) : ckE b = 2 := by unfold ckE; rw [if_neg h, if_pos h2]
theorem ckE_3 {b : List Int} (h : ¬ b.length < 6) (h2 : ¬ 1024 < ckN b) (h3 : b.length < 6 + ckN b) : ckE b = 1 := by unfold ckE; rw [if_neg h, if_neg h2, if_pos h3]
theorem ckE_4 {b : List Int} (h : ¬ b.length < 6) (h2 : ¬ 1024 < ckN b) (h3 : ¬ b.length < 6 + ckN b) (h4 : (b.drop 2).take 4 = be4 (ckS (ckP b))) : ckE b = 0 := by unfold ckE; rw [if_neg h, if_neg h2, if_neg h3, if_pos h4]
theorem ckE_5 {b : List Int} (h : ¬ b.length < 6) (h2 : ¬ 1024 < ckN b) (h3 : ¬ b.length < 6 + ckN b) (h4 : ¬ (b.drop 2).take 4 = be4 (ckS (ckP b))) : ckE b = 5 := by unfold ckE; rw [if_neg h, if_neg h2, if_neg h3, if_neg h4]
theorem ckG_no {b : List Int} (h : ¬ ckE b = 0) : ckG b = [] := if_neg h
theorem ckM_no {b : List Int} (h : ¬ ckE b = 0) : ckM b = 0 := if_neg h
theorem ckG_yes {b : List Int} (h : ckE b = 0) : ckG b = ckP b := if_pos h
theorem ckM_yes {b : List Int} (h : ckE b = 0) : ckM b = 6 + ckN b := if_pos h
theorem ckP_has {b : List Int} (h3 : 6 + ckN b ≤ b.length) : (ckP b).length = ckN b := by
  unfold ckP
  rw [List.length_take, List.length_drop]
  omega
/-- The head that bytes begin with is right just if their sum is. -/
theorem ck_head {b : List Int} (hb : ∀ x ∈ b, (Lit.int .u8 x).wf = true) (h1 : 6 ≤ b.length) (h3 : 6 + ckN b ≤ b.length) : b.take 6 = ckH (ckP b).length ++ be4 (ckS (ckP b)) ↔ (b.drop 2).take 4 = be4 (ckS (ckP b)) := by
  rw [ckP_has h3]
  generalize be4 (ckS (ckP b)) = z
  match b, h1, hb with
  | b0 :: b1 :: t, h1, hb =>
    have w0 := wf_u8 (hb b0 (by simp))
    have w1 := wf_u8 (hb b1 (by simp))
    have hn : ckN (b0 :: b1 :: t) = b0.toNat * 256 + b1.toNat := rfl
    have e0 : (((b0.toNat * 256 + b1.toNat) / 256 : Nat) : Int) = b0 := by omega
    have e1 : (((b0.toNat * 256 + b1.toNat) % 256 : Nat) : Int) = b1 := by omega
    have hH : ckH (ckN (b0 :: b1 :: t)) = [b0, b1] := by rw [hn]; unfold ckH; rw [e0, e1]
    rw [hH]
    simp
theorem ckE_small (b : List Int) : 0 ≤ ckE b ∧ ckE b ≤ 5 := by
  unfold ckE
  repeat' split
  all_goals omega
theorem ckM_le (b : List Int) : ckM b ≤ b.length := by
  by_cases h : ckE b = 0
  · rw [ckM_yes h]; exact (ckE_zero.1 h).2.2.1
  · rw [ckM_no h]; exact Nat.zero_le _
theorem ckG_len (b : List Int) : (ckG b).length ≤ 1024 := by
  by_cases h : ckE b = 0
  · rw [ckG_yes h, ckP_len h]; exact (ckE_zero.1 h).2.1
  · rw [ckG_no h]; simp
theorem ckG_wf {b : List Int} (hb : ∀ x ∈ b, (Lit.int .u8 x).wf = true) : ∀ x ∈ ckG b, (Lit.int .u8 x).wf = true := by
  by_cases h : ckE b = 0
  · rw [ckG_yes h]; intro x hx; exact hb x (List.mem_of_mem_drop (List.mem_of_mem_take hx))
  · rw [ckG_no h]; intro x hx; cases hx

/-- A call returns the payload, in a list of its own, known whole, how many bytes the chunk has, and an error. -/
def ChGot (w : World) (b : List Int) (e : Ending) (w' : World) : Prop := ∃ v, e = .returned (.tuple #[v, .int .i64 (ckM b : Nat), .int .i64 (ckE b)]) ∧ KOwn .u8 5 w' w.heap.size v (ckG b) ∧ Below w.heap.size w w'
theorem ChGot.none_ {w w' : World} {b : List Int} {E : Int} (h : ckE b = E) (h0 : E ≠ 0) (hb : Below w.heap.size w w') : ChGot w b (.returned (.tuple #[.slice none 0 0, .int .i64 0, .int .i64 E])) w' := by
  have hn : ¬ ckE b = 0 := by rw [h]; exact h0
  exact ⟨_, by rw [ckM_no hn, h]; rfl, by rw [ckG_no hn]; exact KOwn.nil _ _ _ _, hb⟩
theorem bel_dn (w : World) (m : Nat) : Below w.heap.size w (w.drewN m) := ⟨rfl, rfl, rfl, Nat.le_refl _, fun _ _ => rfl⟩

set_option maxHeartbeats 2000000 in
theorem chGet_any (A : Option Addr) (n c : Nat) (b : List Int) (w : World) (hr : Row .u8 w w.heap.size A b) (hn : b.length = n) (hc : n ≤ c) (hm : n ≤ 140737488355328) :
    Calls Try.prog 13 #[.slice A n c] w (ChGot w b) := by
  by_cases h6 : n < 6
  · have HE : Hid (ckE b = 1) := Lib.hid (ckE_1 (by omega))
    have i1 : (n : Int) < 6 := by omega
    clear hr hn
    go_enter Try.func13, Try.ntmps13
    go_wp2
    go_ret3
    exact ChGot.none_ HE.out (by decide) (Below.refl _ _)
  · obtain ⟨b0, o0, rfl, _, c0⟩ := hr.at_ (i := 0) (by omega)
    obtain ⟨b1, o1, e1, _, c1⟩ := hr.at_ (i := 1) (by omega)
    injection e1 with e1
    injection e1 with e11 e12
    subst e11 e12
    have x0 := wf_u8 (hr.wf_at (i := 0) (by omega))
    have x1 := wf_u8 (hr.wf_at (i := 1) (by omega))
    have hor := or_u8 _ _ x0 x1
    have hN : nth b 0 * 256 + nth b 1 = ((ckN b : Nat) : Int) := by unfold ckN; omega
    rw [hN] at hor
    have hNb : ckN b < 65536 := by omega
    rw [Nat.add_zero] at c0
    have HR := Lib.hid hr
    have HN := Lib.hid hn
    obtain ⟨N, hNN⟩ : ∃ N, Hid (ckN b = N) := ⟨_, Lib.hid rfl⟩
    rw [hNN.out] at hor hNb
    clear hN
    generalize nth b 0 = x at *
    generalize nth b 1 = y at *
    have ew : IntKind.i64.wrap (x * 256) = x * 256 := IntWalk.i64_in _ (by omega)
    have t0 : (0 : Int) < (n : Int) := by omega
    have t1 : (1 : Int) < (n : Int) := by omega
    have t6 : ¬ (n : Int) < 6 := by omega
    clear hr hn
    by_cases hbig : 1024 < N
    · have HE : Hid (ckE b = 2) := Lib.hid (ckE_2 (by rw [HN.out]; exact h6) (by rw [hNN.out]; exact hbig))
      have i2 : (N : Int) > 1024 := by omega
      go_enter Try.func13, Try.ntmps13
      go_wp2
      go_quiet (fail)
      go_wp2
      go_ret3
      exact ChGot.none_ HE.out (by decide) (bel_dn _ _)
    by_cases hsh : n < 6 + N
    · have HE : Hid (ckE b = 1) := Lib.hid (ckE_3 (by rw [HN.out]; exact h6) (by rw [hNN.out]; exact hbig) (by rw [HN.out, hNN.out]; exact hsh))
      have i2 : ¬ (N : Int) > 1024 := by omega
      have i3 : (n : Int) < 6 + (N : Int) := by omega
      go_enter Try.func13, Try.ntmps13
      go_wp2
      go_quiet (fail)
      go_wp2
      go_ret3
      exact ChGot.none_ HE.out (by decide) (bel_dn _ _)
    have i2 : ¬ (N : Int) > 1024 := by omega
    have i3 : ¬ (n : Int) < 6 + (N : Int) := by omega
    have j1 : (6 : Int) ≤ 6 + (N : Int) := by omega
    have j2 : (6 : Int) + (N : Int) ≤ (c : Int) := by omega
    have j3 : 6 + N ≤ c := by omega
    have j4 : ((6 : Int) + (N : Int)).toNat = 6 + N := by omega
    have j5 : (6 : Int) ≤ (c : Int) := by omega
    have hpl : Hid ((ckP b).length = N) := Lib.hid (by rw [ckP_has (by rw [hNN.out, HN.out]; omega), hNN.out])
    have hh := ck_head HR.out.1 (by rw [HN.out]; omega) (by rw [hNN.out, HN.out]; omega)
    have HP : Hid (Row .u8 w w.heap.size (some ⟨b0, o0 + 6, none⟩) (ckP b)) := Lib.hid (by have := (HR.out.drop 6).front N; rw [← hNN.out] at this; exact this)
    have HT : Hid (Row .u8 w w.heap.size (some ⟨b0, o0, none⟩) (b.take 6)) := Lib.hid (HR.out.front 6)
    have HTL : Hid ((b.take 6).length = 6) := Lib.hid (by rw [List.length_take, HN.out]; omega)
    obtain ⟨P, hP⟩ : ∃ P, Hid (ckP b = P) := ⟨_, Lib.hid rfl⟩
    obtain ⟨T, hT⟩ : ∃ T, Hid (b.take 6 = T) := ⟨_, Lib.hid rfl⟩
    rw [hP.out] at hpl hh HP
    rw [hT.out] at hh HT HTL
    have HHL : Hid ((ckH P.length ++ be4 (ckS P)).length = 6) := Lib.hid (by simp [ckH, be4])
    have HHW : Hid (∀ x ∈ ckH P.length ++ be4 (ckS P), (Lit.int .u8 x).wf = true) := Lib.hid (wf_append (ckH_wf (by rw [hpl.out]; omega)) (be4_wf _))
    have k1 : Hid (¬ b.length < 6) := Lib.hid (by rw [HN.out]; exact h6)
    have k2 : Hid (¬ 1024 < ckN b) := Lib.hid (by rw [hNN.out]; exact hbig)
    have k3 : Hid (¬ b.length < 6 + ckN b) := Lib.hid (by rw [HN.out, hNN.out]; exact hsh)
    have HHd : Hid (∀ q ad cc, (0 < N → ad = some ⟨b0, o0 + 6, none⟩) → Calls Try.prog 25 #[.slice ad N cc] (w.drewN q) fun e w' => e = .returned (.slice (some ⟨w.heap.size, 0, none⟩) 6 6) ∧ Below w.heap.size w w' ∧ (∀ cc', Calls Try.prog 28 #[.slice (some ⟨b0, o0, none⟩) 6 cc', .slice (some ⟨w.heap.size, 0, none⟩) 6 6] w' fun e w'' => e = .returned (.bool (decide (T = ckH P.length ++ be4 (ckS P)))) ∧ w' = w'')) := Lib.hid (fun q ad cc had => by
      have hrow : Row .u8 (w.drewN q) (w.drewN q).heap.size ad P := by
        rcases Nat.eq_zero_or_pos N with h0 | h0
        · have : P = [] := List.eq_nil_of_length_eq_zero (by rw [hpl.out]; exact h0)
          rw [this]; exact Row.nil _ _ _ _
        · rw [had h0]; exact HP.out.drewN q
      refine (head_any ad N cc P _ hrow hpl.out (by omega)).mono fun e w1 ⟨he, hg, hb⟩ => ?_
      have hbel : Below w.heap.size w w1 := (bel_dn w q).trans hb
      refine ⟨he, hbel, fun cc' => ?_⟩
      have hT1 := HT.out.below hbel
      have hH1 := Row.of_block hg _ HHW.out (List.prefix_refl _)
      by_cases heq : T = ckH P.length ++ be4 (ckS P)
      · rw [decide_eq_true heq]
        rw [← heq] at hH1
        exact equal_yes _ _ _ _ _ _ T _ _ _ hT1 hH1 HTL.out HTL.out
      · rw [decide_eq_false heq]
        exact equal_no _ _ _ _ _ _ T _ _ _ _ hT1 hH1 HTL.out HHL.out heq)
    have HCl : Hid (∀ w1 ad cc, (0 < N → ad = some ⟨b0, o0 + 6, none⟩) → Below w.heap.size w w1 → Calls Try.prog 29 #[.slice ad N cc] w1 fun e w' => ∃ v, e = .returned v ∧ KOwn .u8 5 w' w.heap.size v P ∧ Below w.heap.size w w') := Lib.hid (fun w1 ad cc had hb => by
      have hrow : Row .u8 w1 w1.heap.size ad P := by
        rcases Nat.eq_zero_or_pos N with h0 | h0
        · have : P = [] := List.eq_nil_of_length_eq_zero (by rw [hpl.out]; exact h0)
          rw [this]; exact Row.nil _ _ _ _
        · rw [had h0]; exact (HP.out.below hb).more hb.size
      refine (clone_any ad N cc P w1 hrow hpl.out (by omega)).mono fun e w2 ⟨v, he, hk, hb2⟩ => ⟨v, he, hk.mono hb.size, hb.trans (hb2.mono hb.size)⟩)
    by_cases heq : T = ckH P.length ++ be4 (ckS P)
    · have HE : Hid (ckE b = 0) := Lib.hid (ckE_4 k1.out k2.out k3.out (by rw [hP.out]; exact hh.1 heq))
      have HD : Hid (decide (T = ckH P.length ++ be4 (ckS P)) = true) := Lib.hid (decide_eq_true heq)
      rw [HD.out] at HHd
      clear heq hh HR HT HP HTL HHL HHW k1 k2 k3 HD hT
      have HM : Hid (∀ v : Value, (Ending.returned (.tuple #[v, .int .i64 (6 + (N : Int)), .int .i64 0])) = .returned (.tuple #[v, .int .i64 (ckM b : Nat), .int .i64 (ckE b)])) := Lib.hid (fun v => by rw [ckM_yes HE.out, HE.out, hNN.out]; rfl)
      have HG : Hid (ckG b = P) := Lib.hid (by rw [ckG_yes HE.out, hP.out])
      by_cases hc6 : c = 6
      all_goals
        (go_enter Try.func13, Try.ntmps13
         go_wp2
         go_quiet (fail)
         go_wp2
         go_region_with (first
           | (go_at_call 25; refine (HHd.out _ _ _ (fun h => by first | rfl | omega)).mono ?_; rintro e w1 ⟨rfl, hb1, heq⟩)
           | (go_at_call 28; refine (heq _).mono ?_; rintro e w2 ⟨rfl, rfl⟩))
         go_wp2_with (go_at_call 29; refine (HCl.out _ _ _ (fun h => by first | rfl | omega) hb1).mono ?_; rintro e w3 ⟨v3, rfl, hk3, hb3⟩)
         go_ret3
         exact ⟨v3, HM.out v3, by rw [HG.out]; exact hk3, hb3⟩)
    · have HE : Hid (ckE b = 5) := Lib.hid (ckE_5 k1.out k2.out k3.out (by rw [hP.out]; exact fun h => heq (hh.2 h)))
      have HD : Hid (decide (T = ckH P.length ++ be4 (ckS P)) = false) := Lib.hid (decide_eq_false heq)
      rw [HD.out] at HHd
      clear heq hh HR HT HP HTL HHL HHW k1 k2 k3 HD hT HCl
      by_cases hc6 : c = 6
      all_goals
        (go_enter Try.func13, Try.ntmps13
         go_wp2
         go_quiet (fail)
         go_wp2
         go_region_with (first
           | (go_at_call 25; refine (HHd.out _ _ _ (fun h => by first | rfl | omega)).mono ?_; rintro e w1 ⟨rfl, hb1, heq⟩)
           | (go_at_call 28; refine (heq _).mono ?_; rintro e w2 ⟨rfl, rfl⟩))
         go_wp2
         go_ret3
         exact ChGot.none_ HE.out (by decide) hb1)
end Go.Proofs.Ytooelfmfcihlkaa
namespace Go.Proofs.Ytooelfmfcihlkaa
open Go.RowKit
set_option linter.unusedVariables false
set_option maxRecDepth 100000

def abc13 : List Int := [97, 98, 99]
def bad13 : List Int := [0, 1, 0, 0, 0, 0, 5]
theorem abc13_wf : ∀ x ∈ abc13, (Lit.int .u8 x).wf = true := by decide
theorem bad13_wf : ∀ x ∈ bad13, (Lit.int .u8 x).wf = true := by decide
theorem bad13_err : ckE bad13 = 5 := by decide +kernel
theorem abc13_put : ckPut abc13 = ckL abc13 := ckPut_ok (by decide)
theorem abc13_ok : ckPE abc13 = 0 := ckPE_ok (by decide)

set_option maxHeartbeats 2000000 in
theorem known13_yes (w : World) : Calls Try.prog 21 #[] w fun e w' => e = .returned (.bool true) ∧ Below w.heap.size w w' := by
  obtain ⟨L, hL⟩ : ∃ L, Hid (ckL abc13 = L) := ⟨_, Lib.hid rfl⟩
  have hLl : Hid (L.length = 9) := Lib.hid (by rw [← hL.out, ckL_len]; rfl)
  have hLw : Hid (∀ x ∈ L, (Lit.int .u8 x).wf = true) := Lib.hid (by rw [← hL.out]; exact ckL_wf (by decide) abc13_wf)
  have hL0 : Hid (nth L 0 = 0) := Lib.hid (by rw [← hL.out]; rfl)
  have hL1 : Hid (nth L 1 = 3) := Lib.hid (by rw [← hL.out]; rfl)
  have hback := ck_back (p := abc13) (by decide) []
  rw [List.append_nil, hL.out] at hback
  have hE : Hid (ckE L = 0) := Lib.hid hback.1
  have hG : Hid (ckG L = abc13) := Lib.hid hback.2.1
  have hM : Hid (ckM L = 9) := Lib.hid hback.2.2
  clear hback
  have hcv := fun (W : World) (C : Array Value) (n c : Nat) => Lib.run_convert_bytes_const (P := Try.prog) W 22 5 C n c Try.underlying22 Try.underlying5
  go_enter Try.func21, Try.ntmps21
  go_wp2_with fail
  have b1 : Below w.heap.size w (w.alloc (.cells (blk .u8 abc13) 5 (3, 4))) := bel_alloc w _
  have g1 : (w.alloc (.cells (blk .u8 abc13) 5 (3, 4))).heap[w.heap.size]? = some (.cells (blk .u8 abc13) 5 (3, 4)) := heap_alloc_new w _
  show Calls _ _ _ (w.alloc (.cells (blk .u8 abc13) 5 (3, 4))) _
  generalize w.alloc (.cells (blk .u8 abc13) 5 (3, 4)) = w1 at *
  refine (chPut_any (some ⟨w.heap.size, 0, none⟩) 3 3 abc13 w1 ((Row.of_block g1 _ abc13_wf (List.prefix_refl _)).more (block_lt g1)) rfl (by omega)).mono ?_
  rintro e w2 ⟨v2, rfl, k2, d2⟩
  rw [abc13_put, hL.out] at k2
  rw [abc13_ok]
  have b2 := b1.trans (d2.mono b1.size)
  obtain ⟨A2, c2, rfl, r2, hc2, _⟩ := k2.row hLw.out
  rw [hLl.out] at hc2 ⊢
  have R2 := Lib.hid r2
  clear k2 d2 r2 b1 g1
  go_wp2_with fail
  refine (chGet_any A2 9 c2 L w2 R2.out hLl.out hc2 (by omega)).mono ?_
  rintro e w3 ⟨v3, rfl, k3, d3⟩
  rw [hG.out] at k3
  rw [hM.out, hE.out]
  have b3 := b2.trans (d3.mono b2.size)
  have R3 := Lib.hid ((R2.out.below d3).more d3.size)
  obtain ⟨A3, c3, rfl, r3, hc3, _⟩ := k3.row abc13_wf
  have P3 := Lib.hid r3
  clear k3 d3 r3 b2 R2
  go_wp2_with fail
  have b4 : Below w.heap.size w (w3.alloc (.cells (blk .u8 bad13) 5)) := b3.alloc b3.size _
  have g4 : (w3.alloc (.cells (blk .u8 bad13) 5)).heap[w3.heap.size]? = some (.cells (blk .u8 bad13) 5 (0, 0)) := heap_alloc_new w3 _
  have R4 := Lib.hid ((R3.out.below (bel_alloc w3 (.cells (blk .u8 bad13) 5))).more (bel_alloc w3 (.cells (blk .u8 bad13) 5)).size)
  have P4 := Lib.hid ((P3.out.below (bel_alloc w3 (.cells (blk .u8 bad13) 5))).more (bel_alloc w3 (.cells (blk .u8 bad13) 5)).size)
  show Calls _ _ _ (w3.alloc (.cells (blk .u8 bad13) 5)) _
  generalize w3.alloc (.cells (blk .u8 bad13) 5) = w4 at *
  refine (chGet_any (some ⟨w3.heap.size, 0, none⟩) 7 7 bad13 w4 ((Row.of_block g4 _ bad13_wf (List.prefix_refl _)).more (block_lt g4)) rfl (by omega) (by omega)).mono ?_
  rintro e w5 ⟨v5, rfl, k5, d5⟩
  have hbg : ckG bad13 = [] := ckG_no (by rw [bad13_err]; decide)
  have hbm : ckM bad13 = 0 := ckM_no (by rw [bad13_err]; decide)
  rw [hbg] at k5
  rw [hbm, bad13_err]
  obtain ⟨A5, c5, rfl, _⟩ := k5.form
  have b5 := b4.trans (d5.mono b4.size)
  have R5 := Lib.hid ((R4.out.below d5).more d5.size)
  have P5 := Lib.hid ((P4.out.below d5).more d5.size)
  clear k5 d5 b3 b4 g4 R3 P3 R4 P4 hbg hbm
  obtain ⟨bb, oo, rfl, _, q0⟩ := R5.out.at_ (i := 0) (by rw [hLl.out]; omega)
  obtain ⟨bb', oo', ee, _, q1⟩ := R5.out.at_ (i := 1) (by rw [hLl.out]; omega)
  injection ee with ee
  injection ee with e1 e2
  subst e1 e2
  rw [hL0.out, Nat.add_zero] at q0
  rw [hL1.out] at q1
  have HS : Hid (∀ c', Calls Try.prog 17 #[.slice A3 3 c3, .slice (some ⟨w5.heap.size, 0, none⟩) 3 c'] (w5.alloc (.cells #[.int .u8 97, .int .u8 98, .int .u8 99] 5 (3, 4))) fun e w' => e = .returned (.bool true) ∧ ∃ m, w' = (w5.alloc (.cells #[.int .u8 97, .int .u8 98, .int .u8 99] 5 (3, 4))).drewN m) := Lib.hid (fun c' => by
    have g6 : (w5.alloc (.cells (blk .u8 abc13) 5 (3, 4))).heap[w5.heap.size]? = some (.cells (blk .u8 abc13) 5 (3, 4)) := heap_alloc_new w5 _
    exact same_yes_u8 A3 _ 3 c3 c' abc13 _ _ _ (P5.out.below (bel_alloc w5 _)) (Row.of_block g6 _ abc13_wf (List.prefix_refl _)) rfl (by omega))
  have b6 : Below w.heap.size w (w5.alloc (.cells #[.int .u8 97, .int .u8 98, .int .u8 99] 5 (3, 4))) := b5.alloc b5.size _
  go_wp2_with fail
  refine (HS.out _).mono ?_
  rintro e w7 ⟨rfl, m7, rfl⟩
  have b7 := below_drewN b6 m7
  clear b6 HS
  go_wp2
  go_ret
  exact ⟨rfl, b7⟩
end Go.Proofs.Ytooelfmfcihlkaa
namespace Go.Proofs.Ytooelfmfcihlkaa
open Go.RowKit
set_option linter.unusedVariables false
set_option maxRecDepth 100000

theorem info_l8 : (Try.prog.info? 22).map (fun i => (i.zero, i.size, i.bytes)) = some (some (.slice none 0 0), 1, 24) := by kernel_rfl
/-- The i-th list, behind a name that the walk's simp does not open. -/
def nthB (l : List (List Int)) (i : Nat) : List Int := l.getD i []
theorem nthB_eq (l : List (List Int)) (i : Nat) (h : i < l.length) : nthB l i = l[i] := by simp [nthB, List.getD_eq_getElem?_getD, List.getElem?_eq_getElem h]
theorem nthB_mem (l : List (List Int)) (i : Nat) (h : i < l.length) : nthB l i ∈ l := by rw [nthB_eq l i h]; exact List.getElem_mem h
theorem takeB_step (l : List (List Int)) (i : Nat) (h : i < l.length) : l.take (i + 1) = l.take i ++ [nthB l i] := by
  rw [List.take_succ_eq_append_getElem h, nthB_eq l i h]
/-- A slice at A that reads as the lists ls. -/
def BRow (w : World) (B : Nat) (A : Option Addr) (ls : List (List Int)) : Prop :=
  0 < ls.length → ∃ b o, A = some ⟨b, o, none⟩ ∧ b < B ∧ ∀ i, i < ls.length → ∃ Ai ci, w.cell? ⟨b, o + i, none⟩ = some (.slice Ai (nthB ls i).length ci) ∧ Row .u8 w B Ai (nthB ls i) ∧ (nthB ls i).length ≤ ci ∧ ci ≤ maxLen
theorem BRow.nil (w : World) (B : Nat) (A : Option Addr) : BRow w B A [] := fun h => absurd h (by simp)
theorem BRow.below {w w' : World} {B : Nat} {A : Option Addr} {ls : List (List Int)} (h : BRow w B A ls) (hb : Below B w w') : BRow w' B A ls := fun h0 => by
  obtain ⟨b, o, e, hlt, hc⟩ := h h0
  refine ⟨b, o, e, hlt, fun i hi => ?_⟩
  obtain ⟨Ai, ci, h1, h2, h3⟩ := hc i hi
  exact ⟨Ai, ci, (hb.cell (p := ⟨b, o + i, none⟩) hlt).trans h1, h2.below hb, h3⟩
theorem BRow.more {w : World} {B B' : Nat} {A : Option Addr} {ls : List (List Int)} (h : BRow w B A ls) (hB : B ≤ B') : BRow w B' A ls := fun h0 => by
  obtain ⟨b, o, e, hlt, hc⟩ := h h0
  refine ⟨b, o, e, by omega, fun i hi => ?_⟩
  obtain ⟨Ai, ci, h1, h2, h3⟩ := hc i hi
  exact ⟨Ai, ci, h1, h2.more hB, h3⟩
theorem BRow.drewN {w : World} {B : Nat} {A : Option Addr} {ls : List (List Int)} (h : BRow w B A ls) (n : Nat) : BRow (w.drewN n) B A ls := h
theorem BRow.at_ {w : World} {B : Nat} {A : Option Addr} {ls : List (List Int)} (h : BRow w B A ls) {i : Nat} (hi : i < ls.length) :
    ∃ b o Ai ci, A = some ⟨b, o, none⟩ ∧ b < B ∧ w.cell? ⟨b, o + i, none⟩ = some (.slice Ai (nthB ls i).length ci) ∧ Row .u8 w B Ai (nthB ls i) ∧ (nthB ls i).length ≤ ci ∧ ci ≤ maxLen := by
  obtain ⟨b, o, hA, hb, hc⟩ := h (by omega)
  obtain ⟨Ai, ci, h1, h2, h3⟩ := hc i hi
  exact ⟨b, o, Ai, ci, hA, hb, h1, h2, h3⟩
theorem BRow.wf {w : World} {B : Nat} {A : Option Addr} {ls : List (List Int)} (h : BRow w B A ls) : ∀ xs ∈ ls, ∀ x ∈ xs, (Lit.int .u8 x).wf = true := by
  intro xs hxs
  obtain ⟨i, hi, rfl⟩ := List.mem_iff_getElem.1 hxs
  obtain ⟨b, o, _, _, hc⟩ := h (by omega)
  obtain ⟨Ai, ci, _, h2, _⟩ := hc i hi
  rw [nthB_eq ls i hi] at h2
  exact h2.1
/-- A beginning of a list of lists. -/
theorem BRow.front {w : World} {B : Nat} {A : Option Addr} {ls : List (List Int)} (h : BRow w B A ls) (m : Nat) : BRow w B A (ls.take m) := fun h0 => by
  rw [List.length_take] at h0
  obtain ⟨b, o, e, hlt, hc⟩ := h (by omega)
  refine ⟨b, o, e, hlt, fun i hi => ?_⟩
  rw [List.length_take] at hi
  have he : nthB (ls.take m) i = nthB ls i := by
    rw [nthB_eq _ _ (by rw [List.length_take]; omega), nthB_eq _ _ (by omega), List.getElem_take]
  rw [he]
  exact hc i (by omega)

/-- The slice v owns the lists ls, each of which is a slice of the call's own whose block is known whole. -/
def LOwn (w : World) (base : Nat) (v : Value) (ls : List (List Int)) : Prop :=
  ∃ L : List (List Int × Value), L.map Prod.fst = ls ∧ w.ownsRow base 22 1 v L.length (L.map Prod.snd) ∧ ∀ p ∈ L, KOwn .u8 5 w base p.2 p.1
theorem LOwn.nil (w : World) (base : Nat) : LOwn w base (.slice none 0 0) [] := ⟨[], rfl, World.ownsRow_nil _ _ _ _, fun p hp => by cases hp⟩
theorem rowL_below {w w' : World} {base B n : Nat} {v : Value} {xs : List Value} (h : w.ownsRow base 22 1 v n xs) (hb : Below B w w') (hB : w.heap.size ≤ B) : w'.ownsRow base 22 1 v n xs := by
  refine h.kept (row := none) ⟨hb.os, hb.tape, hb.output, hb.size, fun i hi _ => hb.block i (by omega)⟩ ?_
  cases hv : v.ownBlock with
  | none => exact .inl rfl
  | some g => exact .inr (by simp)
theorem LOwn.below {w w' : World} {base B : Nat} {v : Value} {ls : List (List Int)} (h : LOwn w base v ls) (hb : Below B w w') (hB : w.heap.size ≤ B) : LOwn w' base v ls := by
  obtain ⟨L, h1, h2, h3⟩ := h
  exact ⟨L, h1, rowL_below h2 hb hB, fun p hp => (h3 p hp).below hb hB⟩
theorem LOwn.drewN {w : World} {base : Nat} {v : Value} {ls : List (List Int)} (h : LOwn w base v ls) (n : Nat) : LOwn (w.drewN n) base v ls := h
theorem LOwn.alloc {w : World} {base : Nat} {v : Value} {ls : List (List Int)} (h : LOwn w base v ls) (o : Obj) : LOwn (w.alloc o) base v ls := h.below ((Below.refl _ _).alloc (Nat.le_refl _) o) (Nat.le_refl _)
theorem LOwn.mono {w : World} {base base' : Nat} {v : Value} {ls : List (List Int)} (h : LOwn w base v ls) (hb : base' ≤ base) : LOwn w base' v ls := by
  obtain ⟨L, h1, h2, h3⟩ := h
  refine ⟨L, h1, ⟨h2.1, ?_⟩, fun p hp => (h3 p hp).mono hb⟩
  rcases h2.2 with h0 | ⟨g, cap, cur, hv, h1, r⟩
  · exact .inl h0
  · exact .inr ⟨g, cap, cur, hv, by omega, r⟩
theorem LOwn.block {w : World} {base : Nat} {v : Value} {ls : List (List Int)} (h : LOwn w base v ls) : ∀ g, v.ownBlock = some g → base ≤ g ∧ g < w.heap.size := by
  obtain ⟨L, h1, h2, h3⟩ := h
  exact World.ownsRow.lt h2
/-- The block of a list of lists is none of its lists' own. -/
theorem list8_far {w : World} {base base' : Nat} {v u : Value} {n : Nat} {xs : List Value} {ys : List Int} (h : w.ownsRow base 22 1 v n xs) (k : KOwn .u8 5 w base' u ys) : u.ownBlock = none ∨ u.ownBlock ≠ v.ownBlock := by
  rcases k with ⟨rfl, _⟩ | ⟨g, m, cap, r, rfl, _, _, hg, _⟩
  · exact .inl rfl
  · refine .inr fun e => ?_
    rcases h.2 with ⟨rfl, _⟩ | ⟨g', cap', cur, rfl, _, hg', _⟩
    · cases e
    · have e : some g = some g' := e
      injection e with e
      subst e
      rw [hg] at hg'
      injection hg' with hg'
      injection hg' with _ ht
      exact absurd ht (by decide)
theorem LOwn.len {w : World} {base : Nat} {v : Value} {ls : List (List Int)} (h : LOwn w base v ls) : ∃ A c, v = .slice A ls.length c ∧ ls.length ≤ c ∧ c ≤ maxLen := by
  obtain ⟨L, rfl, h2, h3⟩ := h
  rw [List.length_map]
  rcases h2.2 with ⟨rfl, h0⟩ | ⟨g, cap, cur, rfl, _, _, h4, h5, _⟩
  · rw [h0]; exact ⟨none, 0, rfl, Nat.le_refl _, Nat.zero_le _⟩
  · exact ⟨_, cap, rfl, h4, h5⟩
/-- One list of such a list. -/
theorem LOwn.at_ {w : World} {base : Nat} {A : Option Addr} {n c : Nat} {ls : List (List Int)} (h : LOwn w base (.slice A n c) ls) {i : Nat} (hi : i < ls.length) :
    ∃ g u, A = some ⟨g, 0, none⟩ ∧ base ≤ g ∧ g < w.heap.size ∧ w.cell? ⟨g, i, none⟩ = some u ∧ KOwn .u8 5 w base u (nthB ls i) ∧ ∃ cs, w.heap[g]? = some (.cells cs 22 (0, 0)) := by
  obtain ⟨L, rfl, h2, h3⟩ := h
  rw [List.length_map] at hi
  rcases h2.2 with ⟨e, h9⟩ | ⟨g, cap, cur, e, hb, hg, h4, h5, h6, h7⟩
  · omega
  · injection e with e1 e2 e3
    subst e1 e2 e3
    refine ⟨g, (L[i]).2, rfl, hb, block_lt hg, ?_, ?_, _, hg⟩
    · rw [cell_of_row w g i cur _ _ hg, ← Array.getElem?_toList]
      have : (cur.toList.take (L.length * 1))[i]? = (L.map Prod.snd)[i]? := by rw [h7]
      rw [List.getElem?_take_of_lt (by omega)] at this
      rw [this, List.getElem?_map, List.getElem?_eq_getElem hi]
      rfl
    · have hf : nthB (L.map Prod.fst) i = (L[i]).1 := by rw [nthB_eq _ _ (by simpa using hi)]; simp
      rw [hf]
      exact h3 _ (List.getElem_mem hi)
/-- As a list of lists that is read. -/
theorem LOwn.brow {w : World} {base : Nat} {A : Option Addr} {n c : Nat} {ls : List (List Int)} (h : LOwn w base (.slice A n c) ls) (hw : ∀ xs ∈ ls, ∀ x ∈ xs, (Lit.int .u8 x).wf = true) : BRow w w.heap.size A ls := by
  intro h0
  obtain ⟨g, _, rfl, _, hg, _⟩ := h.at_ h0
  refine ⟨g, 0, rfl, hg, fun i hi => ?_⟩
  obtain ⟨g', u, e, _, _, hc, hk, _⟩ := h.at_ hi
  injection e with e
  injection e with e
  subst e
  obtain ⟨Ai, ci, rfl, hr, h1, h2⟩ := hk.row (hw _ (nthB_mem _ _ hi))
  exact ⟨Ai, ci, by rw [Nat.zero_add]; exact hc, hr, h1, h2⟩
theorem Below.lown {w0 w w' : World} {base B : Nat} {v : Value} {ls : List (List Int)} (hb : Below B w0 w) (hB : B ≤ w.heap.size) (h : LOwn w base v ls) (hBB : B ≤ base) (hg : w.grownBy w' v.ownBlock) : Below B w0 w' :=
  hb.grown hg hB fun g e => Nat.le_trans hBB (h.block g e).1

section
variable {P : Program}
/-- 'append(v, xs)' of a list of bytes in a box. -/
theorem wpList_append_l8 {ops : Array Oper} {rest : List Oper} {o : Oper} {a : Act} {Q : Exit → Act → World → Prop} (w : World) (hgd : o.guard = none) (s x : Operand) (t : TypeId)
    (ho : o.op = .call { callee := .builtin .append, args := #[s, x], argTypes := #[t, t] }) (base : Nat) (ht : P.underlying t = some (.slice 22)) (hi : (P.info? 22).map (fun i => (i.zero, i.size, i.bytes)) = some (some (.slice none 0 0), 1, 24))
    (v : Value) (ls : List (List Int)) (hs : a.eval s = v) (hown : LOwn w base v ls) (ad : Addr) (c : Nat) (xs : List Int) (A : Option Addr) (m cc : Nat) (hx : a.eval x = .slice (some ad) 1 c)
    (hk : KOwn .u8 5 w base (.slice A m cc) xs) (hnews : ∀ j u, [Value.slice A m cc][j]? = some u → w.cell? (ad.add j) = some u) (hb : ls.length ≤ 1073741824) (hbase : base ≤ w.heap.size)
    (h : ∀ v' w', LOwn w' base v' (ls ++ [xs]) → w.grownBy w' v.ownBlock → wpList P ops Q rest (a.put o.dst v') w') : wpList P ops Q (o :: rest) a w := by
  obtain ⟨i, hi1, hz, hsz, hby⟩ := info_parts hi
  obtain ⟨L, rfl, h2, h3⟩ := hown
  rw [List.length_map] at hb
  refine wpList_append_own w hgd s x t ho base 22 i _ 1 24 ht hi1 hz hsz hby rfl (by omega) v L.length (L.map Prod.snd) hs h2 ad 1 c [.slice A m cc] hx rfl hnews (by simp [Value.oneCell']) (by simp only [maxLen]; omega) (by omega) hbase fun v' w' h4 h5 _ => h v' w' ?_ h5
  refine ⟨L ++ [(xs, .slice A m cc)], by simp, ?_, fun p hp => ?_⟩
  · rw [List.map_append, List.length_append]
    exact h4
  · rcases List.mem_append.1 hp with hp | hp
    · exact (h3 p hp).kept h5 (list8_far h2 (h3 p hp))
    · simp only [List.mem_singleton] at hp
      subst hp
      exact hk.kept h5 (list8_far h2 hk)
end
/-- The cell of a list in a new box. -/
theorem box_l8 (w : World) (t : TypeId) (x : Value) : ∀ j u, [x][j]? = some u → (w.alloc (.cells #[x] t)).cell? ((⟨w.heap.size, 0, none⟩ : Addr).add j) = some u := by
  intro j u hu
  rw [Go.WideShapes.add_plain, Nat.zero_add, World.cell?_alloc_at _ _ _ _ rfl]
  simpa using hu
end Go.Proofs.Ytooelfmfcihlkaa
namespace Go.Proofs.Ytooelfmfcihlkaa
open Go.RowKit
set_option linter.unusedVariables false
set_option maxRecDepth 100000

/-- What is scanned of bytes, as far as it goes. -/
def ckScan (b : List Int) : List (List Int) × Nat := ckSc (b.length + 1) b
/-- What is scanned so far. -/
def ScPre (b : List Int) (ls : List (List Int)) (k : Nat) : Prop := 6 * ls.length ≤ k ∧ ∀ f, ckSc (f + ls.length) b = (ls ++ (ckSc f (b.drop k)).1, k + (ckSc f (b.drop k)).2)
theorem ScPre.zero (b : List Int) : ScPre b [] 0 := ⟨by simp, fun f => by simp⟩
theorem ScPre.step {b : List Int} {ls : List (List Int)} {k : Nat} (h : ScPre b ls k) (h0 : ckE (b.drop k) = 0) : ScPre b (ls ++ [ckG (b.drop k)]) (k + ckM (b.drop k)) := by
  rw [ckG_yes h0, ckM_yes h0]
  refine ⟨by have := h.1; simp; omega, fun f => ?_⟩
  have h2 := h.2 (f + 1)
  rw [show f + (ls ++ [ckP (b.drop k)]).length = f + 1 + ls.length by simp; omega, h2]
  rw [ckSc, if_pos h0, List.drop_drop]
  simp [Nat.add_assoc]
theorem ScPre.stop {b : List Int} {ls : List (List Int)} {k : Nat} (h : ScPre b ls k) (hk : k ≤ b.length) (h0 : ckE (b.drop k) ≠ 0) : ckScan b = (ls, k) := by
  have h2 := h.2 (b.length + 1 - ls.length)
  rw [show b.length + 1 - ls.length + ls.length = b.length + 1 by have := h.1; omega] at h2
  unfold ckScan
  rw [h2, show b.length + 1 - ls.length = (b.length - ls.length) + 1 by have := h.1; omega, ckSc, if_neg h0]
  simp
/-- A call returns what is scanned. -/
def ChScans (w : World) (b : List Int) (e : Ending) (w' : World) : Prop :=
  ∃ v, e = .returned (.tuple #[v, .int .i64 ((ckScan b).2 : Nat)]) ∧ LOwn w' w.heap.size v (ckScan b).1 ∧ Below w.heap.size w w'
theorem ChScans.of {w w' : World} {b : List Int} {v : Value} {ls : List (List Int)} {k : Nat} (h : ckScan b = (ls, k)) (h1 : LOwn w' w.heap.size v ls) (h2 : Below w.heap.size w w') : ChScans w b (.returned (.tuple #[v, .int .i64 (k : Nat)])) w' := by
  unfold ChScans
  rw [h]
  exact ⟨v, rfl, h1, h2⟩
/-- Get of what is left. -/
theorem chGet_left (A : Option Addr) (n c k cc : Nat) (b : List Int) (w W : World) (hr : Row .u8 w w.heap.size A b) (hn : b.length = n) (hc : n ≤ c) (hm : n ≤ 140737488355328) (hk : k ≤ n) (hB : Below w.heap.size w W) (A' : Option Addr) (hA : k < n → ∃ b0 o0, A = some ⟨b0, o0, none⟩ ∧ A' = some ⟨b0, o0 + k, none⟩) (hcc : n - k ≤ cc) :
    Calls Try.prog 13 #[.slice A' (n - k) cc] W (ChGot W (b.drop k)) := by
  refine chGet_any A' (n - k) cc (b.drop k) W ?_ (by rw [List.length_drop, hn]) hcc (by omega)
  by_cases hlt : k < n
  · obtain ⟨b0, o0, rfl, rfl⟩ := hA hlt
    exact ((hr.drop k).below hB).more hB.size
  · rw [List.drop_of_length_le (by omega)]
    exact Row.nil _ _ _ _
theorem ckGot_len {b : List Int} (h0 : ckE b = 0) : 6 ≤ ckM b ∧ ckM b ≤ b.length := ⟨by rw [ckM_yes h0]; omega, ckM_le b⟩

set_option maxHeartbeats 4000000 in
theorem chScan_any (A : Option Addr) (n c : Nat) (b : List Int) (w : World) (hr : Row .u8 w w.heap.size A b) (hn : b.length = n) (hc : n ≤ c) (hm : n ≤ 1073741824) :
    Calls Try.prog 15 #[.slice A n c] w (ChScans w b) := by
  have HR := Lib.hid hr
  have HN := Lib.hid hn
  clear hr hn
  go_enter Try.func15, Try.ntmps15
  go_wp2
  go_step3
  go_wp2
  go_step3
  go_wp2
  go_loopw [4, 5] (fun v q wr => ∃ (k : Nat) (ls : List (List Int)), k ≤ n ∧ q = .int .i64 k ∧ ScPre b ls k ∧ LOwn wr w.heap.size v ls ∧ Below w.heap.size w wr) (fun _ q _ => n + 1 - (intOf q).toNat)
  case atStart => exact ⟨0, [], by omega, rfl, ScPre.zero b, LOwn.nil _ _, Below.refl _ _⟩
  case round =>
    obtain ⟨k, ls, hk, rfl, pre, own, bel⟩ := hrel
    have HG : Hid (∀ A' cc, (k < n → ∃ b0 o0, A = some ⟨b0, o0, none⟩ ∧ A' = some ⟨b0, o0 + k, none⟩) → n - k ≤ cc → Calls Try.prog 13 #[.slice A' (n - k) cc] wr (ChGot wr (b.drop k))) := Lib.hid (fun A' cc hA hcc => chGet_left A n c k cc b w wr HR.out HN.out hc (by omega) hk bel A' hA hcc)
    have HA : Hid (k < n → ∃ b0 o0, A = some ⟨b0, o0, none⟩) := Lib.hid (fun hlt => by
      obtain ⟨b0, o0, rfl, _, _⟩ := HR.out.at_ (i := k) (by rw [HN.out]; exact hlt)
      exact ⟨_, _, rfl⟩)
    obtain ⟨E, hE⟩ : ∃ E, Hid (ckE (b.drop k) = E) := ⟨_, Lib.hid rfl⟩
    obtain ⟨M, hM⟩ : ∃ M, Hid (ckM (b.drop k) = M) := ⟨_, Lib.hid rfl⟩
    obtain ⟨G, hG⟩ : ∃ G, Hid (ckG (b.drop k) = G) := ⟨_, Lib.hid rfl⟩
    have hMl : M ≤ n - k := by rw [← hM.out]; have := ckM_le (b.drop k); rw [List.length_drop, HN.out] at this; exact this
    have PRE := Lib.hid pre
    have OWN := Lib.hid own
    have BEL := Lib.hid bel
    have hsz := bel.size
    have hls : ls.length ≤ 1073741824 := by have := pre.1; omega
    have i2 : (k : Int) ≤ (n : Int) := by omega
    have i3 : (k : Int) ≤ (c : Int) := by omega
    have i4 : (n : Int) ≤ (c : Int) := by omega
    clear pre own bel
    have HS : Hid (E ≠ 0 → ∀ w', Below wr.heap.size wr w' → ∀ v, LOwn wr w.heap.size v ls → ChScans w b (.returned (.tuple #[v, .int .i64 (k : Nat)])) w') := Lib.hid (fun h0 w' hb v hv => ChScans.of (PRE.out.stop (by rw [HN.out]; exact hk) (by rw [hE.out]; exact h0)) (hv.below hb (Nat.le_refl _)) (BEL.out.trans (hb.mono hsz)))
    have HG2 : Hid (∀ A' cc, (k < n → ∃ b0 o0, A = some ⟨b0, o0, none⟩ ∧ A' = some ⟨b0, o0 + k, none⟩) → n - k ≤ cc → Calls Try.prog 13 #[.slice A' (n - k) cc] wr fun e w' => ∃ A1 c1, e = .returned (.tuple #[.slice A1 G.length c1, .int .i64 (M : Nat), .int .i64 E]) ∧ KOwn .u8 5 w' wr.heap.size (.slice A1 G.length c1) G ∧ Below wr.heap.size wr w') := Lib.hid (fun A' cc hA hcc => (HG.out A' cc hA hcc).mono fun e w' ⟨v, he, hk, hb⟩ => by
      rw [hG.out] at hk
      rw [hM.out, hE.out] at he
      obtain ⟨A1, c1, rfl, _⟩ := hk.form
      exact ⟨A1, c1, he, hk, hb⟩)
    clear HG
    by_cases hlt : k < n
    · obtain ⟨b0, o0, rfl⟩ := HA.out hlt
      have hkc : ¬ c = k := by omega
      by_cases h0 : E = 0
      · have h06 : 6 ≤ M := by rw [← hM.out]; exact (ckGot_len (by rw [hE.out]; exact h0)).1
        have PRE2 : Hid (ScPre b (ls ++ [G]) (k + M)) := Lib.hid (by have := PRE.out.step (by rw [hE.out]; exact h0); rw [hG.out, hM.out] at this; exact this)
        subst h0
        go_wp2_with (first
          | (go_at_call 13; refine (HG2.out _ _ (fun _ => ⟨_, _, rfl, rfl⟩) (by omega)).mono ?_; rintro e w1 ⟨A1, c1, rfl, k1, b1⟩; have K1 := Lib.hid k1; have B1 := Lib.hid b1; have OWN1 := Lib.hid (OWN.out.below b1 (Nat.le_refl _)); have hs1 := b1.size; clear k1 b1)
          | (at_builtin; refine wpList_append_l8 _ rfl _ _ 29 rfl w.heap.size Try.underlying29 info_l8 _ ls rfl (OWN1.out.alloc _) ⟨w1.heap.size, 0, none⟩ 1 G A1 G.length c1 rfl ((K1.out.mono hsz).below (bel_alloc w1 _) (Nat.le_refl _)) (box_l8 _ _ _) hls (by simp; omega) ?_; intro v2 w2 own4 g4))
        have bel4 := Below.lown ((BEL.out.trans (B1.out.mono hsz)).alloc (by omega) _) (by simp; omega) (OWN1.out.alloc _) (Nat.le_refl _) g4
        go_roundw
        case rel => exact ⟨k + M, ls ++ [G], by omega, by go_num, PRE2.out, own4, bel4⟩
        case measure => simp [intOf]; omega
      · have e1 : (E == 0) = false := by simpa using h0
        have e2 : (E != 0) = true := by simpa using h0
        have HS2 := Lib.hid (HS.out h0)
        clear h0
        go_wp2_with (go_at_call 13; refine (HG2.out _ _ (fun _ => ⟨_, _, rfl, rfl⟩) (by omega)).mono ?_; rintro e w1 ⟨A1, c1, rfl, k1, b1⟩; have B1 := Lib.hid b1; clear k1 b1)
        (try rw [Exit.noGoto_ret])
        go_ret2
        exact HS2.out _ B1.out _ OWN.out
    · obtain rfl : k = n := by omega
      have h0 : E ≠ 0 := by
        rw [← hE.out, List.drop_of_length_le (by rw [HN.out]; exact Nat.le_refl _)]
        decide
      have e1 : (E == 0) = false := by simpa using h0
      have e2 : (E != 0) = true := by simpa using h0
      have HS2 := Lib.hid (HS.out h0)
      have e3 : k - k = 0 := by omega
      rw [e3] at HG2
      clear h0 HS
      rcases A with _ | ⟨ab, ao, asp⟩
      all_goals
        by_cases hkc : c = k
        all_goals
          (go_wp2_with (go_at_call 13; refine (HG2.out _ _ (fun h => absurd h (by omega)) (by omega)).mono ?_; rintro e w1 ⟨A1, c1, rfl, k1, b1⟩; have B1 := Lib.hid b1; clear k1 b1)
           (try rw [Exit.noGoto_ret])
           go_ret2
           exact HS2.out _ B1.out _ OWN.out)
end Go.Proofs.Ytooelfmfcihlkaa
namespace Go.Proofs.Ytooelfmfcihlkaa
open Go.RowKit
set_option linter.unusedVariables false
set_option maxRecDepth 100000

theorem ckSc_mem (f : Nat) (b : List Int) (hb : ∀ x ∈ b, (Lit.int .u8 x).wf = true) : ∀ p ∈ (ckSc f b).1, p.length ≤ 1024 ∧ ∀ x ∈ p, (Lit.int .u8 x).wf = true := by
  induction f generalizing b with
  | zero => intro p hp; cases hp
  | succ f ih =>
    unfold ckSc
    split
    · rename_i h
      intro p hp
      rcases List.mem_cons.1 hp with rfl | hp
      · exact ⟨by rw [ckP_len h]; exact (ckE_zero.1 h).2.1, fun x hx => hb x (List.mem_of_mem_drop (List.mem_of_mem_take hx))⟩
      · exact ih _ (fun x hx => hb x (List.mem_of_mem_drop hx)) p hp
    · intro p hp; cases hp
theorem ckScan_mem {b : List Int} (hb : ∀ x ∈ b, (Lit.int .u8 x).wf = true) : ∀ p ∈ (ckScan b).1, p.length ≤ 1024 ∧ ∀ x ∈ p, (Lit.int .u8 x).wf = true := ckSc_mem _ _ hb
theorem ckScan_all {b : List Int} (hb : ∀ x ∈ b, (Lit.int .u8 x).wf = true) : ckAll (ckScan b).1 = b.take (ckScan b).2 := ckSc_all _ _ hb
theorem ckScan_end (b : List Int) : ckE (b.drop (ckScan b).2) ≠ 0 := ckSc_end _ _ (by omega)
theorem ckScan_le (b : List Int) : (ckScan b).2 ≤ b.length := ckSc_len _ _
theorem ckAll_step (ls : List (List Int)) (k : Nat) (h : k < ls.length) : ckAll (ls.take (k + 1)) = ckAll (ls.take k) ++ ckL (nthB ls k) := by
  rw [takeB_step ls k h, ckAll_app]
  congr 1
  simp [ckAll]
theorem ckAll_take_le (ls : List (List Int)) (k : Nat) : (ckAll (ls.take k)).length ≤ (ckAll ls).length := by
  conv => rhs; rw [← List.take_append_drop k ls, ckAll_app, List.length_append]
  omega
theorem ckAll_wf {ls : List (List Int)} (h : ∀ p ∈ ls, p.length ≤ 1024 ∧ ∀ x ∈ p, (Lit.int .u8 x).wf = true) : ∀ x ∈ ckAll ls, (Lit.int .u8 x).wf = true := by
  intro x hx
  obtain ⟨p, hp, hx⟩ := List.mem_flatMap.1 hx
  exact ckL_wf (by have := (h p hp).1; omega) (h p hp).2 x hx
/-- So many chunks take so many bytes at the least. -/
theorem ckScan_few (b : List Int) : 6 * (ckScan b).1.length ≤ (ckScan b).2 := by
  unfold ckScan
  generalize b.length + 1 = f
  induction f generalizing b with
  | zero => simp [ckSc]
  | succ f ih =>
    unfold ckSc
    split
    · have := ih (b.drop (6 + ckN b))
      simp only [List.length_cons]
      omega
    · simp
theorem ckAll_len_le (ls : List (List Int)) (h : ∀ p ∈ ls, p.length ≤ 1024) : (ckAll ls).length ≤ 1030 * ls.length := by
  induction ls with
  | nil => simp [ckAll]
  | cons p ls ih =>
    have h1 := ih (fun q hq => h q (by simp [hq]))
    have h2 := h p (by simp)
    have e : ckAll (p :: ls) = ckL p ++ ckAll ls := by unfold ckAll; rw [List.flatMap_cons]
    rw [e, List.length_append, ckL_len, List.length_cons]
    omega
theorem ckAll_len_ge (ls : List (List Int)) : 6 * ls.length ≤ (ckAll ls).length := by
  induction ls with
  | nil => simp [ckAll]
  | cons p ls ih =>
    have e : ckAll (p :: ls) = ckL p ++ ckAll ls := by unfold ckAll; rw [List.flatMap_cons]
    rw [e, List.length_append, ckL_len, List.length_cons]
    omega
/-- What is scanned of chunks that were cut off. -/
theorem ckScan_cut (ls : List (List Int)) (hl : ∀ p ∈ ls, p.length ≤ 1024) (j cut : Nat) (hj : j ≤ ls.length) (hc : cut ≤ (ckAll ls).length) (h1 : (ckAll (ls.take j)).length ≤ cut) (h2 : j < ls.length → cut < (ckAll (ls.take (j + 1))).length) : ckScan ((ckAll ls).take cut) = (ls.take j, (ckAll (ls.take j)).length) := by
  unfold ckScan
  refine ckSc_cut ls hl j cut hj h1 h2 _ ?_
  have := ckAll_len_ge (ls.take j)
  rw [List.length_take] at this
  rw [List.length_take]
  omega
theorem ckScan_whole (ls : List (List Int)) (hl : ∀ p ∈ ls, p.length ≤ 1024) : ckScan (ckAll ls) = (ls, (ckAll ls).length) := by
  have h := ckScan_cut ls hl ls.length (ckAll ls).length (Nat.le_refl _) (Nat.le_refl _) (by rw [List.take_length]; exact Nat.le_refl _) (fun h => absurd h (by omega))
  rw [List.take_length, List.take_length] at h
  exact h
/-- Where the chunks end. -/
def endsL (ls : List (List Int)) (k : Nat) : List Int := (List.range k).map fun j => ((ckAll (ls.take (j + 1))).length : Int)
theorem endsL_len (ls : List (List Int)) (k : Nat) : (endsL ls k).length = k := by simp [endsL]
theorem endsL_step (ls : List (List Int)) (k : Nat) : endsL ls (k + 1) = endsL ls k ++ [((ckAll (ls.take (k + 1))).length : Int)] := by simp [endsL, List.range_succ]
theorem endsL_at (ls : List (List Int)) (k j : Nat) (h : j < k) : nth (endsL ls k) j = ((ckAll (ls.take (j + 1))).length : Int) := by
  rw [nth_eq _ _ (by rw [endsL_len]; exact h)]; simp [endsL]
theorem wf_len (n : Nat) (h : n ≤ 1000000000) : (Lit.int .i64 (n : Int)).wf = true := by
  simp [Lit.wf, IntKind.min, IntKind.max, IntKind.signed, IntKind.bits]; omega
theorem endsL_wf (ls : List (List Int)) (k : Nat) (h : (ckAll ls).length ≤ 1000000000) : ∀ x ∈ endsL ls k, (Lit.int .i64 x).wf = true := by
  intro x hx
  obtain ⟨j, _, rfl⟩ := List.mem_map.1 hx
  exact wf_len _ (Nat.le_trans (ckAll_take_le ls (j + 1)) h)
/-- Two lists of the call's own of different types lie in different blocks. -/
theorem own_far {k k' : IntKind} {e e' : TypeId} {w : World} {b b' : Nat} {v u : Value} {xs ys : List Int} (h : Own k e w b v xs) (h' : Own k' e' w b' u ys) (hne : e' ≠ e) : u.ownBlock = none ∨ u.ownBlock ≠ v.ownBlock := by
  rcases h'.2 with ⟨rfl, _⟩ | ⟨g, cap, cur0, rfl, _, hg, _⟩
  · exact .inl rfl
  · refine .inr fun ee => ?_
    rcases h.2 with ⟨rfl, _⟩ | ⟨g', cap', cur, rfl, _, hg', _⟩
    · cases ee
    · have ee : some g = some g' := ee
      injection ee with ee
      subst ee
      rw [hg] at hg'
      injection hg' with hg'
      injection hg' with _ ht
      exact absurd ht hne
end Go.Proofs.Ytooelfmfcihlkaa
namespace Go.Proofs.Ytooelfmfcihlkaa
open Go.RowKit
set_option linter.unusedVariables false
set_option maxRecDepth 100000

theorem take_min (p : List Int) (m : Nat) : p.take m = p.take (min p.length m) := by
  rcases Nat.le_total p.length m with h | h
  · rw [Nat.min_eq_left h, List.take_of_length_le h, List.take_of_length_le (Nat.le_refl _)]
  · rw [Nat.min_eq_right h]
/-- Lists, at most sixty, of each at most 1024 bytes. -/
def cut60 (ls : List (List Int)) : List (List Int) := (ls.take 60).map (List.take 1024)
theorem cut60_len (ls : List (List Int)) : (cut60 ls).length ≤ 60 := by simp [cut60]; omega
theorem cut60_mem {ls : List (List Int)} {p : List Int} (h : p ∈ cut60 ls) : p.length ≤ 1024 := by
  obtain ⟨q, _, rfl⟩ := List.mem_map.1 h
  rw [List.length_take]; omega
theorem brow_of_lm {w : World} {A : Option Addr} {l : List Lm} (h : VRow w w.heap.size A (flatV lmC l)) (ok : ∀ m ∈ l, Lm.Ok w w.heap.size m) : BRow w w.heap.size A (l.map Lm.bs) := by
  intro h0
  rw [List.length_map] at h0
  obtain ⟨b, o, hA, hb, _⟩ := h.elem lmC_len (by omega) h0
  refine ⟨b, o, hA, hb, fun i hi => ?_⟩
  rw [List.length_map] at hi
  obtain ⟨b', o', hA', _, hc⟩ := h.elem lmC_len (by omega) hi
  rw [hA] at hA'
  injection hA' with hA'
  injection hA' with e1 e2
  subst e1 e2
  have hm := ok _ (List.getElem_mem hi)
  have he : nthB (l.map Lm.bs) i = (l[i]).bs := by rw [nthB_eq _ _ (by simpa using hi)]; simp
  rw [he]
  refine ⟨(l[i]).A, (l[i]).c, ?_, hm.row, by rw [hm.len]; exact hm.le, by have := hm.cap; unfold maxLen; omega⟩
  have := hc 0 _ rfl
  rw [hm.len]
  simpa using this
/-- What has been laid of them: slices of what came in, in an array of the call's own. -/
def RwOwn (w0 w : World) (v : Value) (ls : List (List Int)) : Prop :=
  ∃ L : List Value, w.ownsRow w0.heap.size 22 1 v ls.length L ∧ ∀ i, i < ls.length → ∃ A c, L[i]? = some (.slice A (nthB ls i).length c) ∧ Row .u8 w0 w0.heap.size A (nthB ls i) ∧ (nthB ls i).length ≤ c ∧ c ≤ maxLen
theorem RwOwn.nil (w0 w : World) : RwOwn w0 w (.slice none 0 0) [] := ⟨[], World.ownsRow_nil _ _ _ _, fun i hi => absurd hi (by simp)⟩
theorem RwOwn.brow {w0 w : World} {v : Value} {ls : List (List Int)} (h : RwOwn w0 w v ls) (hb : Below w0.heap.size w0 w) : ∃ A c, v = .slice A ls.length c ∧ ls.length ≤ c ∧ BRow w w.heap.size A ls := by
  obtain ⟨L, h1, h2⟩ := h
  obtain ⟨A, c, e, hr, hc, _⟩ := VRow.of_own h1
  refine ⟨A, c, e, hc, fun h0 => ?_⟩
  obtain ⟨A0, c0, hL0, _⟩ := h2 0 h0
  have hLp : 0 < L.length := (List.getElem?_eq_some_iff.1 hL0).1
  obtain ⟨b, o, hA, hlt, hcell⟩ := hr hLp
  refine ⟨b, o, hA, hlt, fun i hi => ?_⟩
  obtain ⟨Ai, ci, hLi, hri, hle, hmx⟩ := h2 i hi
  exact ⟨Ai, ci, hcell i _ hLi, (hri.below hb).more hb.size, hle, hmx⟩
theorem RwOwn.app {w0 w W : World} {v : Value} {ls : List (List Int)} (h : RwOwn w0 w v ls) (hb : Below w0.heap.size w0 w) (hW : Below w.heap.size w W) (hlen : ls.length ≤ 100) (g : Nat) (A : Option Addr) (m c : Nat) (p : List Int) (hg : W.heap[g]? = some (.cells #[.slice A m c] 22 (0, 0))) (hp : Row .u8 w0 w0.heap.size A p) (hm : p.length = m) (hc : m ≤ c) (hcm : c ≤ maxLen) :
    ∃ v' w', (∀ ty, (Builtin.append_ #[29, 29] ty #[v, .slice (some ⟨g, 0, none⟩) 1 1]).run Try.prog W = .ok v' w') ∧ RwOwn w0 w' v' (ls ++ [p]) ∧ Below w0.heap.size w0 w' := by
  obtain ⟨i, hi1, hz, hsz, hby⟩ := info_parts info_l8
  obtain ⟨L, h1, h2⟩ := h
  have h1W : W.ownsRow w0.heap.size 22 1 v ls.length L := rowL_below h1 hW (Nat.le_refl _)
  have hnews : ∀ j u, [Value.slice A m c][j]? = some u → W.cell? ((⟨g, 0, none⟩ : Addr).add j) = some u := by
    intro j u hu
    rw [Go.WideShapes.add_plain, Nat.zero_add, cell_of_row W g j _ _ _ hg]
    simpa using hu
  have hbW : Below w0.heap.size w0 W := hb.trans (hW.mono hb.size)
  obtain ⟨v', w', hrun, r1, r2, _⟩ := run_append_own (P := Try.prog) W w0.heap.size 29 0 22 i _ 1 24 Try.underlying29 hi1 hz hsz hby rfl (by omega) v ls.length L h1W ⟨g, 0, none⟩ 1 1 [.slice A m c] rfl hnews (by simp [Value.oneCell']) (by unfold maxLen; omega) (by omega) hbW.size
  have hLl : L.length = ls.length := by have := h1.1; omega
  refine ⟨v', w', fun ty => hrun, ⟨L ++ [.slice A m c], by rw [List.length_append]; exact r1, fun j hj => ?_⟩, hbW.grown r2 hbW.size fun q e => (World.ownsRow.lt h1W q e).1⟩
  rw [List.length_append] at hj
  by_cases hlt : j < ls.length
  · obtain ⟨Aj, cj, hLj, hr⟩ := h2 j hlt
    have he : nthB (ls ++ [p]) j = nthB ls j := by rw [nthB_eq _ _ (by rw [List.length_append]; omega), nthB_eq _ _ hlt, List.getElem_append_left hlt]
    rw [he]
    exact ⟨Aj, cj, by rw [List.getElem?_append_left (by omega)]; exact hLj, hr⟩
  · obtain rfl : j = ls.length := by simp at hj; omega
    have he : nthB (ls ++ [p]) ls.length = p := by rw [nthB_eq _ _ (by simp)]; simp
    rw [he, hm]
    exact ⟨A, c, by rw [← hLl]; simp, hp, hc, hcm⟩
theorem cut60_step (ls : List (List Int)) (k : Nat) (h : k < ls.length) (h6 : k < 60) : (cut60 ls).take (k + 1) = (cut60 ls).take k ++ [(nthB ls k).take 1024] := by
  have hl : k < (cut60 ls).length := by simp [cut60]; omega
  rw [takeB_step _ k hl, nthB_eq _ _ hl, nthB_eq _ _ h]
  simp [cut60]
/-- A call returns lists, in an array of its own. -/
def RwMakes (w : World) (ls : List (List Int)) (e : Ending) (w' : World) : Prop := ∃ v, e = .returned v ∧ RwOwn w w' v ls ∧ Below w.heap.size w w'

set_option maxHeartbeats 2000000 in
theorem rows13_any (A : Option Addr) (n c : Nat) (ls : List (List Int)) (w : World) (hr : BRow w w.heap.size A ls) (hn : ls.length = n) (hm : n ≤ 70368744177664) :
    Calls Try.prog 23 #[.slice A n c] w (RwMakes w (cut60 ls)) := by
  have HR := Lib.hid hr
  have HN := Lib.hid hn
  obtain ⟨ws, hws⟩ : ∃ ws, Hid (cut60 ls = ws) := ⟨_, Lib.hid rfl⟩
  have HST : Hid (∀ k, k < n → k < 60 → ws.take (k + 1) = ws.take k ++ [(nthB ls k).take 1024]) := Lib.hid (fun k h1 h2 => by rw [← hws.out]; exact cut60_step ls k (by rw [HN.out]; exact h1) h2)
  have HWL : Hid (ws.length = min n 60) := Lib.hid (by rw [← hws.out]; simp [cut60, HN.out]; omega)
  rw [hws.out]
  clear hr hn hws
  go_enter Try.func23, Try.ntmps23
  go_wp2
  go_loopw [3, 4] (fun v i wr => ∃ k : Nat, k ≤ n ∧ k ≤ 60 ∧ i = .int .i64 k ∧ RwOwn w wr v (ws.take k) ∧ Below w.heap.size w wr) (fun _ i _ => n - (intOf i).toNat)
  case atStart => exact ⟨0, by omega, by omega, rfl, RwOwn.nil _ _, Below.refl _ _⟩
  case round =>
    obtain ⟨k, hk, h60, rfl, own, bel⟩ := hrel
    by_cases hlt : k < n
    · by_cases h6 : k < 60
      · obtain ⟨b, o, Ai, ci, rfl, hb1, hc1, r1, hle, hmx⟩ := HR.out.at_ (i := k) (by rw [HN.out]; exact hlt)
        have hc2 := (bel.cell (p := ⟨b, o + k, none⟩) hb1).trans hc1
        have hst := HST.out k hlt h6
        obtain ⟨p, hp⟩ : ∃ p, Hid (nthB ls k = p) := ⟨_, Lib.hid rfl⟩
        rw [hp.out] at hc2 r1 hle hst
        obtain ⟨z, hz⟩ : ∃ z, Hid (p.length = z) := ⟨_, Lib.hid rfl⟩
        rw [hz.out] at hc2 hle
        obtain ⟨q, hmin, hq⟩ : ∃ q : Nat, (∀ (ts : Array TypeId) (t : TypeId) (W : World), (Builtin.min_ ts t #[.int .i64 (z : Int), .int .i64 1024]).run Try.prog W = .ok (.int .i64 (q : Int)) W) ∧ q = min z 1024 := by
          refine ⟨min z 1024, fun ts t W => ?_, rfl⟩
          rw [run_min_int2]
          congr 2
          split <;> omega
        have hq1 : q ≤ z := by omega
        have hq2 : q ≤ ci := by omega
        have i1 : (q : Int) ≤ (ci : Int) := by omega
        have i2 : (k : Int) < (n : Int) := by omega
        have i3 : (k : Int) < 60 := by omega
        have HTK : Hid (p.take 1024 = p.take q) := Lib.hid (by rw [hq, ← hz.out]; exact take_min p 1024)
        have HAP : Hid (∀ W : World, Below wr.heap.size wr W → W.heap[wr.heap.size]? = some (.cells #[.slice Ai q ci] 22 (0, 0)) → ∀ v, RwOwn w wr v (ws.take k) → ∃ v' w', (∀ ty, (Builtin.append_ #[29, 29] ty #[v, .slice (some ⟨wr.heap.size, 0, none⟩) 1 1]).run Try.prog W = .ok v' w') ∧ RwOwn w w' v' (ws.take (k + 1)) ∧ Below w.heap.size w w') := Lib.hid (fun W hW hg v hv => by
          rw [hst, HTK.out]
          exact hv.app bel hW (by rw [List.length_take, HWL.out]; omega) _ Ai q ci (p.take q) hg (r1.front q) (by rw [List.length_take, hz.out]; omega) hq2 hmx)
        have OWN := Lib.hid own
        clear own hst r1 hc1 hq HWL
        go_wp2_with fail
        go_region_law (first
          | (obtain ⟨v', w', hrun, hrw, hbw⟩ := HAP.out (wr.alloc (.cells #[.slice Ai q ci] 22)) ((Below.refl wr.heap.size wr).alloc (Nat.le_refl _) _) (heap_alloc_new wr _) u3 OWN.out; refine step_append_run (wr.alloc (.cells #[.slice Ai q ci] 22)) rfl (.tmp 15) (.tmp 27) 29 rfl u3 (.slice (some ⟨wr.heap.size, 0, none⟩) 1 1) v' w' rfl rfl hrun ?_; have HRW := Lib.hid hrw; have HBW := Lib.hid hbw; clear hrw hbw)
          | (obtain ⟨v', w', hrun, hrw, hbw⟩ := HAP.out (wr.drew.alloc (.cells #[.slice Ai q ci] 22)) ((below_drew (Below.refl wr.heap.size wr)).alloc (Nat.le_refl _) _) (heap_alloc_new wr.drew _) u3 OWN.out; refine step_append_run (wr.drew.alloc (.cells #[.slice Ai q ci] 22)) rfl (.tmp 15) (.tmp 27) 29 rfl u3 (.slice (some ⟨wr.heap.size, 0, none⟩) 1 1) v' w' rfl rfl hrun ?_; have HRW := Lib.hid hrw; have HBW := Lib.hid hbw; clear hrw hbw)
          | (obtain ⟨v', w', hrun, hrw, hbw⟩ := HAP.out (wr.drew.drew.alloc (.cells #[.slice Ai q ci] 22)) ((below_drew (below_drew (Below.refl wr.heap.size wr))).alloc (Nat.le_refl _) _) (heap_alloc_new wr.drew.drew _) u3 OWN.out; refine step_append_run (wr.drew.drew.alloc (.cells #[.slice Ai q ci] 22)) rfl (.tmp 15) (.tmp 27) 29 rfl u3 (.slice (some ⟨wr.heap.size, 0, none⟩) 1 1) v' w' rfl rfl hrun ?_; have HRW := Lib.hid hrw; have HBW := Lib.hid hbw; clear hrw hbw)
          | fail)
        all_goals
          go_wp2
          go_roundw
          case rel => exact ⟨k + 1, by omega, by omega, by go_num, HRW.out, HBW.out⟩
          case measure => simp [intOf]; omega
      · have hk60 : k = 60 := by omega
        have i2 : (k : Int) < (n : Int) := by omega
        have i3 : ¬ (k : Int) < 60 := by omega
        have hx : ws.take k = ws := List.take_of_length_le (by rw [HWL.out]; omega)
        rw [hx] at own
        clear hx
        go_wp2
        go_ret
        exact ⟨_, rfl, own, bel⟩
    · have i2 : ¬ (k : Int) < (n : Int) := by omega
      have hx : ws.take k = ws := List.take_of_length_le (by rw [HWL.out]; omega)
      rw [hx] at own
      clear hx
      go_wp2
      go_ret
      exact ⟨_, rfl, own, bel⟩
end Go.Proofs.Ytooelfmfcihlkaa
namespace Go.Proofs.Ytooelfmfcihlkaa
open Go.RowKit
set_option linter.unusedVariables false

set_option maxHeartbeats 1000000 in
theorem SameRows_yes (A A' : Option Addr) (n c c' : Nat) (ls : List (List Int)) (w : World) (B B' : Nat) (hr : BRow w B A ls) (hr' : BRow w B' A' ls) (hn : ls.length = n) (hb : n ≤ 1073741824) (hl : ∀ i, i < n → (nthB ls i).length ≤ 70368744177664) :
    Calls Try.prog 18 #[.slice A n c, .slice A' n c'] w fun e w' => e = .returned (.bool true) ∧ ∃ m, w' = w.drewN m := by
  have HR := Lib.hid hr
  have HR' := Lib.hid hr'
  have HN := Lib.hid hn
  have HL := Lib.hid hl
  have t0 : ((n : Int) != (n : Int)) = false := by simp
  clear hr hr' hn hl
  go_enter Try.func18, Try.ntmps18
  go_wp2
  go_loopw [5] (fun i wr => ∃ k m : Nat, k ≤ n ∧ i = .int .i64 k ∧ wr = w.drewN m) (fun i _ => n - (intOf i).toNat)
  case atStart => exact ⟨0, 0, by omega, rfl, rfl⟩
  case round =>
    obtain ⟨k, m, hk, rfl, hw0⟩ := hrel
    have HW := Lib.hid hw0
    have HRw := Lib.hid (show BRow wr B A ls by rw [hw0]; exact HR.out.drewN m)
    have HRw' := Lib.hid (show BRow wr B' A' ls by rw [hw0]; exact HR'.out.drewN m)
    clear hw0
    by_cases hlt : k < n
    · obtain ⟨b, o, Ai, ci, rfl, hb1, hc1, r1, _⟩ := HRw.out.at_ (i := k) (by have := HN.out; omega)
      obtain ⟨b', o', Ai', ci', rfl, hb1', hc1', r1', _⟩ := HRw'.out.at_ (i := k) (by have := HN.out; omega)
      have hlen := HL.out k hlt
      obtain ⟨xs, hxs⟩ : ∃ xs, nthB ls k = xs := ⟨_, rfl⟩
      rw [hxs] at hc1 hc1' r1 r1' hlen
      obtain ⟨z, hz⟩ : ∃ z, Hid (xs.length = z) := ⟨_, Lib.hid rfl⟩
      rw [hz.out] at hc1 hc1' hlen
      clear hxs
      have HS : Hid (∀ p, Calls Try.prog 17 #[.slice Ai z ci, .slice Ai' z ci'] (wr.drewN p) fun e w' => e = .returned (.bool true) ∧ ∃ n, w' = (wr.drewN p).drewN n) := Lib.hid (fun p => same_yes_u8 _ _ _ _ _ xs _ _ _ (r1.drewN p) (r1'.drewN p) hz.out (by omega))
      go_wp2_with fail
      go_quiet ((go_at_call 17; refine Calls.quiet_of (HS.out _)))
      go_wp2
      go_roundw
      case rel => exact ⟨k + 1, m + nq, by omega, by go_num, by rw [HW.out, World.drewN_drewN]⟩
      case measure => simp [intOf]; omega
    · obtain rfl : k = n := by omega
      go_wp2
      go_ret
      exact ⟨rfl, m, HW.out⟩
end Go.Proofs.Ytooelfmfcihlkaa
namespace Go.Proofs.Ytooelfmfcihlkaa
open Go.RowKit
set_option linter.unusedVariables false

def pick (k : Int) (n : Nat) : Nat := (if k.tmod n < 0 then k.tmod n + n else k.tmod n).toNat
theorem pick_lt (k : Int) (n : Nat) (h : 1 ≤ n) : pick k n < n := by
  have h1 := Int.tmod_lt_of_pos k (show (0 : Int) < n by omega)
  have h2 : -(n : Int) < k.tmod n := by
    have := Int.lt_tmod_of_pos k (show (0 : Int) < n by omega)
    omega
  unfold pick
  split <;> omega
theorem pick_eq (k : Int) (n : Nat) (h : 1 ≤ n) : ((pick k n : Nat) : Int) = if k.tmod n < 0 then k.tmod n + n else k.tmod n := by
  have h2 : -(n : Int) < k.tmod n := by
    have := Int.lt_tmod_of_pos k (show (0 : Int) < n by omega)
    omega
  unfold pick
  split <;> omega
theorem Pick_any (k : Int) (n : Nat) (w : World) (h1 : 1 ≤ n) (hn : n ≤ 140737488355328) :
    Calls Try.prog 24 #[.int .i64 k, .int .i64 n] w fun e w' => e = .returned (.int .i64 (pick k n : Nat)) ∧ w = w' := by
  have hp := pick_eq k n h1
  have hlt := Int.tmod_lt_of_pos k (show (0 : Int) < n by omega)
  have hgt : -(n : Int) < k.tmod n := by
    have := Int.lt_tmod_of_pos k (show (0 : Int) < n by omega)
    omega
  obtain ⟨p, hpp⟩ : ∃ p : Int, Hid (((pick k n : Nat) : Int) = p) := ⟨_, Lib.hid rfl⟩
  rw [hpp.out] at hp ⊢
  have HP := Lib.hid hp
  have t1 : ¬ ((n : Int) < 1) := by omega
  clear hp hpp
  by_cases hneg : k.tmod n < 0
  · have hq : Hid (p = k.tmod n + n) := Lib.hid (by rw [HP.out, if_pos hneg])
    go_enter Try.func24, Try.ntmps24
    go_wp2
    go_ret
    exact ⟨by rw [hq.out]; rfl, rfl⟩
  · have hq : Hid (p = k.tmod n) := Lib.hid (by rw [HP.out, if_neg hneg])
    go_enter Try.func24, Try.ntmps24
    go_wp2
    go_ret
    exact ⟨by rw [hq.out]; rfl, rfl⟩
end Go.Proofs.Ytooelfmfcihlkaa
namespace Go.Proofs.Ytooelfmfcihlkaa
open Go.RowKit
set_option linter.unusedVariables false
set_option maxRecDepth 100000

theorem info_int13 : (Try.prog.info? 3).map (fun i => (i.zero, i.size, i.bytes)) = some (some (.int .i64 0), 1, 8) := by kernel_rfl
theorem both_int {w0 w5 w6 : World} {B : Nat} {v u : Value} {xs ys : List Int} {o : Obj} (O5 : Own .u8 5 w5 B v xs) (I5 : Own .i64 3 w5 B u ys) (B5 : Below B w0 w5) (hs : B ≤ w5.heap.size) (g6 : (w5.alloc o).grownBy w6 u.ownBlock) : Own .u8 5 w6 B v xs ∧ Below B w0 w6 :=
  ⟨(O5.alloc o).kept g6 (own_far (I5.alloc o) (O5.alloc o) (by decide)), Below.own1 B5 hs I5 g6⟩
set_option maxHeartbeats 8000000 in
theorem walk_ChunkCut (A : Option Addr) (n c : Nat) (X : List Lm) (cut : Int) (w : World) (hr : VRow w w.heap.size A (flatV lmC X)) (hn : X.length = n) (hok : ∀ m ∈ X, Lm.Ok w w.heap.size m) (hc : n ≤ c) (hm : c * 24 ≤ 140737488351232) (hcut : (Lit.int .i64 cut).wf = true) :
    Calls Try.prog 6 #[.slice A n c, .int .i64 cut] w fun e w' => e = .returned (.bool true) ∧ Below w.heap.size w w' := by
  have hB := brow_of_lm hr hok
  have HBw := Lib.hid hB.wf
  obtain ⟨ls0, hls0⟩ : ∃ ls0, Hid (X.map Lm.bs = ls0) := ⟨_, Lib.hid rfl⟩
  have hn0 : Hid (ls0.length = n) := Lib.hid (by rw [← hls0.out, List.length_map, hn])
  rw [hls0.out] at hB HBw
  have HB := Lib.hid hB
  obtain ⟨ws, hws⟩ : ∃ ws, Hid (cut60 ls0 = ws) := ⟨_, Lib.hid rfl⟩
  obtain ⟨m, hmm⟩ : ∃ m, Hid (ws.length = m) := ⟨_, Lib.hid rfl⟩
  have hm60 : m ≤ 60 := by rw [← hmm.out, ← hws.out]; exact cut60_len ls0
  have HM : Hid (∀ p ∈ ws, p.length ≤ 1024 ∧ ∀ x ∈ p, (Lit.int .u8 x).wf = true) := Lib.hid (fun p hp => by
    rw [← hws.out] at hp
    refine ⟨cut60_mem hp, ?_⟩
    obtain ⟨q, hq, rfl⟩ := List.mem_map.1 hp
    exact fun x hx => HBw.out q (List.mem_of_mem_take hq) x (List.mem_of_mem_take hx))
  have HML : Hid (∀ p ∈ ws, p.length ≤ 1024) := Lib.hid (fun p hp => (HM.out p hp).1)
  obtain ⟨T, hT⟩ : ∃ T, Hid ((ckAll ws).length = T) := ⟨_, Lib.hid rfl⟩
  have hT1 : T ≤ 61800 := by rw [← hT.out]; have := ckAll_len_le ws HML.out; rw [hmm.out] at this; omega
  have HTW : Hid (∀ x ∈ ckAll ws, (Lit.int .u8 x).wf = true) := Lib.hid (ckAll_wf HM.out)
  have HEW : Hid (∀ k, ∀ x ∈ endsL ws k, (Lit.int .i64 x).wf = true) := Lib.hid (fun k => endsL_wf ws k (by rw [hT.out]; omega))
  have HSW := Lib.hid (ckScan_whole ws HML.out)
  clear hr hn hok hB hls0
  go_enter Try.func6, Try.ntmps6
  go_wp2_with fail
  refine (rows13_any A n c ls0 w HB.out hn0.out (by omega)).mono ?_
  rintro e w2 ⟨v2, rfl, o2, b2⟩
  rw [hws.out] at o2
  obtain ⟨A2, c2, rfl, hc2, br2⟩ := o2.brow b2
  rw [hmm.out] at hc2 ⊢
  have BR := Lib.hid br2
  have H3 : Hid (Own .u8 5 (w2.alloc (.cells #[] 5)) w2.heap.size (.slice (some ⟨w2.heap.size, 0, none⟩) 0 0) []) := Lib.hid (Own.made .u8 5 w2 [] (Nat.zero_le _))
  clear o2 br2 HB
  go_wp2_with fail
  go_loopw [5, 6, 7, 8, 9] (fun v u i _ _ wr => ∃ k : Nat, k ≤ m ∧ i = .int .i64 k ∧ Own .u8 5 wr w2.heap.size v (ckAll (ws.take k)) ∧ Own .i64 3 wr w2.heap.size u (endsL ws k) ∧ Below w2.heap.size w2 wr) (fun _ _ i _ _ _ => m - (intOf i).toNat)
  case atStart => exact ⟨0, by omega, rfl, H3.out, Own.nil _ _ _ _, bel_alloc w2 _⟩
  case round =>
    obtain ⟨k, hk, rfl, own, oi, bel⟩ := hrel
    by_cases hlt : k < m
    · obtain ⟨bb, oo, Au, qu, rfl, hg, cu, ru, hqu, hqm⟩ := BR.out.at_ (i := k) (by rw [hmm.out]; exact hlt)
      have cu2 := (bel.cell (p := ⟨bb, oo + k, none⟩) hg).trans cu
      have hmem := HM.out _ (nthB_mem ws k (by rw [hmm.out]; exact hlt))
      have HST := Lib.hid (ckAll_step ws k (by rw [hmm.out]; exact hlt))
      have HES := Lib.hid (endsL_step ws k)
      have HTL2 : Hid ((ckAll (ws.take (k + 1))).length ≤ T) := Lib.hid (by rw [← hT.out]; exact ckAll_take_le ws (k + 1))
      obtain ⟨p, hp⟩ : ∃ p, Hid (nthB ws k = p) := ⟨_, Lib.hid rfl⟩
      rw [hp.out] at cu2 ru hqu hmem HST
      have RU := Lib.hid ((ru.below bel).more bel.size)
      have HPE : Hid (ckPE p = 0) := Lib.hid (ckPE_ok hmem.1)
      have HPP : Hid (ckPut p = ckL p) := Lib.hid (ckPut_ok hmem.1)
      have hp1 := hmem.1
      have HPW : Hid (∀ y ∈ ckL p, (Lit.int .u8 y).wf = true) := Lib.hid (ckL_wf (by omega) hmem.2)
      obtain ⟨z, hz⟩ : ∃ z, Hid (p.length = z) := ⟨_, Lib.hid rfl⟩
      rw [hz.out] at cu2 hp1 hqu
      have OWN := Lib.hid own
      have OI := Lib.hid oi
      have BEL := Lib.hid bel
      have hsz := bel.size
      clear cu ru hmem own oi bel
      go_wp2_with fail
      refine (chPut_any Au z qu p wr RU.out hz.out (by omega)).mono ?_
      rintro e w4 ⟨v4, rfl, k4, d4⟩
      rw [HPP.out] at k4
      rw [HPE.out]
      obtain ⟨A4, c4, rfl, r4, _⟩ := k4.row HPW.out
      have b4 := BEL.out.trans (d4.mono hsz)
      have O4 := Lib.hid (OWN.out.below d4 (Nat.le_refl _))
      have I4 := Lib.hid (OI.out.below d4 (Nat.le_refl _))
      have R4 := Lib.hid r4
      have B4 := Lib.hid b4
      have hs4 := b4.size
      have hLp : Hid ((ckL p).length = 6 + z) := Lib.hid (by rw [ckL_len, hz.out])
      have hle : Hid ((ckAll (ws.take k)).length + (6 + z) ≤ T) := Lib.hid (by have := HTL2.out; rw [HST.out, List.length_append, hLp.out] at this; exact this)
      obtain ⟨y, hy⟩ : ∃ y, Hid ((ckAll (ws.take (k + 1))).length = y) := ⟨_, Lib.hid rfl⟩
      have hyT : y ≤ T := by rw [← hy.out]; exact HTL2.out
      have HYW : Hid ((Lit.int .i64 (y : Int)).wf = true) := Lib.hid (wf_len y (by omega))
      have HCW : Hid (∀ x ∈ ckAll (ws.take (k + 1)), (Lit.int .u8 x).wf = true) := Lib.hid (ckAll_wf fun q hq => HM.out q (List.mem_of_mem_take hq))
      rw [hy.out] at HES
      rw [hLp.out]
      clear k4 r4 d4 b4
      go_wp2_with (first
        | (at_builtin; refine wpList_append_row _ rfl (.tmp 35) (.tmp 36) 22 rfl w2.heap.size .u8 5 1 Try.underlying22 info_u8 _ (ckAll (ws.take k)) rfl O4.out _ A4 (6 + z) c4 (ckL p) rfl R4.out hLp.out (by have := hle.out; omega) (by have := hle.out; unfold maxLen; omega) hs4 ?_; intro v5 w5 o5 g5; rw [← HST.out] at o5; obtain ⟨A5, c5, rfl, _⟩ := o5.row HCW.out; rw [hy.out] at o5 ⊢; have B5 := Lib.hid (Below.own B4.out hs4 O4.out g5); have I5 := Lib.hid (I4.out.kept g5 (own_far O4.out I4.out (by decide))); have O5 := Lib.hid o5; have hs5 := B5.out.size; clear o5 g5)
        | (at_builtin; go_loud (refine wpList_append_row _ rfl (.tmp 38) (.tmp 41) 38 rfl w2.heap.size .i64 3 8 Try.underlying38 info_int13 _ (endsL ws k) rfl (I5.out.alloc _) _ _ 1 1 [(y : Int)] rfl (Row.one .i64 w5 3 (y : Int) HYW.out) rfl (by rw [endsL_len]; omega) (by rw [endsL_len]; unfold maxLen; omega) (by simp; omega) ?_); intro v6 w6 o6 g6; have P6 := Lib.hid (both_int O5.out I5.out B5.out hs5 g6); have I6 : Hid (Own .i64 3 w6 w2.heap.size v6 (endsL ws (k + 1))) := Lib.hid (HES.out.symm ▸ o6); clear o6 g6))
      go_roundw
      case rel => exact ⟨k + 1, by omega, by go_num, P6.out.1, I6.out, P6.out.2⟩
      case measure => simp [intOf]; omega
    · obtain rfl : m = k := by omega
      have hx : ws.take m = ws := List.take_of_length_le (by rw [hmm.out]; exact Nat.le_refl _)
      rw [hx] at own
      obtain ⟨A6, c6, hv6, r6, hc6, _⟩ := own.row HTW.out
      obtain ⟨A7, c7, hv7, r7, hc7, _⟩ := oi.row (HEW.out m)
      rw [hT.out] at hv6 hc6
      rw [endsL_len] at hv7 hc7
      subst hv6 hv7
      have b6 := b2.trans (bel.mono b2.size)
      have BEL := Lib.hid bel
      have B6 := Lib.hid b6
      have R6 := Lib.hid r6
      have R7 := Lib.hid r7
      clear own oi bel r6 r7 hx b6
      obtain ⟨q, hq⟩ : ∃ q, Hid (pick cut (T + 1) = q) := ⟨_, Lib.hid rfl⟩
      have hqT : q ≤ T := by rw [← hq.out]; have := pick_lt cut (T + 1) (by omega); omega
      have HPK : Hid (∀ W : World, Calls Try.prog 24 #[.int .i64 cut, .int .i64 ((T : Int) + 1)] W fun e w' => e = .returned (.int .i64 (q : Nat)) ∧ W = w') := Lib.hid (fun W => by
        have h := Pick_any cut (T + 1) W (by omega) (by omega)
        rw [hq.out] at h
        exact h)
      go_wp2_with (go_at_call 24; refine (HPK.out _).mono ?_; rintro e w7 ⟨rfl, rfl⟩)
      go_loop [10, 11] (fun nn aa => ∃ j y : Nat, j ≤ m ∧ nn = .int .i64 j ∧ aa = .int .i64 y ∧ Hid ((ckAll (ws.take j)).length = y) ∧ y ≤ q) (fun nn _ => m - (intOf nn).toNat)
      case atStart => exact ⟨0, 0, by omega, rfl, rfl, Lib.hid rfl, by omega⟩
      case round =>
      obtain ⟨j, y, hj, rfl, rfl, hy, hyq⟩ := hrel
      by_cases hlt2 : j < m
      · obtain ⟨b7, o7, rfl, _, ce⟩ := R7.out.at_ (i := j) (by rw [endsL_len]; exact hlt2)
        rw [endsL_at _ _ _ hlt2] at ce
        obtain ⟨e2, he2⟩ : ∃ e2, Hid ((ckAll (ws.take (j + 1))).length = e2) := ⟨_, Lib.hid rfl⟩
        rw [he2.out] at ce
        by_cases hle2 : e2 ≤ q
        · have i5 : (e2 : Int) ≤ (q : Int) := by omega
          go_wp2
          go_round
          case rel => exact ⟨j + 1, e2, by omega, by go_num, rfl, he2, hle2⟩
          case measure => simp [intOf]; omega
        have i5 : ¬ (e2 : Int) ≤ (q : Int) := by omega
        have HSC : Hid (ckScan ((ckAll ws).take q) = (ws.take j, y)) := Lib.hid (by
          rw [← hy.out]
          exact ckScan_cut ws HML.out j q (by rw [hmm.out]; exact hj) (by rw [hT.out]; exact hqT) (by rw [hy.out]; exact hyq) (fun _ => by rw [he2.out]; omega))
        have hql : Hid (((ckAll ws).take q).length = q) := Lib.hid (by rw [List.length_take, hT.out]; omega)
        have i6 : (q : Int) ≤ (c6 : Int) := by omega
        have i7 : (j : Int) ≤ (c2 : Int) := by omega
        have HS8 : Hid (Calls Try.prog 15 #[.slice A6 q c6] wr fun e w' => ∃ v, e = .returned (.tuple #[v, .int .i64 (y : Nat)]) ∧ LOwn w' wr.heap.size v (ws.take j) ∧ Below wr.heap.size wr w') := Lib.hid (by
          have h := chScan_any A6 q c6 ((ckAll ws).take q) wr (R6.out.front q) hql.out (by omega) (by omega)
          unfold ChScans at h
          rw [HSC.out] at h
          exact h)
        have HJ : Hid ((ws.take j).length = j) := Lib.hid (by rw [List.length_take, hmm.out]; omega)
        have HJW : Hid (∀ p ∈ ws.take j, ∀ x ∈ p, (Lit.int .u8 x).wf = true) := Lib.hid (fun p hp => (HM.out p (List.mem_of_mem_take hp)).2)
        have HIN : Hid (∀ i, i < j → (nthB (ws.take j) i).length ≤ 70368744177664) := Lib.hid (fun i hi => by have := HML.out _ (List.mem_of_mem_take (nthB_mem (ws.take j) i (by rw [HJ.out]; exact hi))); omega)
        have HIN2 : Hid (∀ i, i < m → (nthB ws i).length ≤ 70368744177664) := Lib.hid (fun i hi => by have := HML.out _ (nthB_mem ws i (by rw [hmm.out]; exact hi)); omega)
        have t1 : ((y : Int) == (y : Int)) = true := by simp
        have t2 : ((T : Int) == (T : Int)) = true := by simp
        go_wp2_with fail
        refine HS8.out.mono ?_
        rintro e w8 ⟨v8, rfl, o8, d8⟩
        obtain ⟨A8, c8, rfl, _⟩ := o8.len
        rw [HJ.out] at o8 ⊢
        have br8 := o8.brow HJW.out
        have b8 := B6.out.trans (d8.mono B6.out.size)
        have L8 := Lib.hid ((BR.out.below (BEL.out.trans (d8.mono BEL.out.size))).more (BEL.out.trans (d8.mono BEL.out.size)).size)
        have HS9 : Hid (Calls Try.prog 15 #[.slice A6 T c6] w8 fun e w' => ∃ v, e = .returned (.tuple #[v, .int .i64 (T : Nat)]) ∧ LOwn w' w8.heap.size v ws ∧ Below w8.heap.size w8 w') := Lib.hid (by
          have h := chScan_any A6 T c6 (ckAll ws) w8 ((R6.out.below d8).more d8.size) hT.out hc6 (by omega)
          unfold ChScans at h
          rw [HSW.out, hT.out] at h
          exact h)
        clear o8 d8 HS8
        go_wp2_with fail
        refine HS9.out.mono ?_
        rintro e w9 ⟨v9, rfl, o9, d9⟩
        obtain ⟨A9, c9, rfl, _⟩ := o9.len
        rw [hmm.out] at o9 ⊢
        have br9 := o9.brow (fun p hp => (HM.out p hp).2)
        have b9 := b8.trans (d9.mono b8.size)
        have P9 := Lib.hid br9
        have G9 := Lib.hid ((br8.below d9).more d9.size)
        have L9 := Lib.hid ((L8.out.below d9).more d9.size)
        clear o9 d9 br8 br9 L8 HS9 b8
        go_wp2_with fail
        refine (SameRows_yes A8 A2 j c8 c2 (ws.take j) w9 _ _ G9.out (L9.out.front j) HJ.out (by omega) HIN.out).mono ?_
        rintro e w10 ⟨rfl, m10, rfl⟩
        go_wp2_with fail
        refine (SameRows_yes A9 A2 m c9 c2 ws (w9.drewN m10) _ _ (P9.out.drewN m10) (L9.out.drewN m10) hmm.out (by omega) HIN2.out).mono ?_
        rintro e w11 ⟨rfl, m11, rfl⟩
        have b11 : Below w.heap.size w (w9.drewN (m10 + m11)) := ⟨b9.os, b9.tape, b9.output, b9.size, b9.block⟩
        go_wp2_with (go_at_call 21; refine (known13_yes _).mono ?_; rintro e w12 ⟨rfl, b12⟩)
        go_ret
        exact ⟨rfl, b11.trans (b12.mono b11.size)⟩
      have HSC : Hid (ckScan ((ckAll ws).take q) = (ws.take j, y)) := Lib.hid (by
        rw [← hy.out]
        exact ckScan_cut ws HML.out j q (by rw [hmm.out]; exact hj) (by rw [hT.out]; exact hqT) (by rw [hy.out]; exact hyq) (fun h => absurd h (by rw [hmm.out]; omega)))
      have hql : Hid (((ckAll ws).take q).length = q) := Lib.hid (by rw [List.length_take, hT.out]; omega)
      have i6 : (q : Int) ≤ (c6 : Int) := by omega
      have i7 : (j : Int) ≤ (c2 : Int) := by omega
      have HS8 : Hid (Calls Try.prog 15 #[.slice A6 q c6] wr fun e w' => ∃ v, e = .returned (.tuple #[v, .int .i64 (y : Nat)]) ∧ LOwn w' wr.heap.size v (ws.take j) ∧ Below wr.heap.size wr w') := Lib.hid (by
        have h := chScan_any A6 q c6 ((ckAll ws).take q) wr (R6.out.front q) hql.out (by omega) (by omega)
        unfold ChScans at h
        rw [HSC.out] at h
        exact h)
      have HJ : Hid ((ws.take j).length = j) := Lib.hid (by rw [List.length_take, hmm.out]; omega)
      have HJW : Hid (∀ p ∈ ws.take j, ∀ x ∈ p, (Lit.int .u8 x).wf = true) := Lib.hid (fun p hp => (HM.out p (List.mem_of_mem_take hp)).2)
      have HIN : Hid (∀ i, i < j → (nthB (ws.take j) i).length ≤ 70368744177664) := Lib.hid (fun i hi => by have := HML.out _ (List.mem_of_mem_take (nthB_mem (ws.take j) i (by rw [HJ.out]; exact hi))); omega)
      have HIN2 : Hid (∀ i, i < m → (nthB ws i).length ≤ 70368744177664) := Lib.hid (fun i hi => by have := HML.out _ (nthB_mem ws i (by rw [hmm.out]; exact hi)); omega)
      have t1 : ((y : Int) == (y : Int)) = true := by simp
      have t2 : ((T : Int) == (T : Int)) = true := by simp
      go_wp2_with fail
      refine HS8.out.mono ?_
      rintro e w8 ⟨v8, rfl, o8, d8⟩
      obtain ⟨A8, c8, rfl, _⟩ := o8.len
      rw [HJ.out] at o8 ⊢
      have br8 := o8.brow HJW.out
      have b8 := B6.out.trans (d8.mono B6.out.size)
      have L8 := Lib.hid ((BR.out.below (BEL.out.trans (d8.mono BEL.out.size))).more (BEL.out.trans (d8.mono BEL.out.size)).size)
      have HS9 : Hid (Calls Try.prog 15 #[.slice A6 T c6] w8 fun e w' => ∃ v, e = .returned (.tuple #[v, .int .i64 (T : Nat)]) ∧ LOwn w' w8.heap.size v ws ∧ Below w8.heap.size w8 w') := Lib.hid (by
        have h := chScan_any A6 T c6 (ckAll ws) w8 ((R6.out.below d8).more d8.size) hT.out hc6 (by omega)
        unfold ChScans at h
        rw [HSW.out, hT.out] at h
        exact h)
      clear o8 d8 HS8
      go_wp2_with fail
      refine HS9.out.mono ?_
      rintro e w9 ⟨v9, rfl, o9, d9⟩
      obtain ⟨A9, c9, rfl, _⟩ := o9.len
      rw [hmm.out] at o9 ⊢
      have br9 := o9.brow (fun p hp => (HM.out p hp).2)
      have b9 := b8.trans (d9.mono b8.size)
      have P9 := Lib.hid br9
      have G9 := Lib.hid ((br8.below d9).more d9.size)
      have L9 := Lib.hid ((L8.out.below d9).more d9.size)
      clear o9 d9 br8 br9 L8 HS9 b8
      go_wp2_with fail
      refine (SameRows_yes A8 A2 j c8 c2 (ws.take j) w9 _ _ G9.out (L9.out.front j) HJ.out (by omega) HIN.out).mono ?_
      rintro e w10 ⟨rfl, m10, rfl⟩
      go_wp2_with fail
      refine (SameRows_yes A9 A2 m c9 c2 ws (w9.drewN m10) _ _ (P9.out.drewN m10) (L9.out.drewN m10) hmm.out (by omega) HIN2.out).mono ?_
      rintro e w11 ⟨rfl, m11, rfl⟩
      have b11 : Below w.heap.size w (w9.drewN (m10 + m11)) := ⟨b9.os, b9.tape, b9.output, b9.size, b9.block⟩
      go_wp2_with (go_at_call 21; refine (known13_yes _).mono ?_; rintro e w12 ⟨rfl, b12⟩)
      go_ret
      exact ⟨rfl, b11.trans (b12.mono b11.size)⟩
end Go.Proofs.Ytooelfmfcihlkaa
namespace Go.Proofs.Ytooelfmfcihlkaa.chunkCut
open Go.ChangeShapes Go.WideShapes Go.ChangeAt Go.RowKit
open Go.ChangeMaps (open_string shut_string)
set_option linter.unusedVariables false

theorem own : ownKnob Try.prog.godebug = none := by kernel_rfl
theorem laidOut : laidOutB Try.prog = true := by kernel_rfl

set_option maxRecDepth 100000 in
theorem lifted (os : Os) (started : os.Started) (H : Type) (enc : TypeId × Value → H) :
    ReturnsInHanded {} Try.checked os 6 .any (Rows.chunkCutSpec.pre6 enc Try.prog Try.f6 Rows.chunkCutRow.domain false) (Rows.chunkCutSpec.post enc Try.prog Try.f6 false true false false) := by
  refine returnsInHanded_of_change_sized (C := Try.checked) own started (by kernel_rfl) Try.func6
    (ChangeSpec.witness6 (enc := enc) (C := Try.checked) false ⟨#[], #[.slice none 0 0, .int .i64 0], []⟩ 8 (by kernel_rfl) (by kernel_rfl) (by kernel_rfl) (by kernel_rfl)) ?_
  intro W base args ds gs before hval0 hW hcnd hsz0 _
  have hsz : (DataW.weightsEach Try.prog (Try.f6.params.toList ++ Rows.chunkCutSpec.plain.varTypes Try.prog) (ds ++ gs)).all (· ≤ reachBytes) = true := hsz0
  clear hsz0
  have hval : ∀ (j : Nat) t v, Try.f6.params[j]? = some t → args[j]? = some v → Value.okWide Try.prog W .any base t v := hval0
  have hW' := hW
  obtain ⟨p, q, hA0, hV, rfl, hfz, hnd⟩ := hW
  have hA : DataW.TrodAll enc Try.prog W 0 (fun _ => true) true Try.f6.params.toList args.toList ds p := hA0
  rw [Try.params6] at hA hval hsz
  obtain ⟨v0, vs0, d0, ds0, p0, q0, hargs, rfl, rfl, h0, r0⟩ := trodAll_cons hA
  obtain ⟨v1, vs1, d1, ds1, p1, q1, rfl, rfl, rfl, h1, r1⟩ := trodAll_cons r0
  obtain ⟨rfl, rfl, rfl⟩ := trodAll_nil r1
  obtain rfl : args = #[v0, v1] := by cases args; simp_all
  obtain ⟨rfl, rfl⟩ := trodVars_none hV
  obtain ⟨a0, l0, c0, rfl⟩ := okWide_slice Try.underlying29 (hval 0 29 v0 rfl rfl)
  have k0 := h0
  have lt0 : ∀ x ∈ p0, x.block < W.heap.size := by obtain ⟨m, hm⟩ := k0; exact DataW.trod_lt m _ _ _ hm
  obtain ⟨x0, w0, n0, o0, s0, r0d⟩ := lists_in h0 lt0 (fun n hn => of_decide_eq_true (List.all_eq_true.1 hsz _ (DataW.weights_mem_each (j := 0) (t := 29) (d := d0) rfl rfl n hn)))
  have m0 := reach_lists hsz 0 rfl rfl r0d
  obtain ⟨a1, rfl, rfl, rfl, w1⟩ := open_int Try.underlying3 (hval 1 3 v1 rfl rfl) h1
  clear hA0 hval0
  refine (walk_ChunkCut a0 l0 c0 x0 a1 W w0 n0 o0 s0 m0 w1).mono fun e W' ⟨he, bel⟩ => ?_
  subst he
  exact ⟨_, rfl, _, _, _, [], _, [], hW', trodAll_mk1 (shut_bool Try.underlying4 _), (trodAll_cons_mk (Below.trod laidOut (by kernel_rfl) (of_decide_eq_true (by kernel_rfl)) k0 bel lt0) (trodAll_cons_mk (shut_int Try.underlying3 w1) trodAll_mk0)), rfl, bel.frame _, fun h => by cases h⟩

theorem over : Rows.chunkCutRow.holds Try.pinned (OpenSpec.ofChange Rows.chunkCutSpec) :=
  OpenClaim.holds_of_wide 6 Try.f6 rfl rfl rfl rfl rfl rfl rfl ⟨rfl, rfl, rfl, rfl, rfl⟩ rfl rfl rfl rfl rfl (by kernel_rfl) Try.func6 (by kernel_rfl)
    (of_decide_eq_true (by kernel_rfl)) (by unfold Func.isWrapper; first | (rw [if_pos (by decide +kernel)]; kernel_rfl) | (rw [if_neg (by decide +kernel)]; exact ⟨rfl, rfl⟩))
    (fun os started H enc _ => lifted os started H enc)

theorem proved : Rows.ChunkCutSaid := over
#print axioms proved
end Go.Proofs.Ytooelfmfcihlkaa.chunkCut
