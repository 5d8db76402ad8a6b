/-
  The statement ChunkTurned of outstationlaw13 holds: for every input that can be read, the call returns true, and each argument reads as it did. No condition of its own.
-/
import Derived.Test.YtooelfmfcihlkaaJChunkTurnedA
import Derived.Laws.CopyOwn
import Derived.Maps.AppendAt
import Derived.Deep.AppendLies
import Derived.Deep.RegionHeld3
import Derived.IntWalk
import Derived.Lib.SlBytesConst
import Derived.Test.YtooelfmfcihlkaaRows
namespace Go.Proofs.Ytooelfmfcihlkaa
open Go.RowKit
set_option linter.unusedVariables false
set_option maxRecDepth 100000

/-- The last so many bytes of a number, the highest first. -/
def lo : Nat → Nat → List Int
  | 0, _ => []
  | i + 1, v => ((v / 256 ^ i % 256 : Nat) : Int) :: lo i v
theorem lo_len (i v : Nat) : (lo i v).length = i := by
  induction i with
  | zero => rfl
  | succ i ih => simp [lo, ih]
theorem lo_wf (i v : Nat) : ∀ x ∈ lo i v, (Lit.int .u8 x).wf = true := by
  induction i with
  | zero => intro x hx; cases hx
  | succ i ih =>
    intro x hx
    rcases List.mem_cons.1 hx with rfl | hx
    · exact wf_byte _ (Nat.mod_lt _ (by omega))
    · exact ih x hx
theorem lo_two (n : Nat) (h : n < 65536) : lo 2 n = ckH n := by
  simp [lo, ckH]; omega
theorem lo_four (s : Nat) : lo 4 s = be4 s := by
  simp [lo, be4]
theorem lo_step (n j v : Nat) (x : Int) (h : j < n) : (List.replicate (n - j) (0 : Int) ++ lo j v).set (n - j - 1) x = List.replicate (n - (j + 1)) 0 ++ (x :: lo j v) := by
  obtain ⟨q, hq⟩ : ∃ q, n - j = q + 1 := ⟨n - j - 1, by omega⟩
  rw [hq, show n - (j + 1) = q by omega, show q + 1 - 1 = q by omega, List.replicate_succ']
  rw [List.append_assoc, List.set_append_right _ _ (by simp)]
  simp
theorem div_step8 (v j : Nat) : v / 256 ^ (j + 1) = v / 256 ^ j / 256 := by rw [Nat.pow_succ, Nat.div_div_eq_div_mul]

theorem highFirst_any (v n : Nat) (hv : v < 4294967296) (hn : n ≤ 4) (w : World) :
    Calls Try.prog 31 #[.int .u32 v, .int .i64 n] w fun e w' => e = .returned (.slice (some ⟨w.heap.size, 0, none⟩) n n) ∧ w' = w.alloc (.cells (blk .u8 (lo n v)) 5) := by
  have hmk := make_u8 n (by omega)
  go_enter Try.func31, Try.ntmps31
  go_wp2
  go_loopw [0, 6, 11] (fun t _ i wr => ∃ j : Nat, j ≤ n ∧ i = .int .i64 j ∧ t = .int .u32 (v / 256 ^ j : Nat) ∧ wr = w.alloc (.cells (blk .u8 (List.replicate (n - j) 0 ++ lo j v)) 5)) (fun _ _ i _ => n - (intOf i).toNat)
  case atStart => exact ⟨0, by omega, rfl, by simp, by simp [lo]⟩
  case round =>
    obtain ⟨j, hj, rfl, rfl, rfl⟩ := hrel
    by_cases hlt : j < n
    · have hb : v / 256 ^ j < 4294967296 := Nat.lt_of_le_of_lt (Nat.div_le_self _ _) hv
      have hq := Lib.hid (div_step8 v j)
      have HS := Lib.hid (lo_step n j v (((v / 256 ^ j : Nat) : Int) % 256) hlt)
      have HL : Hid (lo (j + 1) v = (((v / 256 ^ j : Nat) : Int) % 256) :: lo j v) := Lib.hid (by rw [lo]; congr 1)
      obtain ⟨L, hL⟩ : ∃ L, Hid (List.replicate (n - j) (0 : Int) ++ lo j v = L) := ⟨_, Lib.hid rfl⟩
      have hLl : L.length = n := by rw [← hL.out, List.length_append, List.length_replicate, lo_len]; omega
      obtain ⟨q, hqq⟩ : ∃ q, Hid (v / 256 ^ j = q) := ⟨_, Lib.hid rfl⟩
      rw [hqq.out] at hb hq HS HL ⊢
      rw [hL.out] at HS ⊢
      have hc : (blk .u8 L)[n - j - 1]? = some (.int .u8 (nth L (n - j - 1))) := blk_get _ _ _ (by omega)
      have hwr : IntKind.u8.wrap (q : Int) = (q : Int) % 256 := by rw [IntKind.wrap_u8]
      have hi1 : IntKind.i64.wrap (IntKind.i64.wrap ((n : Int) - 1) - (j : Int)) = ((n - j - 1 : Nat) : Int) := by
        rw [IntKind.wrap_i64, IntKind.wrap_i64]; omega
      have hi2 : (n : Int) - 1 - (j : Int) = ((n - j - 1 : Nat) : Int) := by omega
      go_wp2
      go_roundw
      case rel => exact ⟨j + 1, by omega, by go_num, by rw [hq.out]; rfl, by rw [blk_set, HS.out, ← HL.out]⟩
      case measure => simp [intOf]; omega
    · obtain rfl : j = n := by omega
      have hx : List.replicate (j - j) (0 : Int) ++ lo j v = lo j v := by simp
      rw [hx]
      go_wp2
      go_ret
      exact ⟨rfl, rfl⟩
/-- 'copy' of a row into a block known whole. -/
theorem copy_cells {w : World} {g off n : Nat} {e : TypeId} {l xs : List Int} (hg : w.heap[g]? = some (.cells (blk .u8 l) e (0, 0))) (hl : off + xs.length = n) (hn : n ≤ l.length) :
    w.setRow g ((blk .u8 l).toList.take off ++ (xs.map (Value.int .u8) ++ (blk .u8 l).toList.drop (off + (xs.map (Value.int .u8)).length))).toArray = w.setRow g (blk .u8 (l.take off ++ (xs ++ l.drop n))) := by
  congr 1
  simp only [blk, List.map_append, List.map_take, List.map_drop, List.length_map, hl]
theorem setRow_block {w : World} {g : Nat} {e : TypeId} {l : List Int} (hg : w.heap[g]? = some (.cells (blk .u8 l) e (0, 0))) (m : List Int) : (w.setRow g (blk .u8 m)).heap[g]? = some (.cells (blk .u8 m) e (0, 0)) := setRow_heap w g _ _ e _ hg
theorem cells_src {w : World} {g : Nat} {e : TypeId} {xs : List Int} (hg : w.heap[g]? = some (.cells (blk .u8 xs) e (0, 0))) : ∀ j v, (xs.map (Value.int .u8))[j]? = some v → w.cell? ((⟨g, 0, none⟩ : Addr).add j) = some v := by
  intro j v hj
  rw [Go.WideShapes.add_plain, Nat.zero_add, cell_of_row w g j _ _ _ hg]
  simpa [blk] using hj
/-- A call returns a head: six bytes that fill a new block. -/
def Heads (w : World) (xs : List Int) (e : Ending) (w' : World) : Prop :=
  e = .returned (.slice (some ⟨w.heap.size, 0, none⟩) 6 6) ∧ w'.heap[w.heap.size]? = some (.cells (blk .u8 (ckH xs.length ++ be4 (ckS xs))) 5 (0, 0)) ∧ Below w.heap.size w w'
theorem info_one8 : (Try.prog.info? 5).map (·.size) = some 1 := by kernel_rfl
set_option maxHeartbeats 1000000 in
theorem head_any (A : Option Addr) (n c : Nat) (xs : List Int) (w : World) (hr : Row .u8 w w.heap.size A xs) (hn : xs.length = n) (hm : n ≤ 1024) :
    Calls Try.prog 25 #[.slice A n c] w (Heads w xs) := by
  have hmk : ∀ W : World, (Instr.makeSlice 22 (.int .i64 6) (.int .i64 6)).run Try.prog W = .ok (.slice (some ⟨W.heap.size, 0, none⟩) 6 6) (W.alloc (.cells (blk .u8 [0, 0, 0, 0, 0, 0]) 5)) := make_u8 6 (by omega)
  have HR := Lib.hid hr
  have HN := Lib.hid hn
  obtain ⟨H, hH⟩ : ∃ H, Hid (lo 2 n = H) := ⟨_, Lib.hid rfl⟩
  have hHc : Hid (H = ckH n) := Lib.hid (by rw [← hH.out, lo_two n (by omega)])
  have hHl : Hid (H.length = 2) := Lib.hid (by rw [← hH.out, lo_len])
  have hHw : Hid (∀ x ∈ H, (Lit.int .u8 x).wf = true) := Lib.hid (by rw [← hH.out]; exact lo_wf _ _)
  have hsl : Hid (ckS xs < 4294967296) := Lib.hid (by unfold ckS; exact more32_lt _ _ (more32_lt _ _ (by omega) (ckH_wf (by omega))) hr.1)
  have hsm : Hid (more32 (more32 0 H) xs = ckS xs) := Lib.hid (by rw [hHc.out]; unfold ckS; rw [HN.out])
  have hcr : Hid (more32 0 H < 4294967296) := Lib.hid (more32_lt _ _ (by omega) hHw.out)
  obtain ⟨s, hs⟩ : ∃ s, Hid (ckS xs = s) := ⟨_, Lib.hid rfl⟩
  rw [hs.out] at hsl hsm
  have HF : Hid (∀ W : World, Calls Try.prog 31 #[.int .u32 (n : Int), .int .i64 2] W fun e w' => e = .returned (.slice (some ⟨W.heap.size, 0, none⟩) 2 2) ∧ w' = W.alloc (.cells (blk .u8 H) 5)) := Lib.hid (fun W => by rw [← hH.out]; exact highFirst_any n 2 (by omega) (by omega) W)
  obtain ⟨W1, hW1⟩ : ∃ W1 : World, Hid ((w.alloc (.cells (blk .u8 [0, 0, 0, 0, 0, 0]) 5)).alloc (.cells (blk .u8 H) 5) = W1) := ⟨_, Lib.hid rfl⟩
  have hz1 : Hid (W1.heap.size = w.heap.size + 2) := Lib.hid (by rw [← hW1.out]; simp)
  have ha1 : Hid (W1.heap[w.heap.size]? = some (.cells (blk .u8 [0, 0, 0, 0, 0, 0]) 5 (0, 0))) := Lib.hid (by rw [← hW1.out]; exact (heap_alloc_old _ _ (by simp)).trans (heap_alloc_new w _))
  have hb1 : Hid (W1.heap[w.heap.size + 1]? = some (.cells (blk .u8 H) 5 (0, 0))) := Lib.hid (by rw [← hW1.out]; exact heap_alloc_two _ _ _)
  have hB1 : Hid (Below w.heap.size w W1) := Lib.hid (by rw [← hW1.out]; exact (bel_alloc w _).alloc (by simp) _)
  obtain ⟨W2, hW2⟩ : ∃ W2 : World, Hid (W1.setRow w.heap.size (blk .u8 (H ++ [0, 0, 0, 0])) = W2) := ⟨_, Lib.hid rfl⟩
  have ha2 : Hid (W2.heap[w.heap.size]? = some (.cells (blk .u8 (H ++ [0, 0, 0, 0])) 5 (0, 0))) := Lib.hid (by rw [← hW2.out]; exact setRow_block ha1.out _)
  have hB2 : Hid (Below w.heap.size w W2) := Lib.hid (by rw [← hW2.out]; exact below_setRow hB1.out (Nat.le_refl _) _)
  have hR2 : Hid (Row .u8 W2 w.heap.size A xs) := Lib.hid (HR.out.below hB2.out)
  have hL2 : Hid (Row .u8 W2 (w.heap.size + 1) (some ⟨w.heap.size, 0, none⟩) H) := Lib.hid (Row.of_block ha2.out _ hHw.out (List.prefix_append _ _))
  have hz2 : Hid (W2.heap.size = w.heap.size + 2) := Lib.hid (by rw [← hW2.out]; simp [World.setRow, hz1.out])
  have HF4 : Hid (∀ W : World, (∃ q, W = W2.drewN q) → Calls Try.prog 31 #[.int .u32 (s : Int), .int .i64 4] W fun e w' => e = .returned (.slice (some ⟨w.heap.size + 2, 0, none⟩) 4 4) ∧ ∃ w3, Hid (w3.heap[w.heap.size]? = some (.cells (blk .u8 (H ++ be4 s)) 5 (0, 0)) ∧ Below w.heap.size w w3) ∧ ∀ ty, (Builtin.copy_ #[22, 22] ty #[.slice (some ⟨w.heap.size, 2, none⟩) 4 4, .slice (some ⟨w.heap.size + 2, 0, none⟩) 4 4]).run Try.prog w' = .ok (.int .i64 4) w3) := Lib.hid (fun W ⟨q, hq⟩ => by
    subst hq
    have hzq : (W2.drewN q).heap.size = w.heap.size + 2 := hz2.out
    refine (highFirst_any s 4 hsl.out (by omega) _).mono fun e w1 ⟨he, hw1⟩ => ?_
    rw [hzq] at he
    have ha3 : w1.heap[w.heap.size]? = some (.cells (blk .u8 (H ++ [0, 0, 0, 0])) 5 (0, 0)) := by
      rw [hw1]
      exact (heap_alloc_old _ _ (show w.heap.size < W2.heap.size by have := hz2.out; omega)).trans ha2.out
    have hb3 : w1.heap[w.heap.size + 2]? = some (.cells (blk .u8 (lo 4 s)) 5 (0, 0)) := by
      rw [hw1, ← hzq]
      exact heap_alloc_new _ _
    have hB3 : Below w.heap.size w w1 := by
      rw [hw1]
      have h0 : Below w.heap.size w (W2.drewN q) := hB2.out.trans ⟨rfl, rfl, rfl, Nat.le_refl _, fun _ _ => rfl⟩
      exact h0.alloc (by rw [hzq]; omega) _
    refine ⟨he, w1.setRow w.heap.size (blk .u8 (H ++ be4 s)), Lib.hid ⟨setRow_block ha3 _, below_setRow hB3 (Nat.le_refl _) _⟩, fun ty => ?_⟩
    have := run_copy_row (P := Try.prog) w1 22 22 ty 5 w.heap.size 2 4 4 ⟨w.heap.size + 2, 0, none⟩ 4 4 (blk .u8 (H ++ [0, 0, 0, 0])) 5 ((lo 4 s).map (Value.int .u8)) Try.underlying22 info_one8 ha3 (by rw [List.length_map, lo_len]; rfl) (cells_src hb3) (by rw [List.length_map, lo_len, blk_size, List.length_append, hHl.out]; decide) (ints_oneCell _ _)
    rw [this, List.length_map, lo_len, List.append_assoc]
    have hcc := copy_cells (w := w1) (off := 2) (n := 6) (xs := lo 4 s) ha3 (by rw [lo_len]) (by rw [List.length_append, hHl.out]; decide)
    rw [List.length_map, lo_len] at hcc
    rw [hcc, List.take_left' hHl.out, List.drop_of_length_le (by rw [List.length_append, hHl.out]; decide), List.append_nil, lo_four]
    rfl)
  clear hr hn
  go_enter Try.func25, Try.ntmps25
  go_wp2_with (first
    | (go_at_call 31; refine (HF.out _).mono ?_; rintro e w1 ⟨rfl, rfl⟩; rw [hW1.out])
    | (refine wpList_copy_own rfl (.tmp 9) (.tmp 13) 22 22 rfl 5 Try.underlying22 info_one8 w.heap.size 0 2 6 ⟨w.heap.size + 1, 0, none⟩ 2 2 rfl rfl (blk .u8 [0, 0, 0, 0, 0, 0]) 5 ha1.out (H.map (Value.int .u8)) (by rw [List.length_map, hHl.out]; rfl) (cells_src hb1.out) (by rw [List.length_map, hHl.out]; decide) (ints_oneCell _ _) ?_; rw [copy_cells (n := 2) ha1.out (by rw [hHl.out]) (by decide)]; simp only [List.take_zero, List.nil_append, List.drop_succ_cons, List.drop_zero]; rw [hW2.out])
    | (go_at_call 33; refine (crc_32 _ 2 _ H _ _ hL2.out hHl.out (by omega)).mono ?_; rintro e w1 ⟨rfl, rfl⟩)
    | (go_at_call 32; refine (more_32 _ _ _ _ xs hcr.out _ _ hR2.out HN.out (by omega)).mono ?_; rintro e w1 ⟨rfl, rfl⟩; rw [hsm.out]))
  clear HF hz1 ha1 hb1 hB1 hL2 hR2 ha2 hB2 hcr hsm hsl
  go_region_with (go_at_call 31; refine (HF4.out _ ⟨_, rfl⟩).mono ?_; rintro e w1 ⟨rfl, w3, HW3, hcp⟩)
  all_goals go_wp2
  all_goals go_ret
  all_goals exact ⟨rfl, by rw [HN.out, ← hHc.out, hs.out]; exact HW3.out.1, HW3.out.2⟩
end Go.Proofs.Ytooelfmfcihlkaa
namespace Go.Proofs.Ytooelfmfcihlkaa
open Go.RowKit

section
variable {P : Program}
theorem run_append_row (w : World) (base : Nat) (t ty : TypeId) (k : IntKind) (e : TypeId) (bytes : Nat) (ht : P.underlying t = some (.slice e)) (hi : (P.info? e).map (fun i => (i.zero, i.size, i.bytes)) = some (some (.int k 0), 1, bytes))
    (v : Value) (xs : List Int) (hown : Own k e w base v xs) (B : Nat) (A : Option Addr) (m c : Nat) (ys : List Int) (hr : Row k w B A ys) (hm : ys.length = m)
    (hbytes : (xs.length + m) * bytes ≤ 140737488355328) (h63 : xs.length + m ≤ maxLen) (hbase : base ≤ w.heap.size) :
    ∃ v' w', (Builtin.append_ #[t, t] ty #[v, .slice A m c]).run P w = .ok v' w' ∧ Own k e w' base v' (xs ++ ys) ∧ w.grownBy w' v.ownBlock := by
  obtain ⟨i, hi1, hz, hsz, hby⟩ := info_parts hi
  cases A with
  | none =>
    have hm0 : m = 0 := by
      rcases Nat.eq_zero_or_pos m with h0 | h0
      · exact h0
      · obtain ⟨b, o, h, _⟩ := hr.2 (by omega); cases h
    subst hm0
    have hy : ys = [] := List.eq_nil_of_length_eq_zero hm
    subst hy
    exact ⟨v, w, run_append_none (P := P) w t ty e i ht hi1 base v _ _ hown c, by simpa using hown, World.grownBy.refl _ _⟩
  | some ad =>
    have hcells : ∀ j u, (ys.map (Value.int k))[j]? = some u → w.cell? (ad.add j) = some u := by
      intro j u hu
      rw [List.getElem?_map] at hu
      by_cases hj : j < ys.length
      · obtain ⟨b, o, e1, _, hc⟩ := hr.2 (by omega)
        injection e1 with e1
        subst e1
        rw [List.getElem?_eq_getElem hj] at hu
        rw [Go.WideShapes.add_plain, hc j hj, nth_eq ys j hj]
        exact hu
      · rw [List.getElem?_eq_none (by omega)] at hu
        cases hu
    obtain ⟨v', w', hrun, h2, h3, _, _⟩ := run_append_own_at (P := P) w base t ty e i (.int k 0) 1 bytes ht hi1 hz hsz hby rfl (by omega) v _ _ hown ad m c (ys.map (Value.int k)) (by simp [hm]) hcells (ints_oneCell k ys) h63 hbytes hbase
    exact ⟨v', w', hrun, by simpa [Own, hm] using h2, h3⟩

theorem run_append_row2 (w : World) (base : Nat) (t ty : TypeId) (k : IntKind) (e : TypeId) (bytes : Nat) (ht : P.underlying t = some (.slice e)) (hi : (P.info? e).map (fun i => (i.zero, i.size, i.bytes)) = some (some (.int k 0), 1, bytes))
    (v : Value) (xs : List Int) (hown : Own k e w base v xs) (B : Nat) (A : Option Addr) (m c : Nat) (ys : List Int) (hr : Row k w B A ys) (hm : ys.length = m)
    (hbytes : (xs.length + m) * bytes ≤ 140737488355328) (h63 : xs.length + m ≤ maxLen) (hbase : base ≤ w.heap.size) :
    ∃ v' w', (Builtin.append_ #[t, t] ty #[v, .slice A m c]).run P w = .ok v' w' ∧ Own k e w' base v' (xs ++ ys) ∧ w.grownBy w' v.ownBlock ∧ (v'.ownBlock = v.ownBlock ∨ v'.ownBlock = some w.heap.size) := by
  obtain ⟨i, hi1, hz, hsz, hby⟩ := info_parts hi
  cases A with
  | none =>
    have hm0 : m = 0 := by
      rcases Nat.eq_zero_or_pos m with h0 | h0
      · exact h0
      · obtain ⟨b, o, h, _⟩ := hr.2 (by omega); cases h
    subst hm0
    have hy : ys = [] := List.eq_nil_of_length_eq_zero hm
    subst hy
    exact ⟨v, w, run_append_none (P := P) w t ty e i ht hi1 base v _ _ hown c, by simpa using hown, World.grownBy.refl _ _, .inl rfl⟩
  | some ad =>
    have hcells : ∀ j u, (ys.map (Value.int k))[j]? = some u → w.cell? (ad.add j) = some u := by
      intro j u hu
      rw [List.getElem?_map] at hu
      by_cases hj : j < ys.length
      · obtain ⟨b, o, e1, _, hc⟩ := hr.2 (by omega)
        injection e1 with e1
        subst e1
        rw [List.getElem?_eq_getElem hj] at hu
        rw [Go.WideShapes.add_plain, hc j hj, nth_eq ys j hj]
        exact hu
      · rw [List.getElem?_eq_none (by omega)] at hu
        cases hu
    obtain ⟨v', w', hrun, h2, h3, _, h5⟩ := run_append_own_at (P := P) w base t ty e i (.int k 0) 1 bytes ht hi1 hz hsz hby rfl (by omega) v _ _ hown ad m c (ys.map (Value.int k)) (by simp [hm]) hcells (ints_oneCell k ys) h63 hbytes hbase
    exact ⟨v', w', hrun, by simpa [Own, hm] using h2, h3, h5⟩

/-- 'append(v, src...)': v owned, src whatever row of integers; where the new row lies. -/
theorem wpList_append_row2 {ops : Array Oper} {rest : List Oper} {o : Oper} {a : Act} {Q : Exit → Act → World → Prop} (w : World) (hgd : o.guard = none) (s x : Operand) (t : TypeId)
    (ho : o.op = .call { callee := .builtin .append, args := #[s, x], argTypes := #[t, t] })
    (base : Nat) (k : IntKind) (e : TypeId) (bytes : Nat) (ht : P.underlying t = some (.slice e)) (hi : (P.info? e).map (fun i => (i.zero, i.size, i.bytes)) = some (some (.int k 0), 1, bytes))
    (v : Value) (xs : List Int) (hs : a.eval s = v) (hown : Own k e w base v xs) (B : Nat) (A : Option Addr) (m c : Nat) (ys : List Int) (hx : a.eval x = .slice A m c) (hr : Row k w B A ys) (hm : ys.length = m)
    (hbytes : (xs.length + m) * bytes ≤ 140737488355328) (h63 : xs.length + m ≤ maxLen) (hbase : base ≤ w.heap.size)
    (h : ∀ v' w', Own k e w' base v' (xs ++ ys) → w.grownBy w' v.ownBlock → (v'.ownBlock = v.ownBlock ∨ v'.ownBlock = some w.heap.size) → wpList P ops Q rest (a.put o.dst v') w') : wpList P ops Q (o :: rest) a w := by
  obtain ⟨v', w', hrun, h1, h2, h3⟩ := run_append_row2 (P := P) w base t o.type k e bytes ht hi v xs hown B A m c ys hr hm hbytes h63 hbase
  refine wpList_plain hgd fun K hK => ?_
  unfold Oper.wp
  simp [execOp, ho, resolve, invoke, builtin, hs, hx, hrun, Result.andThen]
  exact hK _ _ (h v' w' h1 h2 h3)

theorem step_append_row {ops : Array Oper} {o : Oper} {a : Act} {K : Act → World → Prop} {Q : Exit → Act → World → Prop} {E : Prop} (w : World) (hgd : o.guard = none) (s x : Operand) (t : TypeId)
    (ho : o.op = .call { callee := .builtin .append, args := #[s, x], argTypes := #[t, t] })
    (base : Nat) (k : IntKind) (e : TypeId) (bytes : Nat) (ht : P.underlying t = some (.slice e)) (hi : (P.info? e).map (fun i => (i.zero, i.size, i.bytes)) = some (some (.int k 0), 1, bytes))
    (v : Value) (xs : List Int) (hs : a.eval s = v) (hown : Own k e w base v xs) (B : Nat) (A : Option Addr) (m c : Nat) (ys : List Int) (hx : a.eval x = .slice A m c) (hr : Row k w B A ys) (hm : ys.length = m)
    (hbytes : (xs.length + m) * bytes ≤ 140737488355328) (h63 : xs.length + m ≤ maxLen) (hbase : base ≤ w.heap.size)
    (h : ∀ v' w', Own k e w' base v' (xs ++ ys) → w.grownBy w' v.ownBlock → K (a.put o.dst v') w') :
    if Region.wanted o (yielded ops a.tmps) = true then Oper.wp P o a w K Q else E := by
  have hw : Region.wanted o (yielded ops a.tmps) = true := by simp [Region.wanted, hgd]
  rw [if_pos hw]
  obtain ⟨v', w', hrun, h1, h2⟩ := run_append_row (P := P) w base t o.type k e bytes ht hi v xs hown B A m c ys hr hm hbytes h63 hbase
  unfold Oper.wp execOp
  simp only [ho, resolve, invoke, builtin, Sem.run_bind, Sem.run_pure, Result.andThen_ok, List.map_toArray, List.map_cons, List.map_nil, hs, hx, hrun]
  exact h v' w' h1 h2
end
end Go.Proofs.Ytooelfmfcihlkaa
namespace Go.Proofs.Ytooelfmfcihlkaa
open Go.RowKit
set_option linter.unusedVariables false

theorem zeros_wfK (k : IntKind) (m : Nat) : ∀ x ∈ List.replicate m (0 : Int), (Lit.int k x).wf = true := fun x hx => by
  rw [List.eq_of_mem_replicate hx]; cases k <;> decide
section
variable {P : Program}
theorem run_append_K (w : World) (base : Nat) (t : TypeId) (k : IntKind) (e : TypeId) (bytes : Nat) (ht : P.underlying t = some (.slice e)) (hi : (P.info? e).map (fun i => (i.zero, i.size, i.bytes)) = some (some (.int k 0), 1, bytes))
    (v : Value) (xs : List Int) (hown : KOwn k e w base v xs) (B : Nat) (A : Option Addr) (m c : Nat) (ys : List Int) (hr : Row k w B A ys) (hm : ys.length = m) (h1 : 1 ≤ m)
    (hbytes : (xs.length + m) * bytes ≤ 140737488355328) (h63 : xs.length + m ≤ maxLen) (hbase : base ≤ w.heap.size) :
    ∃ v' w', (∀ ty, (Builtin.append_ #[t, t] ty #[v, .slice A m c]).run P w = .ok v' w') ∧ KOwn k e w' base v' (xs ++ ys) ∧ w.grownBy w' v.ownBlock ∧ (v'.ownBlock = some w.heap.size ∨ (v'.ownBlock = v.ownBlock ∧ v.ownBlock ≠ none)) ∧ ∃ A' n' c', v' = .slice A' n' c' := by
  obtain ⟨i, hi1, hz, hsz, hby⟩ := info_parts hi
  have h64 := h63
  simp only [maxLen] at h64
  obtain ⟨b, o, rfl, _, hc⟩ := hr.2 (by omega)
  have hnews : ∀ j u, (ys.map (Value.int k))[j]? = some u → w.cell? ((⟨b, o, none⟩ : Addr).add j) = some u := by
    intro j u hu
    rw [List.getElem?_map] at hu
    by_cases hj : j < ys.length
    · rw [List.getElem?_eq_getElem hj] at hu
      rw [Go.WideShapes.add_plain, hc j hj, nth_eq ys j hj]
      exact hu
    · rw [List.getElem?_eq_none (by omega)] at hu
      cases hu
  have hnl : (ys.map (Value.int k)).length = m * i.size := by rw [List.length_map, hsz, hm, Nat.mul_one]
  rcases hown with ⟨rfl, rfl⟩ | ⟨g, n, cap, r, rfl, h2, h3, h4, h5, h6, h7, h8⟩
  · simp only [List.length_nil, Nat.zero_add] at hbytes h63 h64
    have hrun := fun ty => run_append_nil (P := P) w t ty e i _ ht hi1 hz ⟨b, o, none⟩ m c (ys.map (Value.int k)) hnl hnews (by omega) (by omega) (by rw [hby]; omega)
    have hge := grownCap_ge w m 0 e
    refine ⟨_, _, hrun, .inr ⟨w.heap.size, m, grownCap w m 0 e, List.replicate (grownCap w m 0 e - m) 0, rfl, hbase, by simpa using hm, ?_, hge, grownCap_le_maxLen w m 0 e h63, by simp; omega, zeros_wfK _ _⟩, ⟨rfl, rfl, rfl, by simp, fun q hq _ => heap_alloc_old w.drew _ hq⟩, .inl rfl, _, _, _, rfl⟩
    rw [zero_one, show ((ys.map (Value.int k)).toArray ++ blk k (List.replicate (grownCap w m 0 e - m) 0)) = blk k ([] ++ ys ++ List.replicate (grownCap w m 0 e - m) 0) by simp [blk]]
    exact heap_alloc_new w.drew _
  · by_cases hroom : n + m ≤ cap
    · have hsz4 : (blk k (xs ++ r)).size = cap := by rw [blk_size, List.length_append]; exact h7
      have hrun := fun ty => run_append_room (P := P) w t ty e i ht hi1 g n cap (blk k (xs ++ r)) h4 ⟨b, o, none⟩ m c (ys.map (Value.int k)) hnl hnews (ints_oneCell k ys) hroom (by rw [hsz4, hsz, Nat.mul_one, List.length_map]; omega)
      refine ⟨_, _, hrun, .inr ⟨g, n + m, cap, r.drop m, rfl, h2, by rw [List.length_append]; omega, ?_, hroom, h6, by rw [List.length_append, List.length_drop]; omega, fun x hx => h8 x (List.mem_of_mem_drop hx)⟩, ⟨rfl, rfl, rfl, by simp, fun q _ hq => setRow_other w g q _ (fun e => hq (by simp [Value.ownBlock, e]))⟩, .inr ⟨rfl, by simp [Value.ownBlock]⟩, _, _, _, rfl⟩
      have hcells : ((blk k (xs ++ r)).toList.take (n * i.size) ++ ys.map (Value.int k) ++ (blk k (xs ++ r)).toList.drop (n * i.size + (ys.map (Value.int k)).length)).toArray = blk k (xs ++ ys ++ r.drop m) := by
        rw [hsz, Nat.mul_one, List.length_map, hm]
        simp only [blk, List.map_append, ← h3]
        congr 1
        rw [List.take_left' (by simp), ← List.drop_drop, List.drop_left' (by simp), List.map_drop]
      rw [hcells]
      exact setRow_heap w g _ _ e _ h4
    · have holds : ∀ j u, (xs.map (Value.int k))[j]? = some u → w.cell? ((⟨g, 0, none⟩ : Addr).add j) = some u := by
        intro j u hu
        have hj : j < xs.length := by have := (List.getElem?_eq_some_iff.1 hu).1; simpa using this
        rw [Go.WideShapes.add_plain, Nat.zero_add, cell_of_row w g j _ _ _ h4, blk_get _ _ _ (by rw [List.length_append]; omega), nth_left _ _ _ hj]
        rw [List.getElem?_map, List.getElem?_eq_getElem hj] at hu
        rw [nth_eq _ _ hj]
        exact hu
      have hrun := fun ty => run_append_grow (P := P) w t ty e i _ ht hi1 hz ⟨g, 0, none⟩ n cap (xs.map (Value.int k)) (by rw [hsz]; simp; omega) holds ⟨b, o, none⟩ m c (ys.map (Value.int k)) hnl hnews (by omega) (by omega) (growslice_fits (by omega) (by rw [hby, ← h3]; exact hbytes))
      have hge := grownCap_ge w (n + m) cap e
      refine ⟨_, _, hrun, .inr ⟨w.heap.size, n + m, grownCap w (n + m) cap e, List.replicate (grownCap w (n + m) cap e - (n + m)) 0, rfl, hbase, by rw [List.length_append]; omega, ?_, hge, grownCap_le_maxLen w (n + m) cap e (by omega), by rw [List.length_append, List.length_replicate]; omega, zeros_wfK _ _⟩, ⟨rfl, rfl, rfl, by simp, fun q hq _ => heap_alloc_old w.drew _ hq⟩, .inl rfl, _, _, _, rfl⟩
      rw [zero_one, show ((xs.map (Value.int k)).toArray ++ (ys.map (Value.int k)).toArray ++ blk k (List.replicate (grownCap w (n + m) cap e - (n + m)) 0)) = blk k (xs ++ ys ++ List.replicate (grownCap w (n + m) cap e - (n + m)) 0) by simp [blk]]
      exact heap_alloc_new w.drew _
theorem step_append_K {ops : Array Oper} {o : Oper} {a : Act} {K : Act → World → Prop} {Q : Exit → Act → World → Prop} {E : Prop} (w : World) (hgd : o.guard = none) (s x : Operand) (t : TypeId)
    (ho : o.op = .call { callee := .builtin .append, args := #[s, x], argTypes := #[t, t] })
    (base : Nat) (k : IntKind) (e : TypeId) (bytes : Nat) (ht : P.underlying t = some (.slice e)) (hi : (P.info? e).map (fun i => (i.zero, i.size, i.bytes)) = some (some (.int k 0), 1, bytes))
    (v : Value) (xs : List Int) (hs : a.eval s = v) (hown : KOwn k e w base v xs) (B : Nat) (A : Option Addr) (m c : Nat) (ys : List Int) (hx : a.eval x = .slice A m c) (hr : Row k w B A ys) (hm : ys.length = m) (h1 : 1 ≤ m)
    (hbytes : (xs.length + m) * bytes ≤ 140737488355328) (h63 : xs.length + m ≤ maxLen) (hbase : base ≤ w.heap.size)
    (h : ∀ v' w', KOwn k e w' base v' (xs ++ ys) → w.grownBy w' v.ownBlock → (v'.ownBlock = some w.heap.size ∨ (v'.ownBlock = v.ownBlock ∧ v.ownBlock ≠ none)) → (∃ A' n' c', v' = .slice A' n' c') → K (a.put o.dst v') w') :
    if Region.wanted o (yielded ops a.tmps) = true then Oper.wp P o a w K Q else E := by
  have hw : Region.wanted o (yielded ops a.tmps) = true := by simp [Region.wanted, hgd]
  rw [if_pos hw]
  obtain ⟨v', w', hrun, g1, g2, g3, g4⟩ := run_append_K (P := P) w base t k e bytes ht hi v xs hown B A m c ys hr hm h1 hbytes h63 hbase
  unfold Oper.wp execOp
  simp only [ho, resolve, invoke, builtin, Sem.run_bind, Sem.run_pure, Result.andThen_ok, List.map_toArray, List.map_cons, List.map_nil, hs, hx, hrun]
  exact h v' w' g1 g2 g3 g4
theorem wpList_append_K {ops : Array Oper} {rest : List Oper} {o : Oper} {a : Act} {Q : Exit → Act → World → Prop} (w : World) (hgd : o.guard = none) (s x : Operand) (t : TypeId)
    (ho : o.op = .call { callee := .builtin .append, args := #[s, x], argTypes := #[t, t] })
    (base : Nat) (k : IntKind) (e : TypeId) (bytes : Nat) (ht : P.underlying t = some (.slice e)) (hi : (P.info? e).map (fun i => (i.zero, i.size, i.bytes)) = some (some (.int k 0), 1, bytes))
    (v : Value) (xs : List Int) (hs : a.eval s = v) (hown : KOwn k e w base v xs)
    (B : Nat) (A : Option Addr) (m c : Nat) (ys : List Int) (hx : a.eval x = .slice A m c) (hr : Row k w B A ys) (hm : ys.length = m) (h1 : 1 ≤ m)
    (hbytes : (xs.length + m) * bytes ≤ 140737488355328) (h63 : xs.length + m ≤ maxLen) (hbase : base ≤ w.heap.size)
    (h : ∀ v' w', KOwn k e w' base v' (xs ++ ys) → w.grownBy w' v.ownBlock → (v'.ownBlock = some w.heap.size ∨ (v'.ownBlock = v.ownBlock ∧ v.ownBlock ≠ none)) → (∃ A' n' c', v' = .slice A' n' c') → wpList P ops Q rest (a.put o.dst v') w') : wpList P ops Q (o :: rest) a w := by
  obtain ⟨v', w', hrun, g1, g2, g3, g4⟩ := run_append_K (P := P) w base t k e bytes ht hi v xs hown B A m c ys hr hm h1 hbytes h63 hbase
  exact wpList_append_run w hgd s x t ho v (.slice A m c) v' w' hs hx hrun (h v' w' g1 g2 g3 g4)
end
end Go.Proofs.Ytooelfmfcihlkaa
namespace Go.Proofs.Ytooelfmfcihlkaa
open Go.RowKit
set_option linter.unusedVariables false
set_option maxRecDepth 100000

theorem KOwn.form {k : IntKind} {e : TypeId} {w : World} {base : Nat} {v : Value} {xs : List Int} (h : KOwn k e w base v xs) : ∃ A c, v = .slice A xs.length c ∧ xs.length ≤ c ∧ c ≤ maxLen := by
  rcases h with ⟨rfl, rfl⟩ | ⟨g, n, cap, r, rfl, _, h3, _, h5, h6, _⟩
  · exact ⟨none, 0, rfl, Nat.le_refl _, Nat.zero_le _⟩
  · subst h3
    exact ⟨_, cap, rfl, h5, h6⟩
theorem run_append0 {w : World} {base : Nat} {v : Value} {xs : List Int} (h : KOwn .u8 5 w base v xs) (A : Option Addr) (c : Nat) (ty : TypeId) : (Builtin.append_ #[22, 22] ty #[v, .slice A 0 c]).run Try.prog w = .ok v w := by
  obtain ⟨i, hi1, hz, hsz, hby⟩ := info_parts info_u8
  rcases h with ⟨rfl, rfl⟩ | ⟨g, n, cap, r, rfl, h2, h3, h4, h5, h6⟩
  · cases A with
    | none => simp [Builtin.append_, run_underlying Try.underlying22, sizeOf, typeInfo, hi1, Builtin.lenOf, Builtin.firstCells]
    | some a => simp [Builtin.append_, run_underlying Try.underlying22, sizeOf, typeInfo, hi1, Builtin.lenOf, Builtin.firstCells, loadCells, loadCellsFrom]
  · cases A with
    | none => simp [Builtin.append_, run_underlying Try.underlying22, sizeOf, typeInfo, hi1, Builtin.lenOf, Builtin.firstCells, h5, storeCells]
    | some a => simp [Builtin.append_, run_underlying Try.underlying22, sizeOf, typeInfo, hi1, Builtin.lenOf, Builtin.firstCells, h5, storeCells, loadCells, loadCellsFrom]
/-- 'append(v, src...)', v a list of the call's own whose block is known whole, src of any length. -/
theorem run_append8 (w0 w : World) (base : Nat) (v : Value) (xs : List Int) (h : KOwn .u8 5 w base v xs) (B : Nat) (A : Option Addr) (m c : Nat) (ys : List Int) (hr : Row .u8 w B A ys) (hm : ys.length = m) (hb : xs.length + m ≤ 140737488355328) (hbase : base ≤ w.heap.size) (hbel : Below base w0 w) :
    ∃ v' w', (∀ ty, (Builtin.append_ #[22, 22] ty #[v, .slice A m c]).run Try.prog w = .ok v' w') ∧ KOwn .u8 5 w' base v' (xs ++ ys) ∧ w.grownBy w' v.ownBlock ∧ Below base w0 w' := by
  by_cases h1 : 1 ≤ m
  · obtain ⟨v', w', r1, r2, r3, _⟩ := run_append_K w base 22 .u8 5 1 Try.underlying22 info_u8 v xs h B A m c ys hr hm h1 (by omega) (by unfold maxLen; omega) hbase
    exact ⟨v', w', r1, r2, r3, hbel.grown r3 hbase fun g e => (h.block g e).1⟩
  · obtain rfl : m = 0 := by omega
    obtain rfl : ys = [] := List.eq_nil_of_length_eq_zero hm
    exact ⟨v, w, run_append0 h A c, by rw [List.append_nil]; exact h, World.grownBy.refl _ _, hbel⟩
/-- A call returns a list of its own, known whole, and an error. -/
def ChMakes (w : World) (xs : List Int) (E : Int) (e : Ending) (w' : World) : Prop := ∃ v, e = .returned (.tuple #[v, .int .i64 E]) ∧ KOwn .u8 5 w' w.heap.size v xs ∧ Below w.heap.size w w'
theorem ckPE_big {xs : List Int} (h : 1024 < xs.length) : ckPE xs = 2 := if_pos h
theorem ckPE_ok {xs : List Int} (h : xs.length ≤ 1024) : ckPE xs = 0 := if_neg (by omega)
theorem ckPut_big {xs : List Int} (h : 1024 < xs.length) : ckPut xs = [] := if_pos h
theorem ckPut_ok {xs : List Int} (h : xs.length ≤ 1024) : ckPut xs = ckL xs := if_neg (by omega)
theorem ckPut_len (xs : List Int) : (ckPut xs).length ≤ 1030 := by
  by_cases h : xs.length ≤ 1024
  · rw [ckPut_ok h, ckL_len]; omega
  · rw [ckPut_big (by omega)]; simp
theorem ckPut_wf {xs : List Int} (h : ∀ x ∈ xs, (Lit.int .u8 x).wf = true) : ∀ x ∈ ckPut xs, (Lit.int .u8 x).wf = true := by
  by_cases h1 : xs.length ≤ 1024
  · rw [ckPut_ok h1]; exact ckL_wf (by omega) h
  · rw [ckPut_big (by omega)]; intro x hx; cases hx

theorem chPut_any (A : Option Addr) (n c : Nat) (xs : List Int) (w : World) (hr : Row .u8 w w.heap.size A xs) (hn : xs.length = n) (hm : n ≤ 140737488355328) :
    Calls Try.prog 11 #[.slice A n c] w (ChMakes w (ckPut xs) (ckPE xs)) := by
  by_cases hlt : 1024 < n
  · rw [ckPut_big (by omega), ckPE_big (by omega)]
    have i1 : (n : Int) > 1024 := by omega
    clear hr hn
    go_enter Try.func11, Try.ntmps11
    go_wp2
    go_ret2
    exact ⟨_, rfl, KOwn.nil _ _ _ _, Below.refl _ _⟩
  · rw [ckPut_ok (by omega), ckPE_ok (by omega)]
    have HC : Hid (∀ w1 : World, w1.heap[w.heap.size]? = some (.cells (blk .u8 (ckH xs.length ++ be4 (ckS xs))) 5 (0, 0)) → Below w.heap.size w w1 → ∃ v' w', (∀ ty, (Builtin.append_ #[22, 22] ty #[.slice (some ⟨w.heap.size, 0, none⟩) 6 6, .slice A n c]).run Try.prog w1 = .ok v' w') ∧ KOwn .u8 5 w' w.heap.size v' (ckL xs) ∧ Below w.heap.size w w') := Lib.hid (fun w1 hg hb => by
      have hl : (ckH xs.length ++ be4 (ckS xs)).length = 6 := by simp [ckH, be4]
      have hk : KOwn .u8 5 w1 w.heap.size (.slice (some ⟨w.heap.size, 0, none⟩) 6 6) (ckH xs.length ++ be4 (ckS xs)) := .inr ⟨w.heap.size, 6, 6, [], rfl, Nat.le_refl _, hl, by rw [List.append_nil]; exact hg, Nat.le_refl _, by unfold maxLen; omega, by rw [hl]; rfl, by simp⟩
      obtain ⟨v', w', r1, r2, _, r4⟩ := run_append8 w w1 w.heap.size _ _ hk _ A n c xs (hr.below hb) hn (by omega) hb.size hb
      exact ⟨v', w', r1, by rw [ckL, ← List.append_assoc]; exact r2, r4⟩)
    have i1 : ¬ (n : Int) > 1024 := by omega
    go_enter Try.func11, Try.ntmps11
    go_wp2_with (first
      | (go_at_call 25; refine (head_any A n c xs _ hr hn (by omega)).mono ?_; rintro e w1 ⟨rfl, hg, hb⟩; obtain ⟨v', w', r1, r2, r3⟩ := HC.out w1 hg hb; have R2 := Lib.hid r2; have R1 := Lib.hid r1; clear hg r2 r1)
      | (at_builtin; refine wpList_append_run _ rfl (.tmp 8) (.tmp 9) 22 rfl (.slice (some ⟨w.heap.size, 0, none⟩) 6 6) (.slice A n c) v' w' rfl rfl R1.out ?_))
    go_ret2
    exact ⟨_, rfl, R2.out, r3⟩
end Go.Proofs.Ytooelfmfcihlkaa
namespace Go.Proofs.Ytooelfmfcihlkaa
open Go.RowKit
set_option linter.unusedVariables false

def Picks (n : Nat) (w : World) (e : Ending) (w' : World) : Prop := ∃ r : Nat, r < n ∧ e = .returned (.int .i64 r) ∧ w = w'
theorem pickS (k : Int) (n : Nat) (hk : (Lit.int .i64 k).wf = true) (h1 : 1 ≤ n) (hn : n ≤ 10000000) (w : World) :
    Calls Try.prog 24 #[.int .i64 k, .int .i64 n] w (Picks n w) := by
  have hk' := wf_i64 hk
  have ht1 : k.tmod n < n := Int.tmod_lt_of_pos k (by omega)
  have ht2 : -(n : Int) < k.tmod n := by
    have := Int.lt_tmod_of_pos k (b := (n : Int)) (by omega)
    omega
  clear hk
  by_cases h0 : k.tmod n < 0
  · go_enter Try.func24, Try.ntmps24
    go_wp2
    go_ret
    exact ⟨(k.tmod n + n).toNat, by omega, by rw [Int.toNat_of_nonneg (by omega)]; rfl, rfl⟩
  · go_enter Try.func24, Try.ntmps24
    go_wp2
    go_ret
    exact ⟨(k.tmod n).toNat, by omega, by rw [Int.toNat_of_nonneg (by omega)]; rfl, rfl⟩

theorem mask_bit (mask j : Nat) : ((mask : Int) / 2 ^ j).tmod 2 = ((mask / 2 ^ j % 2 : Nat) : Int) := by
  have h : (mask : Int) / 2 ^ j = ((mask / 2 ^ j : Nat) : Int) := by rw [Int.natCast_ediv, Int.natCast_pow]; rfl
  rw [h]
  rfl
theorem mask_yes (mask j : Nat) (h : mask.testBit j = true) : (((mask : Int) / 2 ^ j).tmod 2 == 1) = true := by
  rw [mask_bit, beq_iff_eq]
  rw [Nat.testBit_eq_decide_div_mod_eq] at h
  have := of_decide_eq_true h
  omega
theorem mask_no (mask j : Nat) (h : ¬ mask.testBit j = true) : (((mask : Int) / 2 ^ j).tmod 2 == 1) = false := by
  rw [mask_bit, beq_eq_false_iff_ne]
  rw [Nat.testBit_eq_decide_div_mod_eq, decide_eq_true_iff] at h
  omega

theorem turn_byte (x : Int) (r : Nat) (hx : (Lit.int .u8 x).wf = true) (hr : r < 8) : bits .xor .u8 x (2 ^ r % 256) = ((x.toNat ^^^ 2 ^ r : Nat) : Int) := by
  have h := wf_u8 hx
  have h2 : 2 ^ r < 2 ^ 8 := Nat.pow_lt_pow_right (by omega) hr
  have e : (2 : Int) ^ r % 256 = ((2 ^ r : Nat) : Int) := by
    have : (2 : Int) ^ r = ((2 ^ r : Nat) : Int) := by rw [Int.natCast_pow]; rfl
    rw [this]
    generalize 2 ^ r = q at *
    omega
  rw [e]
  generalize 2 ^ r = q at *
  rw [u8_xor _ _ h.1 h.2 (by omega) (by omega), Int.toNat_natCast]

end Go.Proofs.Ytooelfmfcihlkaa
namespace Go.Proofs.Ytooelfmfcihlkaa
open Go.RowKit
set_option linter.unusedVariables false
set_option maxRecDepth 100000

/-- A chunk R of which bits were turned within Q bytes from F on, from bit a of these on: of the mask's first j, cnt. -/
def TW (p : List Int) (F Q a mask j cnt : Nat) (R : List Int) : Prop :=
  ∃ pre xs L post, pre.length = F ∧ xs.length = Q ∧ R = pre ++ (L ++ post) ∧ ckL p = pre ++ (xs ++ post) ∧ Turned xs L a mask j cnt ∧ ((pre = ckH p.length ∧ xs = be4 (ckS p) ∧ post = p) ∨ (pre = ckH p.length ++ be4 (ckS p) ∧ xs = p ∧ post = []))
theorem TW.sum (p : List Int) (a mask : Nat) : TW p 2 4 a mask 0 0 (ckL p) := ⟨ckH p.length, be4 (ckS p), be4 (ckS p), p, rfl, rfl, rfl, rfl, Turned.zero _ _ _ (be4_wf _), .inl ⟨rfl, rfl, rfl⟩⟩
theorem TW.load {p : List Int} {n : Nat} (hn : p.length = n) (a mask : Nat) (hp : ∀ x ∈ p, (Lit.int .u8 x).wf = true) : TW p 6 n a mask 0 0 (ckL p) := ⟨ckH p.length ++ be4 (ckS p), p, p, [], rfl, hn, by simp [ckL], by simp [ckL], Turned.zero _ _ _ hp, .inr ⟨rfl, rfl, rfl⟩⟩
theorem TW.len {p R : List Int} {F Q a mask j cnt : Nat} (h : TW p F Q a mask j cnt R) : R.length = 6 + p.length ∧ F + Q ≤ 6 + p.length := by
  obtain ⟨pre, xs, L, post, h1, h2, rfl, h4, h5, _⟩ := h
  have := congrArg List.length h4
  rw [ckL_len, List.length_append, List.length_append] at this
  have h6 := h5.len
  rw [List.length_append, List.length_append]
  omega
theorem TW.wf {p R : List Int} {F Q a mask j cnt : Nat} (h : TW p F Q a mask j cnt R) (hl : p.length < 65536) (hp : ∀ x ∈ p, (Lit.int .u8 x).wf = true) : ∀ x ∈ R, (Lit.int .u8 x).wf = true := by
  obtain ⟨pre, xs, L, post, h1, h2, rfl, h4, h5, _⟩ := h
  have hw := ckL_wf hl hp
  rw [h4] at hw
  intro x hx
  rcases List.mem_append.1 hx with hx | hx
  · exact hw x (List.mem_append.2 (.inl hx))
  · rcases List.mem_append.1 hx with hx | hx
    · exact h5.wf x hx
    · exact hw x (List.mem_append.2 (.inr (List.mem_append.2 (.inr hx))))
theorem TW.no {p R : List Int} {F Q a mask j cnt : Nat} (h : TW p F Q a mask j cnt R) (hno : ¬ (mask.testBit j = true ∧ a + j < 8 * Q)) : TW p F Q a mask (j + 1) cnt R := by
  obtain ⟨pre, xs, L, post, h1, h2, h3, h4, h5, h6⟩ := h
  exact ⟨pre, xs, L, post, h1, h2, h3, h4, h5.no (by rw [h2]; exact hno), h6⟩
theorem TW.yes {p R : List Int} {F Q a mask j cnt : Nat} (h : TW p F Q a mask j cnt R) (hb : mask.testBit j = true) (hin : a + j < 8 * Q) (i r : Nat) (hi : i = F + (a + j) / 8) (hr : r = (a + j) % 8) :
    TW p F Q a mask (j + 1) (cnt + 1) (R.set i (bits .xor .u8 (nth R i) (2 ^ r % 256))) := by
  obtain ⟨pre, xs, L, post, h1, h2, rfl, h4, h5, h6⟩ := h
  subst hi hr
  have hq : (a + j) / 8 < L.length := by rw [h5.len, h2]; omega
  have e1 : nth (pre ++ (L ++ post)) (F + (a + j) / 8) = nth L ((a + j) / 8) := by
    rw [← h1, nth_right, nth_left _ _ _ hq]
  have h7 := h5.yes hb (by rw [h2]; exact hin) _ (turn_byte (nth L ((a + j) / 8)) ((a + j) % 8) (h5.wf _ (nth_mem L _ hq)) (by omega))
  rw [e1]
  refine ⟨pre, xs, L.set ((a + j) / 8) (bits .xor .u8 (nth L ((a + j) / 8)) (2 ^ ((a + j) % 8) % 256)), post, h1, h2, ?_, h4, h7, h6⟩
  rw [List.set_append_right _ _ (by omega), show F + (a + j) / 8 - pre.length = (a + j) / 8 by omega, List.set_append_left _ _ hq]
theorem TW.none_ {p R : List Int} {F Q a mask j : Nat} (h : TW p F Q a mask j 0 R) (hp : ∀ x ∈ p, (Lit.int .u8 x).wf = true) : R = ckL p := by
  obtain ⟨pre, xs, L, post, h1, h2, rfl, h4, h5, h6⟩ := h
  have hx : ∀ x ∈ xs, (Lit.int .u8 x).wf = true := by
    rcases h6 with ⟨_, rfl, _⟩ | ⟨_, rfl, _⟩
    · exact be4_wf _
    · exact hp
  rw [h4, h5.same hx rfl]
theorem TW.some_ {p R : List Int} {F Q a mask cnt : Nat} (h : TW p F Q a mask 32 cnt R) (hl : p.length ≤ 1024) (hp : ∀ x ∈ p, (Lit.int .u8 x).wf = true) (hn : cnt ≠ 0) (hm : mask < 4294967296) : ckE R = 5 := by
  obtain ⟨pre, xs, L, post, h1, h2, rfl, h4, h5, h6⟩ := h
  rcases h6 with ⟨rfl, rfl, rfl⟩ | ⟨rfl, rfl, rfl⟩
  · have := ck_turnedS hl h5 hp hn hm
    rw [List.append_nil] at this
    exact this
  · have := ck_turned hl h5 hp hn hm
    rw [List.append_assoc]
    exact this
end Go.Proofs.Ytooelfmfcihlkaa
namespace Go.Proofs.Ytooelfmfcihlkaa
open Go.RowKit
set_option linter.unusedVariables false

/-- A call returns a new slice, its own, that holds xs; its block is known whole. -/
def MakesCl (w : World) (xs : List Int) (e : Ending) (w' : World) : Prop := ∃ v, e = .returned v ∧ KOwn .u8 5 w' w.heap.size v xs ∧ Below w.heap.size w w'
theorem info_cl : (Try.prog.info? 5).map (fun i => (i.zero, i.size, i.bytes)) = some (some (.int .u8 0), 1, 1) := by kernel_rfl
theorem zeros_cl (m : Nat) : ∀ x ∈ List.replicate m (0 : Int), (Lit.int .u8 x).wf = true := fun x hx => by rw [List.eq_of_mem_replicate hx]; decide
/-- 'append([]byte{}, ..)' of a row that is not empty. -/
theorem append_cl (A : Option Addr) (n c : Nat) (xs : List Int) (w : World) (hr : Row .u8 w w.heap.size A xs) (hn : xs.length = n) (h1 : 1 ≤ n) (hb : n ≤ 140737488351232) :
    ∃ cap w', (∀ ty, (Builtin.append_ #[22, 22] ty #[.slice (some ⟨w.heap.size, 0, none⟩) 0 0, .slice A n c]).run Try.prog (w.alloc (.cells #[] 5)) = .ok (.slice (some ⟨w.heap.size + 1, 0, none⟩) n cap) w') ∧ KOwn .u8 5 w' w.heap.size (.slice (some ⟨w.heap.size + 1, 0, none⟩) n cap) xs ∧ Below w.heap.size w w' := by
  have h := run_append_full (P := Try.prog) (w.alloc (.cells #[] 5)) 22 .u8 5 1 Try.underlying22 info_cl w.heap.size 0 [] (heap_alloc_new w _) rfl _ _ n c xs (hr.alloc (Nat.le_refl _) _) hn h1 (by omega) (by simp only [maxLen]; omega)
  obtain ⟨cap, h2, h3, h4⟩ := h
  have hz : (w.alloc (.cells #[] 5)).heap.size = w.heap.size + 1 := by simp
  simp only [Nat.zero_add, List.nil_append, hz] at h2
  refine ⟨cap, _, h2, ?_, ?_⟩
  · refine .inr ⟨_, n, cap, List.replicate (cap - n) 0, rfl, by omega, hn, ?_, by omega, h4, by rw [List.length_replicate]; omega, zeros_cl _⟩
    have := heap_alloc_new ((w.alloc (.cells #[] 5)).drew) (.cells (blk .u8 (xs ++ List.replicate (cap - n) 0)) 5)
    rw [show ((w.alloc (.cells #[] 5)).drew).heap.size = w.heap.size + 1 from hz] at this
    exact this
  · exact (below_drew (bel_alloc w _)).alloc (by show _ ≤ (w.alloc _).heap.size; omega) _
set_option maxRecDepth 100000 in
theorem clone_any (A : Option Addr) (n c : Nat) (xs : List Int) (w : World) (hr : Row .u8 w w.heap.size A xs) (hn : xs.length = n) (hb : n ≤ 140737488351232) :
    Calls Try.prog 29 #[.slice A n c] w (MakesCl w xs) := by
  by_cases h1 : 1 ≤ n
  · obtain ⟨b, o, rfl, _⟩ := hr.2 (by omega)
    obtain ⟨cap, w1, hap, hk, hbel⟩ := append_cl (some ⟨b, o, none⟩) n c xs w hr hn h1 hb
    have HK := Lib.hid hk
    clear hr hn hk
    have he : ∀ W : World, (binOp .eql 22 (.slice (some ⟨b, o, none⟩) n c) (.slice none 0 0)).run Try.prog W = .ok (.bool false) W := fun _ => rfl
    go_enter Try.func29, Try.ntmps29
    go_wp2_with (at_builtin; refine wpList_append_run _ rfl (.tmp 5) (.tmp 6) 22 rfl (.slice (some ⟨w.heap.size, 0, none⟩) 0 0) (.slice (some ⟨b, o, none⟩) n c) (.slice (some ⟨w.heap.size + 1, 0, none⟩) n cap) w1 rfl rfl hap ?_)
    go_ret
    exact ⟨_, rfl, HK.out, hbel⟩
  obtain rfl : n = 0 := by omega
  obtain rfl : xs = [] := List.eq_nil_of_length_eq_zero hn
  clear hn hb hr
  cases A with
  | none =>
    have he : ∀ W : World, (binOp .eql 22 (.slice none 0 c) (.slice none 0 0)).run Try.prog W = .ok (.bool true) W := fun _ => rfl
    go_enter Try.func29, Try.ntmps29
    go_wp2
    go_ret
    exact ⟨_, rfl, KOwn.nil _ _ _ _, Below.refl _ _⟩
  | some a =>
    have he : ∀ W : World, (binOp .eql 22 (.slice (some a) 0 c) (.slice none 0 0)).run Try.prog W = .ok (.bool false) W := fun _ => rfl
    go_enter Try.func29, Try.ntmps29
    go_wp2
    go_ret
    refine ⟨_, rfl, .inr ⟨w.heap.size, 0, 0, [], rfl, Nat.le_refl _, rfl, ?_, Nat.le_refl _, by unfold maxLen; omega, rfl, by simp⟩, bel_alloc w _⟩
    exact heap_alloc_new w _
end Go.Proofs.Ytooelfmfcihlkaa
namespace Go.Proofs.Ytooelfmfcihlkaa
open Go.RowKit
set_option linter.unusedVariables false
set_option maxRecDepth 100000

theorem or_u8 (x y : Int) (hx : 0 ≤ x ∧ x < 256) (hy : 0 ≤ y ∧ y < 256) : bits .or .i64 (x * 256) y = x * 256 + y := by
  have orw : ∀ x y : Nat, y < 256 → (x * 256) ||| y = x * 256 + y := fun x y hy => by
    have h := Nat.two_pow_add_eq_or_of_lt (i := 8) (b := y) (by omega) x
    rw [Nat.mul_comm x 256]
    exact h.symm
  obtain ⟨a, rfl⟩ := Int.eq_ofNat_of_zero_le hx.1
  obtain ⟨b, rfl⟩ := Int.eq_ofNat_of_zero_le hy.1
  show IntKind.i64.wrap ((BitVec.ofInt 64 ((a : Int) * 256) ||| BitVec.ofInt 64 (b : Int)).toNat : Int) = _
  have e1 : (a : Int) * 256 = ((a * 256 : Nat) : Int) := by omega
  have f1 : (BitVec.ofInt 64 ((a * 256 : Nat) : Int)).toNat = a * 256 := by rw [BitVec.ofInt_natCast, BitVec.toNat_ofNat]; exact Nat.mod_eq_of_lt (by omega)
  have f2 : (BitVec.ofInt 64 ((b : Nat) : Int)).toNat = b := by rw [BitVec.ofInt_natCast, BitVec.toNat_ofNat]; exact Nat.mod_eq_of_lt (by omega)
  rw [e1, BitVec.toNat_or, f1, f2, orw a b (by omega)]
  exact IntWalk.i64_in _ (by omega)
/-- What bytes say, case by case. -/
theorem ckE_1 {b : List Int} (h : b.length < 6) : ckE b = 1 := if_pos h
theorem ckE_2 {b : List Int} (h : ¬ b.length < 6) (h2 : 1024 < ckN b) : ckE b = 2 := by unfold ckE; rw [if_neg h, if_pos h2]
theorem ckE_3 {b : List Int} (h : ¬ b.length < 6) (h2 : ¬ 1024 < ckN b) (h3 : b.length < 6 + ckN b) : ckE b = 1 := by unfold ckE; rw [if_neg h, if_neg h2, if_pos h3]
theorem ckE_4 {b : List Int} (h : ¬ b.length < 6) (h2 : ¬ 1024 < ckN b) (h3 : ¬ b.length < 6 + ckN b) (h4 : (b.drop 2).take 4 = be4 (ckS (ckP b))) : ckE b = 0 := by unfold ckE; rw [if_neg h, if_neg h2, if_neg h3, if_pos h4]
theorem ckE_5 {b : List Int} (h : ¬ b.length < 6) (h2 : ¬ 1024 < ckN b) (h3 : ¬ b.length < 6 + ckN b) (h4 : ¬ (b.drop 2).take 4 = be4 (ckS (ckP b))) : ckE b = 5 := by unfold ckE; rw [if_neg h, if_neg h2, if_neg h3, if_neg h4]
theorem ckG_no {b : List Int} (h : ¬ ckE b = 0) : ckG b = [] := if_neg h
theorem ckM_no {b : List Int} (h : ¬ ckE b = 0) : ckM b = 0 := if_neg h
theorem ckG_yes {b : List Int} (h : ckE b = 0) : ckG b = ckP b := if_pos h
theorem ckM_yes {b : List Int} (h : ckE b = 0) : ckM b = 6 + ckN b := if_pos h
theorem ckP_has {b : List Int} (h3 : 6 + ckN b ≤ b.length) : (ckP b).length = ckN b := by
  unfold ckP
  rw [List.length_take, List.length_drop]
  omega
/-- The head that bytes begin with is right just if their sum is. -/
theorem ck_head {b : List Int} (hb : ∀ x ∈ b, (Lit.int .u8 x).wf = true) (h1 : 6 ≤ b.length) (h3 : 6 + ckN b ≤ b.length) : b.take 6 = ckH (ckP b).length ++ be4 (ckS (ckP b)) ↔ (b.drop 2).take 4 = be4 (ckS (ckP b)) := by
  rw [ckP_has h3]
  generalize be4 (ckS (ckP b)) = z
  match b, h1, hb with
  | b0 :: b1 :: t, h1, hb =>
    have w0 := wf_u8 (hb b0 (by simp))
    have w1 := wf_u8 (hb b1 (by simp))
    have hn : ckN (b0 :: b1 :: t) = b0.toNat * 256 + b1.toNat := rfl
    have e0 : (((b0.toNat * 256 + b1.toNat) / 256 : Nat) : Int) = b0 := by omega
    have e1 : (((b0.toNat * 256 + b1.toNat) % 256 : Nat) : Int) = b1 := by omega
    have hH : ckH (ckN (b0 :: b1 :: t)) = [b0, b1] := by rw [hn]; unfold ckH; rw [e0, e1]
    rw [hH]
    simp
theorem ckE_small (b : List Int) : 0 ≤ ckE b ∧ ckE b ≤ 5 := by
  unfold ckE
  repeat' split
  all_goals omega
theorem ckM_le (b : List Int) : ckM b ≤ b.length := by
  by_cases h : ckE b = 0
  · rw [ckM_yes h]; exact (ckE_zero.1 h).2.2.1
  · rw [ckM_no h]; exact Nat.zero_le _
theorem ckG_len (b : List Int) : (ckG b).length ≤ 1024 := by
  by_cases h : ckE b = 0
  · rw [ckG_yes h, ckP_len h]; exact (ckE_zero.1 h).2.1
  · rw [ckG_no h]; simp
theorem ckG_wf {b : List Int} (hb : ∀ x ∈ b, (Lit.int .u8 x).wf = true) : ∀ x ∈ ckG b, (Lit.int .u8 x).wf = true := by
  by_cases h : ckE b = 0
  · rw [ckG_yes h]; intro x hx; exact hb x (List.mem_of_mem_drop (List.mem_of_mem_take hx))
  · rw [ckG_no h]; intro x hx; cases hx

/-- A call returns the payload, in a list of its own, known whole, how many bytes the chunk has, and an error. -/
def ChGot (w : World) (b : List Int) (e : Ending) (w' : World) : Prop := ∃ v, e = .returned (.tuple #[v, .int .i64 (ckM b : Nat), .int .i64 (ckE b)]) ∧ KOwn .u8 5 w' w.heap.size v (ckG b) ∧ Below w.heap.size w w'
theorem ChGot.none_ {w w' : World} {b : List Int} {E : Int} (h : ckE b = E) (h0 : E ≠ 0) (hb : Below w.heap.size w w') : ChGot w b (.returned (.tuple #[.slice none 0 0, .int .i64 0, .int .i64 E])) w' := by
  have hn : ¬ ckE b = 0 := by rw [h]; exact h0
  exact ⟨_, by rw [ckM_no hn, h]; rfl, by rw [ckG_no hn]; exact KOwn.nil _ _ _ _, hb⟩
theorem bel_dn (w : World) (m : Nat) : Below w.heap.size w (w.drewN m) := ⟨rfl, rfl, rfl, Nat.le_refl _, fun _ _ => rfl⟩

set_option maxHeartbeats 2000000 in
theorem chGet_any (A : Option Addr) (n c : Nat) (b : List Int) (w : World) (hr : Row .u8 w w.heap.size A b) (hn : b.length = n) (hc : n ≤ c) (hm : n ≤ 140737488355328) :
    Calls Try.prog 13 #[.slice A n c] w (ChGot w b) := by
  by_cases h6 : n < 6
  · have HE : Hid (ckE b = 1) := Lib.hid (ckE_1 (by omega))
    have i1 : (n : Int) < 6 := by omega
    clear hr hn
    go_enter Try.func13, Try.ntmps13
    go_wp2
    go_ret3
    exact ChGot.none_ HE.out (by decide) (Below.refl _ _)
  · obtain ⟨b0, o0, rfl, _, c0⟩ := hr.at_ (i := 0) (by omega)
    obtain ⟨b1, o1, e1, _, c1⟩ := hr.at_ (i := 1) (by omega)
    injection e1 with e1
    injection e1 with e11 e12
    subst e11 e12
    have x0 := wf_u8 (hr.wf_at (i := 0) (by omega))
    have x1 := wf_u8 (hr.wf_at (i := 1) (by omega))
    have hor := or_u8 _ _ x0 x1
    have hN : nth b 0 * 256 + nth b 1 = ((ckN b : Nat) : Int) := by unfold ckN; omega
    rw [hN] at hor
    have hNb : ckN b < 65536 := by omega
    rw [Nat.add_zero] at c0
    have HR := Lib.hid hr
    have HN := Lib.hid hn
    obtain ⟨N, hNN⟩ : ∃ N, Hid (ckN b = N) := ⟨_, Lib.hid rfl⟩
    rw [hNN.out] at hor hNb
    clear hN
    generalize nth b 0 = x at *
    generalize nth b 1 = y at *
    have ew : IntKind.i64.wrap (x * 256) = x * 256 := IntWalk.i64_in _ (by omega)
    have t0 : (0 : Int) < (n : Int) := by omega
    have t1 : (1 : Int) < (n : Int) := by omega
    have t6 : ¬ (n : Int) < 6 := by omega
    clear hr hn
    by_cases hbig : 1024 < N
    · have HE : Hid (ckE b = 2) := Lib.hid (ckE_2 (by rw [HN.out]; exact h6) (by rw [hNN.out]; exact hbig))
      have i2 : (N : Int) > 1024 := by omega
      go_enter Try.func13, Try.ntmps13
      go_wp2
      go_quiet (fail)
      go_wp2
      go_ret3
      exact ChGot.none_ HE.out (by decide) (bel_dn _ _)
    by_cases hsh : n < 6 + N
    · have HE : Hid (ckE b = 1) := Lib.hid (ckE_3 (by rw [HN.out]; exact h6) (by rw [hNN.out]; exact hbig) (by rw [HN.out, hNN.out]; exact hsh))
      have i2 : ¬ (N : Int) > 1024 := by omega
      have i3 : (n : Int) < 6 + (N : Int) := by omega
      go_enter Try.func13, Try.ntmps13
      go_wp2
      go_quiet (fail)
      go_wp2
      go_ret3
      exact ChGot.none_ HE.out (by decide) (bel_dn _ _)
    have i2 : ¬ (N : Int) > 1024 := by omega
    have i3 : ¬ (n : Int) < 6 + (N : Int) := by omega
    have j1 : (6 : Int) ≤ 6 + (N : Int) := by omega
    have j2 : (6 : Int) + (N : Int) ≤ (c : Int) := by omega
    have j3 : 6 + N ≤ c := by omega
    have j4 : ((6 : Int) + (N : Int)).toNat = 6 + N := by omega
    have j5 : (6 : Int) ≤ (c : Int) := by omega
    have hpl : Hid ((ckP b).length = N) := Lib.hid (by rw [ckP_has (by rw [hNN.out, HN.out]; omega), hNN.out])
    have hh := ck_head HR.out.1 (by rw [HN.out]; omega) (by rw [hNN.out, HN.out]; omega)
    have HP : Hid (Row .u8 w w.heap.size (some ⟨b0, o0 + 6, none⟩) (ckP b)) := Lib.hid (by have := (HR.out.drop 6).front N; rw [← hNN.out] at this; exact this)
    have HT : Hid (Row .u8 w w.heap.size (some ⟨b0, o0, none⟩) (b.take 6)) := Lib.hid (HR.out.front 6)
    have HTL : Hid ((b.take 6).length = 6) := Lib.hid (by rw [List.length_take, HN.out]; omega)
    obtain ⟨P, hP⟩ : ∃ P, Hid (ckP b = P) := ⟨_, Lib.hid rfl⟩
    obtain ⟨T, hT⟩ : ∃ T, Hid (b.take 6 = T) := ⟨_, Lib.hid rfl⟩
    rw [hP.out] at hpl hh HP
    rw [hT.out] at hh HT HTL
    have HHL : Hid ((ckH P.length ++ be4 (ckS P)).length = 6) := Lib.hid (by simp [ckH, be4])
    have HHW : Hid (∀ x ∈ ckH P.length ++ be4 (ckS P), (Lit.int .u8 x).wf = true) := Lib.hid (wf_append (ckH_wf (by rw [hpl.out]; omega)) (be4_wf _))
    have k1 : Hid (¬ b.length < 6) := Lib.hid (by rw [HN.out]; exact h6)
    have k2 : Hid (¬ 1024 < ckN b) := Lib.hid (by rw [hNN.out]; exact hbig)
    have k3 : Hid (¬ b.length < 6 + ckN b) := Lib.hid (by rw [HN.out, hNN.out]; exact hsh)
    have HHd : Hid (∀ q ad cc, (0 < N → ad = some ⟨b0, o0 + 6, none⟩) → Calls Try.prog 25 #[.slice ad N cc] (w.drewN q) fun e w' => e = .returned (.slice (some ⟨w.heap.size, 0, none⟩) 6 6) ∧ Below w.heap.size w w' ∧ (∀ cc', Calls Try.prog 28 #[.slice (some ⟨b0, o0, none⟩) 6 cc', .slice (some ⟨w.heap.size, 0, none⟩) 6 6] w' fun e w'' => e = .returned (.bool (decide (T = ckH P.length ++ be4 (ckS P)))) ∧ w' = w'')) := Lib.hid (fun q ad cc had => by
      have hrow : Row .u8 (w.drewN q) (w.drewN q).heap.size ad P := by
        rcases Nat.eq_zero_or_pos N with h0 | h0
        · have : P = [] := List.eq_nil_of_length_eq_zero (by rw [hpl.out]; exact h0)
          rw [this]; exact Row.nil _ _ _ _
        · rw [had h0]; exact HP.out.drewN q
      refine (head_any ad N cc P _ hrow hpl.out (by omega)).mono fun e w1 ⟨he, hg, hb⟩ => ?_
      have hbel : Below w.heap.size w w1 := (bel_dn w q).trans hb
      refine ⟨he, hbel, fun cc' => ?_⟩
      have hT1 := HT.out.below hbel
      have hH1 := Row.of_block hg _ HHW.out (List.prefix_refl _)
      by_cases heq : T = ckH P.length ++ be4 (ckS P)
      · rw [decide_eq_true heq]
        rw [← heq] at hH1
        exact equal_yes _ _ _ _ _ _ T _ _ _ hT1 hH1 HTL.out HTL.out
      · rw [decide_eq_false heq]
        exact equal_no _ _ _ _ _ _ T _ _ _ _ hT1 hH1 HTL.out HHL.out heq)
    have HCl : Hid (∀ w1 ad cc, (0 < N → ad = some ⟨b0, o0 + 6, none⟩) → Below w.heap.size w w1 → Calls Try.prog 29 #[.slice ad N cc] w1 fun e w' => ∃ v, e = .returned v ∧ KOwn .u8 5 w' w.heap.size v P ∧ Below w.heap.size w w') := Lib.hid (fun w1 ad cc had hb => by
      have hrow : Row .u8 w1 w1.heap.size ad P := by
        rcases Nat.eq_zero_or_pos N with h0 | h0
        · have : P = [] := List.eq_nil_of_length_eq_zero (by rw [hpl.out]; exact h0)
          rw [this]; exact Row.nil _ _ _ _
        · rw [had h0]; exact (HP.out.below hb).more hb.size
      refine (clone_any ad N cc P w1 hrow hpl.out (by omega)).mono fun e w2 ⟨v, he, hk, hb2⟩ => ⟨v, he, hk.mono hb.size, hb.trans (hb2.mono hb.size)⟩)
    by_cases heq : T = ckH P.length ++ be4 (ckS P)
    · have HE : Hid (ckE b = 0) := Lib.hid (ckE_4 k1.out k2.out k3.out (by rw [hP.out]; exact hh.1 heq))
      have HD : Hid (decide (T = ckH P.length ++ be4 (ckS P)) = true) := Lib.hid (decide_eq_true heq)
      rw [HD.out] at HHd
      clear heq hh HR HT HP HTL HHL HHW k1 k2 k3 HD hT
      have HM : Hid (∀ v : Value, (Ending.returned (.tuple #[v, .int .i64 (6 + (N : Int)), .int .i64 0])) = .returned (.tuple #[v, .int .i64 (ckM b : Nat), .int .i64 (ckE b)])) := Lib.hid (fun v => by rw [ckM_yes HE.out, HE.out, hNN.out]; rfl)
      have HG : Hid (ckG b = P) := Lib.hid (by rw [ckG_yes HE.out, hP.out])
      by_cases hc6 : c = 6
      all_goals
        (go_enter Try.func13, Try.ntmps13
         go_wp2
         go_quiet (fail)
         go_wp2
         go_region_with (first
           | (go_at_call 25; refine (HHd.out _ _ _ (fun h => by first | rfl | omega)).mono ?_; rintro e w1 ⟨rfl, hb1, heq⟩)
           | (go_at_call 28; refine (heq _).mono ?_; rintro e w2 ⟨rfl, rfl⟩))
         go_wp2_with (go_at_call 29; refine (HCl.out _ _ _ (fun h => by first | rfl | omega) hb1).mono ?_; rintro e w3 ⟨v3, rfl, hk3, hb3⟩)
         go_ret3
         exact ⟨v3, HM.out v3, by rw [HG.out]; exact hk3, hb3⟩)
    · have HE : Hid (ckE b = 5) := Lib.hid (ckE_5 k1.out k2.out k3.out (by rw [hP.out]; exact fun h => heq (hh.2 h)))
      have HD : Hid (decide (T = ckH P.length ++ be4 (ckS P)) = false) := Lib.hid (decide_eq_false heq)
      rw [HD.out] at HHd
      clear heq hh HR HT HP HTL HHL HHW k1 k2 k3 HD hT HCl
      by_cases hc6 : c = 6
      all_goals
        (go_enter Try.func13, Try.ntmps13
         go_wp2
         go_quiet (fail)
         go_wp2
         go_region_with (first
           | (go_at_call 25; refine (HHd.out _ _ _ (fun h => by first | rfl | omega)).mono ?_; rintro e w1 ⟨rfl, hb1, heq⟩)
           | (go_at_call 28; refine (heq _).mono ?_; rintro e w2 ⟨rfl, rfl⟩))
         go_wp2
         go_ret3
         exact ChGot.none_ HE.out (by decide) hb1)
end Go.Proofs.Ytooelfmfcihlkaa
namespace Go.Proofs.Ytooelfmfcihlkaa
open Go.RowKit
set_option linter.unusedVariables false
set_option maxRecDepth 100000

def abc13 : List Int := [97, 98, 99]
def bad13 : List Int := [0, 1, 0, 0, 0, 0, 5]
theorem abc13_wf : ∀ x ∈ abc13, (Lit.int .u8 x).wf = true := by decide
theorem bad13_wf : ∀ x ∈ bad13, (Lit.int .u8 x).wf = true := by decide
theorem bad13_err : ckE bad13 = 5 := by decide +kernel
theorem abc13_put : ckPut abc13 = ckL abc13 := ckPut_ok (by decide)
theorem abc13_ok : ckPE abc13 = 0 := ckPE_ok (by decide)

set_option maxHeartbeats 2000000 in
theorem known13_yes (w : World) : Calls Try.prog 21 #[] w fun e w' => e = .returned (.bool true) ∧ Below w.heap.size w w' := by
  obtain ⟨L, hL⟩ : ∃ L, Hid (ckL abc13 = L) := ⟨_, Lib.hid rfl⟩
  have hLl : Hid (L.length = 9) := Lib.hid (by rw [← hL.out, ckL_len]; rfl)
  have hLw : Hid (∀ x ∈ L, (Lit.int .u8 x).wf = true) := Lib.hid (by rw [← hL.out]; exact ckL_wf (by decide) abc13_wf)
  have hL0 : Hid (nth L 0 = 0) := Lib.hid (by rw [← hL.out]; rfl)
  have hL1 : Hid (nth L 1 = 3) := Lib.hid (by rw [← hL.out]; rfl)
  have hback := ck_back (p := abc13) (by decide) []
  rw [List.append_nil, hL.out] at hback
  have hE : Hid (ckE L = 0) := Lib.hid hback.1
  have hG : Hid (ckG L = abc13) := Lib.hid hback.2.1
  have hM : Hid (ckM L = 9) := Lib.hid hback.2.2
  clear hback
  have hcv := fun (W : World) (C : Array Value) (n c : Nat) => Lib.run_convert_bytes_const (P := Try.prog) W 22 5 C n c Try.underlying22 Try.underlying5
  go_enter Try.func21, Try.ntmps21
  go_wp2_with fail
  have b1 : Below w.heap.size w (w.alloc (.cells (blk .u8 abc13) 5 (3, 4))) := bel_alloc w _
  have g1 : (w.alloc (.cells (blk .u8 abc13) 5 (3, 4))).heap[w.heap.size]? = some (.cells (blk .u8 abc13) 5 (3, 4)) := heap_alloc_new w _
  show Calls _ _ _ (w.alloc (.cells (blk .u8 abc13) 5 (3, 4))) _
  generalize w.alloc (.cells (blk .u8 abc13) 5 (3, 4)) = w1 at *
  refine (chPut_any (some ⟨w.heap.size, 0, none⟩) 3 3 abc13 w1 ((Row.of_block g1 _ abc13_wf (List.prefix_refl _)).more (block_lt g1)) rfl (by omega)).mono ?_
  rintro e w2 ⟨v2, rfl, k2, d2⟩
  rw [abc13_put, hL.out] at k2
  rw [abc13_ok]
  have b2 := b1.trans (d2.mono b1.size)
  obtain ⟨A2, c2, rfl, r2, hc2, _⟩ := k2.row hLw.out
  rw [hLl.out] at hc2 ⊢
  have R2 := Lib.hid r2
  clear k2 d2 r2 b1 g1
  go_wp2_with fail
  refine (chGet_any A2 9 c2 L w2 R2.out hLl.out hc2 (by omega)).mono ?_
  rintro e w3 ⟨v3, rfl, k3, d3⟩
  rw [hG.out] at k3
  rw [hM.out, hE.out]
  have b3 := b2.trans (d3.mono b2.size)
  have R3 := Lib.hid ((R2.out.below d3).more d3.size)
  obtain ⟨A3, c3, rfl, r3, hc3, _⟩ := k3.row abc13_wf
  have P3 := Lib.hid r3
  clear k3 d3 r3 b2 R2
  go_wp2_with fail
  have b4 : Below w.heap.size w (w3.alloc (.cells (blk .u8 bad13) 5)) := b3.alloc b3.size _
  have g4 : (w3.alloc (.cells (blk .u8 bad13) 5)).heap[w3.heap.size]? = some (.cells (blk .u8 bad13) 5 (0, 0)) := heap_alloc_new w3 _
  have R4 := Lib.hid ((R3.out.below (bel_alloc w3 (.cells (blk .u8 bad13) 5))).more (bel_alloc w3 (.cells (blk .u8 bad13) 5)).size)
  have P4 := Lib.hid ((P3.out.below (bel_alloc w3 (.cells (blk .u8 bad13) 5))).more (bel_alloc w3 (.cells (blk .u8 bad13) 5)).size)
  show Calls _ _ _ (w3.alloc (.cells (blk .u8 bad13) 5)) _
  generalize w3.alloc (.cells (blk .u8 bad13) 5) = w4 at *
  refine (chGet_any (some ⟨w3.heap.size, 0, none⟩) 7 7 bad13 w4 ((Row.of_block g4 _ bad13_wf (List.prefix_refl _)).more (block_lt g4)) rfl (by omega) (by omega)).mono ?_
  rintro e w5 ⟨v5, rfl, k5, d5⟩
  have hbg : ckG bad13 = [] := ckG_no (by rw [bad13_err]; decide)
  have hbm : ckM bad13 = 0 := ckM_no (by rw [bad13_err]; decide)
  rw [hbg] at k5
  rw [hbm, bad13_err]
  obtain ⟨A5, c5, rfl, _⟩ := k5.form
  have b5 := b4.trans (d5.mono b4.size)
  have R5 := Lib.hid ((R4.out.below d5).more d5.size)
  have P5 := Lib.hid ((P4.out.below d5).more d5.size)
  clear k5 d5 b3 b4 g4 R3 P3 R4 P4 hbg hbm
  obtain ⟨bb, oo, rfl, _, q0⟩ := R5.out.at_ (i := 0) (by rw [hLl.out]; omega)
  obtain ⟨bb', oo', ee, _, q1⟩ := R5.out.at_ (i := 1) (by rw [hLl.out]; omega)
  injection ee with ee
  injection ee with e1 e2
  subst e1 e2
  rw [hL0.out, Nat.add_zero] at q0
  rw [hL1.out] at q1
  have HS : Hid (∀ c', Calls Try.prog 17 #[.slice A3 3 c3, .slice (some ⟨w5.heap.size, 0, none⟩) 3 c'] (w5.alloc (.cells #[.int .u8 97, .int .u8 98, .int .u8 99] 5 (3, 4))) fun e w' => e = .returned (.bool true) ∧ ∃ m, w' = (w5.alloc (.cells #[.int .u8 97, .int .u8 98, .int .u8 99] 5 (3, 4))).drewN m) := Lib.hid (fun c' => by
    have g6 : (w5.alloc (.cells (blk .u8 abc13) 5 (3, 4))).heap[w5.heap.size]? = some (.cells (blk .u8 abc13) 5 (3, 4)) := heap_alloc_new w5 _
    exact same_yes_u8 A3 _ 3 c3 c' abc13 _ _ _ (P5.out.below (bel_alloc w5 _)) (Row.of_block g6 _ abc13_wf (List.prefix_refl _)) rfl (by omega))
  have b6 : Below w.heap.size w (w5.alloc (.cells #[.int .u8 97, .int .u8 98, .int .u8 99] 5 (3, 4))) := b5.alloc b5.size _
  go_wp2_with fail
  refine (HS.out _).mono ?_
  rintro e w7 ⟨rfl, m7, rfl⟩
  have b7 := below_drewN b6 m7
  clear b6 HS
  go_wp2
  go_ret
  exact ⟨rfl, b7⟩
end Go.Proofs.Ytooelfmfcihlkaa
namespace Go.Proofs.Ytooelfmfcihlkaa
open Go.RowKit
set_option linter.unusedVariables false
set_option maxRecDepth 100000

theorem belN13 {B : Nat} {a w : World} (h : Below B a w) (n : Nat) : Below B a (w.drewN n) := ⟨h.os, h.tape, h.output, h.size, h.block⟩
theorem wf_u32c {n : Int} (h : (Lit.int .u32 n).wf = true) : 0 ≤ n ∧ n < 4294967296 := by
  simp [Lit.wf, IntKind.min, IntKind.max, IntKind.signed, IntKind.bits] at h; omega
/-- A cell of a slice of the call's own, and what a store into it makes. -/
theorem own_cell {w w0 : World} {base g n c : Nat} {R : List Int} (h : Own .u8 5 w base (.slice (some ⟨g, 0, none⟩) n c) R) (hn : R.length = n) (hb : Below base w0 w) (i : Nat) (hi : i < n) :
    w.cell? ⟨g, i, none⟩ = some (.int .u8 (nth R i)) ∧ w.frozen? ⟨g, i, none⟩ = false ∧ ∀ y, Own .u8 5 (w.setCell ⟨g, i, none⟩ (.int .u8 y)) base (.slice (some ⟨g, 0, none⟩) n c) (R.set i y) ∧ Below base w0 (w.setCell ⟨g, i, none⟩ (.int .u8 y)) := by
  obtain ⟨g', cap, e, h1, h2, h3, h4, h5, h6⟩ := h.cells (by omega)
  injection e with e1 e2 e3
  injection e1 with e1
  injection e1 with e1
  subst e1 e3
  exact ⟨h4 i (by omega), h5 i, fun y => ⟨h6 w i y rfl (by omega), hb.setCell h1 _⟩⟩
set_option maxHeartbeats 8000000 in
theorem walk_ChunkTurned (A : Option Addr) (n c : Nat) (x : List Int) (a1 a2 : Int) (w : World) (hr : Row .u8 w w.heap.size A x) (hn : x.length = n) (hc : n ≤ c) (hm : c ≤ 140737488351232) (w1 : (Lit.int .i64 a1).wf = true) (w2 : (Lit.int .u32 a2).wf = true) :
    Calls Try.prog 8 #[.slice A n c, .int .i64 a1, .int .u32 a2] w fun e w' => e = .returned (.bool true) ∧ Below w.heap.size w w' := by
  have hmk := wf_u32c w2
  obtain ⟨mask, rfl⟩ := Int.eq_ofNat_of_zero_le hmk.1
  have hmask : mask < 4294967296 := by omega
  clear hmk w2
  have HR := Lib.hid hr
  have HN := Lib.hid hn
  have hwf := Lib.hid hr.1
  clear hr hn
  by_cases h2 : 1024 < n
  · have HE : Hid (ckPE x = 2) := Lib.hid (ckPE_big (by rw [HN.out]; exact h2))
    have HP : Hid (ckPut x = []) := Lib.hid (ckPut_big (by rw [HN.out]; exact h2))
    go_enter Try.func8, Try.ntmps8
    go_wp2_with fail
    refine (chPut_any A n c x w HR.out HN.out (by omega)).mono ?_
    rintro e w1 ⟨v1, rfl, k1, b1⟩
    rw [HP.out] at k1
    rw [HE.out]
    obtain ⟨Av, cv, rfl, _⟩ := k1.form
    go_wp2_with (go_at_call 21; refine (known13_yes _).mono ?_; rintro e w2 ⟨rfl, b2⟩)
    go_ret
    exact ⟨rfl, b1.trans (b2.mono b1.size)⟩
  have HE : Hid (ckPE x = 0) := Lib.hid (ckPE_ok (by rw [HN.out]; omega))
  have HP : Hid (ckPut x = ckL x) := Lib.hid (ckPut_ok (by rw [HN.out]; omega))
  have HLl : Hid ((ckL x).length = 6 + n) := Lib.hid (by rw [ckL_len, HN.out])
  have hback := ck_back (p := x) (by rw [HN.out]; omega) []
  rw [List.append_nil, HN.out] at hback
  have E1 : Hid (ckE (ckL x) = 0) := Lib.hid hback.1
  have G1 : Hid (ckG (ckL x) = x) := Lib.hid hback.2.1
  have M1 : Hid (ckM (ckL x) = 6 + n) := Lib.hid hback.2.2
  have T1 := Lib.hid (fun a => TW.sum x a mask)
  have T2 := Lib.hid (fun a => TW.load HN.out a mask hwf.out)
  have hx1 : Hid (x.length ≤ 1024) := Lib.hid (by rw [HN.out]; omega)
  clear hback
  go_enter Try.func8, Try.ntmps8
  go_wp2_with fail
  refine (chPut_any A n c x w HR.out HN.out (by omega)).mono ?_
  rintro e w3 ⟨v3, rfl, k3, b3⟩
  rw [HP.out] at k3
  rw [HE.out]
  obtain ⟨g, cv, rfl, hcv, hge⟩ : ∃ g cv, v3 = .slice (some ⟨g, 0, none⟩) (6 + n) cv ∧ 6 + n ≤ cv ∧ w.heap.size ≤ g := by
    rcases k3 with ⟨_, h0⟩ | ⟨g, q, cap, r, rfl, hg, hq, _, hqc, _⟩
    · have h9 := HLl.out; rw [h0, List.length_nil] at h9; omega
    · rw [HLl.out] at hq; subst hq; exact ⟨g, cap, rfl, hqc, hg⟩
  have o3 := k3.own
  have O3 := Lib.hid o3
  have B3 := Lib.hid b3
  have t1 : (((6 + n : Nat) : Int) != 6 + (n : Int)) = false := by simp
  clear k3 o3 b3
  go_wp2_with fail
  rw [show (8 * (6 + (n : Int) - 2)) = ((8 * (4 + n) : Nat) : Int) by omega]
  refine (pickS a1 (8 * (4 + n)) w1 (by omega) (by omega) _).mono ?_
  rintro e w4 ⟨at_, hat, rfl, rfl⟩
  by_cases h32 : at_ < 32
  · have i32 : ¬ (at_ : Int) ≥ 32 := by omega
    have TT := Lib.hid (T1.out at_)
    clear T1 T2
    go_wp2
    go_loopw [11, 12, 13] (fun q i _ wr => ∃ (j cnt : Nat) (R : List Int), j ≤ 32 ∧ i = .int .i64 j ∧ q = .int .i64 cnt ∧ cnt ≤ j ∧ Own .u8 5 wr w.heap.size (.slice (some ⟨g, 0, none⟩) (6 + n) cv) R ∧ TW x 2 4 at_ mask j cnt R ∧ Below w.heap.size w wr) (fun _ i _ _ => 32 - (intOf i).toNat)
    case atStart => exact ⟨0, 0, ckL x, by omega, rfl, rfl, by omega, O3.out, TT.out, B3.out⟩
    case round =>
      obtain ⟨j, cnt, R, hj, rfl, rfl, hcj, own, tw, bel⟩ := hrel
      have hRl : Hid (R.length = 6 + n) := Lib.hid (by rw [tw.len.1, HN.out])
      by_cases hlt : j < 32
      · by_cases hbit : mask.testBit j = true
        · have ht := mask_yes mask j hbit
          by_cases hin : at_ + j < 8 * 4
          · have hge : ((at_ : Int) + 16 + (j : Int)) / 8 ≥ 2 := by omega
            have hto : ((at_ : Int) + 16 + (j : Int)) / 8 < 6 := by omega
            have hix : ((at_ : Int) + 16 + (j : Int)) / 8 < 6 + (n : Int) := by omega
            have hix2 : (at_ + 16 + j) / 8 < 6 + n := by omega
            obtain ⟨cc, fz, st⟩ := own_cell own hRl.out bel ((at_ + 16 + j) / 8) hix2
            obtain ⟨st1, st2⟩ := st (bits .xor .u8 (nth R ((at_ + 16 + j) / 8)) (2 ^ ((at_ + 16 + j) % 8) % 256))
            have tw2 := Lib.hid (tw.yes hbit hin ((at_ + 16 + j) / 8) ((at_ + 16 + j) % 8) (by omega) (by omega))
            have ST1 := Lib.hid st1
            have ST2 := Lib.hid st2
            clear st st1 st2 own tw bel
            go_wp2
            go_roundw
            case rel => exact ⟨j + 1, cnt + 1, _, by omega, by go_num, by go_num, by omega, ST1.out, tw2.out, ST2.out⟩
            case measure => simp [intOf]; omega
          · have hge : ((at_ : Int) + 16 + (j : Int)) / 8 ≥ 2 := by omega
            have hto : ¬ ((at_ : Int) + 16 + (j : Int)) / 8 < 6 := by omega
            have tw2 := tw.no (fun h => hin h.2)
            go_wp2
            go_roundw
            case rel => exact ⟨j + 1, cnt, R, by omega, by go_num, rfl, by omega, own, tw2, bel⟩
            case measure => simp [intOf]; omega
        · have ht := mask_no mask j hbit
          have tw2 := tw.no (fun h => hbit h.1)
          clear hbit
          go_wp2
          go_roundw
          case rel => exact ⟨j + 1, cnt, R, by omega, by go_num, rfl, by omega, own, tw2, bel⟩
          case measure => simp [intOf]; omega
      · obtain rfl : j = 32 := by omega
        obtain ⟨Ar, cr, er, rr, _⟩ := own.row (tw.wf (by have := hx1.out; omega) hwf.out)
        injection er with er1 er2 er3
        subst er1
        have RR := Lib.hid rr
        have BEL := Lib.hid bel
        have hsz := bel.size
        clear er2 er3 rr own
        by_cases hc0 : cnt = 0
        · subst hc0
          have hRR : R = ckL x := tw.none_ hwf.out
          subst hRR
          have t5 : (((6 + n : Nat) : Int) == 6 + (n : Int)) = true := by simp
          clear tw bel
          go_wp2_with fail
          refine (chGet_any (some ⟨g, 0, none⟩) (6 + n) cv (ckL x) wr RR.out hRl.out hcv (by omega)).mono ?_
          rintro e w5 ⟨v5, rfl, k5, d5⟩
          rw [G1.out] at k5
          rw [M1.out, E1.out]
          have b5 := BEL.out.trans (d5.mono hsz)
          obtain ⟨A5, c5, rfl, r5, _⟩ := k5.row hwf.out
          rw [HN.out]
          have R5 := Lib.hid r5
          have HX := Lib.hid ((HR.out.below b5).more b5.size)
          clear k5 d5 r5
          go_wp2_with fail
          refine (same_yes_u8 A5 A n c5 c x w5 _ _ R5.out HX.out HN.out (by omega)).mono ?_
          rintro e w6 ⟨rfl, m6, rfl⟩
          have b6 := belN13 b5 m6
          go_wp2_with (go_at_call 21; refine (known13_yes _).mono ?_; rintro e w7 ⟨rfl, b7⟩)
          go_ret
          exact ⟨rfl, b6.trans (b7.mono b6.size)⟩
        · have E5 : Hid (ckE R = 5) := Lib.hid (tw.some_ hx1.out hwf.out hc0 hmask)
          have t5 : ((cnt : Int) == 0) = false := by simp; omega
          clear tw bel
          go_wp2_with fail
          refine (chGet_any (some ⟨g, 0, none⟩) (6 + n) cv R wr RR.out hRl.out hcv (by omega)).mono ?_
          rintro e w5 ⟨v5, rfl, k5, d5⟩
          have hbg : ckG R = [] := ckG_no (by rw [E5.out]; decide)
          have hbm : ckM R = 0 := ckM_no (by rw [E5.out]; decide)
          rw [hbg] at k5
          rw [hbm, E5.out]
          have b5 := BEL.out.trans (d5.mono hsz)
          obtain ⟨A5, c5, rfl, _⟩ := k5.form
          clear k5 d5 hbg hbm
          go_wp2_with (go_at_call 21; refine (known13_yes _).mono ?_; rintro e w7 ⟨rfl, b7⟩)
          go_ret
          exact ⟨rfl, b5.trans (b7.mono b5.size)⟩
  · have i32 : (at_ : Int) ≥ 32 := by omega
    have TT := Lib.hid (T2.out (at_ - 32))
    clear T1 T2
    go_wp2
    go_loopw [11, 12, 13] (fun q i _ wr => ∃ (j cnt : Nat) (R : List Int), j ≤ 32 ∧ i = .int .i64 j ∧ q = .int .i64 cnt ∧ cnt ≤ j ∧ Own .u8 5 wr w.heap.size (.slice (some ⟨g, 0, none⟩) (6 + n) cv) R ∧ TW x 6 n (at_ - 32) mask j cnt R ∧ Below w.heap.size w wr) (fun _ i _ _ => 32 - (intOf i).toNat)
    case atStart => exact ⟨0, 0, ckL x, by omega, rfl, rfl, by omega, O3.out, TT.out, B3.out⟩
    case round =>
      obtain ⟨j, cnt, R, hj, rfl, rfl, hcj, own, tw, bel⟩ := hrel
      have hRl : Hid (R.length = 6 + n) := Lib.hid (by rw [tw.len.1, HN.out])
      by_cases hlt : j < 32
      · by_cases hbit : mask.testBit j = true
        · have ht := mask_yes mask j hbit
          by_cases hin : (at_ - 32) + j < 8 * n
          · have hge : ((at_ : Int) + 16 + (j : Int)) / 8 ≥ 6 := by omega
            have hto : ((at_ : Int) + 16 + (j : Int)) / 8 < 6 + (n : Int) := by omega
            have hix : ((at_ : Int) + 16 + (j : Int)) / 8 < 6 + (n : Int) := by omega
            have hix2 : (at_ + 16 + j) / 8 < 6 + n := by omega
            obtain ⟨cc, fz, st⟩ := own_cell own hRl.out bel ((at_ + 16 + j) / 8) hix2
            obtain ⟨st1, st2⟩ := st (bits .xor .u8 (nth R ((at_ + 16 + j) / 8)) (2 ^ ((at_ + 16 + j) % 8) % 256))
            have tw2 := Lib.hid (tw.yes hbit hin ((at_ + 16 + j) / 8) ((at_ + 16 + j) % 8) (by omega) (by omega))
            have ST1 := Lib.hid st1
            have ST2 := Lib.hid st2
            clear st st1 st2 own tw bel
            go_wp2
            go_roundw
            case rel => exact ⟨j + 1, cnt + 1, _, by omega, by go_num, by go_num, by omega, ST1.out, tw2.out, ST2.out⟩
            case measure => simp [intOf]; omega
          · have hge : ((at_ : Int) + 16 + (j : Int)) / 8 ≥ 6 := by omega
            have hto : ¬ ((at_ : Int) + 16 + (j : Int)) / 8 < 6 + (n : Int) := by omega
            have tw2 := tw.no (fun h => hin h.2)
            go_wp2
            go_roundw
            case rel => exact ⟨j + 1, cnt, R, by omega, by go_num, rfl, by omega, own, tw2, bel⟩
            case measure => simp [intOf]; omega
        · have ht := mask_no mask j hbit
          have tw2 := tw.no (fun h => hbit h.1)
          clear hbit
          go_wp2
          go_roundw
          case rel => exact ⟨j + 1, cnt, R, by omega, by go_num, rfl, by omega, own, tw2, bel⟩
          case measure => simp [intOf]; omega
      · obtain rfl : j = 32 := by omega
        obtain ⟨Ar, cr, er, rr, _⟩ := own.row (tw.wf (by have := hx1.out; omega) hwf.out)
        injection er with er1 er2 er3
        subst er1
        have RR := Lib.hid rr
        have BEL := Lib.hid bel
        have hsz := bel.size
        clear er2 er3 rr own
        by_cases hc0 : cnt = 0
        · subst hc0
          have hRR : R = ckL x := tw.none_ hwf.out
          subst hRR
          have t5 : (((6 + n : Nat) : Int) == 6 + (n : Int)) = true := by simp
          clear tw bel
          go_wp2_with fail
          refine (chGet_any (some ⟨g, 0, none⟩) (6 + n) cv (ckL x) wr RR.out hRl.out hcv (by omega)).mono ?_
          rintro e w5 ⟨v5, rfl, k5, d5⟩
          rw [G1.out] at k5
          rw [M1.out, E1.out]
          have b5 := BEL.out.trans (d5.mono hsz)
          obtain ⟨A5, c5, rfl, r5, _⟩ := k5.row hwf.out
          rw [HN.out]
          have R5 := Lib.hid r5
          have HX := Lib.hid ((HR.out.below b5).more b5.size)
          clear k5 d5 r5
          go_wp2_with fail
          refine (same_yes_u8 A5 A n c5 c x w5 _ _ R5.out HX.out HN.out (by omega)).mono ?_
          rintro e w6 ⟨rfl, m6, rfl⟩
          have b6 := belN13 b5 m6
          go_wp2_with (go_at_call 21; refine (known13_yes _).mono ?_; rintro e w7 ⟨rfl, b7⟩)
          go_ret
          exact ⟨rfl, b6.trans (b7.mono b6.size)⟩
        · have E5 : Hid (ckE R = 5) := Lib.hid (tw.some_ hx1.out hwf.out hc0 hmask)
          have t5 : ((cnt : Int) == 0) = false := by simp; omega
          clear tw bel
          go_wp2_with fail
          refine (chGet_any (some ⟨g, 0, none⟩) (6 + n) cv R wr RR.out hRl.out hcv (by omega)).mono ?_
          rintro e w5 ⟨v5, rfl, k5, d5⟩
          have hbg : ckG R = [] := ckG_no (by rw [E5.out]; decide)
          have hbm : ckM R = 0 := ckM_no (by rw [E5.out]; decide)
          rw [hbg] at k5
          rw [hbm, E5.out]
          have b5 := BEL.out.trans (d5.mono hsz)
          obtain ⟨A5, c5, rfl, _⟩ := k5.form
          clear k5 d5 hbg hbm
          go_wp2_with (go_at_call 21; refine (known13_yes _).mono ?_; rintro e w7 ⟨rfl, b7⟩)
          go_ret
          exact ⟨rfl, b5.trans (b7.mono b5.size)⟩
end Go.Proofs.Ytooelfmfcihlkaa
namespace Go.Proofs.Ytooelfmfcihlkaa.chunkTurned
open Go.ChangeShapes Go.WideShapes Go.ChangeAt Go.RowKit
open Go.ChangeMaps (open_string shut_string)
set_option linter.unusedVariables false

theorem own : ownKnob Try.prog.godebug = none := by kernel_rfl
theorem laidOut : laidOutB Try.prog = true := by kernel_rfl

set_option maxRecDepth 100000 in
theorem lifted (os : Os) (started : os.Started) (H : Type) (enc : TypeId × Value → H) :
    ReturnsInHanded {} Try.checked os 8 .any (Rows.chunkTurnedSpec.pre6 enc Try.prog Try.f8 Rows.chunkTurnedRow.domain false) (Rows.chunkTurnedSpec.post enc Try.prog Try.f8 false true false false) := by
  refine returnsInHanded_of_change_sized (C := Try.checked) own started (by kernel_rfl) Try.func8
    (ChangeSpec.witness6 (enc := enc) (C := Try.checked) false ⟨#[], #[.slice none 0 0, .int .i64 0, .int .u32 0], []⟩ 8 (by kernel_rfl) (by kernel_rfl) (by kernel_rfl) (by kernel_rfl)) ?_
  intro W base args ds gs before hval0 hW hcnd hsz0 _
  have hsz : (DataW.weightsEach Try.prog (Try.f8.params.toList ++ Rows.chunkTurnedSpec.plain.varTypes Try.prog) (ds ++ gs)).all (· ≤ reachBytes) = true := hsz0
  clear hsz0
  have hval : ∀ (j : Nat) t v, Try.f8.params[j]? = some t → args[j]? = some v → Value.okWide Try.prog W .any base t v := hval0
  have hW' := hW
  obtain ⟨p, q, hA0, hV, rfl, hfz, hnd⟩ := hW
  have hA : DataW.TrodAll enc Try.prog W 0 (fun _ => true) true Try.f8.params.toList args.toList ds p := hA0
  rw [Try.params8] at hA hval hsz
  obtain ⟨v0, vs0, d0, ds0, p0, q0, hargs, rfl, rfl, h0, r0⟩ := trodAll_cons hA
  obtain ⟨v1, vs1, d1, ds1, p1, q1, rfl, rfl, rfl, h1, r1⟩ := trodAll_cons r0
  obtain ⟨v2, vs2, d2, ds2, p2, q2, rfl, rfl, rfl, h2, r2⟩ := trodAll_cons r1
  obtain ⟨rfl, rfl, rfl⟩ := trodAll_nil r2
  obtain rfl : args = #[v0, v1, v2] := by cases args; simp_all
  obtain ⟨rfl, rfl⟩ := trodVars_none hV
  obtain ⟨a0, l0, c0, rfl⟩ := okWide_slice Try.underlying22 (hval 0 22 v0 rfl rfl)
  have k0 := h0
  have lt0 : ∀ x ∈ p0, x.block < W.heap.size := by obtain ⟨m, hm⟩ := k0; exact DataW.trod_lt m _ _ _ hm
  obtain ⟨x0, w0, n0, s0, r0d⟩ := row_in Try.underlying22 Try.underlying5 (by kernel_rfl) h0 lt0
  have m0 := reach_in hsz 0 rfl rfl Try.underlying22 (of_decide_eq_true (by kernel_rfl)) r0d
  obtain ⟨a1, rfl, rfl, rfl, w1⟩ := open_int Try.underlying3 (hval 1 3 v1 rfl rfl) h1
  obtain ⟨a2, rfl, rfl, rfl, w2⟩ := open_int Try.underlying41 (hval 2 41 v2 rfl rfl) h2
  clear hA0 hval0
  refine (walk_ChunkTurned a0 l0 c0 x0 a1 a2 W w0 n0 s0 m0 w1 w2).mono fun e W' ⟨he, bel⟩ => ?_
  subst he
  exact ⟨_, rfl, _, _, _, [], _, [], hW', trodAll_mk1 (shut_bool Try.underlying4 _), (trodAll_cons_mk (Below.trod laidOut (by kernel_rfl) (of_decide_eq_true (by kernel_rfl)) k0 bel lt0) (trodAll_cons_mk (shut_int Try.underlying3 w1) (trodAll_cons_mk (shut_int Try.underlying41 w2) trodAll_mk0))), rfl, bel.frame _, fun h => by cases h⟩

theorem over : Rows.chunkTurnedRow.holds Try.pinned (OpenSpec.ofChange Rows.chunkTurnedSpec) :=
  OpenClaim.holds_of_wide 8 Try.f8 rfl rfl rfl rfl rfl rfl rfl ⟨rfl, rfl, rfl, rfl, rfl⟩ rfl rfl rfl rfl rfl (by kernel_rfl) Try.func8 (by kernel_rfl)
    (of_decide_eq_true (by kernel_rfl)) (by unfold Func.isWrapper; first | (rw [if_pos (by decide +kernel)]; kernel_rfl) | (rw [if_neg (by decide +kernel)]; exact ⟨rfl, rfl⟩))
    (fun os started H enc _ => lifted os started H enc)

theorem proved : Rows.ChunkTurnedSaid := over
#print axioms proved
end Go.Proofs.Ytooelfmfcihlkaa.chunkTurned
