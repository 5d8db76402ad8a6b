/-
  The statement ReplyGets of outstationlaw04 holds: for every input that can be read, the call returns true, and each argument reads as it did. No condition of its own.
-/
import Derived.Test.YtobhllcnljggiaaJReplyGetsH
import Derived.Test.YtobhllcnljggiaaJReplyGetsG
import Derived.Test.YtobhllcnljggiaaJReplyGetsE
import Derived.Test.YtobhllcnljggiaaJReplyGetsF
import Derived.Test.YtobhllcnljggiaaJReplyGetsA
import Derived.Test.YtobhllcnljggiaaJReplyGetsD
import Derived.Test.YtobhllcnljggiaaRows
import Derived.Test.YtobhllcnljggiaaJReplyGetsB
namespace Go.Proofs.Ytobhllcnljggiaa
open Go.RowKit
set_option linter.unusedVariables false

set_option maxHeartbeats 4000000 in
set_option maxRecDepth 100000 in
theorem refPutR_echo (c a n : Int) (on : List Bool) (set fl : List Int) (x : Int) (ron : List Bool) (rset : List Int) (fs : List (List Int)) (Ao As Ap Bo Bs Bf : Option Addr) (lo ls lp co cs cp mo ms mf eo es ef : Nat) (w : World) (h : Asked w w.heap.size (⟨c, a, n, on, set, fl⟩ : Req) Ao As Ap lo ls lp) (hr : Repd w w.heap.size (⟨x, ron, rset, fs⟩ : Rep) Bo Bs Bf mo ms mf) (hb : lp ≤ 100000) (hk : chkR (⟨c, a, n, on, set, fl⟩ : Req) (⟨x, ron, rset, fs⟩ : Rep) = 0) (hx : x = 0) (h1 : ¬ (c = 1 ∨ c = 2)) (h2 : ¬ (c = 3 ∨ c = 4)) (h3 : c ≠ 20) :
    Calls Try.prog 12 #[.agg #[.int .i64 c, .int .i64 a, .int .i64 n, .slice Ao lo co, .slice As ls cs, .slice Ap lp cp], .agg #[.int .i64 x, .slice Bo mo eo, .slice Bs ms es, .slice Bf mf ef]] w (GivesOwn w (putR (⟨c, a, n, on, set, fl⟩ : Req) (⟨x, ron, rset, fs⟩ : Rep)) 0) := by
  have t0 := TB.new2 w #[.int .i64 c, .int .i64 a, .int .i64 n, .slice Ao lo co, .slice As ls cs, .slice Ap lp cp] #[.int .i64 x, .slice Bo mo eo, .slice Bs ms es, .slice Bf mf ef] 26 29
  have hsz : w.heap.size ≤ ((w.alloc (.cells #[.int .i64 c, .int .i64 a, .int .i64 n, .slice Ao lo co, .slice As ls cs, .slice Ap lp cp] 26)).alloc (.cells #[.int .i64 x, .slice Bo mo eo, .slice Bs ms es, .slice Bf mf ef] 29)).heap.size := t0.bel.size
  have H := Lib.hid ((h.below t0.bel).more hsz)
  have HR := Lib.hid ((hr.below t0.bel).more hsz)
  have HC := Lib.hid (refRp_any (⟨c, a, n, on, set, fl⟩ : Req) (⟨x, ron, rset, fs⟩ : Rep) Ao As Ap Bo Bs Bf lo ls lp co cs cp mo ms mf eo es ef _ H.out HR.out hb)
  rw [hk] at HC
  obtain ⟨q1, q2, q3⟩ := rep_stray hk hx
  simp only at q1 q2 q3
  have hq := (chkR_zero hk hx).1
  have H5 := Lib.hid (putL_five hq h3)
  have hmf : mf = 0 := by have h1 := hr.mf; have h2 := q3 h3; simp only at h1; omega
  have HP : Hid (putR (⟨c, a, n, on, set, fl⟩ : Req) (⟨x, ron, rset, fs⟩ : Rep) = (putL (⟨c, a, n, on, set, fl⟩ : Req)).take 5) := Lib.hid (by
    unfold putR formR
    rw [if_neg (show ¬ chkR (⟨c, a, n, on, set, fl⟩ : Req) (⟨x, ron, rset, fs⟩ : Rep) ≠ 0 by rw [hk]; simp), if_neg (show ¬ x ≠ 0 by rw [hx]; simp), if_neg h1, if_neg h2, if_neg h3])
  have HQ := Lib.hid hq
  have HA := Lib.hid h
  have kB : Hid (clB c = false) := Lib.hid (decide_eq_false h1)
  have kW : Hid (clW c = false) := Lib.hid (decide_eq_false h2)
  have kF : Hid (clF c = false) := Lib.hid (decide_eq_false h3)
  subst hx hmf
  clear h hr hk q1 q2 q3 h1 h2 h3 hq
  go_enter Try.func12, Try.ntmps12
  go_wp2_with fail
  refine HC.out.mono ?_
  rintro e w1 ⟨rfl, b1⟩
  have t1 := t0.below b1
  clear b1 t0 HC hsz
  obtain ⟨d0, d1, d2, d3, _⟩ := t1.c4
  obtain ⟨r0, r1, r2, r3, r4, r5, _⟩ := t1.r6
  go_wp2_with fail
  refine (refKindBits_any c a n Ao As Ap lo co ls cs lp cp _).mono ?_
  rintro e w1b ⟨rfl, b1b⟩
  rw [kB.out]
  have t1b := t1.below b1b
  clear d0 d1 d2 d3 r0 r1 r2 r3 r4 r5 t1 b1b
  obtain ⟨d0, d1, d2, d3, _⟩ := t1b.c4
  obtain ⟨r0, r1, r2, r3, r4, r5, _⟩ := t1b.r6
  go_wp2_with fail
  refine (refWords_kind c a n Ao As Ap lo co ls cs lp cp _).mono ?_
  rintro e w2 ⟨rfl, b2⟩
  rw [kW.out]
  have t2 := t1b.below b2
  clear d0 d1 d2 d3 r0 r1 r2 r3 r4 r5 t1b b2
  obtain ⟨d0, d1, d2, d3, _⟩ := t2.c4
  obtain ⟨r0, r1, r2, r3, r4, r5, _⟩ := t2.r6
  go_wp2
  go_loopw [7, 8] (fun v i wr => i = .int .i64 0 ∧ v = .slice none 0 0 ∧ TB w w.heap.size (.cells #[.int .i64 c, .int .i64 a, .int .i64 n, .slice Ao lo co, .slice As ls cs, .slice Ap lp cp] 26 (0, 0)) (.cells #[.int .i64 0, .slice Bo mo eo, .slice Bs ms es, .slice Bf 0 ef] 29 (0, 0)) wr) (fun _ i _ => 0)
  case atStart => exact ⟨rfl, rfl, t2⟩
  case round =>
    clear t2
    obtain ⟨rfl, rfl, t5⟩ := hrel
    clear d0 d1 d2 d3 r0 r1 r2 r3 r4 r5
    obtain ⟨d0, d1, d2, d3, _⟩ := t5.c4
    obtain ⟨r0, r1, r2, r3, r4, r5, _⟩ := t5.r6
    go_wp2_with fail
    refine (refKindBits_any c a n Ao As Ap lo co ls cs lp cp _).mono ?_
    rintro e w6 ⟨rfl, b6⟩
    rw [kB.out]
    have t6 := t5.below b6
    clear d0 d1 d2 d3 r0 r1 r2 r3 r4 r5 t5 b6
    obtain ⟨d0, d1, d2, d3, _⟩ := t6.c4
    obtain ⟨r0, r1, r2, r3, r4, r5, _⟩ := t6.r6
    go_wp2_with fail
    refine (refWords_kind c a n Ao As Ap lo co ls cs lp cp _).mono ?_
    rintro e w7 ⟨rfl, b7⟩
    rw [kW.out]
    have t7 := t6.below b7
    clear d0 d1 d2 d3 r0 r1 r2 r3 r4 r5 t6 b7
    obtain ⟨d0, d1, d2, d3, _⟩ := t7.c4
    obtain ⟨r0, r1, r2, r3, r4, r5, _⟩ := t7.r6
    go_wp2_with fail
    refine (refFiles_kind c a n Ao As Ap lo co ls cs lp cp _).mono ?_
    rintro e w8 ⟨rfl, b8⟩
    rw [kF.out]
    have t8 := t7.below b8
    clear d0 d1 d2 d3 r0 r1 r2 r3 r4 r5 t7 b8
    obtain ⟨d0, d1, d2, d3, _⟩ := t8.c4
    obtain ⟨r0, r1, r2, r3, r4, r5, _⟩ := t8.r6
    go_wp2_with fail
    refine (refPut_any (⟨c, a, n, on, set, fl⟩ : Req) Ao As Ap lo ls lp co cs cp _ ((HA.out.below t8.bel).more t8.bel.size)).mono ?_
    rw [HQ.out]
    rintro e w9 ⟨v9, rfl, own9, b9⟩
    have t9 := t8.below b9
    obtain ⟨A1, c1, rfl, _, hle, _⟩ := own9.row (putL_wf (⟨c, a, n, on, set, fl⟩ : Req))
    have OW := Lib.hid ((own9.front H5.out).mono (base' := w.heap.size) (by have := t8.bel.size; omega))
    have bel := t9.bel
    obtain ⟨n1, hn1⟩ : ∃ y, (putL (⟨c, a, n, on, set, fl⟩ : Req)).length = y := ⟨_, rfl⟩
    rw [hn1] at hle
    rw [hn1]
    have hc5 : (5 : Int) ≤ (c1 : Int) := by have := H5.out; omega
    clear own9 b9 t8 hn1 d0 d1 d2 d3 r0 r1 r2 r3 r4 r5 t9
    go_wp2
    go_ret2
    exact ⟨_, rfl, by rw [HP.out]; exact OW.out, bel⟩

theorem refPutR_any (q : Req) (r : Rep) (Ao As Ap Bo Bs Bf : Option Addr) (lo ls lp co cs cp mo ms mf eo es ef : Nat) (w : World) (h : Asked w w.heap.size q Ao As Ap lo ls lp) (hr : Repd w w.heap.size r Bo Bs Bf mo ms mf) (hb : lp ≤ 100000) :
    Calls Try.prog 12 #[.agg #[.int .i64 q.c, .int .i64 q.a, .int .i64 q.n, .slice Ao lo co, .slice As ls cs, .slice Ap lp cp], .agg #[.int .i64 r.x, .slice Bo mo eo, .slice Bs ms es, .slice Bf mf ef]] w (GivesOwn w (putR q r) (chkR q r)) := by
  by_cases hk : chkR q r = 0
  · rw [hk]
    by_cases hx : r.x = 0
    · obtain ⟨c, a, n, on, set, fl⟩ := q
      obtain ⟨x, ron, rset, fs⟩ := r
      by_cases h1 : c = 1 ∨ c = 2
      · exact refPutR_bits c a n on set fl x ron rset fs Ao As Ap Bo Bs Bf lo ls lp co cs cp mo ms mf eo es ef w h hr hb hk hx h1
      · by_cases h2 : c = 3 ∨ c = 4
        · exact refPutR_words c a n on set fl x ron rset fs Ao As Ap Bo Bs Bf lo ls lp co cs cp mo ms mf eo es ef w h hr hb hk hx h2
        · by_cases h3 : c = 20
          · exact refPutR_files c a n on set fl x ron rset fs Ao As Ap Bo Bs Bf lo ls lp co cs cp mo ms mf eo es ef w h hr hb hk hx h3
          · exact refPutR_echo c a n on set fl x ron rset fs Ao As Ap Bo Bs Bf lo ls lp co cs cp mo ms mf eo es ef w h hr hb hk hx h1 h2 h3
    · exact refPutR_exc q r Ao As Ap Bo Bs Bf lo ls lp co cs cp mo ms mf eo es ef w h hr hb hk hx
  · exact refPutR_bad q r Ao As Ap Bo Bs Bf lo ls lp co cs cp mo ms mf eo es ef w h hr hb hk
end Go.Proofs.Ytobhllcnljggiaa
namespace Go.Proofs.Ytobhllcnljggiaa
open Go.RowKit
set_option linter.unusedVariables false
theorem spoilO_at (p l r : List Int) (k : Nat) (hk : k < l.length) : nth (p ++ spoil8 k l ++ r) (p.length + k) = nth l k := by
  rw [nth_left _ _ _ (by rw [List.length_append, spoil8_length]; omega), nth_right, spoil8_at k l hk]
theorem spoilO_set (p l r : List Int) (k : Nat) (hk : k < l.length) : (p ++ spoil8 k l ++ r).set (p.length + k) (bits .xor .u8 (nth l k) 90) = p ++ spoil8 (k + 1) l ++ r := by
  rw [List.set_append_left _ _ (by rw [List.length_append, spoil8_length]; omega), List.set_append_right _ _ (by omega), Nat.add_sub_cancel_left, spoil8_set k l hk]

set_option maxHeartbeats 400000 in
theorem spoilO_u8 (g o n c : Nat) (p l r : List Int) (w : World) (hg : w.heap[g]? = some (.cells (blk .u8 (p ++ l ++ r)) 5 (0, 0))) (hp : p.length = o) (hl : l.length = c) (hn : n ≤ c) (hc : c ≤ 140737488355328) :
    Calls Try.prog 47 #[.slice (some ⟨g, o, none⟩) n c] w fun e w' => e = .returned (.tuple #[]) ∧ w'.heap[g]? = some (.cells (blk .u8 (p ++ spoil8 c l ++ r)) 5 (0, 0)) ∧ w.grownBy w' (some g) ∧ w'.heap.size = w.heap.size := by
  have hl' := Lib.hid hl
  have hp' := Lib.hid hp
  clear hl hp
  go_enter Try.func47, Try.ntmps47
  go_wp2
  go_loopw [3] (fun i wr => ∃ k : Nat, k ≤ c ∧ i = .int .i64 k ∧ Hid (wr.heap[g]? = some (.cells (blk .u8 (p ++ spoil8 k l ++ r)) 5 (0, 0))) ∧ w.grownBy wr (some g) ∧ Hid (wr.heap.size = w.heap.size)) (fun i _ => c - (intOf i).toNat)
  case atStart => exact ⟨0, by omega, rfl, Lib.hid (by rw [spoil8_zero]; exact hg), World.grownBy.refl _ _, Lib.hid rfl⟩
  case round =>
    obtain ⟨k, hk, rfl, hb, hgr, hsz⟩ := hrel
    by_cases hlt : k < c
    · have hc1 : wr.cell? ⟨g, o + k, none⟩ = some (.int .u8 (nth l k)) := by
        rw [cell_of_row wr g (o + k) _ _ _ hb.out, blk_get _ _ _ (by rw [List.length_append, List.length_append, spoil8_length, hl'.out, hp'.out]; omega), ← hp'.out, spoilO_at p l r k (by have := hl'.out; omega)]
      have hfz := block_frozen wr g (o + k) _ _ hb.out
      have hnew := Lib.hid (block_setCell wr g (o + k) .u8 5 _ (bits .xor .u8 (nth l k) 90) hb.out)
      rw [show (p ++ spoil8 k l ++ r).set (o + k) (bits .xor .u8 (nth l k) 90) = p ++ spoil8 (k + 1) l ++ r by rw [← hp'.out]; exact spoilO_set p l r k (by have := hl'.out; omega)] at hnew
      have hgr2 := grown_setCell hgr (o + k) (.int .u8 (bits .xor .u8 (nth l k) 90))
      have hsz2 : Hid ((wr.setCell ⟨g, o + k, none⟩ (.int .u8 (bits .xor .u8 (nth l k) 90))).heap.size = w.heap.size) := by
        show _ = _
        rw [← hsz.out]; simp [World.setCell]
      go_wp2
      go_roundw
      case rel => exact ⟨k + 1, by omega, by go_num, hnew, hgr2, hsz2⟩
      case measure => simp [intOf]; omega
    · obtain rfl : k = c := by omega
      go_wp2
      go_end0
      exact ⟨rfl, hb.out, hgr, hsz.out⟩
/-- A row inside a block that is known whole. -/
theorem Row.inside {k : IntKind} {w : World} {g : Nat} {t : TypeId} {fr : Nat × Nat} {p l r : List Int} (hg : w.heap[g]? = some (.cells (blk k (p ++ l ++ r)) t fr)) (xs : List Int) (hw : ∀ x ∈ xs, (Lit.int k x).wf = true) (hp : xs <+: l) :
    Row k w (g + 1) (some ⟨g, p.length, none⟩) xs := by
  obtain ⟨ys, rfl⟩ := hp
  refine ⟨hw, fun _ => ⟨_, _, rfl, Nat.lt_succ_self _, fun i hi => ?_⟩⟩
  rw [cell_of_row w g _ _ _ _ hg, blk_get _ _ _ (by simp; omega), nth_left _ _ _ (by simp; omega), nth_right, nth_left _ _ _ hi]
/-- Rows that lie inside blocks of their own, each known whole (or nil), their slices in the array of block gl. -/
structure PartsO (w : World) (B gl m : Nat) (A : Nat → Option Addr) (n c : Nat → Nat) (p l r : Nat → List Int) : Prop where
  at_ : ∀ k, k < m → w.cell? ⟨gl, k, none⟩ = some (.slice (A k) (n k) (c k))
  size : ∀ k, k < m → n k ≤ c k ∧ c k ≤ 140737488355328 ∧ (l k).length = c k
  wf : ∀ k, k < m → ∀ x ∈ l k, (Lit.int .u8 x).wf = true
  lies : ∀ k, k < m → (A k = none ∧ n k = 0 ∧ c k = 0) ∨ ∃ g, A k = some ⟨g, (p k).length, none⟩ ∧ B ≤ g ∧ g ≠ gl ∧ w.heap[g]? = some (.cells (blk .u8 (p k ++ l k ++ r k)) 5 (0, 0))
  apart : ∀ i k, i < m → k < m → i ≠ k → ∀ g o q, A i = some ⟨g, o, none⟩ → A k ≠ some ⟨g, q, none⟩
  gl_lt : gl < w.heap.size

theorem PartsO.row {w : World} {B gl m : Nat} {A : Nat → Option Addr} {n c : Nat → Nat} {p l r : Nat → List Int} (h : PartsO w B gl m A n c p l r) {k : Nat} (hk : k < m) :
    Row .u8 w w.heap.size (A k) ((l k).take (n k)) ∧ ((l k).take (n k)).length = n k := by
  have hs := h.size k hk
  refine ⟨?_, by simp; omega⟩
  rcases h.lies k hk with ⟨ha, hn, hc⟩ | ⟨g, ha, _, _, hg⟩
  · rw [hn, List.take_zero]; exact Row.nil _ _ _ _
  · rw [ha]
    exact (Row.inside hg _ (fun x hx => h.wf k hk x (List.mem_of_mem_take hx)) (List.take_prefix _ _)).more (block_lt hg)
/-- A step that leaves all old blocks leaves the parts. -/
theorem PartsO.below {w w' : World} {B gl m : Nat} {A : Nat → Option Addr} {n c : Nat → Nat} {p l r : Nat → List Int} (h : PartsO w B gl m A n c p l r) (hb : Below w.heap.size w w') : PartsO w' B gl m A n c p l r where
  at_ := fun k hk => (hb.cell (p := ⟨gl, k, none⟩) h.gl_lt).trans (h.at_ k hk)
  size := h.size
  wf := h.wf
  lies := fun k hk => by
    rcases h.lies k hk with h0 | ⟨g, ha, hB, hne, hg⟩
    · exact .inl h0
    · exact .inr ⟨g, ha, hB, hne, (hb.block g (block_lt hg)).trans hg⟩
  apart := h.apart
  gl_lt := Nat.lt_of_lt_of_le h.gl_lt hb.size
/-- One part is written over. -/
theorem PartsO.spoil {w w' : World} {B gl m : Nat} {A : Nat → Option Addr} {n c : Nat → Nat} {p l r : Nat → List Int} (h : PartsO w B gl m A n c p l r) {i g : Nat} (hi : i < m) (ha : A i = some ⟨g, (p i).length, none⟩)
    (hg : w'.heap[g]? = some (.cells (blk .u8 (p i ++ spoil8 (c i) (l i) ++ r i)) 5 (0, 0))) (hgr : w.grownBy w' (some g)) : PartsO w' B gl m A n c p (fun k => if k = i then spoil8 (c i) (l i) else l k) r where
  at_ := fun k hk => by
    rcases h.lies i hi with ⟨h0, _⟩ | ⟨g', ha', _, hne, _⟩
    · rw [ha] at h0; cases h0
    · rw [ha] at ha'
      injection ha' with ha'
      injection ha' with ha'
      subst ha'
      exact (World.cell?_of_block (hgr.block gl h.gl_lt (fun e => hne (by injection e with e; exact e.symm)))).trans (h.at_ k hk)
  size := fun k hk => by
    have := h.size k hk
    refine ⟨this.1, this.2.1, ?_⟩
    split
    · rename_i e; subst e; rw [spoil8_length]; exact this.2.2
    · exact this.2.2
  wf := fun k hk => by
    show ∀ x ∈ (if k = i then spoil8 (c i) (l i) else l k), _
    split
    · exact spoil8_wf _ _ (h.wf i hi)
    · exact h.wf k hk
  lies := fun k hk => by
    by_cases e : k = i
    · subst e
      rcases h.lies k hi with ⟨h0, _⟩ | ⟨g', ha', hB, hne, _⟩
      · rw [ha] at h0; cases h0
      · rw [ha] at ha'
        injection ha' with ha'
        injection ha' with ha'
        subst ha'
        exact .inr ⟨g, ha, hB, hne, by rw [if_pos rfl]; exact hg⟩
    · rcases h.lies k hk with h0 | ⟨g', ha', hB, hne, hg'⟩
      · exact .inl h0
      · refine .inr ⟨g', ha', hB, hne, ?_⟩
        rw [if_neg e, hgr.block g' (block_lt hg') (fun e' => ?_)]
        · exact hg'
        · injection e' with e'
          subst e'
          exact h.apart k i hk hi e _ _ _ ha' ha
  apart := h.apart
  gl_lt := Nat.lt_of_lt_of_le h.gl_lt hgr.size

set_option maxHeartbeats 1000000 in
theorem apartO_u8 (gl m B : Nat) (A : Nat → Option Addr) (n c : Nat → Nat) (p l0 r : Nat → List Int) (w : World) (hP : PartsO w B gl m A n c p l0 r) (hB : B ≤ w.heap.size) (hm : m ≤ 1000) :
    Calls Try.prog 16 #[.slice (some ⟨gl, 0, none⟩) m m] w fun e w' => e = .returned (.bool true) ∧ Below B w w' := by
  go_enter Try.func16, Try.ntmps16
  go_wp2
  go_loopw [3, 4, 5] (fun i _ _ wr => ∃ (j : Nat) (l : Nat → List Int), j ≤ m ∧ i = .int .i64 j ∧ PartsO wr B gl m A n c p l r ∧ Below B w wr) (fun i _ _ _ => m - (intOf i).toNat)
  case atStart => exact ⟨0, l0, by omega, rfl, hP, Below.refl _ _⟩
  case round =>
    obtain ⟨i, l1, hi, rfl, hP1, hb1⟩ := hrel
    by_cases hlt : i < m
    · go_wp2
      obtain ⟨wo, hwo⟩ : ∃ wo : World, wo = wr := ⟨_, rfl⟩
      subst hwo
      go_loopw [4, 5] (fun k _ wr => ∃ (j : Nat) (l : Nat → List Int), j ≤ m ∧ k = .int .i64 j ∧ PartsO wr B gl m A n c p l r ∧ Below B w wr) (fun k _ _ => m - (intOf k).toNat)
      case atStart => exact ⟨0, l1, by omega, rfl, hP1, hb1⟩
      case round =>
        obtain ⟨k, l, hk, rfl, hP2, hb2⟩ := hrel
        by_cases hlk : k < m
        · by_cases hik : i = k
          · subst hik
            go_wp2
            go_roundw
            case rel => exact ⟨i + 1, l, by omega, by go_num, hP2, hb2⟩
            case measure => simp [intOf]; omega
          · have ht : ((i : Int) == (k : Int)) = false := by simp; omega
            have hck := hP2.at_ k hlk
            have hci := hP2.at_ i hlt
            obtain ⟨hrow, hrl⟩ := hP2.row hlk
            have hrl' := Lib.hid hrl
            clear hrl
            have hsk := hP2.size k hlk
            go_wp2_with fail
            refine (copy_u8 _ _ _ _ _ hrow hrl'.out (by omega)).mono ?_
            rintro e w1 ⟨v1, rfl, own1, bel1⟩
            have hP3 := hP2.below bel1
            have hb3 : Below B w w1 := hb2.trans (bel1.mono (Nat.le_trans hB hb2.size))
            have hck1 := hP3.at_ k hlk
            have hci1 := hP3.at_ i hlt
            have hwf := hrow.1
            rcases hP3.lies i hlt with ⟨hA, hN, hC⟩ | ⟨g, hA, hBg, hgl, hg⟩
            · rw [hA, hN, hC] at hci1
              clear hA hN hC hck hci hrow
              obtain ⟨A1, c1, rfl, row1, _, _⟩ := own1.row hwf
              rw [hrl'.out]
              obtain ⟨hrow3, hrl3⟩ := hP3.row hlk
              have hrl3' := Lib.hid hrl3
              clear hrl3
              go_wp2_with fail
              refine (spoil_nil _).mono ?_
              rintro e w' ⟨rfl, rfl⟩
              go_wp2_with fail
              refine (same_yes_u8 _ _ _ _ _ _ _ _ _ row1 hrow3 hrl3'.out (by omega)).mono ?_
              rintro e w' ⟨rfl, mq, rfl⟩
              have hP4 := hP3.below (w' := w1.drewN mq) ⟨rfl, rfl, rfl, Nat.le_refl _, fun _ _ => rfl⟩
              have hb4 : Below B w (w1.drewN mq) := hb3.trans ⟨rfl, rfl, rfl, Nat.le_refl _, fun _ _ => rfl⟩
              go_wp2
              go_roundw
              case rel => exact ⟨k + 1, l, by omega, by go_num, hP4, hb4⟩
              case measure => simp [intOf]; omega
            · have hsi := hP3.size i hlt
              have hglt : g < wr.heap.size := by
                rcases hP2.lies i hlt with ⟨h0, _⟩ | ⟨g', hA', _, _, hg'⟩
                · rw [hA] at h0; cases h0
                · rw [hA] at hA'
                  injection hA' with hA'
                  injection hA' with hA'
                  rw [hA']
                  exact block_lt hg'
              rw [hA] at hci1
              clear hck hci hrow
              have hsi3 := Lib.hid hsi.2.2
              go_wp2_with fail
              refine (spoilO_u8 g _ _ _ (p i) (l i) (r i) _ hg rfl hsi3.out hsi.1 hsi.2.1).mono ?_
              rintro e w2 ⟨rfl, hg2, hgr2, hsz2⟩
              have hP4 := hP3.spoil hlt hA hg2 hgr2
              have hb4 : Below B w w2 := hb3.grown hgr2 (Nat.le_trans hB hb3.size) (fun q e => by injection e; omega)
              have own2 := own1.kept hgr2 (by
                cases hv : v1.ownBlock with
                | none => exact .inl rfl
                | some q =>
                  refine .inr fun e => ?_
                  have h1 := (own1.block q hv).1
                  injection e with e
                  omega)
              have hck2 := hP4.at_ k hlk
              obtain ⟨hrow4, hrl4⟩ := hP4.row hlk
              simp only [if_neg (show ¬ k = i by omega)] at hrow4 hrl4
              have hrl4' := Lib.hid hrl4
              obtain ⟨A1, c1, rfl, row1, _, _⟩ := own2.row hwf
              rw [hrl'.out]
              clear hsz2 hrl4 hck1 hci1 hgr2 hg2 hg hA
              go_wp2_with fail
              refine (same_yes_u8 _ _ _ _ _ _ _ _ _ row1 hrow4 hrl4'.out (by omega)).mono ?_
              rintro e w' ⟨rfl, mq, rfl⟩
              have hP5 := hP4.below (w' := w2.drewN mq) ⟨rfl, rfl, rfl, Nat.le_refl _, fun _ _ => rfl⟩
              have hb5 : Below B w (w2.drewN mq) := hb4.trans ⟨rfl, rfl, rfl, Nat.le_refl _, fun _ _ => rfl⟩
              go_wp2
              go_roundw
              case rel => exact ⟨k + 1, _, by omega, by go_num, hP5, hb5⟩
              case measure => simp [intOf]; omega
        · go_wp2
          go_roundw
          case rel => exact ⟨i + 1, l, by omega, by go_num, hP2, hb2⟩
          case measure => simp [intOf]; omega
    · go_wp2
      go_ret
      exact ⟨rfl, hb1⟩

/-- A slice that is handed to ApartBytes: nil, or the beginning of a block that is known whole. -/
structure EntO where
  a : Option Nat
  p : List Int
  n : Nat
  c : Nat
  l : List Int
  r : List Int
def EntO.none_ : EntO := ⟨none, [], 0, 0, [], []⟩
def EntO.adr (e : EntO) : Option Addr := e.a.map fun g => ⟨g, e.p.length, none⟩
def EntO.val (e : EntO) : Value := .slice e.adr e.n e.c
structure EntO.Ok (w : World) (B : Nat) (e : EntO) : Prop where
  size : e.n ≤ e.c ∧ e.c ≤ 140737488355328 ∧ e.l.length = e.c
  wf : ∀ x ∈ e.l, (Lit.int .u8 x).wf = true
  lies : (e.a = none ∧ e.n = 0 ∧ e.c = 0) ∨ ∃ g, e.a = some g ∧ B ≤ g ∧ w.heap[g]? = some (.cells (blk .u8 (e.p ++ e.l ++ e.r)) 5 (0, 0))
def EntO.Far (e e' : EntO) : Prop := ∀ g, e.a = some g → e'.a ≠ some g
theorem EntO.adr_some {e : EntO} {g o : Nat} (h : e.adr = some ⟨g, o, none⟩) : e.a = some g := by
  unfold EntO.adr at h
  cases ha : e.a with
  | none => rw [ha] at h; cases h
  | some q => rw [ha] at h; simp at h; rw [h.1]

theorem partsO_of_list (w : World) (B : Nat) (L : List EntO) (t : TypeId) (hok : ∀ e ∈ L, e.Ok w B) (hfar : L.Pairwise EntO.Far) :
    PartsO (w.alloc (.cells (L.map EntO.val).toArray t)) B w.heap.size L.length (fun k => (L.getD k EntO.none_).adr) (fun k => (L.getD k EntO.none_).n) (fun k => (L.getD k EntO.none_).c) (fun k => (L.getD k EntO.none_).p) (fun k => (L.getD k EntO.none_).l) (fun k => (L.getD k EntO.none_).r) where
  at_ := fun k hk => by
    rw [World.cell?_alloc_at _ _ _ _ rfl]
    simp [List.getElem?_eq_getElem hk, List.getD_eq_getElem?_getD, EntO.val]
  size := fun k hk => by
    simp only [List.getD_eq_getElem?_getD, List.getElem?_eq_getElem hk, Option.getD_some]
    exact (hok _ (List.getElem_mem hk)).size
  wf := fun k hk => by
    simp only [List.getD_eq_getElem?_getD, List.getElem?_eq_getElem hk, Option.getD_some]
    exact (hok _ (List.getElem_mem hk)).wf
  lies := fun k hk => by
    simp only [List.getD_eq_getElem?_getD, List.getElem?_eq_getElem hk, Option.getD_some]
    rcases (hok _ (List.getElem_mem hk)).lies with ⟨h1, h2⟩ | ⟨g, h1, h2, h3⟩
    · exact .inl ⟨by rw [EntO.adr, h1]; rfl, h2⟩
    · have := block_lt h3
      exact .inr ⟨g, by rw [EntO.adr, h1]; rfl, h2, by omega, (Below.heap_alloc w _ g this).trans h3⟩
  apart := fun i k hi hk hne g o q h1 h2 => by
    simp only [List.getD_eq_getElem?_getD, List.getElem?_eq_getElem hi, List.getElem?_eq_getElem hk, Option.getD_some] at h1 h2
    have h1 := EntO.adr_some h1
    have h2 := EntO.adr_some h2
    rcases Nat.lt_or_gt_of_ne hne with h | h
    · exact List.pairwise_iff_getElem.1 hfar i k hi hk h g h1 h2
    · exact List.pairwise_iff_getElem.1 hfar k i hk hi h g h2 h1
  gl_lt := by simp

theorem apartO_list_u8 (w : World) (B : Nat) (L : List EntO) (t : TypeId) (hok : ∀ e ∈ L, e.Ok w B) (hfar : L.Pairwise EntO.Far) (hB : B ≤ w.heap.size) (hm : L.length ≤ 1000) :
    Calls Try.prog 16 #[.slice (some ⟨w.heap.size, 0, none⟩) L.length L.length] (w.alloc (.cells (L.map EntO.val).toArray t)) fun e w' => e = .returned (.bool true) ∧ Below B w w' :=
  (apartO_u8 _ _ B _ _ _ _ _ _ _ (partsO_of_list w B L t hok hfar) (by simp; omega) hm).mono fun _ _ ⟨he, hb⟩ => ⟨he, ((Below.refl B w).alloc hB _).trans hb⟩
end Go.Proofs.Ytobhllcnljggiaa
namespace Go.Proofs.Ytobhllcnljggiaa
open Go.RowKit
set_option linter.unusedVariables false
set_option maxHeartbeats 400000 in
theorem spoilK_u8 (g o n c : Nat) (p l r : List Int) (w : World) (hg : w.heap[g]? = some (.cells (blk .u8 (p ++ l ++ r)) 5 (0, 0))) (hp : p.length = o) (hl : l.length = c) (hn : n ≤ c) (hc : c ≤ 9223372036854775807) :
    Calls Try.prog 47 #[.slice (some ⟨g, o, none⟩) n c] w fun e w' => e = .returned (.tuple #[]) ∧ w'.heap[g]? = some (.cells (blk .u8 (p ++ spoil8 c l ++ r)) 5 (0, 0)) ∧ w.grownBy w' (some g) ∧ w'.heap.size = w.heap.size := by
  have hl' := Lib.hid hl
  have hp' := Lib.hid hp
  clear hl hp
  go_enter Try.func47, Try.ntmps47
  go_wp2
  go_loopw [3] (fun i wr => ∃ k : Nat, k ≤ c ∧ i = .int .i64 k ∧ Hid (wr.heap[g]? = some (.cells (blk .u8 (p ++ spoil8 k l ++ r)) 5 (0, 0))) ∧ w.grownBy wr (some g) ∧ Hid (wr.heap.size = w.heap.size)) (fun i _ => c - (intOf i).toNat)
  case atStart => exact ⟨0, by omega, rfl, Lib.hid (by rw [spoil8_zero]; exact hg), World.grownBy.refl _ _, Lib.hid rfl⟩
  case round =>
    obtain ⟨k, hk, rfl, hb, hgr, hsz⟩ := hrel
    by_cases hlt : k < c
    · have hc1 : wr.cell? ⟨g, o + k, none⟩ = some (.int .u8 (nth l k)) := by
        rw [cell_of_row wr g (o + k) _ _ _ hb.out, blk_get _ _ _ (by rw [List.length_append, List.length_append, spoil8_length, hl'.out, hp'.out]; omega), ← hp'.out, spoilO_at p l r k (by have := hl'.out; omega)]
      have hfz := block_frozen wr g (o + k) _ _ hb.out
      have hnew := Lib.hid (block_setCell wr g (o + k) .u8 5 _ (bits .xor .u8 (nth l k) 90) hb.out)
      rw [show (p ++ spoil8 k l ++ r).set (o + k) (bits .xor .u8 (nth l k) 90) = p ++ spoil8 (k + 1) l ++ r by rw [← hp'.out]; exact spoilO_set p l r k (by have := hl'.out; omega)] at hnew
      have hgr2 := grown_setCell hgr (o + k) (.int .u8 (bits .xor .u8 (nth l k) 90))
      have hsz2 : Hid ((wr.setCell ⟨g, o + k, none⟩ (.int .u8 (bits .xor .u8 (nth l k) 90))).heap.size = w.heap.size) := by
        show _ = _
        rw [← hsz.out]; simp [World.setCell]
      go_wp2
      go_roundw
      case rel => exact ⟨k + 1, by omega, by go_num, hnew, hgr2, hsz2⟩
      case measure => simp [intOf]; omega
    · obtain rfl : k = c := by omega
      go_wp2
      go_end0
      exact ⟨rfl, hb.out, hgr, hsz.out⟩
/-- Rows that lie inside blocks of their own, each known whole (or nil), their slices in the array of block gl. -/
structure PartsK (w : World) (B gl m : Nat) (A : Nat → Option Addr) (n c : Nat → Nat) (p l r : Nat → List Int) : Prop where
  at_ : ∀ k, k < m → w.cell? ⟨gl, k, none⟩ = some (.slice (A k) (n k) (c k))
  size : ∀ k, k < m → n k ≤ c k ∧ (c k ≤ 9223372036854775807 ∧ n k ≤ 140737488355328) ∧ (l k).length = c k
  wf : ∀ k, k < m → ∀ x ∈ l k, (Lit.int .u8 x).wf = true
  lies : ∀ k, k < m → (A k = none ∧ n k = 0 ∧ c k = 0) ∨ ∃ g, A k = some ⟨g, (p k).length, none⟩ ∧ B ≤ g ∧ g ≠ gl ∧ w.heap[g]? = some (.cells (blk .u8 (p k ++ l k ++ r k)) 5 (0, 0))
  apart : ∀ i k, i < m → k < m → i ≠ k → ∀ g o q, A i = some ⟨g, o, none⟩ → A k ≠ some ⟨g, q, none⟩
  gl_lt : gl < w.heap.size

theorem PartsK.row {w : World} {B gl m : Nat} {A : Nat → Option Addr} {n c : Nat → Nat} {p l r : Nat → List Int} (h : PartsK w B gl m A n c p l r) {k : Nat} (hk : k < m) :
    Row .u8 w w.heap.size (A k) ((l k).take (n k)) ∧ ((l k).take (n k)).length = n k := by
  have hs := h.size k hk
  refine ⟨?_, by simp; omega⟩
  rcases h.lies k hk with ⟨ha, hn, hc⟩ | ⟨g, ha, _, _, hg⟩
  · rw [hn, List.take_zero]; exact Row.nil _ _ _ _
  · rw [ha]
    exact (Row.inside hg _ (fun x hx => h.wf k hk x (List.mem_of_mem_take hx)) (List.take_prefix _ _)).more (block_lt hg)
/-- A step that leaves all old blocks leaves the parts. -/
theorem PartsK.below {w w' : World} {B gl m : Nat} {A : Nat → Option Addr} {n c : Nat → Nat} {p l r : Nat → List Int} (h : PartsK w B gl m A n c p l r) (hb : Below w.heap.size w w') : PartsK w' B gl m A n c p l r where
  at_ := fun k hk => (hb.cell (p := ⟨gl, k, none⟩) h.gl_lt).trans (h.at_ k hk)
  size := h.size
  wf := h.wf
  lies := fun k hk => by
    rcases h.lies k hk with h0 | ⟨g, ha, hB, hne, hg⟩
    · exact .inl h0
    · exact .inr ⟨g, ha, hB, hne, (hb.block g (block_lt hg)).trans hg⟩
  apart := h.apart
  gl_lt := Nat.lt_of_lt_of_le h.gl_lt hb.size
/-- One part is written over. -/
theorem PartsK.spoil {w w' : World} {B gl m : Nat} {A : Nat → Option Addr} {n c : Nat → Nat} {p l r : Nat → List Int} (h : PartsK w B gl m A n c p l r) {i g : Nat} (hi : i < m) (ha : A i = some ⟨g, (p i).length, none⟩)
    (hg : w'.heap[g]? = some (.cells (blk .u8 (p i ++ spoil8 (c i) (l i) ++ r i)) 5 (0, 0))) (hgr : w.grownBy w' (some g)) : PartsK w' B gl m A n c p (fun k => if k = i then spoil8 (c i) (l i) else l k) r where
  at_ := fun k hk => by
    rcases h.lies i hi with ⟨h0, _⟩ | ⟨g', ha', _, hne, _⟩
    · rw [ha] at h0; cases h0
    · rw [ha] at ha'
      injection ha' with ha'
      injection ha' with ha'
      subst ha'
      exact (World.cell?_of_block (hgr.block gl h.gl_lt (fun e => hne (by injection e with e; exact e.symm)))).trans (h.at_ k hk)
  size := fun k hk => by
    have := h.size k hk
    refine ⟨this.1, this.2.1, ?_⟩
    split
    · rename_i e; subst e; rw [spoil8_length]; exact this.2.2
    · exact this.2.2
  wf := fun k hk => by
    show ∀ x ∈ (if k = i then spoil8 (c i) (l i) else l k), _
    split
    · exact spoil8_wf _ _ (h.wf i hi)
    · exact h.wf k hk
  lies := fun k hk => by
    by_cases e : k = i
    · subst e
      rcases h.lies k hi with ⟨h0, _⟩ | ⟨g', ha', hB, hne, _⟩
      · rw [ha] at h0; cases h0
      · rw [ha] at ha'
        injection ha' with ha'
        injection ha' with ha'
        subst ha'
        exact .inr ⟨g, ha, hB, hne, by rw [if_pos rfl]; exact hg⟩
    · rcases h.lies k hk with h0 | ⟨g', ha', hB, hne, hg'⟩
      · exact .inl h0
      · refine .inr ⟨g', ha', hB, hne, ?_⟩
        rw [if_neg e, hgr.block g' (block_lt hg') (fun e' => ?_)]
        · exact hg'
        · injection e' with e'
          subst e'
          exact h.apart k i hk hi e _ _ _ ha' ha
  apart := h.apart
  gl_lt := Nat.lt_of_lt_of_le h.gl_lt hgr.size

set_option maxHeartbeats 1000000 in
theorem apartK_u8 (gl m B : Nat) (A : Nat → Option Addr) (n c : Nat → Nat) (p l0 r : Nat → List Int) (w : World) (hP : PartsK w B gl m A n c p l0 r) (hB : B ≤ w.heap.size) (hm : m ≤ 1000) :
    Calls Try.prog 16 #[.slice (some ⟨gl, 0, none⟩) m m] w fun e w' => e = .returned (.bool true) ∧ Below B w w' := by
  go_enter Try.func16, Try.ntmps16
  go_wp2
  go_loopw [3, 4, 5] (fun i _ _ wr => ∃ (j : Nat) (l : Nat → List Int), j ≤ m ∧ i = .int .i64 j ∧ PartsK wr B gl m A n c p l r ∧ Below B w wr) (fun i _ _ _ => m - (intOf i).toNat)
  case atStart => exact ⟨0, l0, by omega, rfl, hP, Below.refl _ _⟩
  case round =>
    obtain ⟨i, l1, hi, rfl, hP1, hb1⟩ := hrel
    by_cases hlt : i < m
    · go_wp2
      obtain ⟨wo, hwo⟩ : ∃ wo : World, wo = wr := ⟨_, rfl⟩
      subst hwo
      go_loopw [4, 5] (fun k _ wr => ∃ (j : Nat) (l : Nat → List Int), j ≤ m ∧ k = .int .i64 j ∧ PartsK wr B gl m A n c p l r ∧ Below B w wr) (fun k _ _ => m - (intOf k).toNat)
      case atStart => exact ⟨0, l1, by omega, rfl, hP1, hb1⟩
      case round =>
        obtain ⟨k, l, hk, rfl, hP2, hb2⟩ := hrel
        by_cases hlk : k < m
        · by_cases hik : i = k
          · subst hik
            go_wp2
            go_roundw
            case rel => exact ⟨i + 1, l, by omega, by go_num, hP2, hb2⟩
            case measure => simp [intOf]; omega
          · have ht : ((i : Int) == (k : Int)) = false := by simp; omega
            have hck := hP2.at_ k hlk
            have hci := hP2.at_ i hlt
            obtain ⟨hrow, hrl⟩ := hP2.row hlk
            have hrl' := Lib.hid hrl
            clear hrl
            have hsk := hP2.size k hlk
            go_wp2_with fail
            refine (copy_u8 _ _ _ _ _ hrow hrl'.out (by omega)).mono ?_
            rintro e w1 ⟨v1, rfl, own1, bel1⟩
            have hP3 := hP2.below bel1
            have hb3 : Below B w w1 := hb2.trans (bel1.mono (Nat.le_trans hB hb2.size))
            have hck1 := hP3.at_ k hlk
            have hci1 := hP3.at_ i hlt
            have hwf := hrow.1
            rcases hP3.lies i hlt with ⟨hA, hN, hC⟩ | ⟨g, hA, hBg, hgl, hg⟩
            · rw [hA, hN, hC] at hci1
              clear hA hN hC hck hci hrow
              obtain ⟨A1, c1, rfl, row1, _, _⟩ := own1.row hwf
              rw [hrl'.out]
              obtain ⟨hrow3, hrl3⟩ := hP3.row hlk
              have hrl3' := Lib.hid hrl3
              clear hrl3
              go_wp2_with fail
              refine (spoil_nil _).mono ?_
              rintro e w' ⟨rfl, rfl⟩
              go_wp2_with fail
              refine (same_yes_u8 _ _ _ _ _ _ _ _ _ row1 hrow3 hrl3'.out (by omega)).mono ?_
              rintro e w' ⟨rfl, mq, rfl⟩
              have hP4 := hP3.below (w' := w1.drewN mq) ⟨rfl, rfl, rfl, Nat.le_refl _, fun _ _ => rfl⟩
              have hb4 : Below B w (w1.drewN mq) := hb3.trans ⟨rfl, rfl, rfl, Nat.le_refl _, fun _ _ => rfl⟩
              go_wp2
              go_roundw
              case rel => exact ⟨k + 1, l, by omega, by go_num, hP4, hb4⟩
              case measure => simp [intOf]; omega
            · have hsi := hP3.size i hlt
              have hglt : g < wr.heap.size := by
                rcases hP2.lies i hlt with ⟨h0, _⟩ | ⟨g', hA', _, _, hg'⟩
                · rw [hA] at h0; cases h0
                · rw [hA] at hA'
                  injection hA' with hA'
                  injection hA' with hA'
                  rw [hA']
                  exact block_lt hg'
              rw [hA] at hci1
              clear hck hci hrow
              have hsi3 := Lib.hid hsi.2.2
              go_wp2_with fail
              refine (spoilK_u8 g _ _ _ (p i) (l i) (r i) _ hg rfl hsi3.out hsi.1 hsi.2.1.1).mono ?_
              rintro e w2 ⟨rfl, hg2, hgr2, hsz2⟩
              have hP4 := hP3.spoil hlt hA hg2 hgr2
              have hb4 : Below B w w2 := hb3.grown hgr2 (Nat.le_trans hB hb3.size) (fun q e => by injection e; omega)
              have own2 := own1.kept hgr2 (by
                cases hv : v1.ownBlock with
                | none => exact .inl rfl
                | some q =>
                  refine .inr fun e => ?_
                  have h1 := (own1.block q hv).1
                  injection e with e
                  omega)
              have hck2 := hP4.at_ k hlk
              obtain ⟨hrow4, hrl4⟩ := hP4.row hlk
              simp only [if_neg (show ¬ k = i by omega)] at hrow4 hrl4
              have hrl4' := Lib.hid hrl4
              obtain ⟨A1, c1, rfl, row1, _, _⟩ := own2.row hwf
              rw [hrl'.out]
              clear hsz2 hrl4 hck1 hci1 hgr2 hg2 hg hA
              go_wp2_with fail
              refine (same_yes_u8 _ _ _ _ _ _ _ _ _ row1 hrow4 hrl4'.out (by omega)).mono ?_
              rintro e w' ⟨rfl, mq, rfl⟩
              have hP5 := hP4.below (w' := w2.drewN mq) ⟨rfl, rfl, rfl, Nat.le_refl _, fun _ _ => rfl⟩
              have hb5 : Below B w (w2.drewN mq) := hb4.trans ⟨rfl, rfl, rfl, Nat.le_refl _, fun _ _ => rfl⟩
              go_wp2
              go_roundw
              case rel => exact ⟨k + 1, _, by omega, by go_num, hP5, hb5⟩
              case measure => simp [intOf]; omega
        · go_wp2
          go_roundw
          case rel => exact ⟨i + 1, l, by omega, by go_num, hP2, hb2⟩
          case measure => simp [intOf]; omega
    · go_wp2
      go_ret
      exact ⟨rfl, hb1⟩

/-- A slice that is handed to ApartBytes: nil, or the beginning of a block that is known whole. -/
structure EntK where
  a : Option Nat
  p : List Int
  n : Nat
  c : Nat
  l : List Int
  r : List Int
def EntK.none_ : EntK := ⟨none, [], 0, 0, [], []⟩
def EntK.adr (e : EntK) : Option Addr := e.a.map fun g => ⟨g, e.p.length, none⟩
def EntK.val (e : EntK) : Value := .slice e.adr e.n e.c
structure EntK.Ok (w : World) (B : Nat) (e : EntK) : Prop where
  size : e.n ≤ e.c ∧ (e.c ≤ 9223372036854775807 ∧ e.n ≤ 140737488355328) ∧ e.l.length = e.c
  wf : ∀ x ∈ e.l, (Lit.int .u8 x).wf = true
  lies : (e.a = none ∧ e.n = 0 ∧ e.c = 0) ∨ ∃ g, e.a = some g ∧ B ≤ g ∧ w.heap[g]? = some (.cells (blk .u8 (e.p ++ e.l ++ e.r)) 5 (0, 0))
def EntK.Far (e e' : EntK) : Prop := ∀ g, e.a = some g → e'.a ≠ some g
theorem EntK.adr_some {e : EntK} {g o : Nat} (h : e.adr = some ⟨g, o, none⟩) : e.a = some g := by
  unfold EntK.adr at h
  cases ha : e.a with
  | none => rw [ha] at h; cases h
  | some q => rw [ha] at h; simp at h; rw [h.1]

theorem partsK_of_list (w : World) (B : Nat) (L : List EntK) (t : TypeId) (hok : ∀ e ∈ L, e.Ok w B) (hfar : L.Pairwise EntK.Far) :
    PartsK (w.alloc (.cells (L.map EntK.val).toArray t)) B w.heap.size L.length (fun k => (L.getD k EntK.none_).adr) (fun k => (L.getD k EntK.none_).n) (fun k => (L.getD k EntK.none_).c) (fun k => (L.getD k EntK.none_).p) (fun k => (L.getD k EntK.none_).l) (fun k => (L.getD k EntK.none_).r) where
  at_ := fun k hk => by
    rw [World.cell?_alloc_at _ _ _ _ rfl]
    simp [List.getElem?_eq_getElem hk, List.getD_eq_getElem?_getD, EntK.val]
  size := fun k hk => by
    simp only [List.getD_eq_getElem?_getD, List.getElem?_eq_getElem hk, Option.getD_some]
    exact (hok _ (List.getElem_mem hk)).size
  wf := fun k hk => by
    simp only [List.getD_eq_getElem?_getD, List.getElem?_eq_getElem hk, Option.getD_some]
    exact (hok _ (List.getElem_mem hk)).wf
  lies := fun k hk => by
    simp only [List.getD_eq_getElem?_getD, List.getElem?_eq_getElem hk, Option.getD_some]
    rcases (hok _ (List.getElem_mem hk)).lies with ⟨h1, h2⟩ | ⟨g, h1, h2, h3⟩
    · exact .inl ⟨by rw [EntK.adr, h1]; rfl, h2⟩
    · have := block_lt h3
      exact .inr ⟨g, by rw [EntK.adr, h1]; rfl, h2, by omega, (Below.heap_alloc w _ g this).trans h3⟩
  apart := fun i k hi hk hne g o q h1 h2 => by
    simp only [List.getD_eq_getElem?_getD, List.getElem?_eq_getElem hi, List.getElem?_eq_getElem hk, Option.getD_some] at h1 h2
    have h1 := EntK.adr_some h1
    have h2 := EntK.adr_some h2
    rcases Nat.lt_or_gt_of_ne hne with h | h
    · exact List.pairwise_iff_getElem.1 hfar i k hi hk h g h1 h2
    · exact List.pairwise_iff_getElem.1 hfar k i hk hi h g h2 h1
  gl_lt := by simp

theorem apartK_list_u8 (w : World) (B : Nat) (L : List EntK) (t : TypeId) (hok : ∀ e ∈ L, e.Ok w B) (hfar : L.Pairwise EntK.Far) (hB : B ≤ w.heap.size) (hm : L.length ≤ 1000) :
    Calls Try.prog 16 #[.slice (some ⟨w.heap.size, 0, none⟩) L.length L.length] (w.alloc (.cells (L.map EntK.val).toArray t)) fun e w' => e = .returned (.bool true) ∧ Below B w w' :=
  (apartK_u8 _ _ B _ _ _ _ _ _ _ (partsK_of_list w B L t hok hfar) (by simp; omega) hm).mono fun _ _ ⟨he, hb⟩ => ⟨he, ((Below.refl B w).alloc hB _).trans hb⟩
end Go.Proofs.Ytobhllcnljggiaa
namespace Go.Proofs.Ytobhllcnljggiaa
open Go.RowKit
set_option linter.unusedVariables false

/-- The boxes of a request and of an answer that came in; the lent request, the copied answer, and their boxes. -/
structure PutSt (w0 : World) (q : Req) (r : Rep) (Ao As Ap Bo Bs Bf Co Cs Cf : Option Addr) (lo ls lp co cs cp mo ms mf eo es ef ko ks kf go gs gp gx gy : Nat) (w : World) : Prop where
  tb : TB w0 w0.heap.size (.cells #[.int .i64 q.c, .int .i64 q.a, .int .i64 q.n, .slice Ao lo co, .slice As ls cs, .slice Ap lp cp] 26 (0, 0)) (.cells #[.int .i64 r.x, .slice Bo mo eo, .slice Bs ms es, .slice Bf mf ef] 29 (0, 0)) w
  k1 : L.Bk w go (q.on ++ L.marks5)
  k2 : W.Bk w gs (q.set ++ W.marks5)
  k3 : w.heap[gp]? = some (.cells (blk .i64 (q.fl ++ marksP)) 77 (0, 0))
  bx : w.heap[gx]? = some (.cells #[.int .i64 q.c, .int .i64 q.a, .int .i64 q.n, .slice (some ⟨go, 0, none⟩) lo (lo + 5), .slice (some ⟨gs, 0, none⟩) ls (ls + 5), .slice (some ⟨gp, 0, none⟩) lp (lp + 5)] 26 (0, 0))
  bxy : w.heap[gy]? = some (.cells #[.int .i64 r.x, .slice Co mo ko, .slice Cs ms ks, .slice Cf mf kf] 29 (0, 0))
  lent : Asked w w.heap.size q (some ⟨go, 0, none⟩) (some ⟨gs, 0, none⟩) (some ⟨gp, 0, none⟩) lo ls lp
  copy : Repd w w.heap.size r Co Cs Cf mo ms mf
theorem Asked.upB {w w' : World} {q : Req} {Ao As Ap : Option Addr} {lo ls lp : Nat} (h : Asked w w.heap.size q Ao As Ap lo ls lp) (hb : Below w.heap.size w w') : Asked w' w'.heap.size q Ao As Ap lo ls lp := (h.below hb).more hb.size
section
variable {w0 w w' : World} {q : Req} {r : Rep} {Ao As Ap Bo Bs Bf Co Cs Cf : Option Addr} {lo ls lp co cs cp mo ms mf eo es ef ko ks kf go gs gp gx gy : Nat}
theorem PutSt.below (h : PutSt w0 q r Ao As Ap Bo Bs Bf Co Cs Cf lo ls lp co cs cp mo ms mf eo es ef ko ks kf go gs gp gx gy w) (hb : Below w.heap.size w w') : PutSt w0 q r Ao As Ap Bo Bs Bf Co Cs Cf lo ls lp co cs cp mo ms mf eo es ef ko ks kf go gs gp gx gy w' where
  tb := h.tb.below hb
  k1 := h.k1.below hb
  k2 := h.k2.below hb
  k3 := (hb.block gp (block_lt h.k3)).trans h.k3
  bx := (hb.block gx (block_lt h.bx)).trans h.bx
  bxy := (hb.block gy (block_lt h.bxy)).trans h.bxy
  lent := h.lent.upB hb
  copy := h.copy.up hb
theorem PutSt.drewN (h : PutSt w0 q r Ao As Ap Bo Bs Bf Co Cs Cf lo ls lp co cs cp mo ms mf eo es ef ko ks kf go gs gp gx gy w) (n : Nat) : PutSt w0 q r Ao As Ap Bo Bs Bf Co Cs Cf lo ls lp co cs cp mo ms mf eo es ef ko ks kf go gs gp gx gy (w.drewN n) := h.below (bel_drewN w n)
theorem PutSt.cellsX (h : PutSt w0 q r Ao As Ap Bo Bs Bf Co Cs Cf lo ls lp co cs cp mo ms mf eo es ef ko ks kf go gs gp gx gy w) : w.cell? ⟨gx, 0, none⟩ = some (.int .i64 q.c) ∧ w.cell? ⟨gx, 1, none⟩ = some (.int .i64 q.a) ∧ w.cell? ⟨gx, 2, none⟩ = some (.int .i64 q.n) ∧ w.cell? ⟨gx, 3, none⟩ = some (.slice (some ⟨go, 0, none⟩) lo (lo + 5)) ∧ w.cell? ⟨gx, 4, none⟩ = some (.slice (some ⟨gs, 0, none⟩) ls (ls + 5)) ∧ w.cell? ⟨gx, 5, none⟩ = some (.slice (some ⟨gp, 0, none⟩) lp (lp + 5)) :=
  ⟨cell_of_row w gx 0 _ _ _ h.bx, cell_of_row w gx 1 _ _ _ h.bx, cell_of_row w gx 2 _ _ _ h.bx, cell_of_row w gx 3 _ _ _ h.bx, cell_of_row w gx 4 _ _ _ h.bx, cell_of_row w gx 5 _ _ _ h.bx⟩
theorem PutSt.cellsY (h : PutSt w0 q r Ao As Ap Bo Bs Bf Co Cs Cf lo ls lp co cs cp mo ms mf eo es ef ko ks kf go gs gp gx gy w) : w.cell? ⟨gy, 0, none⟩ = some (.int .i64 r.x) ∧ w.cell? ⟨gy, 1, none⟩ = some (.slice Co mo ko) ∧ w.cell? ⟨gy, 2, none⟩ = some (.slice Cs ms ks) ∧ w.cell? ⟨gy, 3, none⟩ = some (.slice Cf mf kf) :=
  ⟨cell_of_row w gy 0 _ _ _ h.bxy, cell_of_row w gy 1 _ _ _ h.bxy, cell_of_row w gy 2 _ _ _ h.bxy, cell_of_row w gy 3 _ _ _ h.bxy⟩
end

/-- A list of the call's own, as an entry. -/
theorem KOwn.entR {w : World} {base B : Nat} {v : Value} {xs : List Int} (h : KOwn .u8 5 w base v xs) (hw : ∀ x ∈ xs, (Lit.int .u8 x).wf = true) (hm : xs.length ≤ 140737488355328) (hB : B ≤ base) :
    ∃ E : EntK, E.val = v ∧ E.Ok w B ∧ ∀ g, E.a = some g → base ≤ g ∧ v.ownBlock = some g := by
  rcases h with ⟨rfl, rfl⟩ | ⟨g, n, cap, r, rfl, h2, h3, h4, h5, h6, h7, h8⟩
  · exact ⟨⟨none, [], 0, 0, [], []⟩, rfl, ⟨⟨Nat.le_refl _, ⟨by show 0 ≤ _; omega, by show 0 ≤ _; omega⟩, rfl⟩, by simp, .inl ⟨rfl, rfl, rfl⟩⟩, fun g h => by cases h⟩
  · simp only [maxLen] at h6
    refine ⟨⟨some g, [], n, cap, xs ++ r, []⟩, rfl, ⟨⟨h5, ⟨h6, by show n ≤ _; omega⟩, by show (xs ++ r).length = cap; rw [List.length_append]; exact h7⟩, wf_append hw h8, .inr ⟨g, rfl, by omega, by rw [List.append_nil, List.nil_append]; exact h4⟩⟩, fun g' e => ?_⟩
    have e : some g = some g' := e
    injection e with e
    subst e
    exact ⟨h2, rfl⟩
/-- Two lists of the call's own share no memory. -/
theorem apart2K (w : World) (B b1 b2 : Nat) (v1 v2 : Value) (l1 l2 : List Int) (t : TypeId) (h1 : KOwn .u8 5 w b1 v1 l1) (h2 : KOwn .u8 5 w b2 v2 l2) (f1 : ∀ x ∈ l1, (Lit.int .u8 x).wf = true) (f2 : ∀ x ∈ l2, (Lit.int .u8 x).wf = true) (q1 : l1.length ≤ 140737488355328) (q2 : l2.length ≤ 140737488355328)
    (hB1 : B ≤ b1) (hB2 : B ≤ b2) (hlt : ∀ g, v1.ownBlock = some g → g < b2) (hB : B ≤ w.heap.size) :
    Calls Try.prog 16 #[.slice (some ⟨w.heap.size, 0, none⟩) 2 2] (w.alloc (.cells #[v1, v2] t)) fun e w' => e = .returned (.bool true) ∧ Below B w w' := by
  obtain ⟨E1, e1, o1, a1⟩ := h1.entR (B := B) f1 q1 hB1
  obtain ⟨E2, e2, o2, a2⟩ := h2.entR (B := B) f2 q2 hB2
  have hfar : [E1, E2].Pairwise EntK.Far := by
    refine List.pairwise_cons.2 ⟨fun e he => ?_, List.pairwise_singleton _ _⟩
    simp only [List.mem_singleton] at he
    subst he
    intro g h3 h4
    have := hlt g (a1 g h3).2
    have := (a2 g h4).1
    omega
  have hok : ∀ e ∈ [E1, E2], e.Ok w B := by
    intro e he
    simp only [List.mem_cons, List.not_mem_nil, or_false] at he
    rcases he with rfl | rfl
    · exact o1
    · exact o2
  have h := apartK_list_u8 w B _ t hok hfar hB (by simp)
  simp only [List.map_cons, List.map_nil, e1, e2] at h
  exact h

theorem putR_len (q : Req) (r : Rep) : (putR q r).length ≤ 1000 := by
  unfold putR
  split
  · simp
  · rename_i hk
    have hk : chkR q r = 0 := by simpa using hk
    split
    · simp
    · rename_i hx
      have hx : r.x = 0 := by simpa using hx
      unfold formR
      split
      · rename_i hc
        have := rep_bits hk hx hc
        simp only [List.length_cons, pk_length]
        unfold need
        omega
      · split
        · rename_i hc
          have := rep_words hk hx hc
          simp only [List.length_cons, wbytes_length]
          omega
        · split
          · rename_i hc
            have := (rep_files hk hx hc).2.2
            simp only [List.length_cons]
            omega
          · simp only [List.length_take]
            omega
theorem wf_cons2 {a b : Int} {l : List Int} (ha : 0 ≤ a ∧ a < 256) (hb : 0 ≤ b ∧ b < 256) (hl : ∀ x ∈ l, (Lit.int .u8 x).wf = true) : ∀ x ∈ a :: b :: l, (Lit.int .u8 x).wf = true := by
  intro x hx
  rcases List.mem_cons.1 hx with rfl | hx
  · have := wf_byte x.toNat (by omega); rwa [show ((x.toNat : Nat) : Int) = x by omega] at this
  · rcases List.mem_cons.1 hx with rfl | hx
    · have := wf_byte x.toNat (by omega); rwa [show ((x.toNat : Nat) : Int) = x by omega] at this
    · exact hl x hx
theorem putR_wf (q : Req) (r : Rep) : ∀ x ∈ putR q r, (Lit.int .u8 x).wf = true := by
  unfold putR
  split
  · intro x hx; cases hx
  · rename_i hk
    have hk : chkR q r = 0 := by simpa using hk
    have hq : chkQ q = 0 := by
      have h2 := hk
      unfold chkR at h2
      by_cases h : chkQ q ≠ 0
      · rw [if_pos h] at h2; exact h2
      · simpa using h
    have hcr := mm_le _ (chk_code hq)
    split
    · rename_i hx
      have hxr : 1 ≤ r.x ∧ r.x ≤ 127 := by
        have h2 := hk
        unfold chkR at h2
        rw [if_neg (show ¬ chkQ q ≠ 0 by rw [hq]; simp), if_pos hx] at h2
        split at h2
        · assumption
        · cases h2
      exact wf_cons2 (by omega) (by omega) (by simp)
    · rename_i hx
      have hx : r.x = 0 := by simpa using hx
      unfold formR
      split
      · rename_i hc
        have := rep_bits hk hx hc
        exact wf_cons2 (by omega) (by unfold need; omega) (pk_wf _ _)
      · split
        · rename_i hc
          have := rep_words hk hx hc
          exact wf_cons2 (by omega) (by omega) (wbytes_wf _)
        · split
          · rename_i hc
            have h3 := rep_files hk hx hc
            exact wf_cons2 (by omega) (by omega) (fbytes_wf r.fs _ h3.2.1)
          · intro x hx
            exact putL_wf q x (List.mem_of_mem_take hx)
end Go.Proofs.Ytobhllcnljggiaa
namespace Go.Proofs.Ytobhllcnljggiaa
open Go.RowKit
set_option linter.unusedVariables false

theorem same_any_u8 (A A' : Option Addr) (n n' c c' : Nat) (xs ys : List Int) (w : World) (B B' : Nat) (hr : Row .u8 w B A xs) (hr' : Row .u8 w B' A' ys) (hn : xs.length = n) (hn' : ys.length = n') (hb : n ≤ 140737488355328) :
    Calls Try.prog 13 #[.slice A n c, .slice A' n' c'] w fun e w' => e = .returned (.bool (decide (xs = ys))) ∧ ∃ m, w' = w.drewN m := by
  obtain ⟨u, hu⟩ : ∃ u, Hid (decide (xs = ys) = u) := ⟨_, Lib.hid rfl⟩
  rw [hu.out]
  have HR := Lib.hid hr
  have HR' := Lib.hid hr'
  have HN := Lib.hid hn
  have HN' := Lib.hid hn'
  clear hr hr' hn hn'
  by_cases he : n = n'
  · subst he
    have t0 : ((n : Int) != (n : Int)) = false := by simp
    go_enter Try.func13, Try.ntmps13
    go_wp2
    go_loopw [5] (fun i wr => ∃ k nq : Nat, k ≤ n ∧ i = .int .i64 k ∧ Hid (∀ j, j < k → nth xs j = nth ys j) ∧ wr = w.drewN nq) (fun i _ => n - (intOf i).toNat)
    case atStart => exact ⟨0, 0, by omega, rfl, Lib.hid (fun j hj => by omega), rfl⟩
    case round =>
      obtain ⟨k, nq, hk, rfl, hs, rfl⟩ := hrel
      by_cases hlt : k < n
      · obtain ⟨b, o, rfl, hb1, hc1⟩ := HR.out.at_ (i := k) (by have := HN.out; omega)
        obtain ⟨b', o', rfl, hb1', hc1'⟩ := HR'.out.at_ (i := k) (by have := HN'.out; omega)
        have hlt' : (k : Int) < (n : Int) := by omega
        obtain ⟨x, hx⟩ : ∃ x, Hid (nth xs k = x) := ⟨_, Lib.hid rfl⟩
        obtain ⟨y, hy⟩ : ∃ y, Hid (nth ys k = y) := ⟨_, Lib.hid rfl⟩
        rw [hx.out] at hc1
        rw [hy.out] at hc1'
        by_cases hxy : x = y
        · have u1 : (x != y) = false := by simp [hxy]
          have u2 : (x == y) = true := by simp [hxy]
          have HXY := Lib.hid hxy
          clear hxy
          go_wp2
          go_quiet (fail)
          go_wp2
          go_roundw
          case rel => exact ⟨k + 1, _, by omega, by go_num, Lib.hid (fun j hj => by
            rcases Nat.lt_succ_iff_lt_or_eq.1 hj with h | h
            · exact hs.out j h
            · subst h; rw [hx.out, hy.out]; exact HXY.out), rfl⟩
          case measure => simp [intOf]; omega
        · have u1 : (x != y) = true := by simpa using hxy
          have u2 : (x == y) = false := beq_false_of_ne hxy
          have HU : Hid (u = false) := Lib.hid (by
            rw [← hu.out]
            refine decide_eq_false fun e => hxy ?_
            rw [← hx.out, ← hy.out, e])
          clear hxy
          go_wp2
          go_quiet (fail)
          go_wp2
          go_ret
          exact ⟨by rw [HU.out]; rfl, _, World.drewN_drewN _ _ _⟩
      · obtain rfl : k = n := by omega
        have HU : Hid (u = true) := Lib.hid (by
          rw [← hu.out]
          exact decide_eq_true (ext_nth _ _ (by rw [HN.out, HN'.out]) (fun i hi => hs.out i (by rw [← HN.out]; exact hi))))
        go_wp2
        go_ret
        exact ⟨by rw [HU.out]; rfl, nq, rfl⟩
  · have HU : Hid (u = false) := Lib.hid (by
      rw [← hu.out]
      exact decide_eq_false fun e => he (by rw [← HN.out, ← HN'.out, e]))
    have t0 : ((n : Int) != (n' : Int)) = true := by simp; omega
    have t1 : ((n : Int) == (n' : Int)) = false := beq_false_of_ne (by omega)
    clear he
    go_enter Try.func13, Try.ntmps13
    go_wp2
    go_ret
    exact ⟨by rw [HU.out]; rfl, 0, by trivial⟩
end Go.Proofs.Ytobhllcnljggiaa
namespace Go.Proofs.Ytobhllcnljggiaa
open Go.RowKit
set_option linter.unusedVariables false

/-- A call returns an answer and a number; the answer's lists are the call's own: they stay where the call's own blocks stay. -/
def RpGotS (w : World) (r : Rep) (E : Int) (e : Ending) (w' : World) : Prop :=
  ∃ (Bo Bs Bf : Option Addr) (mo ms mf eo es ef : Nat), e = .returned (.tuple #[.agg #[.int .i64 r.x, .slice Bo mo eo, .slice Bs ms es, .slice Bf mf ef], .int .i64 E]) ∧ (∀ w2 : World, (∀ j, w.heap.size ≤ j → j < w'.heap.size → w2.heap[j]? = w'.heap[j]?) → Repd w2 w2.heap.size r Bo Bs Bf mo ms mf) ∧ Below w.heap.size w w'
theorem RpGotS.exc {w w' : World} {x err : Int} {e : Ending} (h : e = .returned (.tuple #[.agg #[.int .i64 x, .slice none 0 0, .slice none 0 0, .slice none 0 0], .int .i64 err])) (hb : Below w.heap.size w w') : RpGotS w ⟨x, [], [], []⟩ err e w' :=
  ⟨none, none, none, 0, 0, 0, 0, 0, 0, h, fun _ _ => Repd.zero _ _ x, hb⟩
set_option maxHeartbeats 4000000 in
set_option maxRecDepth 100000 in
theorem refGetR_any (q : Req) (Ao As Ap : Option Addr) (lo ls lp co cs cp : Nat) (A : Option Addr) (m cap : Nat) (ys : List Int) (w : World) (h : Asked w w.heap.size q Ao As Ap lo ls lp) (hr : Row .u8 w w.heap.size A ys) (hy : ys.length = m) (hcap : m ≤ cap) (hcb : cap ≤ 9223372036854775807) (hb1 : m ≤ 1000000) (hlp : lp ≤ 100000) :
    Calls Try.prog 20 #[.agg #[.int .i64 q.c, .int .i64 q.a, .int .i64 q.n, .slice Ao lo co, .slice As ls cs, .slice Ap lp cp], .slice A m cap] w (RpGotS w (getR q ys) (getRE q ys)) := by
  have t0 := TB.new2 w #[.int .i64 q.c, .int .i64 q.a, .int .i64 q.n, .slice Ao lo co, .slice As ls cs, .slice Ap lp cp] #[.int .i64 0, .slice none 0 0, .slice none 0 0, .slice none 0 0] 26 29
  have HC := Lib.hid (refCheck_any q Ao As Ap lo ls lp co cs cp _ ((h.below t0.bel).more t0.bel.size))
  rw [chkQ_of h] at HC
  by_cases hk : chkQ q = 0
  · rw [hk] at HC
    by_cases hm0 : m = 0
    · subst hm0
      have e : getRE q ys = 1 := by rw [getRE, if_neg (by rw [hk]; simp), if_pos hy]
      rw [e, getR, if_pos (by rw [e]; simp)]
      clear h hr hk
      go_enter Try.func20, Try.ntmps20
      go_wp2_with fail
      refine HC.out.mono ?_
      rintro e w1 ⟨rfl, b1⟩
      have t1 := t0.below b1
      clear b1 t0 HC
      obtain ⟨d0, d1, d2, d3, d4⟩ := t1.c4
      obtain ⟨r0, r1, r2, r3, r4, r5, r6⟩ := t1.r6
      have P5 := Lib.hid (t1.put4 (.int .i64 0) (.slice none 0 0) (.slice none 0 0) (.slice none 0 0))
      obtain ⟨f0, f1, f2, f3, f4⟩ := t1.c4
      go_wp2
      (try simp only [Exit.inBlock, Exit.then])
      show bodyPost _ _ _ _ _ (put4 (w1) (w.heap.size + 1) (.int .i64 0) (.slice none 0 0) (.slice none 0 0) (.slice none 0 0))
      generalize put4 (w1) (w.heap.size + 1) (.int .i64 0) (.slice none 0 0) (.slice none 0 0) (.slice none 0 0) = w6 at *
      obtain ⟨x0, x1, x2, x3⟩ := cells4 P5.out.1
      refine bodyPost_ret (v := .tuple #[.agg #[.int .i64 0, .slice none 0 0, .slice none 0 0, .slice none 0 0], .int .i64 1]) (by simp [results, Try.results20, go_sem, x0, x1, x2, x3]) rfl ?_
      exact RpGotS.exc rfl P5.out.2
    · have hcr := mm_le _ (chk_code hk)
      have H := Lib.hid h
      have HK := Lib.hid hk
      have HR := Lib.hid hr
      have HY := Lib.hid hy
      have HWF := Lib.hid hr.1
      have h3 : q.fl.length % 3 = 0 := by have := h.lp; omega
      have H3 := Lib.hid h3
      have hmp : 0 < m := by omega
      have hmi : ((m : Int) == 0) = false := beq_false_of_ne (by omega)
      obtain ⟨b, o, rfl, hb, hc⟩ := hr.at_ (i := 0) (by omega)
      have hwf := wf_u8 (hr.wf_at (i := 0) (by omega))
      have hA1 := getRE_exc (ys := ys) hk (by omega)
      have hA2 := getRE_ans (ys := ys) hk (by omega)
      have hA3 : nth ys 0 ≠ q.c + 128 → nth ys 0 ≠ q.c → getRE q ys = 20 ∧ getR q ys = ⟨0, [], [], []⟩ := by
        intro g1 g2
        have e : getRE q ys = 20 := by rw [getRE, if_neg (by rw [hk]; simp), if_neg (by omega), if_neg g1, if_neg g2]
        exact ⟨e, by rw [getR, if_pos (by rw [e]; simp)]; rfl⟩
      obtain ⟨y, hy0⟩ : ∃ y, Hid (nth ys 0 = y) := ⟨_, Lib.hid rfl⟩
      rw [hy0.out] at hc hwf hA1 hA2 hA3
      rw [Nat.add_zero] at hc
      have e0 : IntKind.i64.wrap y = y := IntWalk.i64_in _ (by omega)
      have e1 : IntKind.i64.wrap (q.c + 128) = q.c + 128 := IntWalk.i64_in _ (by omega)
      clear h hk hr hy hm0 h3
      by_cases f1 : y = q.c + 128
      · obtain ⟨g1, g2⟩ := hA1 f1
        rw [g1, g2]
        have e2 : (y == q.c + 128) = true := by simp [f1]
        clear f1 hA1 hA2 hA3 g1 g2
        by_cases m1 : m = 1
        · have hE : excE ys = 1 := by have := HY.out; rw [excE, if_pos (by omega)]
          have hR2 : excR ys = ⟨0, [], [], []⟩ := by rw [excR, if_neg (by rw [hE]; simp)]; rfl
          rw [hE, hR2]
          have u1 : ((m : Int) == 1) = true := by simp [m1]
          clear m1 hE hR2
          go_enter Try.func20, Try.ntmps20
          go_wp2_with fail
          refine HC.out.mono ?_
          rintro e w1 ⟨rfl, b1⟩
          have t1 := t0.below b1
          clear b1 t0 HC
          obtain ⟨d0, d1, d2, d3, d4⟩ := t1.c4
          obtain ⟨r0, r1, r2, r3, r4, r5, r6⟩ := t1.r6
          have hc1 : w1.cell? ⟨b, o, none⟩ = some (.int .u8 y) := (t1.bel.cell (p := ⟨b, o, none⟩) hb).trans hc
          go_wp2_with fail
          go_quiet (fail)
          have t2 := t1.below (bel_drewN w1 nq)
          clear d0 d1 d2 d3 d4 r0 r1 r2 r3 r4 r5 r6 hc1 t1
          generalize w1.drewN nq = w2 at *
          have P5 := Lib.hid (t2.put4 (.int .i64 0) (.slice none 0 0) (.slice none 0 0) (.slice none 0 0))
          obtain ⟨f0, f1, f2, f3, f4⟩ := t2.c4
          go_wp2
          (try simp only [Exit.inBlock, Exit.then])
          show bodyPost _ _ _ _ _ (put4 (w2) (w.heap.size + 1) (.int .i64 0) (.slice none 0 0) (.slice none 0 0) (.slice none 0 0))
          generalize put4 (w2) (w.heap.size + 1) (.int .i64 0) (.slice none 0 0) (.slice none 0 0) (.slice none 0 0) = w6 at *
          obtain ⟨x0, x1, x2, x3⟩ := cells4 P5.out.1
          refine bodyPost_ret (v := .tuple #[.agg #[.int .i64 0, .slice none 0 0, .slice none 0 0, .slice none 0 0], .int .i64 1]) (by simp [results, Try.results20, go_sem, x0, x1, x2, x3]) rfl ?_
          exact RpGotS.exc rfl P5.out.2
        · have u1 : ((m : Int) == 1) = false := beq_false_of_ne (by omega)
          by_cases m2 : 2 < m
          · have hE : excE ys = 2 := by have := HY.out; rw [excE, if_neg (by omega), if_pos (by omega)]
            have hR2 : excR ys = ⟨0, [], [], []⟩ := by rw [excR, if_neg (by rw [hE]; simp)]; rfl
            rw [hE, hR2]
            have u2 : (2 : Int) < (m : Int) := by omega
            clear m1 m2 hE hR2
            go_enter Try.func20, Try.ntmps20
            go_wp2_with fail
            refine HC.out.mono ?_
            rintro e w1 ⟨rfl, b1⟩
            have t1 := t0.below b1
            clear b1 t0 HC
            obtain ⟨d0, d1, d2, d3, d4⟩ := t1.c4
            obtain ⟨r0, r1, r2, r3, r4, r5, r6⟩ := t1.r6
            have hc1 : w1.cell? ⟨b, o, none⟩ = some (.int .u8 y) := (t1.bel.cell (p := ⟨b, o, none⟩) hb).trans hc
            go_wp2_with fail
            go_quiet (fail)
            have t2 := t1.below (bel_drewN w1 nq)
            clear d0 d1 d2 d3 d4 r0 r1 r2 r3 r4 r5 r6 hc1 t1
            generalize w1.drewN nq = w2 at *
            have P5 := Lib.hid (t2.put4 (.int .i64 0) (.slice none 0 0) (.slice none 0 0) (.slice none 0 0))
            obtain ⟨f0, f1, f2, f3, f4⟩ := t2.c4
            go_wp2
            (try simp only [Exit.inBlock, Exit.then])
            show bodyPost _ _ _ _ _ (put4 (w2) (w.heap.size + 1) (.int .i64 0) (.slice none 0 0) (.slice none 0 0) (.slice none 0 0))
            generalize put4 (w2) (w.heap.size + 1) (.int .i64 0) (.slice none 0 0) (.slice none 0 0) (.slice none 0 0) = w6 at *
            obtain ⟨x0, x1, x2, x3⟩ := cells4 P5.out.1
            refine bodyPost_ret (v := .tuple #[.agg #[.int .i64 0, .slice none 0 0, .slice none 0 0, .slice none 0 0], .int .i64 2]) (by simp [results, Try.results20, go_sem, x0, x1, x2, x3]) rfl ?_
            exact RpGotS.exc rfl P5.out.2
          · have u2 : ¬ (2 : Int) < (m : Int) := by omega
            have hm2 : m = 2 := by omega
            obtain ⟨b', o', hA, hbx, hcx⟩ := HR.out.at_ (i := 1) (by have := HY.out; omega)
            injection hA with hA
            injection hA with hA1 hA2
            subst hA1 hA2
            have hwx := wf_u8 (HR.out.wf_at (i := 1) (by have := HY.out; omega))
            have hEE : excE ys = if 1 ≤ nth ys 1 ∧ nth ys 1 ≤ 127 then 0 else 3 := by have := HY.out; rw [excE, if_neg (by omega), if_neg (by omega)]
            obtain ⟨x, hx⟩ : ∃ x, Hid (nth ys 1 = x) := ⟨_, Lib.hid rfl⟩
            rw [hx.out] at hcx hwx hEE
            have e4 : IntKind.i64.wrap x = x := IntWalk.i64_in _ (by omega)
            have hmm1 : 1 < m := by omega
            clear m1 m2
            by_cases fx : 1 ≤ x ∧ x ≤ 127
            · have hE : excE ys = 0 := by rw [hEE, if_pos fx]
              have hR2 : excR ys = ⟨x, [], [], []⟩ := by rw [excR, if_pos hE, hx.out]
              rw [hE, hR2]
              have v1 : (x == 0) = false := beq_false_of_ne (by omega)
              have v2 : ¬ (127 < x) := by omega
              clear hE hR2 hEE fx
              go_enter Try.func20, Try.ntmps20
              go_wp2_with fail
              refine HC.out.mono ?_
              rintro e w1 ⟨rfl, b1⟩
              have t1 := t0.below b1
              clear b1 t0 HC
              obtain ⟨d0, d1, d2, d3, d4⟩ := t1.c4
              obtain ⟨r0, r1, r2, r3, r4, r5, r6⟩ := t1.r6
              have hc1 : w1.cell? ⟨b, o, none⟩ = some (.int .u8 y) := (t1.bel.cell (p := ⟨b, o, none⟩) hb).trans hc
              go_wp2_with fail
              go_quiet (fail)
              have t2 := t1.below (bel_drewN w1 nq)
              clear d0 d1 d2 d3 d4 r0 r1 r2 r3 r4 r5 r6 hc1 t1
              generalize w1.drewN nq = w2 at *
              have hcx1 : w2.cell? ⟨b, o + 1, none⟩ = some (.int .u8 x) := (t2.bel.cell (p := ⟨b, o + 1, none⟩) hbx).trans hcx
              have P5 := Lib.hid (t2.put4 (.int .i64 x) (.slice none 0 0) (.slice none 0 0) (.slice none 0 0))
              obtain ⟨f0, f1, f2, f3, f4⟩ := t2.c4
              go_wp2
              (try simp only [Exit.inBlock, Exit.then])
              show bodyPost _ _ _ _ _ (put4 (w2) (w.heap.size + 1) (.int .i64 x) (.slice none 0 0) (.slice none 0 0) (.slice none 0 0))
              generalize put4 (w2) (w.heap.size + 1) (.int .i64 x) (.slice none 0 0) (.slice none 0 0) (.slice none 0 0) = w6 at *
              obtain ⟨x0, x1, x2, x3⟩ := cells4 P5.out.1
              refine bodyPost_ret (v := .tuple #[.agg #[.int .i64 x, .slice none 0 0, .slice none 0 0, .slice none 0 0], .int .i64 0]) (by simp [results, Try.results20, go_sem, x0, x1, x2, x3]) rfl ?_
              exact RpGotS.exc rfl P5.out.2
            · have hE : excE ys = 3 := by rw [hEE, if_neg fx]
              have hR2 : excR ys = ⟨0, [], [], []⟩ := by rw [excR, if_neg (by rw [hE]; simp)]; rfl
              rw [hE, hR2]
              clear hE hR2 hEE
              by_cases x0 : x = 0
              · have v1 : (x == 0) = true := by simp [x0]
                clear fx x0
                go_enter Try.func20, Try.ntmps20
                go_wp2_with fail
                refine HC.out.mono ?_
                rintro e w1 ⟨rfl, b1⟩
                have t1 := t0.below b1
                clear b1 t0 HC
                obtain ⟨d0, d1, d2, d3, d4⟩ := t1.c4
                obtain ⟨r0, r1, r2, r3, r4, r5, r6⟩ := t1.r6
                have hc1 : w1.cell? ⟨b, o, none⟩ = some (.int .u8 y) := (t1.bel.cell (p := ⟨b, o, none⟩) hb).trans hc
                go_wp2_with fail
                go_quiet (fail)
                have t2 := t1.below (bel_drewN w1 nq)
                clear d0 d1 d2 d3 d4 r0 r1 r2 r3 r4 r5 r6 hc1 t1
                generalize w1.drewN nq = w2 at *
                have hcx1 : w2.cell? ⟨b, o + 1, none⟩ = some (.int .u8 x) := (t2.bel.cell (p := ⟨b, o + 1, none⟩) hbx).trans hcx
                have P5 := Lib.hid (t2.put4 (.int .i64 0) (.slice none 0 0) (.slice none 0 0) (.slice none 0 0))
                obtain ⟨f0, f1, f2, f3, f4⟩ := t2.c4
                go_wp2
                (try simp only [Exit.inBlock, Exit.then])
                show bodyPost _ _ _ _ _ (put4 (w2) (w.heap.size + 1) (.int .i64 0) (.slice none 0 0) (.slice none 0 0) (.slice none 0 0))
                generalize put4 (w2) (w.heap.size + 1) (.int .i64 0) (.slice none 0 0) (.slice none 0 0) (.slice none 0 0) = w6 at *
                obtain ⟨x0, x1, x2, x3⟩ := cells4 P5.out.1
                refine bodyPost_ret (v := .tuple #[.agg #[.int .i64 0, .slice none 0 0, .slice none 0 0, .slice none 0 0], .int .i64 3]) (by simp [results, Try.results20, go_sem, x0, x1, x2, x3]) rfl ?_
                exact RpGotS.exc rfl P5.out.2
              · have v1 : (x == 0) = false := beq_false_of_ne x0
                have v2 : 127 < x := by omega
                clear fx x0
                go_enter Try.func20, Try.ntmps20
                go_wp2_with fail
                refine HC.out.mono ?_
                rintro e w1 ⟨rfl, b1⟩
                have t1 := t0.below b1
                clear b1 t0 HC
                obtain ⟨d0, d1, d2, d3, d4⟩ := t1.c4
                obtain ⟨r0, r1, r2, r3, r4, r5, r6⟩ := t1.r6
                have hc1 : w1.cell? ⟨b, o, none⟩ = some (.int .u8 y) := (t1.bel.cell (p := ⟨b, o, none⟩) hb).trans hc
                go_wp2_with fail
                go_quiet (fail)
                have t2 := t1.below (bel_drewN w1 nq)
                clear d0 d1 d2 d3 d4 r0 r1 r2 r3 r4 r5 r6 hc1 t1
                generalize w1.drewN nq = w2 at *
                have hcx1 : w2.cell? ⟨b, o + 1, none⟩ = some (.int .u8 x) := (t2.bel.cell (p := ⟨b, o + 1, none⟩) hbx).trans hcx
                have P5 := Lib.hid (t2.put4 (.int .i64 0) (.slice none 0 0) (.slice none 0 0) (.slice none 0 0))
                obtain ⟨f0, f1, f2, f3, f4⟩ := t2.c4
                go_wp2
                (try simp only [Exit.inBlock, Exit.then])
                show bodyPost _ _ _ _ _ (put4 (w2) (w.heap.size + 1) (.int .i64 0) (.slice none 0 0) (.slice none 0 0) (.slice none 0 0))
                generalize put4 (w2) (w.heap.size + 1) (.int .i64 0) (.slice none 0 0) (.slice none 0 0) (.slice none 0 0) = w6 at *
                obtain ⟨x0, x1, x2, x3⟩ := cells4 P5.out.1
                refine bodyPost_ret (v := .tuple #[.agg #[.int .i64 0, .slice none 0 0, .slice none 0 0, .slice none 0 0], .int .i64 3]) (by simp [results, Try.results20, go_sem, x0, x1, x2, x3]) rfl ?_
                exact RpGotS.exc rfl P5.out.2
      · have e2 : (y == q.c + 128) = false := beq_false_of_ne f1
        by_cases f2 : y = q.c
        · obtain ⟨g1, g2⟩ := hA2 f2
          rw [g1, g2]
          have e3 : (y == q.c) = true := by simp [f2]
          have e3' : (y != q.c) = false := by simp [f2]
          have HF2 := Lib.hid f2
          obtain ⟨S, hS⟩ : ∃ S, Hid (sizeR q = S) := ⟨_, Lib.hid rfl⟩
          have HLEN : Hid (∀ W, Asked W W.heap.size q Ao As Ap lo ls lp → Calls Try.prog 52 #[.agg #[.int .i64 q.c, .int .i64 q.a, .int .i64 q.n, .slice Ao lo co, .slice As ls cs, .slice Ap lp cp]] W fun e w' => e = .returned (.int .i64 ((S : Nat) : Int)) ∧ Below W.heap.size W w') := Lib.hid (fun W hW => by rw [← hS.out]; exact refLen_any q Ao As Ap lo ls lp co cs cp W hW HK.out)
          clear f1 f2 hA1 hA2 hA3 g1 g2
          by_cases ms1 : m < S
          · have hE : ansE q ys = 1 := by have := HY.out; have := hS.out; rw [ansE, if_pos (by omega)]
            have hR2 : ansR q ys = ⟨0, [], [], []⟩ := by rw [ansR, if_neg (by rw [hE]; simp)]; rfl
            rw [hE, hR2]
            have u1 : (m : Int) < (S : Int) := by omega
            clear ms1 hE hR2
            go_enter Try.func20, Try.ntmps20
            go_wp2_with fail
            refine HC.out.mono ?_
            rintro e w1 ⟨rfl, b1⟩
            have t1 := t0.below b1
            clear b1 t0 HC
            obtain ⟨d0, d1, d2, d3, d4⟩ := t1.c4
            obtain ⟨r0, r1, r2, r3, r4, r5, r6⟩ := t1.r6
            have hc1 : w1.cell? ⟨b, o, none⟩ = some (.int .u8 y) := (t1.bel.cell (p := ⟨b, o, none⟩) hb).trans hc
            go_wp2_with fail
            go_quiet (fail)
            have t2 := t1.below (bel_drewN w1 nq)
            clear d0 d1 d2 d3 d4 r0 r1 r2 r3 r4 r5 r6 hc1 t1
            generalize w1.drewN nq = w2 at *
            have hc2 : w2.cell? ⟨b, o, none⟩ = some (.int .u8 y) := (t2.bel.cell (p := ⟨b, o, none⟩) hb).trans hc
            obtain ⟨r0, r1, r2, r3, r4, r5, r6⟩ := t2.r6
            go_wp2_with fail
            go_quiet (fail)
            have t3 := t2.below (bel_drewN w2 nq)
            clear r0 r1 r2 r3 r4 r5 r6 hc2 t2
            generalize w2.drewN nq = w3 at *
            obtain ⟨r0, r1, r2, r3, r4, r5, r6⟩ := t3.r6
            go_wp2_with fail
            refine (HLEN.out _ ((H.out.below t3.bel).more t3.bel.size)).mono ?_
            rintro e w4 ⟨rfl, b4⟩
            have t4 := t3.below b4
            clear b4 t3 r0 r1 r2 r3 r4 r5 r6
            have P5 := Lib.hid (t4.put4 (.int .i64 0) (.slice none 0 0) (.slice none 0 0) (.slice none 0 0))
            obtain ⟨f0, f1, f2, f3, f4⟩ := t4.c4
            go_wp2
            (try simp only [Exit.inBlock, Exit.then])
            show bodyPost _ _ _ _ _ (put4 (w4) (w.heap.size + 1) (.int .i64 0) (.slice none 0 0) (.slice none 0 0) (.slice none 0 0))
            generalize put4 (w4) (w.heap.size + 1) (.int .i64 0) (.slice none 0 0) (.slice none 0 0) (.slice none 0 0) = w6 at *
            obtain ⟨x0, x1, x2, x3⟩ := cells4 P5.out.1
            refine bodyPost_ret (v := .tuple #[.agg #[.int .i64 0, .slice none 0 0, .slice none 0 0, .slice none 0 0], .int .i64 1]) (by simp [results, Try.results20, go_sem, x0, x1, x2, x3]) rfl ?_
            exact RpGotS.exc rfl P5.out.2
          · have u1 : ¬ (m : Int) < (S : Int) := by omega
            by_cases ms2 : S < m
            · have hE : ansE q ys = 2 := by have := HY.out; have := hS.out; rw [ansE, if_neg (by omega), if_pos (by omega)]
              have hR2 : ansR q ys = ⟨0, [], [], []⟩ := by rw [ansR, if_neg (by rw [hE]; simp)]; rfl
              rw [hE, hR2]
              have u2 : (S : Int) < (m : Int) := by omega
              clear ms1 ms2 hE hR2
              go_enter Try.func20, Try.ntmps20
              go_wp2_with fail
              refine HC.out.mono ?_
              rintro e w1 ⟨rfl, b1⟩
              have t1 := t0.below b1
              clear b1 t0 HC
              obtain ⟨d0, d1, d2, d3, d4⟩ := t1.c4
              obtain ⟨r0, r1, r2, r3, r4, r5, r6⟩ := t1.r6
              have hc1 : w1.cell? ⟨b, o, none⟩ = some (.int .u8 y) := (t1.bel.cell (p := ⟨b, o, none⟩) hb).trans hc
              go_wp2_with fail
              go_quiet (fail)
              have t2 := t1.below (bel_drewN w1 nq)
              clear d0 d1 d2 d3 d4 r0 r1 r2 r3 r4 r5 r6 hc1 t1
              generalize w1.drewN nq = w2 at *
              have hc2 : w2.cell? ⟨b, o, none⟩ = some (.int .u8 y) := (t2.bel.cell (p := ⟨b, o, none⟩) hb).trans hc
              obtain ⟨r0, r1, r2, r3, r4, r5, r6⟩ := t2.r6
              go_wp2_with fail
              go_quiet (fail)
              have t3 := t2.below (bel_drewN w2 nq)
              clear r0 r1 r2 r3 r4 r5 r6 hc2 t2
              generalize w2.drewN nq = w3 at *
              obtain ⟨r0, r1, r2, r3, r4, r5, r6⟩ := t3.r6
              go_wp2_with fail
              refine (HLEN.out _ ((H.out.below t3.bel).more t3.bel.size)).mono ?_
              rintro e w4 ⟨rfl, b4⟩
              have t4 := t3.below b4
              clear b4 t3 r0 r1 r2 r3 r4 r5 r6
              obtain ⟨r0, r1, r2, r3, r4, r5, r6⟩ := t4.r6
              go_wp2_with fail
              refine (HLEN.out _ ((H.out.below t4.bel).more t4.bel.size)).mono ?_
              rintro e w5 ⟨rfl, b5⟩
              have t5 := t4.below b5
              clear b5 t4 r0 r1 r2 r3 r4 r5 r6
              have P5 := Lib.hid (t5.put4 (.int .i64 0) (.slice none 0 0) (.slice none 0 0) (.slice none 0 0))
              obtain ⟨f0, f1, f2, f3, f4⟩ := t5.c4
              go_wp2
              (try simp only [Exit.inBlock, Exit.then])
              show bodyPost _ _ _ _ _ (put4 (w5) (w.heap.size + 1) (.int .i64 0) (.slice none 0 0) (.slice none 0 0) (.slice none 0 0))
              generalize put4 (w5) (w.heap.size + 1) (.int .i64 0) (.slice none 0 0) (.slice none 0 0) (.slice none 0 0) = w6 at *
              obtain ⟨x0, x1, x2, x3⟩ := cells4 P5.out.1
              refine bodyPost_ret (v := .tuple #[.agg #[.int .i64 0, .slice none 0 0, .slice none 0 0, .slice none 0 0], .int .i64 2]) (by simp [results, Try.results20, go_sem, x0, x1, x2, x3]) rfl ?_
              exact RpGotS.exc rfl P5.out.2
            · have u2 : ¬ (S : Int) < (m : Int) := by omega
              have hms : m = S := by omega
              have HMS : Hid (m = sizeR q) := Lib.hid (by rw [hS.out]; exact hms)
              obtain ⟨u, hu⟩ : ∃ u, Hid (rdOkR q ys = u) := ⟨_, Lib.hid rfl⟩
              have HEU : Hid (ansE q ys = bif u then 0 else 4) := Lib.hid (by
                have := HY.out; have := HMS.out
                rw [ansE, if_neg (by omega), if_neg (by omega), hu.out]
                cases u <;> rfl)
              have HD : Hid (decide (putR q (rdR q ys) = ys) = u) := Lib.hid (by
                have hi := rdOkR_iff HWF.out HK.out H3.out (by rw [HY.out]; exact HMS.out) (by rw [hy0.out]; exact HF2.out)
                rw [hu.out] at hi
                cases u with
                | true => exact decide_eq_true (hi.2 rfl)
                | false => exact decide_eq_false (fun e => by have := hi.1 e; cases this))
              have HPW : Hid (∀ x ∈ putR q (rdR q ys), (Lit.int .u8 x).wf = true) := Lib.hid (putR_wf q (rdR q ys))
              have HPL : Hid ((putR q (rdR q ys)).length ≤ 1000) := Lib.hid (putR_len q (rdR q ys))
              have HRA : Hid (u = true → ansR q ys = rdR q ys) := Lib.hid (fun e => by rw [ansR, if_pos (by rw [HEU.out, e]; rfl)])
              have HRZ : Hid (u = false → ansR q ys = ⟨0, [], [], []⟩) := Lib.hid (fun e => by rw [ansR, if_neg (by rw [HEU.out, e]; simp)]; rfl)
              have hsh := fun W hA hR => refShape_any q Ao As Ap lo ls lp co cs cp (some ⟨b, o, none⟩) m cap ys W hA HK.out hR HY.out HMS.out hcap hcb
              obtain ⟨R, hR⟩ : ∃ R, Hid (rdR q ys = R) := ⟨_, Lib.hid rfl⟩
              rw [hR.out] at HD HPW HPL HRA hsh
              have HSH := Lib.hid hsh
              rw [HEU.out]
              clear ms1 ms2 hms hsh
              go_enter Try.func20, Try.ntmps20
              go_wp2_with fail
              refine HC.out.mono ?_
              rintro e w1 ⟨rfl, b1⟩
              have t1 := t0.below b1
              clear b1 t0 HC
              obtain ⟨d0, d1, d2, d3, d4⟩ := t1.c4
              obtain ⟨r0, r1, r2, r3, r4, r5, r6⟩ := t1.r6
              have hc1 : w1.cell? ⟨b, o, none⟩ = some (.int .u8 y) := (t1.bel.cell (p := ⟨b, o, none⟩) hb).trans hc
              go_wp2_with fail
              go_quiet (fail)
              have t2 := t1.below (bel_drewN w1 nq)
              clear d0 d1 d2 d3 d4 r0 r1 r2 r3 r4 r5 r6 hc1 t1
              generalize w1.drewN nq = w2 at *
              have hc2 : w2.cell? ⟨b, o, none⟩ = some (.int .u8 y) := (t2.bel.cell (p := ⟨b, o, none⟩) hb).trans hc
              obtain ⟨r0, r1, r2, r3, r4, r5, r6⟩ := t2.r6
              go_wp2_with fail
              go_quiet (fail)
              have t3 := t2.below (bel_drewN w2 nq)
              clear r0 r1 r2 r3 r4 r5 r6 hc2 t2
              generalize w2.drewN nq = w3 at *
              obtain ⟨r0, r1, r2, r3, r4, r5, r6⟩ := t3.r6
              go_wp2_with fail
              refine (HLEN.out _ ((H.out.below t3.bel).more t3.bel.size)).mono ?_
              rintro e w4 ⟨rfl, b4⟩
              have t4 := t3.below b4
              clear b4 t3 r0 r1 r2 r3 r4 r5 r6
              obtain ⟨r0, r1, r2, r3, r4, r5, r6⟩ := t4.r6
              go_wp2_with fail
              refine (HLEN.out _ ((H.out.below t4.bel).more t4.bel.size)).mono ?_
              rintro e w5 ⟨rfl, b5⟩
              have t5 := t4.below b5
              clear b5 t4 r0 r1 r2 r3 r4 r5 r6
              obtain ⟨r0, r1, r2, r3, r4, r5, r6⟩ := t5.r6
              go_wp2_with fail
              refine (HSH.out _ ((H.out.below t5.bel).more t5.bel.size) ((HR.out.below t5.bel).more t5.bel.size)).mono ?_
              rintro e w6' ⟨Bo, Bs, Bf, mo, ms, mf, eo, es, ef, rfl, rd, b6⟩
              have t6 := t5.below b6
              have bA := bel_alloc w6' (.cells #[.int .i64 R.x, .slice Bo mo eo, .slice Bs ms es, .slice Bf mf ef] 29)
              have t7 := t6.below bA
              have RDS := Lib.hid rd
              have RD := Lib.hid (rd _ (fun j _ hj => bA.block j hj))
              have ST : ∀ j, j < w6'.heap.size → (w6'.alloc (.cells #[.int .i64 R.x, .slice Bo mo eo, .slice Bs ms es, .slice Bf mf ef] 29)).heap[j]? = w6'.heap[j]? := fun j hj => bA.block j hj
              have hs7 := bA.size
              have hbox := Lib.hid (heap_alloc_new w6' (.cells #[.int .i64 R.x, .slice Bo mo eo, .slice Bs ms es, .slice Bf mf ef] 29))
              have hz5 := t5.lt
              have hz6 : w.heap.size + 1 < w6'.heap.size := t6.lt
              clear b6 t5 t6 bA rd r0 r1 r2 r3 r4 r5 r6
              obtain ⟨w7, hw7⟩ : ∃ w7, w6'.alloc (.cells #[.int .i64 R.x, .slice Bo mo eo, .slice Bs ms es, .slice Bf mf ef] 29) = w7 := ⟨_, rfl⟩
              obtain ⟨g7, hg7⟩ : ∃ g, w6'.heap.size = g := ⟨_, rfl⟩
              rw [hw7] at t7 RD hbox ST hs7
              have ST := Lib.hid ST
              rw [hg7] at hbox
              obtain ⟨r0, r1, r2, r3, r4, r5, r6⟩ := t7.r6
              obtain ⟨y0, y1, y2, y3⟩ := cells4 hbox.out
              have HP := Lib.hid (refPutR_any q R Ao As Ap Bo Bs Bf lo ls lp co cs cp mo ms mf eo es ef w7 ((H.out.below t7.bel).more t7.bel.size) RD.out hlp)
              go_wp2_with fail
              clear r0 r1 r2 r3 r4 r5 r6 y0 y1 y2 y3
              refine HP.out.mono ?_
              rintro e w8 ⟨v8, rfl, own8, b8⟩
              obtain ⟨A8, n8, c8, rfl, row8, l8⟩ := own8.view3 HPW.out
              have t8 := t7.below b8
              have ST8 := Lib.hid (fun j (hj : j < w6'.heap.size) => (b8.block j (Nat.lt_of_lt_of_le hj hs7)).trans (ST.out j hj))
              have hs8 := b8.size
              have hbox8 := Lib.hid ((b8.block g7 (block_lt hbox.out)).trans hbox.out)
              have HS8 := Lib.hid (same_any_u8 A8 (some ⟨b, o, none⟩) n8 m c8 cap (putR q R) ys w8 _ _ row8 (HR.out.below t8.bel) l8 HY.out (by have := HPL.out; omega))
              rw [HD.out] at HS8
              clear t7 b8 RD hbox own8 row8 l8 HP hw7 hg7
              cases u with
              | true =>
                go_wp2_with fail
                refine HS8.out.mono ?_
                rintro e w9 ⟨rfl, m9, hw9⟩
                have b9 : Below w8.heap.size w8 w9 := by rw [hw9]; exact bel_drewN w8 m9
                have t9 := t8.below b9
                have hs9 := b9.size
                have ST9 := Lib.hid (fun j (hj : j < w6'.heap.size) => (b9.block j (Nat.lt_of_lt_of_le hj (Nat.le_trans hs7 hs8))).trans (ST8.out j hj))
                have hbox9 := Lib.hid ((b9.block g7 (block_lt hbox8.out)).trans hbox8.out)
                clear b9 hw9 t8 hbox8 HS8
                obtain ⟨y0, y1, y2, y3⟩ := cells4 hbox9.out
                obtain ⟨f0, f1, f2, f3, f4⟩ := t9.c4
                have P5 := Lib.hid (t9.put4 (.int .i64 R.x) (.slice Bo mo eo) (.slice Bs ms es) (.slice Bf mf ef))
                have P6 : Hid (∀ j, w5.heap.size ≤ j → j < w6'.heap.size → (put4 w9 (w.heap.size + 1) (.int .i64 R.x) (.slice Bo mo eo) (.slice Bs ms es) (.slice Bf mf ef)).heap[j]? = w6'.heap[j]?) := Lib.hid (fun j h1 h2 => (put4_other (by omega) (.int .i64 R.x) (.slice Bo mo eo) (.slice Bs ms es) (.slice Bf mf ef)).trans (ST9.out j h2))
                have P7 : Hid (w6'.heap.size ≤ (put4 w9 (w.heap.size + 1) (.int .i64 R.x) (.slice Bo mo eo) (.slice Bs ms es) (.slice Bf mf ef)).heap.size) := Lib.hid (by simp [put4, World.setCell]; omega)
                go_wp2
                (try simp only [Exit.inBlock, Exit.then])
                show bodyPost _ _ _ _ _ (put4 (w9) (w.heap.size + 1) (.int .i64 R.x) (.slice Bo mo eo) (.slice Bs ms es) (.slice Bf mf ef))
                generalize put4 (w9) (w.heap.size + 1) (.int .i64 R.x) (.slice Bo mo eo) (.slice Bs ms es) (.slice Bf mf ef) = w6 at *
                obtain ⟨x0, x1, x2, x3⟩ := cells4 P5.out.1
                refine bodyPost_ret (v := .tuple #[.agg #[.int .i64 R.x, .slice Bo mo eo, .slice Bs ms es, .slice Bf mf ef], .int .i64 0]) (by simp [results, Try.results20, go_sem, x0, x1, x2, x3]) rfl ?_
                rw [HRA.out (by trivial)]
                exact ⟨Bo, Bs, Bf, mo, ms, mf, eo, es, ef, rfl, (fun v9 hk9 => RDS.out v9 (fun j h1 h2 => (hk9 j (by omega) (by have := P7.out; omega)).trans (P6.out j h1 h2))), P5.out.2⟩
              | false =>
                go_wp2_with fail
                refine HS8.out.mono ?_
                rintro e w9 ⟨rfl, m9, hw9⟩
                have t9 := t8.below (show Below w8.heap.size w8 w9 by rw [hw9]; exact bel_drewN w8 m9)
                clear hw9 t8 hbox8 HS8
                have P5 := Lib.hid (t9.put4 (.int .i64 0) (.slice none 0 0) (.slice none 0 0) (.slice none 0 0))
                obtain ⟨f0, f1, f2, f3, f4⟩ := t9.c4
                go_wp2
                (try simp only [Exit.inBlock, Exit.then])
                show bodyPost _ _ _ _ _ (put4 (w9) (w.heap.size + 1) (.int .i64 0) (.slice none 0 0) (.slice none 0 0) (.slice none 0 0))
                generalize put4 (w9) (w.heap.size + 1) (.int .i64 0) (.slice none 0 0) (.slice none 0 0) (.slice none 0 0) = w6 at *
                obtain ⟨x0, x1, x2, x3⟩ := cells4 P5.out.1
                refine bodyPost_ret (v := .tuple #[.agg #[.int .i64 0, .slice none 0 0, .slice none 0 0, .slice none 0 0], .int .i64 4]) (by simp [results, Try.results20, go_sem, x0, x1, x2, x3]) rfl ?_
                rw [HRZ.out (by trivial)]
                exact RpGotS.exc rfl P5.out.2
        · obtain ⟨g1, g2⟩ := hA3 f1 f2
          rw [g1, g2]
          have e3 : (y == q.c) = false := beq_false_of_ne f2
          have e3' : (y != q.c) = true := by simpa using f2
          clear f1 f2 hA1 hA2 hA3 g1 g2
          go_enter Try.func20, Try.ntmps20
          go_wp2_with fail
          refine HC.out.mono ?_
          rintro e w1 ⟨rfl, b1⟩
          have t1 := t0.below b1
          clear b1 t0 HC
          obtain ⟨d0, d1, d2, d3, d4⟩ := t1.c4
          obtain ⟨r0, r1, r2, r3, r4, r5, r6⟩ := t1.r6
          have hc1 : w1.cell? ⟨b, o, none⟩ = some (.int .u8 y) := (t1.bel.cell (p := ⟨b, o, none⟩) hb).trans hc
          go_wp2_with fail
          go_quiet (fail)
          have t2 := t1.below (bel_drewN w1 nq)
          clear d0 d1 d2 d3 d4 r0 r1 r2 r3 r4 r5 r6 hc1 t1
          generalize w1.drewN nq = w2 at *
          have hc2 : w2.cell? ⟨b, o, none⟩ = some (.int .u8 y) := (t2.bel.cell (p := ⟨b, o, none⟩) hb).trans hc
          obtain ⟨r0, r1, r2, r3, r4, r5, r6⟩ := t2.r6
          go_wp2_with fail
          go_quiet (fail)
          have t3 := t2.below (bel_drewN w2 nq)
          clear r0 r1 r2 r3 r4 r5 r6 hc2 t2
          generalize w2.drewN nq = w3 at *
          have P5 := Lib.hid (t3.put4 (.int .i64 0) (.slice none 0 0) (.slice none 0 0) (.slice none 0 0))
          obtain ⟨f0, f1, f2, f3, f4⟩ := t3.c4
          go_wp2
          (try simp only [Exit.inBlock, Exit.then])
          show bodyPost _ _ _ _ _ (put4 (w3) (w.heap.size + 1) (.int .i64 0) (.slice none 0 0) (.slice none 0 0) (.slice none 0 0))
          generalize put4 (w3) (w.heap.size + 1) (.int .i64 0) (.slice none 0 0) (.slice none 0 0) (.slice none 0 0) = w6 at *
          obtain ⟨x0, x1, x2, x3⟩ := cells4 P5.out.1
          refine bodyPost_ret (v := .tuple #[.agg #[.int .i64 0, .slice none 0 0, .slice none 0 0, .slice none 0 0], .int .i64 20]) (by simp [results, Try.results20, go_sem, x0, x1, x2, x3]) rfl ?_
          exact RpGotS.exc rfl P5.out.2
  · have e : getRE q ys = chkQ q := by rw [getRE, if_pos hk]
    rw [e, getR, if_pos (by rw [e]; exact hk)]
    obtain ⟨K, hK⟩ : ∃ K, chkQ q = K := ⟨_, rfl⟩
    rw [hK] at HC hk ⊢
    have u1 : (K != 0) = true := by simpa using hk
    have u2 : (K == 0) = false := beq_false_of_ne hk
    clear h hr hk hK e
    go_enter Try.func20, Try.ntmps20
    go_wp2_with fail
    refine HC.out.mono ?_
    rintro e w1 ⟨rfl, b1⟩
    have t1 := t0.below b1
    clear b1 t0 HC
    obtain ⟨d0, d1, d2, d3, d4⟩ := t1.c4
    obtain ⟨r0, r1, r2, r3, r4, r5, r6⟩ := t1.r6
    have P5 := Lib.hid (t1.put4 (.int .i64 0) (.slice none 0 0) (.slice none 0 0) (.slice none 0 0))
    obtain ⟨f0, f1, f2, f3, f4⟩ := t1.c4
    go_wp2
    (try simp only [Exit.inBlock, Exit.then])
    show bodyPost _ _ _ _ _ (put4 (w1) (w.heap.size + 1) (.int .i64 0) (.slice none 0 0) (.slice none 0 0) (.slice none 0 0))
    generalize put4 (w1) (w.heap.size + 1) (.int .i64 0) (.slice none 0 0) (.slice none 0 0) (.slice none 0 0) = w6 at *
    obtain ⟨x0, x1, x2, x3⟩ := cells4 P5.out.1
    refine bodyPost_ret (v := .tuple #[.agg #[.int .i64 0, .slice none 0 0, .slice none 0 0, .slice none 0 0], .int .i64 K]) (by simp [results, Try.results20, go_sem, x0, x1, x2, x3]) rfl ?_
    exact RpGotS.exc rfl P5.out.2
end Go.Proofs.Ytobhllcnljggiaa
namespace Go.Proofs.Ytobhllcnljggiaa
open Go.RowKit
set_option linter.unusedVariables false

/-- The box of a request that came in; the lent request and its box; the lent bytes. -/
structure GetSt (w0 : World) (q : Req) (Ao As Ap : Option Addr) (lo ls lp co cs cp go gs gp gx gb : Nat) (x1 : List Int) (w : World) : Prop where
  bx : Bx w0 w0.heap.size (.cells #[.int .i64 q.c, .int .i64 q.a, .int .i64 q.n, .slice Ao lo co, .slice As ls cs, .slice Ap lp cp] 26 (0, 0)) w
  k1 : L.Bk w go (q.on ++ L.marks5)
  k2 : W.Bk w gs (q.set ++ W.marks5)
  k3 : w.heap[gp]? = some (.cells (blk .i64 (q.fl ++ marksP)) 77 (0, 0))
  bxx : w.heap[gx]? = some (.cells #[.int .i64 q.c, .int .i64 q.a, .int .i64 q.n, .slice (some ⟨go, 0, none⟩) lo (lo + 5), .slice (some ⟨gs, 0, none⟩) ls (ls + 5), .slice (some ⟨gp, 0, none⟩) lp (lp + 5)] 26 (0, 0))
  by_ : w.heap[gb]? = some (.cells (blk .u8 (x1 ++ marks5)) 5 (0, 0))
  lent : Asked w w.heap.size q (some ⟨go, 0, none⟩) (some ⟨gs, 0, none⟩) (some ⟨gp, 0, none⟩) lo ls lp
section
variable {w0 w w' : World} {q : Req} {Ao As Ap : Option Addr} {lo ls lp co cs cp go gs gp gx gb : Nat} {x1 : List Int}
theorem GetSt.below (h : GetSt w0 q Ao As Ap lo ls lp co cs cp go gs gp gx gb x1 w) (hb : Below w.heap.size w w') : GetSt w0 q Ao As Ap lo ls lp co cs cp go gs gp gx gb x1 w' where
  bx := h.bx.below hb
  k1 := h.k1.below hb
  k2 := h.k2.below hb
  k3 := (hb.block gp (block_lt h.k3)).trans h.k3
  bxx := (hb.block gx (block_lt h.bxx)).trans h.bxx
  by_ := (hb.block gb (block_lt h.by_)).trans h.by_
  lent := h.lent.upB hb
theorem GetSt.cellsX (h : GetSt w0 q Ao As Ap lo ls lp co cs cp go gs gp gx gb x1 w) : w.cell? ⟨gx, 0, none⟩ = some (.int .i64 q.c) ∧ w.cell? ⟨gx, 1, none⟩ = some (.int .i64 q.a) ∧ w.cell? ⟨gx, 2, none⟩ = some (.int .i64 q.n) ∧ w.cell? ⟨gx, 3, none⟩ = some (.slice (some ⟨go, 0, none⟩) lo (lo + 5)) ∧ w.cell? ⟨gx, 4, none⟩ = some (.slice (some ⟨gs, 0, none⟩) ls (ls + 5)) ∧ w.cell? ⟨gx, 5, none⟩ = some (.slice (some ⟨gp, 0, none⟩) lp (lp + 5)) :=
  ⟨cell_of_row w gx 0 _ _ _ h.bxx, cell_of_row w gx 1 _ _ _ h.bxx, cell_of_row w gx 2 _ _ _ h.bxx, cell_of_row w gx 3 _ _ _ h.bxx, cell_of_row w gx 4 _ _ _ h.bxx, cell_of_row w gx 5 _ _ _ h.bxx⟩
theorem GetSt.row (h : GetSt w0 q Ao As Ap lo ls lp co cs cp go gs gp gx gb x1 w) (hw : ∀ x ∈ x1, (Lit.int .u8 x).wf = true) : Row .u8 w w.heap.size (some ⟨gb, 0, none⟩) x1 :=
  (Row.of_block h.by_ x1 hw (List.prefix_append _ _)).more (block_lt h.by_)
end
/-- An answer whose lists lie in the blocks from lo to hi: it stays where these stay. -/
def StayRep (w : World) (a z : Nat) (r : Rep) (Bo Bs Bf : Option Addr) (mo ms mf : Nat) : Prop := z ≤ w.heap.size ∧ ∀ w2 : World, (∀ j, a ≤ j → j < z → w2.heap[j]? = w.heap[j]?) → Repd w2 w2.heap.size r Bo Bs Bf mo ms mf
theorem StayRep.keep {w w' : World} {a z : Nat} {r : Rep} {Bo Bs Bf : Option Addr} {mo ms mf : Nat} (h : StayRep w a z r Bo Bs Bf mo ms mf) (hs : w.heap.size ≤ w'.heap.size) (hk : ∀ j, a ≤ j → j < z → w'.heap[j]? = w.heap[j]?) : StayRep w' a z r Bo Bs Bf mo ms mf :=
  ⟨Nat.le_trans h.1 hs, fun w2 h2 => h.2 w2 (fun j h3 h4 => (h2 j h3 h4).trans (hk j h3 h4))⟩
theorem StayRep.below {w w' : World} {a z : Nat} {r : Rep} {Bo Bs Bf : Option Addr} {mo ms mf : Nat} (h : StayRep w a z r Bo Bs Bf mo ms mf) (hb : Below w.heap.size w w') : StayRep w' a z r Bo Bs Bf mo ms mf :=
  h.keep hb.size (fun j _ hj => hb.block j (Nat.lt_of_lt_of_le hj h.1))
theorem StayRep.repd {w : World} {a z : Nat} {r : Rep} {Bo Bs Bf : Option Addr} {mo ms mf : Nat} (h : StayRep w a z r Bo Bs Bf mo ms mf) : Repd w w.heap.size r Bo Bs Bf mo ms mf := h.2 w (fun _ _ _ => rfl)
theorem RepK.stay {w : World} {base : Nat} {r : Rep} {Bo Bs Bf : Option Addr} {mo ms mf eo es ef : Nat} (h : RepK w base r Bo Bs Bf mo ms mf eo es ef) (hs : ∀ x ∈ r.set, (Lit.int .u16 x).wf = true) (hf : ∀ xs ∈ r.fs, ∀ x ∈ xs, (Lit.int .u16 x).wf = true) : StayRep w base w.heap.size r Bo Bs Bf mo ms mf :=
  ⟨Nat.le_refl _, fun w2 h2 => (h.keep (Nat.le_refl _) (fun g o hg ho => (h2 g hg (block_lt ho)).trans ho)).repd hs hf⟩
/-- The second answer, the document's, and their boxes. -/
structure Res2 (w : World) (R : Rep) (a2 z2 a3 z3 g2 g3 : Nat) (Eo Es Ef Do Ds Df : Option Addr) (mo ms mf ho hs hf jo js jf : Nat) : Prop where
  t2 : StayRep w a2 z2 R Eo Es Ef mo ms mf
  t3 : StayRep w a3 z3 R Do Ds Df mo ms mf
  b2 : w.heap[g2]? = some (.cells #[.int .i64 R.x, .slice Eo mo ho, .slice Es ms hs, .slice Ef mf hf] 29 (0, 0))
  b3 : w.heap[g3]? = some (.cells #[.int .i64 R.x, .slice Do mo jo, .slice Ds ms js, .slice Df mf jf] 29 (0, 0))
theorem Res2.keep {w w' : World} {R : Rep} {a2 z2 a3 z3 g2 g3 : Nat} {Eo Es Ef Do Ds Df : Option Addr} {mo ms mf ho hs hf jo js jf : Nat} (h : Res2 w R a2 z2 a3 z3 g2 g3 Eo Es Ef Do Ds Df mo ms mf ho hs hf jo js jf) (z : Nat) (l2 : z ≤ a2) (l3 : z ≤ a3) (l4 : z ≤ g2) (l5 : z ≤ g3) (hsz : w.heap.size ≤ w'.heap.size) (hk : ∀ j, z ≤ j → j < w.heap.size → w'.heap[j]? = w.heap[j]?) : Res2 w' R a2 z2 a3 z3 g2 g3 Eo Es Ef Do Ds Df mo ms mf ho hs hf jo js jf :=
  ⟨h.t2.keep hsz (fun j h1 h2 => hk j (by omega) (Nat.lt_of_lt_of_le h2 h.t2.1)), h.t3.keep hsz (fun j h1 h2 => hk j (by omega) (Nat.lt_of_lt_of_le h2 h.t3.1)), (hk g2 l4 (block_lt h.b2)).trans h.b2, (hk g3 l5 (block_lt h.b3)).trans h.b3⟩
theorem Res2.below {w w' : World} {R : Rep} {a2 z2 a3 z3 g2 g3 : Nat} {Eo Es Ef Do Ds Df : Option Addr} {mo ms mf ho hs hf jo js jf : Nat} (h : Res2 w R a2 z2 a3 z3 g2 g3 Eo Es Ef Do Ds Df mo ms mf ho hs hf jo js jf) (hb : Below w.heap.size w w') : Res2 w' R a2 z2 a3 z3 g2 g3 Eo Es Ef Do Ds Df mo ms mf ho hs hf jo js jf :=
  h.keep 0 (Nat.zero_le _) (Nat.zero_le _) (Nat.zero_le _) (Nat.zero_le _) hb.size (fun j _ hj => hb.block j hj)
/-- The first answer, its lists and its box. -/
structure Res1 (w : World) (R : Rep) (B z g1 : Nat) (Co Cs Cf : Option Addr) (mo ms mf ko ks kf : Nat) : Prop where
  k1 : RepK w B R Co Cs Cf mo ms mf ko ks kf
  sp : SpK w B z Co Cs Cf mo ms mf ko ks kf
  hz : z ≤ w.heap.size
  b1 : w.heap[g1]? = some (.cells #[.int .i64 R.x, .slice Co mo ko, .slice Cs ms ks, .slice Cf mf kf] 29 (0, 0))
theorem Res1.below {w w' : World} {R : Rep} {B z g1 : Nat} {Co Cs Cf : Option Addr} {mo ms mf ko ks kf : Nat} (h : Res1 w R B z g1 Co Cs Cf mo ms mf ko ks kf) (hb : Below w.heap.size w w') : Res1 w' R B z g1 Co Cs Cf mo ms mf ko ks kf :=
  ⟨h.k1.below hb, h.sp.keep (fun j _ hj => hb.block j (Nat.lt_of_lt_of_le hj h.hz)), Nat.le_trans h.hz hb.size, (hb.block g1 (block_lt h.b1)).trans h.b1⟩
theorem getR_bound {q : Req} {ys : List Int} (hl : ys.length ≤ 70000) : ((getR q ys).on.length ≤ 2000 ∧ (getR q ys).set.length ≤ 70000) ∧ (getR q ys).fs.length ≤ 35 ∧ ∀ i, i < (getR q ys).fs.length → (nthF (getR q ys).fs i).length ≤ 70000 := by
  by_cases h : getRE q ys = 0
  · obtain ⟨⟨h1, h2⟩, h3, h4⟩ := getR_len h
    exact ⟨⟨h1, by omega⟩, h3, fun i hi => by have := h4 i hi; omega⟩
  · rw [getR_zero h]
    exact ⟨⟨by simp [Rep.zero], by simp [Rep.zero]⟩, by simp [Rep.zero], fun i hi => by simp [Rep.zero] at hi⟩

set_option maxHeartbeats 4000000 in
set_option maxRecDepth 100000 in
theorem walk_ReplyGets (q : Req) (Ao As Ap : Option Addr) (lo ls lp co cs cp : Nat) (a1 : Option Addr) (l1 c1 : Nat) (x1 : List Int) (w : World) (h : Asked w w.heap.size q Ao As Ap lo ls lp) (hi : (Lit.int .i64 q.c).wf = true ∧ (Lit.int .i64 q.a).wf = true ∧ (Lit.int .i64 q.n).wf = true)
    (w1 : Row .u8 w w.heap.size a1 x1) (n1 : x1.length = l1) (s1 : l1 ≤ c1) (m1 : c1 ≤ 140737488351232) :
    Calls Try.prog 4 #[.agg #[.int .i64 q.c, .int .i64 q.a, .int .i64 q.n, .slice Ao lo co, .slice As ls cs, .slice Ap lp cp], .slice a1 l1 c1] w fun e w' => e = .returned (.bool true) ∧ Below w.heap.size w w' := by
  have bx := Bx.new w (.cells #[.int .i64 q.c, .int .i64 q.a, .int .i64 q.n, .slice Ao lo co, .slice As ls cs, .slice Ap lp cp] 26)
  have H0 := Lib.hid h
  have HW := Lib.hid w1
  have HN := Lib.hid n1
  have HWF := Lib.hid w1.1
  clear h hi w1 n1
  by_cases hlong : 70000 < lo ∨ 70000 < ls ∨ 70000 < lp
  · have hlong' := Lib.hid hlong
    clear hlong
    go_enter Try.func4, Try.ntmps4
    go_wp2_with fail
    refine (LongAsk_yes q.c q.a q.n Ao As Ap lo co ls cs lp cp _ hlong'.out).mono ?_
    rintro e w1 ⟨rfl, b1⟩
    have bel1 := (bx.below b1).2
    go_wp2_with fail
    refine (works_yes _).mono ?_
    rintro e w2 ⟨rfl, b2⟩
    go_wp2
    go_ret
    exact ⟨rfl, bel1.trans (b2.mono bel1.size)⟩
  have hlo : lo ≤ 70000 := by omega
  have hls : ls ≤ 70000 := by omega
  have hlp : lp ≤ 70000 := by omega
  clear hlong
  by_cases hmore : 70000 < l1
  · have hm2 : (70000 : Int) < (l1 : Int) := by omega
    go_enter Try.func4, Try.ntmps4
    go_wp2_with fail
    refine (LongAsk_no q.c q.a q.n Ao As Ap lo co ls cs lp cp _ hlo hls hlp).mono ?_
    rintro e w1 ⟨rfl, b1⟩
    have bel1 := (bx.below b1).2
    go_wp2_with fail
    refine (works_yes _).mono ?_
    rintro e w2 ⟨rfl, b2⟩
    go_wp2
    go_ret
    exact ⟨rfl, bel1.trans (b2.mono bel1.size)⟩
  have hm2 : ¬ (70000 : Int) < (l1 : Int) := by omega
  have hRW := getR_wf (q := q) HWF.out
  have hRB := getR_bound (q := q) (ys := x1) (by rw [HN.out]; omega)
  obtain ⟨R, hR⟩ : ∃ R, Hid (getR q x1 = R) := ⟨_, Lib.hid rfl⟩
  obtain ⟨E, hE⟩ : ∃ E, Hid (getRE q x1 = E) := ⟨_, Lib.hid rfl⟩
  rw [hR.out] at hRW hRB
  have HRW := Lib.hid hRW
  have HRB := Lib.hid hRB
  have tE : (E != E) = false := by simp
  clear hRW hRB
  go_enter Try.func4, Try.ntmps4
  go_wp2_with fail
  refine (LongAsk_no q.c q.a q.n Ao As Ap lo co ls cs lp cp _ hlo hls hlp).mono ?_
  rintro e w1 ⟨rfl, b1⟩
  have bx1 := bx.below b1
  clear bx b1
  obtain ⟨d0, d1, d2, d3, d4, d5⟩ := bx1.six
  have hz1 := bx1.lt
  go_wp2_with fail
  clear d0 d1 d2 d3 d4 d5
  refine (LentAsk_any q Ao As Ap lo ls lp co cs cp w1 ((H0.out.below bx1.2).more (Nat.le_of_lt bx1.lt)) hlo hls hlp).mono ?_
  rintro e w2 ⟨go, gs, gp, rfl, k1, k2, k3, b2⟩
  have bx2 := bx1.below b2
  have hgp := block_lt k3
  have HA2 : Hid (Asked w2 w2.heap.size q (some ⟨go, 0, none⟩) (some ⟨gs, 0, none⟩) (some ⟨gp, 0, none⟩) lo ls lp) := Lib.hid
    ⟨k1.row q.on (fun _ _ => rfl) (List.prefix_append _ _), k2.row q.set H0.out.set.1 (List.prefix_append _ _), (Row.of_block k3 q.fl H0.out.fl.1 (List.prefix_append _ _)).more hgp, H0.out.lo, H0.out.ls, H0.out.lp⟩
  have bA := bel_alloc w2 (.cells #[.int .i64 q.c, .int .i64 q.a, .int .i64 q.n, .slice (some ⟨go, 0, none⟩) lo (lo + 5), .slice (some ⟨gs, 0, none⟩) ls (ls + 5), .slice (some ⟨gp, 0, none⟩) lp (lp + 5)] 26)
  have bx3 := bx2.below bA
  have K1 := Lib.hid (k1.below bA)
  have K2 := Lib.hid (k2.below bA)
  have K3 := Lib.hid ((bA.block gp hgp).trans k3)
  have HA3 := Lib.hid (HA2.out.upB bA)
  have gX := heap_alloc_new w2 (.cells #[.int .i64 q.c, .int .i64 q.a, .int .i64 q.n, .slice (some ⟨go, 0, none⟩) lo (lo + 5), .slice (some ⟨gs, 0, none⟩) ls (ls + 5), .slice (some ⟨gp, 0, none⟩) lp (lp + 5)] 26)
  clear bx1 b2 k1 k2 k3 hgp HA2 bA bx2
  obtain ⟨gx, hgx⟩ : ∃ g, w2.heap.size = g := ⟨_, rfl⟩
  rw [hgx] at gX
  obtain ⟨w3, hw3⟩ : ∃ w', w2.alloc (.cells #[.int .i64 q.c, .int .i64 q.a, .int .i64 q.n, .slice (some ⟨go, 0, none⟩) lo (lo + 5), .slice (some ⟨gs, 0, none⟩) ls (ls + 5), .slice (some ⟨gp, 0, none⟩) lp (lp + 5)] 26) = w' := ⟨_, rfl⟩
  rw [hw3] at bx3 K1 K2 K3 HA3 gX
  have GX := Lib.hid gX
  clear gX
  go_wp2_with fail
  refine (lent_u8 a1 l1 c1 x1 w3 ((HW.out.below bx3.2).more (Nat.le_of_lt bx3.lt)) HN.out (by omega)).mono ?_
  rintro e w4' ⟨rfl, rfl⟩
  have bA := bel_alloc w3 (.cells (blk .u8 (x1 ++ marks5)) 5)
  have gB := heap_alloc_new w3 (.cells (blk .u8 (x1 ++ marks5)) 5)
  obtain ⟨gb, hgb⟩ : ∃ g, w3.heap.size = g := ⟨_, rfl⟩
  have st : Hid (GetSt w q Ao As Ap lo ls lp co cs cp go gs gp gx w3.heap.size x1 (w3.alloc (.cells (blk .u8 (x1 ++ marks5)) 5))) := Lib.hid
    ⟨bx3.below bA, K1.out.below bA, K2.out.below bA, (bA.block gp (block_lt K3.out)).trans K3.out, (bA.block gx (block_lt GX.out)).trans GX.out, gB, HA3.out.upB bA⟩
  clear bx3 K1 K2 K3 HA3 GX bA gB hw3 hgx
  rw [hgb] at st
  rw [hgb]
  obtain ⟨w4, hw4⟩ : ∃ w', w3.alloc (.cells (blk .u8 (x1 ++ marks5)) 5) = w' := ⟨_, rfl⟩
  rw [hw4] at st
  have s4 := st.out
  clear st hgb
  -- the program's Get
  obtain ⟨x0, x1', x2, x3, x4, x5⟩ := s4.cellsX
  have HG := Lib.hid (rpGet_any q (some ⟨go, 0, none⟩) (some ⟨gs, 0, none⟩) (some ⟨gp, 0, none⟩) lo ls lp (lo + 5) (ls + 5) (lp + 5) (some ⟨gb, 0, none⟩) l1 (l1 + 5) x1 w4 s4.lent (s4.row HWF.out) HN.out (by omega) (by omega))
  rw [hR.out, hE.out] at HG
  go_wp2_with fail
  clear x0 x1' x2 x3 x4 x5
  refine HG.out.mono ?_
  rintro e w5 ⟨Co, Cs, Cf, mo, ms, mf, ko, ks, kf, rfl, rk, b5⟩
  have bA := bel_alloc w5 (.cells #[.int .i64 R.x, .slice Co mo ko, .slice Cs ms ks, .slice Cf mf kf] 29)
  have hmo : mo ≤ 2000 := by have := (rk.repd HRW.out.1 HRW.out.2).mo; have := HRB.out; omega
  have hms : ms ≤ 70000 := by have := (rk.repd HRW.out.1 HRW.out.2).ms; have := HRB.out; omega
  have hmf : mf ≤ 35 := by have := (rk.repd HRW.out.1 HRW.out.2).mf; have := HRB.out; omega
  have HMF : Hid (R.fs.length = mf) := Lib.hid (rk.repd HRW.out.1 HRW.out.2).mf
  have HMO : Hid (R.on.length = mo) := Lib.hid (rk.repd HRW.out.1 HRW.out.2).mo
  have HMS : Hid (R.set.length = ms) := Lib.hid (rk.repd HRW.out.1 HRW.out.2).ms
  have HSH : Hid (∀ i, i < mf → (nthF R.fs i).length ≤ 70368744177664) := Lib.hid (fun i hi => by have := HRB.out.2.2 i (by rw [HMF.out]; exact hi); omega)
  have r1 : Hid (Res1 (w5.alloc (.cells #[.int .i64 R.x, .slice Co mo ko, .slice Cs ms ks, .slice Cf mf kf] 29)) R w4.heap.size w5.heap.size w5.heap.size Co Cs Cf mo ms mf ko ks kf) := Lib.hid
    ⟨rk.below bA, (rk.spk (by have := HRB.out; omega) (by have := HRB.out; omega) (fun i hi => by have := HRB.out.2.2 i hi; omega)).keep (fun j _ hj => bA.block j hj), bA.size, heap_alloc_new w5 (.cells #[.int .i64 R.x, .slice Co mo ko, .slice Cs ms ks, .slice Cf mf kf] 29)⟩
  have bb6 := b5.trans (bA.mono b5.size)
  have s6 := s4.below bb6
  have hs5 := b5.size
  have hs6 : (w5.alloc (.cells #[.int .i64 R.x, .slice Co mo ko, .slice Cs ms ks, .slice Cf mf kf] 29)).heap.size = w5.heap.size + 1 := by simp
  clear HG rk b5 bA
  obtain ⟨z, hz⟩ : ∃ z, w5.heap.size = z := ⟨_, rfl⟩
  obtain ⟨w6, hw6⟩ : ∃ w', w5.alloc (.cells #[.int .i64 R.x, .slice Co mo ko, .slice Cs ms ks, .slice Cf mf kf] 29) = w' := ⟨_, rfl⟩
  rw [hw6] at r1 bb6 s6 hs6
  rw [hz] at r1 hs5 hs6
  -- once more
  obtain ⟨x0, x1', x2, x3, x4, x5⟩ := s6.cellsX
  have HG := Lib.hid (rpGet_any q (some ⟨go, 0, none⟩) (some ⟨gs, 0, none⟩) (some ⟨gp, 0, none⟩) lo ls lp (lo + 5) (ls + 5) (lp + 5) (some ⟨gb, 0, none⟩) l1 (l1 + 5) x1 w6 s6.lent (s6.row HWF.out) HN.out (by omega) (by omega))
  rw [hR.out, hE.out] at HG
  go_wp2_with fail
  clear x0 x1' x2 x3 x4 x5
  refine HG.out.mono ?_
  rintro e w7 ⟨Eo, Es, Ef, mo2, ms2, mf2, ho, hs, hf, rfl, rk, b7⟩
  obtain rfl : mo = mo2 := HMO.out.symm.trans (rk.repd HRW.out.1 HRW.out.2).mo
  obtain rfl : ms = ms2 := HMS.out.symm.trans (rk.repd HRW.out.1 HRW.out.2).ms
  obtain rfl : mf = mf2 := HMF.out.symm.trans (rk.repd HRW.out.1 HRW.out.2).mf
  have bA := bel_alloc w7 (.cells #[.int .i64 R.x, .slice Eo mo ho, .slice Es ms hs, .slice Ef mf hf] 29)
  have T2 := Lib.hid ((rk.stay HRW.out.1 HRW.out.2).below bA)
  have G2 := Lib.hid (heap_alloc_new w7 (.cells #[.int .i64 R.x, .slice Eo mo ho, .slice Es ms hs, .slice Ef mf hf] 29))
  have b68 := b7.trans (bA.mono b7.size)
  have bb8 := bb6.trans (b68.mono bb6.size)
  have s8 := s6.below b68
  have r1 := Lib.hid (r1.out.below b68)
  have hs7 := b7.size
  have hs8 : (w7.alloc (.cells #[.int .i64 R.x, .slice Eo mo ho, .slice Es ms hs, .slice Ef mf hf] 29)).heap.size = w7.heap.size + 1 := by simp
  clear HG rk b7 bA b68 bb6 s6 hw6 hz
  obtain ⟨z7, hz7⟩ : ∃ z, w7.heap.size = z := ⟨_, rfl⟩
  obtain ⟨w8, hw8⟩ : ∃ w', w7.alloc (.cells #[.int .i64 R.x, .slice Eo mo ho, .slice Es ms hs, .slice Ef mf hf] 29) = w' := ⟨_, rfl⟩
  rw [hw8] at r1 bb8 s8 hs8 T2 G2
  rw [hz7] at hs7 hs8 T2 G2
  -- the document's
  obtain ⟨d0, d1, d2, d3, d4, d5⟩ := s8.bx.six
  have HG := Lib.hid (refGetR_any q Ao As Ap lo ls lp co cs cp a1 l1 c1 x1 w8 ((H0.out.below s8.bx.2).more (Nat.le_of_lt s8.bx.lt)) ((HW.out.below s8.bx.2).more (Nat.le_of_lt s8.bx.lt)) HN.out s1 (by omega) (by omega) (by omega))
  rw [hR.out, hE.out] at HG
  go_wp2_with fail
  clear d0 d1 d2 d3 d4 d5
  refine HG.out.mono ?_
  rintro e w9 ⟨Do, Ds, Df, mo3, ms3, mf3, jo, js, jf, rfl, st3, b9⟩
  obtain rfl : mo = mo3 := HMO.out.symm.trans (st3 w9 (fun _ _ _ => rfl)).mo
  obtain rfl : ms = ms3 := HMS.out.symm.trans (st3 w9 (fun _ _ _ => rfl)).ms
  obtain rfl : mf = mf3 := HMF.out.symm.trans (st3 w9 (fun _ _ _ => rfl)).mf
  have bA := bel_alloc w9 (.cells #[.int .i64 R.x, .slice Do mo jo, .slice Ds ms js, .slice Df mf jf] 29)
  have T3 : StayRep w9 w8.heap.size w9.heap.size R Do Ds Df mo ms mf := ⟨Nat.le_refl _, st3⟩
  have T3 := T3.below bA
  have b810 := b9.trans (bA.mono b9.size)
  have r2 : Hid (Res2 (w9.alloc (.cells #[.int .i64 R.x, .slice Do mo jo, .slice Ds ms js, .slice Df mf jf] 29)) R w6.heap.size z7 w8.heap.size w9.heap.size z7 w9.heap.size Eo Es Ef Do Ds Df mo ms mf ho hs hf jo js jf) := Lib.hid
    ⟨T2.out.below b810, T3, (b810.block z7 (block_lt G2.out)).trans G2.out, heap_alloc_new w9 (.cells #[.int .i64 R.x, .slice Do mo jo, .slice Ds ms js, .slice Df mf jf] 29)⟩
  have bb10 := bb8.trans (b810.mono bb8.size)
  have s10 := s8.below b810
  have r1 := Lib.hid (r1.out.below b810)
  have hs9 := b9.size
  clear HG st3 b9 bA b810 bb8 s8 hw8 hz7 T3 T2 G2
  obtain ⟨z9, hz9⟩ : ∃ z, w9.heap.size = z := ⟨_, rfl⟩
  obtain ⟨w10, hw10⟩ : ∃ w', w9.alloc (.cells #[.int .i64 R.x, .slice Do mo jo, .slice Ds ms js, .slice Df mf jf] 29) = w' := ⟨_, rfl⟩
  rw [hw10] at r1 bb10 s10 r2
  rw [hz9] at r2 hs9
  obtain ⟨y0, y1, y2, y3⟩ := cells4 r1.out.b1
  obtain ⟨v0, v1, v2, v3⟩ := cells4 r2.out.b3
  have RA := Lib.hid (r1.out.k1.repd HRW.out.1 HRW.out.2)
  have RB := Lib.hid r2.out.t3.repd
  go_wp2_with fail
  clear y0 y1 y2 y3 v0 v1 v2 v3
  refine (SameReply_yes R.x R.on R.set R.fs Co Cs Cf Do Ds Df mo ms mf ko ks kf jo js jf w10 RA.out.on RA.out.set RB.out.on RB.out.set RA.out.fs RB.out.fs HMO.out HMS.out HMF.out (by omega) (by omega) (by omega) HSH.out).mono ?_
  rintro e w11 ⟨rfl, b11⟩
  have r1 := Lib.hid (r1.out.below b11)
  have r2 := Lib.hid (r2.out.below b11)
  have s11 := s10.below b11
  have bb11 := bb10.trans (b11.mono bb10.size)
  clear RA RB b11 bb10 s10 hw10 hz9
  obtain ⟨y0, y1, y2, y3⟩ := cells4 r2.out.b2
  obtain ⟨v0, v1, v2, v3⟩ := cells4 r2.out.b3
  have RA := Lib.hid r2.out.t2.repd
  have RB := Lib.hid r2.out.t3.repd
  go_wp2_with fail
  clear y0 y1 y2 y3 v0 v1 v2 v3
  refine (SameReply_yes R.x R.on R.set R.fs Eo Es Ef Do Ds Df mo ms mf ho hs hf jo js jf w11 RA.out.on RA.out.set RB.out.on RB.out.set RA.out.fs RB.out.fs HMO.out HMS.out HMF.out (by omega) (by omega) (by omega) HSH.out).mono ?_
  rintro e w12 ⟨rfl, b12⟩
  have r1 := Lib.hid (r1.out.below b12)
  have r2 := Lib.hid (r2.out.below b12)
  have s12 := s11.below b12
  have bb12 := bb11.trans (b12.mono bb11.size)
  clear RA RB b12 bb11 s11
  obtain ⟨x0, x1', x2, x3, x4, x5⟩ := s12.cellsX
  obtain ⟨d0, d1, d2, d3, d4, d5⟩ := s12.bx.six
  go_wp2_with fail
  clear x0 x1' x2 x3 x4 x5 d0 d1 d2 d3 d4 d5
  refine (KeptAsk_yes q Ao As Ap lo ls lp co cs cp go gs gp w12 ((H0.out.below s12.bx.2).more (Nat.le_of_lt s12.bx.lt)) s12.k1 s12.k2 s12.k3 hlo hls hlp).mono ?_
  rintro e w13 ⟨rfl, b13⟩
  have r1 := Lib.hid (r1.out.below b13)
  have r2 := Lib.hid (r2.out.below b13)
  have s13 := s12.below b13
  have bb13 := bb12.trans (b13.mono bb12.size)
  clear b13 bb12 s12
  go_wp2_with fail
  refine (kept_u8 a1 l1 c1 gb x1 w13 w.heap.size (HW.out.below s13.bx.2) HN.out (by omega) s13.by_).mono ?_
  rintro e w14 ⟨rfl, m14, hw14⟩
  have b14 : Below w13.heap.size w13 w14 := by rw [hw14]; exact bel_drewN w13 m14
  have r1 := Lib.hid (r1.out.below b14)
  have r2 := Lib.hid (r2.out.below b14)
  have s14 := s13.below b14
  have bb14 := bb13.trans (b14.mono bb13.size)
  clear hw14 b14 bb13 s13
  obtain ⟨y0, y1, y2, y3⟩ := cells4 r1.out.b1
  go_wp2_with fail
  clear y0 y1 y2 y3
  refine (SpoilReply_any R.x w4.heap.size z Co Cs Cf mo ms mf ko ks kf w14 r1.out.sp hs5 r1.out.hz (by omega)).mono ?_
  rintro e w15 ⟨rfl, b15, k15⟩
  have r2 := Lib.hid (r2.out.keep (w' := w15) z (by omega) (by omega) (by omega) (by omega) b15.size k15)
  have bb15 := bb14.trans b15
  have s15 := s4.below bb15
  clear r1 b15 k15 bb14 s14
  obtain ⟨y0, y1, y2, y3⟩ := cells4 r2.out.b2
  obtain ⟨v0, v1, v2, v3⟩ := cells4 r2.out.b3
  have RA := Lib.hid r2.out.t2.repd
  have RB := Lib.hid r2.out.t3.repd
  go_wp2_with fail
  clear y0 y1 y2 y3 v0 v1 v2 v3
  refine (SameReply_yes R.x R.on R.set R.fs Eo Es Ef Do Ds Df mo ms mf ho hs hf jo js jf w15 RA.out.on RA.out.set RB.out.on RB.out.set RA.out.fs RB.out.fs HMO.out HMS.out HMF.out (by omega) (by omega) (by omega) HSH.out).mono ?_
  rintro e w16 ⟨rfl, b16⟩
  have s16 := s15.below b16
  clear RA RB b16 s15 bb15 r2
  obtain ⟨x0, x1', x2, x3, x4, x5⟩ := s16.cellsX
  obtain ⟨d0, d1, d2, d3, d4, d5⟩ := s16.bx.six
  go_wp2_with fail
  clear x0 x1' x2 x3 x4 x5 d0 d1 d2 d3 d4 d5
  refine (KeptAsk_yes q Ao As Ap lo ls lp co cs cp go gs gp w16 ((H0.out.below s16.bx.2).more (Nat.le_of_lt s16.bx.lt)) s16.k1 s16.k2 s16.k3 hlo hls hlp).mono ?_
  rintro e w17 ⟨rfl, b17⟩
  have s17 := s16.below b17
  clear b17 s16
  go_wp2_with fail
  refine (kept_u8 a1 l1 c1 gb x1 w17 w.heap.size (HW.out.below s17.bx.2) HN.out (by omega) s17.by_).mono ?_
  rintro e w18 ⟨rfl, m18, hw18⟩
  have s18 := s17.below (w' := w18) (by rw [hw18]; exact bel_drewN w17 m18)
  clear hw18 s17
  go_wp2_with fail
  refine (works_yes _).mono ?_
  rintro e w19 ⟨rfl, b19⟩
  go_wp2
  go_ret
  exact ⟨rfl, s18.bx.2.trans (b19.mono (Nat.le_of_lt s18.bx.lt))⟩
end Go.Proofs.Ytobhllcnljggiaa
namespace Go.Proofs.Ytobhllcnljggiaa.replyGets
open Go.ChangeShapes Go.WideShapes Go.ChangeAt Go.RowKit
open Go.ChangeMaps (open_string shut_string)
set_option linter.unusedVariables false

theorem own : ownKnob Try.prog.godebug = none := by kernel_rfl
theorem laidOut : laidOutB Try.prog = true := by kernel_rfl

set_option maxRecDepth 100000 in
theorem lifted (os : Os) (started : os.Started) (H : Type) (enc : TypeId × Value → H) :
    ReturnsInHanded {} Try.checked os 4 .any (Rows.replyGetsSpec.pre6 enc Try.prog Try.f4 Rows.replyGetsRow.domain false) (Rows.replyGetsSpec.post enc Try.prog Try.f4 false true false false) := by
  refine returnsInHanded_of_change_sized (C := Try.checked) own started (by kernel_rfl) Try.func4
    (ChangeSpec.witness6 (enc := enc) (C := Try.checked) false ⟨#[], #[.agg #[.int .i64 0, .int .i64 0, .int .i64 0, .slice none 0 0, .slice none 0 0, .slice none 0 0], .slice none 0 0], []⟩ 8 (by kernel_rfl) (by kernel_rfl) (by kernel_rfl) (by kernel_rfl)) ?_
  intro W base args ds gs before hval0 hW hcnd hsz0 _
  have hsz : (DataW.weightsEach Try.prog (Try.f4.params.toList ++ Rows.replyGetsSpec.plain.varTypes Try.prog) (ds ++ gs)).all (· ≤ reachBytes) = true := hsz0
  clear hsz0
  have hval : ∀ (j : Nat) t v, Try.f4.params[j]? = some t → args[j]? = some v → Value.okWide Try.prog W .any base t v := hval0
  have hW' := hW
  obtain ⟨p, q, hA0, hV, rfl, hfz, hnd⟩ := hW
  have hA : DataW.TrodAll enc Try.prog W 0 (fun _ => true) true Try.f4.params.toList args.toList ds p := hA0
  rw [Try.params4] at hA hval hsz
  obtain ⟨v0, vs0, d0, ds0, p0, q0, hargs, rfl, rfl, h0, r0⟩ := trodAll_cons hA
  obtain ⟨v1, vs1, d1, ds1, p1, q1, rfl, rfl, rfl, h1, r1⟩ := trodAll_cons r0
  obtain ⟨rfl, rfl, rfl⟩ := trodAll_nil r1
  obtain rfl : args = #[v0, v1] := by cases args; simp_all
  obtain ⟨rfl, rfl⟩ := trodVars_none hV
  have k0 := h0
  have lt0 : ∀ x ∈ p0, x.block < W.heap.size := by obtain ⟨m, hm⟩ := k0; exact DataW.trod_lt m _ _ _ hm
  obtain ⟨q_0, Ao0, As0, Ap0, lo0, ls0, lp0, co0, cs0, cp0, rfl, w0, wf0⟩ := ask_in Try.underlying26 (by kernel_rfl) (by kernel_rfl) Try.underlying3 Try.underlying3 Try.underlying3 Try.underlying22 Try.underlying4 (by kernel_rfl) Try.underlying23 Try.underlying75 (by kernel_rfl) Try.underlying24 Try.underlying77 (by kernel_rfl) (by kernel_rfl) Try.underlying3 Try.underlying3 Try.underlying3 (hval 0 26 v0 rfl rfl) h0 lt0
  obtain ⟨a1, l1, c1, rfl⟩ := okWide_slice Try.underlying34 (hval 1 34 v1 rfl rfl)
  have k1 := h1
  have lt1 : ∀ x ∈ p1, x.block < W.heap.size := by obtain ⟨m, hm⟩ := k1; exact DataW.trod_lt m _ _ _ hm
  obtain ⟨x1, w1, n1, s1, r1d⟩ := row_in Try.underlying34 Try.underlying5 (by kernel_rfl) h1 lt1
  have m1 := reach_in hsz 1 rfl rfl Try.underlying34 (of_decide_eq_true (by kernel_rfl)) r1d
  clear hA0 hval0
  refine (walk_ReplyGets q_0 Ao0 As0 Ap0 lo0 ls0 lp0 co0 cs0 cp0 a1 l1 c1 x1 W w0 wf0 w1 n1 s1 m1).mono fun e W' ⟨he, bel⟩ => ?_
  subst he
  exact ⟨_, rfl, _, _, _, [], _, [], hW', trodAll_mk1 (shut_bool Try.underlying4 _), (trodAll_cons_mk (Below.trod laidOut (by kernel_rfl) (of_decide_eq_true (by kernel_rfl)) k0 bel lt0) (trodAll_cons_mk (Below.trod laidOut (by kernel_rfl) (of_decide_eq_true (by kernel_rfl)) k1 bel lt1) trodAll_mk0)), rfl, bel.frame _, fun h => by cases h⟩

theorem over : Rows.replyGetsRow.holds Try.pinned (OpenSpec.ofChange Rows.replyGetsSpec) :=
  OpenClaim.holds_of_wide 4 Try.f4 rfl rfl rfl rfl rfl rfl rfl ⟨rfl, rfl, rfl, rfl, rfl⟩ rfl rfl rfl rfl rfl (by kernel_rfl) Try.func4 (by kernel_rfl)
    (of_decide_eq_true (by kernel_rfl)) (by unfold Func.isWrapper; first | (rw [if_pos (by decide +kernel)]; kernel_rfl) | (rw [if_neg (by decide +kernel)]; exact ⟨rfl, rfl⟩))
    (fun os started H enc _ => lifted os started H enc)

theorem proved : Rows.ReplyGetsSaid := over
#print axioms proved
end Go.Proofs.Ytobhllcnljggiaa.replyGets
