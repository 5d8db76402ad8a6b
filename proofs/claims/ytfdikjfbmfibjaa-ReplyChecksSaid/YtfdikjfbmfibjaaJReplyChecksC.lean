/-
  Texts of the proof of ReplyChecks, joined.
-/
import Derived.Test.YtfdikjfbmfibjaaJReplyChecksB
import Derived.Deep.RegionHeld3
import Derived.Deep.AppendLies
import Derived.Test.YtfdikjfbmfibjaaJReplyChecksA
import Derived.Maps.AppendAt
import Derived.WalkMore
import Derived.Deep.LoopGhost
namespace Go.Proofs.Ytfdikjfbmfibjaa
open Go.RowKit
set_option linter.unusedVariables false

/-- The first k parts as they stand in a PDU. -/
def pbytes (fl : List Int) : Nat → List Int
  | 0 => []
  | k + 1 => pbytes fl k ++ (6 :: wbytes [nth fl (3 * k), nth fl (3 * k + 1), nth fl (3 * k + 2)])
theorem pbytes_length (fl : List Int) (k : Nat) : (pbytes fl k).length = 7 * k := by
  induction k with
  | zero => rfl
  | succ k ih => rw [pbytes, List.length_append, ih, List.length_cons, wbytes_length]; simp; omega
theorem pbytes_wf (fl : List Int) (k : Nat) : ∀ x ∈ pbytes fl k, (Lit.int .u8 x).wf = true := by
  induction k with
  | zero => simp [pbytes]
  | succ k ih =>
    rw [pbytes]
    refine wf_append ih fun x hx => ?_
    rcases List.mem_cons.1 hx with rfl | hx
    · decide
    · exact wbytes_wf _ x hx
/-- What stands behind the code in a PDU. -/
def tl (c a n : Int) (on : List Bool) (set fl : List Int) (lo ls lp : Nat) : List Int :=
  if c = 5 then wbytes [a, if L.nth on 0 = true then 65280 else 0]
  else if c = 6 then wbytes [a, nth set 0]
  else if c = 15 then wbytes [a, (lo : Int)] ++ ((need lo : Nat) : Int) :: pk on (need lo)
  else if c = 16 then wbytes [a, (ls : Int)] ++ ((2 * ls : Nat) : Int) :: wbytes set
  else if c = 20 then ((7 * lp : Nat) : Int) :: pbytes fl lp
  else wbytes [a, n]

theorem chk_zero {c a n : Int} {lo ls lp : Nat} {fl : List Int} (h : chk c a n lo ls lp fl = 0) :
    0 < mm c ∧ stray c a n lo ls lp = false ∧ (0 ≤ a ∧ a < 65536) ∧ (1 ≤ many c n lo ls lp ∧ many c n lo ls lp ≤ mm c) ∧ (c = 20 → allOk fl lp = true ∧ sumTo fl lp ≤ 245) ∧ (c ≠ 20 → a + many c n lo ls lp ≤ 65536) := by
  unfold chk at h
  split at h
  · cases h
  split at h
  · cases h
  split at h
  · cases h
  split at h
  · cases h
  rename_i h1 h2 h3 h4
  refine ⟨by omega, by simpa using h2, by omega, by omega, ?_, ?_⟩
  · intro h20
    rw [if_pos h20, ptsE] at h
    split at h
    · rename_i hok
      refine ⟨hok, ?_⟩
      split at h
      · cases h
      · omega
    · cases h
  · intro h20
    rw [if_neg h20] at h
    split at h
    · cases h
    · omega

/-- One element's box, wherever it stands. -/
theorem Row.one_at (k : IntKind) (w : World) (t : TypeId) (x : Int) (h : (Lit.int k x).wf = true) {g : Nat} (hg : w.heap.size = g) : Row k (w.alloc (.cells #[.int k x] t)) (g + 1) (some ⟨g, 0, none⟩) [x] := by
  subst hg; exact Row.one k w t x h
theorem Row.lit_at (k : IntKind) (w : World) (t : TypeId) (xs : List Int) (h : ∀ x ∈ xs, (Lit.int k x).wf = true) {g : Nat} (hg : w.heap.size = g) : Row k (w.alloc (.cells (blk k xs) t)) (g + 1) (some ⟨g, 0, none⟩) xs := by
  subst hg; exact Row.new k w t xs xs h (List.prefix_refl _)

theorem coilWord_any (b : Bool) (w : World) : Calls Try.prog 124 #[.bool b] w fun e w' => e = .returned (.int .u16 (if b = true then 65280 else 0)) ∧ w' = w := by
  cases b
  · go_enter Try.func124, Try.ntmps124
    go_wp2
    go_ret
    exact ⟨rfl, rfl⟩
  · go_enter Try.func124, Try.ntmps124
    go_wp2
    go_ret
    exact ⟨rfl, rfl⟩

theorem Row.grown {k : IntKind} {w w' : World} {B : Nat} {A : Option Addr} {xs : List Int} {row : Option Nat} (h : Row k w B A xs) (hg : w.grownBy w' row) (hB : B ≤ w.heap.size) (hne : ∀ b o, A = some ⟨b, o, none⟩ → some b ≠ row) : Row k w' B A xs := by
  refine ⟨h.1, fun hn => ?_⟩
  obtain ⟨b, o, e, hb, hc⟩ := h.2 hn
  exact ⟨b, o, e, hb, fun i hi => hg.cell (hc i hi) (hne b o e)⟩

theorem counted_any (v : Value) (xs ys : List Int) (A : Option Addr) (m c base : Nat) (w : World) (hown : Own .u8 5 w base v xs) (hr : Row .u8 w w.heap.size A ys) (hm : ys.length = m) (hm2 : m ≤ 255) (hx : xs.length ≤ 1000)
    (hne : ∀ b o, A = some ⟨b, o, none⟩ → some b ≠ v.ownBlock) (hbase : base ≤ w.heap.size) :
    Calls Try.prog 125 #[v, .slice A m c] w fun e w' => ∃ v', e = .returned v' ∧ Own .u8 5 w' base v' (xs ++ ((m : Int) :: ys)) ∧ Below base w w' := by
  have hw1 : IntKind.u8.wrap (m : Int) = (m : Int) := by rw [IntKind.wrap_u8]; omega
  have one := Row.one .u8 w 5 (m : Int) (wf_byte m (by omega))
  have hx' := Lib.hid hx
  have hm' := Lib.hid hm
  clear hx hm
  obtain ⟨Av, nv, cv, rfl⟩ : ∃ Av nv cv, v = .slice Av nv cv := by
    rcases hown.2 with ⟨rfl, _⟩ | ⟨g, cap, cur, rfl, _⟩
    · exact ⟨_, _, _, rfl⟩
    · exact ⟨_, _, _, rfl⟩
  go_enter Try.func125, Try.ntmps125
  go_wp2_with (first
    | (at_builtin; refine wpList_append_row _ rfl _ _ 36 rfl base .u8 5 1 Try.underlying36 info_u8 (.slice Av nv cv) xs rfl (hown.alloc _) _ _ 1 1 [(m : Int)] rfl one rfl (by have := hx'.out; omega) (by have := hx'.out; simp only [maxLen]; omega) (by simp; omega) ?_; intro v1 w1 hown1 hg1)
    | (at_builtin; refine wpList_append_row _ rfl _ _ 36 rfl base .u8 5 1 Try.underlying36 info_u8 v1 (xs ++ [(m : Int)]) rfl hown1 w.heap.size A m c ys rfl (((hr.alloc (Nat.le_refl _) _).grown hg1 (by simp) hne)) hm'.out (by rw [List.length_append]; have := hx'.out; simp; omega) (by rw [List.length_append]; have := hx'.out; simp [maxLen]; omega) (by have := hg1.size; simp at this; omega) ?_; intro v2 w2 hown2 hg2))
  have b1 := Below.own1 (Below.refl base w) hbase hown hg1
  have b2 := Below.own b1 (by have := hg1.size; simp at this; omega) hown1 hg2
  rw [List.append_assoc] at hown2
  go_ret
  exact ⟨_, rfl, hown2, b2⟩

set_option maxHeartbeats 1000000 in
set_option maxRecDepth 100000 in
theorem partBytes_any (A : Option Addr) (n c : Nat) (fl : List Int) (w : World) (hr : Row .i64 w w.heap.size A fl) (hn : fl.length = 3 * n) (hb : n ≤ 35) (hok : allOk fl n = true) :
    Calls Try.prog 126 #[.slice A n c] w (Makes .u8 5 w (pbytes fl n)) := by
  have hn' := Lib.hid hn
  clear hn
  go_enter Try.func126, Try.ntmps126
  go_wp2
  go_loopw [3, 9] (fun v i wr => ∃ k : Nat, k ≤ n ∧ i = .int .i64 k ∧ Own .u8 5 wr w.heap.size v (pbytes fl k) ∧ Below w.heap.size w wr) (fun _ i _ => n - (intOf i).toNat)
  case atStart => exact ⟨0, by omega, rfl, Own.nil _ _ _ _, Below.refl _ _⟩
  case round =>
    obtain ⟨k, hk, rfl, hown, hbel⟩ := hrel
    by_cases hlt : k < n
    · obtain ⟨b, o, rfl, hb1, hc1, hc2, hc3⟩ := (hr.below hbel).three (k := k) (by have := hn'.out; omega)
      have hin := (inPl_iff _ _ _).1 (allOk_le hok k hlt)
      have HP : Hid (pbytes fl (k + 1) = pbytes fl k ++ (6 :: wbytes [nth fl (3 * k), nth fl (3 * k + 1), nth fl (3 * k + 2)])) := Lib.hid rfl
      have HL : Hid ((pbytes fl k).length = 7 * k) := Lib.hid (pbytes_length fl k)
      have hsz := hbel.size
      generalize nth fl (3 * k) = x at *
      generalize nth fl (3 * k + 1) = y at *
      generalize nth fl (3 * k + 2) = z at *
      have e1 : IntKind.u16.wrap x = x := by rw [IntKind.wrap_u16]; omega
      have e2 : IntKind.u16.wrap y = y := by rw [IntKind.wrap_u16]; omega
      have e3 : IntKind.u16.wrap z = z := by rw [IntKind.wrap_u16]; omega
      have HB := Lib.hid (heap_alloc_new wr (.cells #[.int .i64 x, .int .i64 y, .int .i64 z] 61))
      have HWB := Lib.hid (heap_alloc_new (wr.alloc (.cells #[.int .i64 x, .int .i64 y, .int .i64 z] 61)) (.cells (blk .u16 [x, y, z]) 90))
      have hwf : Hid (∀ v ∈ [x, y, z], (Lit.int .u16 v).wf = true) := Lib.hid (by
        intro v hv
        simp only [List.mem_cons, List.not_mem_nil, or_false] at hv
        rcases hv with rfl | rfl | rfl <;> exact wf_word16 (by omega))
      go_wp2_with (first
        | (at_builtin; refine wpList_append_row _ rfl (.tmp 23) (.tmp 24) 36 rfl w.heap.size .u8 5 1 Try.underlying36 info_u8 u3 (pbytes fl k) rfl (((hown.alloc _).alloc _).alloc _) _ _ 1 1 [(6 : Int)] rfl (Row.one_at .u8 _ 5 6 (by decide) (by simp)) rfl (by rw [HL.out]; omega) (by rw [HL.out]; simp only [maxLen]; omega) (by simp; omega) ?_; intro v1 w1 hown1 hg1))
      have HW1 := Lib.hid ((hg1.block (wr.heap.size + 1) (by simp) (fun e => by have := hown.block _ e.symm; omega)).trans ((heap_alloc_old _ _ (by simp)).trans (heap_new_at _ _ (by simp))))
      have bel1 := Below.own (((hbel.alloc hsz _).alloc (by simp; omega) _).alloc (by simp; omega) _) (by simp; omega) (((hown.alloc _).alloc _).alloc _) hg1
      have hs1 := bel1.size
      clear HB HWB hg1 hown hbel hc1 hc2 hc3
      refine (Bytes_any _ 3 _ [x, y, z] _ ((Row.of_block HW1.out [x, y, z] hwf.out (List.prefix_refl _)).more (block_lt HW1.out)) rfl (by omega)).mono ?_
      intro e w2 hL
      obtain ⟨rfl, li, b2⟩ := hL.li
      have hs2 := b2.size
      have rw2 := li.row (by rw [wbytes_length]; rfl) (wbytes_wf _)
      go_wp2_with (first
        | (at_builtin; refine wpList_append_row _ rfl (.tmp 25) (.tmp 27) 36 rfl w.heap.size .u8 5 1 Try.underlying36 info_u8 v1 (pbytes fl k ++ [6]) rfl (hown1.below b2 (Nat.le_refl _)) _ _ 6 6 (wbytes [x, y, z]) rfl rw2 (by rw [wbytes_length]; rfl) (by rw [List.length_append, HL.out]; simp; omega) (by rw [List.length_append, HL.out]; simp [maxLen]; omega) (by omega) ?_; intro v2 w3 hown2 hg2))
      have bel2 := Below.own (bel1.trans (b2.mono hs1)) (by omega) (hown1.below b2 (Nat.le_refl _)) hg2
      rw [List.append_assoc, List.singleton_append, ← HP.out] at hown2
      clear hg2 hown1 b2 bel1 HW1 rw2 li
      go_wp2
      go_roundw
      case rel => exact ⟨k + 1, by omega, by go_num, hown2, bel2⟩
      case measure => simp [intOf]; omega
    · obtain rfl : k = n := by omega
      go_wp2
      go_ret
      exact ⟨_, rfl, hown, hbel⟩
end Go.Proofs.Ytfdikjfbmfibjaa
namespace Go.Proofs.Ytfdikjfbmfibjaa
open Go.RowKit
set_option linter.unusedVariables false

/-- Block g is known whole, and what lies below it is as it was. -/
def Bx (w0 : World) (g : Nat) (o : Obj) (w : World) : Prop := w.heap[g]? = some o ∧ Below g w0 w
theorem Bx.new (w : World) (o : Obj) : Bx w w.heap.size o (w.alloc o) := ⟨heap_alloc_new w o, bel_alloc w o⟩
theorem Bx.lt {w0 w : World} {g : Nat} {o : Obj} (h : Bx w0 g o w) : g < w.heap.size := block_lt h.1
theorem Bx.below {w0 w w' : World} {g : Nat} {o : Obj} (h : Bx w0 g o w) (hb : Below w.heap.size w w') : Bx w0 g o w' :=
  ⟨(hb.block g h.lt).trans h.1, h.2.trans (hb.mono (Nat.le_of_lt h.lt))⟩
theorem Bx.below2 {w0 w w' : World} {g B : Nat} {o : Obj} (h : Bx w0 g o w) (hb : Below B w w') (hB : g < B) : Bx w0 g o w' :=
  ⟨(hb.block g hB).trans h.1, h.2.trans (hb.mono (Nat.le_of_lt hB))⟩
theorem Bx.drewN {w0 w : World} {g : Nat} {o : Obj} (h : Bx w0 g o w) (n : Nat) : Bx w0 g o (w.drewN n) := h.below (bel_drewN w n)
theorem Bx.drew {w0 w : World} {g : Nat} {o : Obj} (h : Bx w0 g o w) : Bx w0 g o w.drew := h.below ⟨rfl, rfl, rfl, Nat.le_refl _, fun _ _ => rfl⟩
theorem Bx.alloc {w0 w : World} {g : Nat} {o : Obj} (h : Bx w0 g o w) (o' : Obj) : Bx w0 g o (w.alloc o') := h.below (bel_alloc w o')
/-- The cells of a request in its box. -/
theorem Bx.six {w0 w : World} {g : Nat} {t : TypeId} {v0 v1 v2 v3 v4 v5 : Value} (h : Bx w0 g (.cells #[v0, v1, v2, v3, v4, v5] t (0, 0)) w) :
    w.cell? ⟨g, 0, none⟩ = some v0 ∧ w.cell? ⟨g, 1, none⟩ = some v1 ∧ w.cell? ⟨g, 2, none⟩ = some v2 ∧ w.cell? ⟨g, 3, none⟩ = some v3 ∧ w.cell? ⟨g, 4, none⟩ = some v4 ∧ w.cell? ⟨g, 5, none⟩ = some v5 := by
  obtain ⟨⟨a, b, c⟩, ⟨d, e, f⟩, _⟩ := cells6 h.1
  exact ⟨a, b, c, d, e, f⟩


theorem wf_two {a n : Int} (ha : 0 ≤ a ∧ a < 65536) (hn : 0 ≤ n ∧ n < 65536) : ∀ v ∈ [a, n], (Lit.int .u16 v).wf = true := by
  intro v hv
  simp only [List.mem_cons, List.not_mem_nil, or_false] at hv
  rcases hv with rfl | rfl
  · exact wf_word16 ha
  · exact wf_word16 hn
/-- Bytes of a new list of two words. -/
theorem Bytes_two (w1 : World) (a n : Int) (ha : 0 ≤ a ∧ a < 65536) (hn : 0 ≤ n ∧ n < 65536) :
    Calls Try.prog 87 #[.slice (some ⟨w1.heap.size, 0, none⟩) 2 2] (w1.alloc (.cells #[.int .u16 a, .int .u16 n] 90)) fun e w' => e = .returned (.slice (some ⟨w1.heap.size + 1, 0, none⟩) 4 4) ∧
      w'.heap[w1.heap.size + 1]? = some (.cells (blk .u8 (wbytes [a, n])) 5 (0, 0)) ∧ Below w1.heap.size w1 w' := by
  have hz : (w1.alloc (.cells #[.int .u16 a, .int .u16 n] 90)).heap.size = w1.heap.size + 1 := by simp
  refine (Bytes_any _ 2 2 [a, n] (w1.alloc (.cells #[.int .u16 a, .int .u16 n] 90)) ((Row.lit_at .u16 w1 90 [a, n] (wf_two ha hn) rfl).more (by simp)) rfl (by omega)).mono ?_
  rintro e w' ⟨rfl, h1, h2⟩
  rw [hz] at h1 h2 ⊢
  exact ⟨rfl, h1, (bel_alloc w1 _).trans (h2.mono (by omega))⟩

/-- Bytes of a list of two words that fills a block. -/
theorem Bytes_at (W : World) (g z : Nat) (a n : Int) (ha : 0 ≤ a ∧ a < 65536) (hn : 0 ≤ n ∧ n < 65536) (hz : W.heap.size = z) (hW : W.heap[g]? = some (.cells #[.int .u16 a, .int .u16 n] 90 (0, 0))) :
    Calls Try.prog 87 #[.slice (some ⟨g, 0, none⟩) 2 2] W fun e w' => e = .returned (.slice (some ⟨z, 0, none⟩) 4 4) ∧
      w'.heap[z]? = some (.cells (blk .u8 (wbytes [a, n])) 5 (0, 0)) ∧ Below z W w' := by
  subst hz
  refine (Bytes_any _ 2 2 [a, n] W ((Row.of_block (l := [a, n]) (show W.heap[g]? = some (.cells (blk .u16 [a, n]) 90 (0, 0)) from hW) [a, n] (wf_two ha hn) (List.prefix_refl _)).more (block_lt hW)) rfl (by omega)).mono ?_
  rintro e w' ⟨rfl, h1, h2⟩
  exact ⟨rfl, h1, h2⟩
/-- counted, of two lists that fill blocks of their own. -/
theorem counted_two (w : World) (base g1 g2 m1 m2 : Nat) (l1 l2 : List Int) (h1 : w.heap[g1]? = some (.cells (blk .u8 l1) 5 (0, 0))) (h2 : w.heap[g2]? = some (.cells (blk .u8 l2) 5 (0, 0))) (n1 : l1.length = m1) (n2 : l2.length = m2)
    (hm1 : m1 ≤ 1000) (hm2 : m2 ≤ 255) (hw : ∀ x ∈ l2, (Lit.int .u8 x).wf = true) (hne : g1 ≠ g2) (hb : base ≤ g1) :
    Calls Try.prog 125 #[.slice (some ⟨g1, 0, none⟩) m1 m1, .slice (some ⟨g2, 0, none⟩) m2 m2] w fun e w' => ∃ v', e = .returned v' ∧ Own .u8 5 w' base v' (l1 ++ ((m2 : Int) :: l2)) ∧ Below base w w' :=
  counted_any _ l1 l2 _ m2 m2 base w (Own.laid h1 hb n1 (by simp only [maxLen]; omega)) ((Row.of_block h2 l2 hw (List.prefix_refl _)).more (block_lt h2)) n2 hm2 (by omega)
    (fun b o e => by injection e with e; injection e with e1 e2; subst e1; simp [Value.ownBlock]; omega) (by have := block_lt h1; omega)

abbrev reqBox (c a n : Int) (Ao As Ap : Option Addr) (lo co ls cs lp cp : Nat) : Obj := .cells #[.int .i64 c, .int .i64 a, .int .i64 n, .slice Ao lo co, .slice As ls cs, .slice Ap lp cp] 26

set_option maxHeartbeats 1000000 in
set_option maxRecDepth 100000 in
theorem behind_read (c a n : Int) (Ao As Ap : Option Addr) (lo co ls cs lp cp : Nat) (w : World) (hc : c = 1 ∨ c = 2 ∨ c = 3 ∨ c = 4) (ha : 0 ≤ a ∧ a < 65536) (hn : 1 ≤ n ∧ n ≤ 2000) :
    Calls Try.prog 118 #[.agg #[.int .i64 c, .int .i64 a, .int .i64 n, .slice Ao lo co, .slice As ls cs, .slice Ap lp cp]] w (Makes .u8 5 w (wbytes [a, n])) := by
  have hmm : 0 < mm c := by rcases hc with rfl | rfl | rfl | rfl <;> decide
  have HMany : Hid (many c n lo ls lp = n) := Lib.hid (by rcases hc with rfl | rfl | rfl | rfl <;> rfl)
  have e2 : IntKind.u16.wrap n = n := by rw [IntKind.wrap_u16]; omega
  have t5 : (c == 5) = false := beq_false_of_ne (by omega)
  have t6 : (c == 6) = false := beq_false_of_ne (by omega)
  have t15 : (c == 15) = false := beq_false_of_ne (by omega)
  have t16 : (c == 16) = false := beq_false_of_ne (by omega)
  have t20 : (c == 20) = false := beq_false_of_ne (by omega)
  have e1 : IntKind.u16.wrap a = a := by rw [IntKind.wrap_u16]; omega
  have hx0 := Bx.new w (.cells #[.int .i64 c, .int .i64 a, .int .i64 n, .slice Ao lo co, .slice As ls cs, .slice Ap lp cp] 26)
  clear hc
  go_enter Try.func118, Try.ntmps118
  go_wp2_with fail
  go_region_held3 (fun w' => Bx w w.heap.size (.cells #[.int .i64 c, .int .i64 a, .int .i64 n, .slice Ao lo co, .slice As ls cs, .slice Ap lp cp] 26) w' ∧ w'.cell? ⟨w.heap.size, 0, none⟩ = some (.int .i64 c) ∧ w'.cell? ⟨w.heap.size, 1, none⟩ = some (.int .i64 a) ∧ w'.cell? ⟨w.heap.size, 2, none⟩ = some (.int .i64 n) ∧ w'.cell? ⟨w.heap.size, 3, none⟩ = some (.slice Ao lo co) ∧ w'.cell? ⟨w.heap.size, 4, none⟩ = some (.slice As ls cs) ∧ w'.cell? ⟨w.heap.size, 5, none⟩ = some (.slice Ap lp cp))
    ((first
      | exact ⟨hx0.drew, hx0.drew.six⟩
      | exact ⟨h9, h9.six⟩))
    (first
      | (go_at_call 75; refine (howMany_any _ a n Ao As Ap lo co ls cs lp cp _ hmm).mono ?_; rintro e w1 ⟨rfl, b1⟩; rw [HMany.out]; have h9 := hx0.drew.below b1))
  clear hx0
  obtain ⟨d0, d1, d2, d3, d4, d5⟩ := h9.six
  have hs := h9.lt
  have bel1 := h9.2
  clear b1
  go_wp2_with fail
  refine (Bytes_two w1 a n ha (by omega)).mono ?_
  rintro e w2 ⟨rfl, g2, b2⟩
  go_wp2
  go_ret
  exact ⟨_, rfl, Own.laid g2 (by omega) (wbytes_length _) (by simp [maxLen]), bel1.trans (b2.mono (by omega))⟩
set_option maxHeartbeats 1000000 in
set_option maxRecDepth 100000 in
theorem behind_coil (c a n : Int) (Ao As Ap : Option Addr) (lo co ls cs lp cp : Nat) (on : List Bool) (w : World) (hc : c = 5) (ha : 0 ≤ a ∧ a < 65536) (h : L.Row () w w.heap.size Ao on) (hl : on.length = lo) (h1 : lo = 1) :
    Calls Try.prog 118 #[.agg #[.int .i64 c, .int .i64 a, .int .i64 n, .slice Ao lo co, .slice As ls cs, .slice Ap lp cp]] w (Makes .u8 5 w (wbytes [a, if L.nth on 0 = true then 65280 else 0])) := by
  have hmm : 0 < mm 5 := by decide
  have HMany : Hid (many 5 n lo ls lp = lo) := Lib.hid rfl
  have e2 : IntKind.u16.wrap (lo : Int) = lo := by rw [IntKind.wrap_u16]; omega
  have hlt : (0 : Int) < (lo : Int) := by omega
  have hl0 : 0 < lo := by omega
  have hlo : lo ≤ 1 := by omega
  obtain ⟨b, o, hAd, hb1, hcell⟩ := h.at_ (i := 0) (by omega)
  have HAd := Lib.hid hAd
  have HC := Lib.hid hcell
  obtain ⟨v, hv⟩ : ∃ v : Int, Hid ((if L.nth on 0 = true then 65280 else 0) = v) := ⟨_, Lib.hid rfl⟩
  have hvb : 0 ≤ v ∧ v < 65536 := by rw [← hv.out]; split <;> omega
  have HC2 := Lib.hid (coilWord_any (L.nth on 0))
  rw [hv.out] at HC2 ⊢
  generalize L.nth on 0 = bit at *
  clear h hcell hl h1 hAd
  have e1 : IntKind.u16.wrap a = a := by rw [IntKind.wrap_u16]; omega
  have hx0 := Bx.new w (.cells #[.int .i64 c, .int .i64 a, .int .i64 n, .slice Ao lo co, .slice As ls cs, .slice Ap lp cp] 26)
  subst hc
  go_enter Try.func118, Try.ntmps118
  go_wp2_with fail
  go_region_held3 (fun w' => Bx w w.heap.size (.cells #[.int .i64 5, .int .i64 a, .int .i64 n, .slice Ao lo co, .slice As ls cs, .slice Ap lp cp] 26) w' ∧ w'.cell? ⟨w.heap.size, 0, none⟩ = some (.int .i64 5) ∧ w'.cell? ⟨w.heap.size, 1, none⟩ = some (.int .i64 a) ∧ w'.cell? ⟨w.heap.size, 2, none⟩ = some (.int .i64 n) ∧ w'.cell? ⟨w.heap.size, 3, none⟩ = some (.slice Ao lo co) ∧ w'.cell? ⟨w.heap.size, 4, none⟩ = some (.slice As ls cs) ∧ w'.cell? ⟨w.heap.size, 5, none⟩ = some (.slice Ap lp cp))
    ((first
      | exact ⟨hx0.drew, hx0.drew.six⟩
      | exact ⟨h9, h9.six⟩))
    (first
      | (go_at_call 75; refine (howMany_any _ a n Ao As Ap lo co ls cs lp cp _ hmm).mono ?_; rintro e w1 ⟨rfl, b1⟩; rw [HMany.out]; have h9 := hx0.drew.below b1))
  clear hx0
  obtain ⟨d0, d1, d2, d3, d4, d5⟩ := h9.six
  have hs := h9.lt
  have bel1 := h9.2
  clear b1
  obtain rfl := HAd.out
  have hc0 : w1.cell? ⟨b, o, none⟩ = some (.bool bit) := (bel1.cell (p := ⟨b, o, none⟩) hb1).trans (by have := HC.out; rwa [Nat.add_zero] at this)
  go_wp2_with fail
  refine (HC2.out _).mono ?_
  rintro e w' ⟨rfl, rfl⟩
  go_wp2_with fail
  refine (Bytes_two _ a v ha hvb).mono ?_
  rintro e w2 ⟨rfl, g2, b2⟩
  go_wp2
  go_ret
  exact ⟨_, rfl, Own.laid g2 (by omega) (wbytes_length _) (by simp [maxLen]), bel1.trans (b2.mono (by omega))⟩
set_option maxHeartbeats 1000000 in
set_option maxRecDepth 100000 in
theorem behind_reg (c a n : Int) (Ao As Ap : Option Addr) (lo co ls cs lp cp : Nat) (set : List Int) (w : World) (hc : c = 6) (ha : 0 ≤ a ∧ a < 65536) (h : Row .u16 w w.heap.size As set) (hl : set.length = ls) (h1 : ls = 1) :
    Calls Try.prog 118 #[.agg #[.int .i64 c, .int .i64 a, .int .i64 n, .slice Ao lo co, .slice As ls cs, .slice Ap lp cp]] w (Makes .u8 5 w (wbytes [a, nth set 0])) := by
  have hmm : 0 < mm 6 := by decide
  have HMany : Hid (many 6 n lo ls lp = ls) := Lib.hid rfl
  have e2 : IntKind.u16.wrap (ls : Int) = ls := by rw [IntKind.wrap_u16]; omega
  have hlt : (0 : Int) < (ls : Int) := by omega
  have hl0 : 0 < ls := by omega
  have hlo : ls ≤ 1 := by omega
  obtain ⟨b, o, hAd, hb1, hcell⟩ := h.at_ (i := 0) (by omega)
  have HAd := Lib.hid hAd
  have hvb := wf_u16 (h.wf_at (i := 0) (by omega))
  have HC := Lib.hid hcell
  generalize nth set 0 = v at *
  clear h hcell hl h1 hAd
  have e1 : IntKind.u16.wrap a = a := by rw [IntKind.wrap_u16]; omega
  have hx0 := Bx.new w (.cells #[.int .i64 c, .int .i64 a, .int .i64 n, .slice Ao lo co, .slice As ls cs, .slice Ap lp cp] 26)
  subst hc
  go_enter Try.func118, Try.ntmps118
  go_wp2_with fail
  go_region_held3 (fun w' => Bx w w.heap.size (.cells #[.int .i64 6, .int .i64 a, .int .i64 n, .slice Ao lo co, .slice As ls cs, .slice Ap lp cp] 26) w' ∧ w'.cell? ⟨w.heap.size, 0, none⟩ = some (.int .i64 6) ∧ w'.cell? ⟨w.heap.size, 1, none⟩ = some (.int .i64 a) ∧ w'.cell? ⟨w.heap.size, 2, none⟩ = some (.int .i64 n) ∧ w'.cell? ⟨w.heap.size, 3, none⟩ = some (.slice Ao lo co) ∧ w'.cell? ⟨w.heap.size, 4, none⟩ = some (.slice As ls cs) ∧ w'.cell? ⟨w.heap.size, 5, none⟩ = some (.slice Ap lp cp))
    ((first
      | exact ⟨hx0.drew, hx0.drew.six⟩
      | exact ⟨h9, h9.six⟩))
    (first
      | (go_at_call 75; refine (howMany_any _ a n Ao As Ap lo co ls cs lp cp _ hmm).mono ?_; rintro e w1 ⟨rfl, b1⟩; rw [HMany.out]; have h9 := hx0.drew.below b1))
  clear hx0
  obtain ⟨d0, d1, d2, d3, d4, d5⟩ := h9.six
  have hs := h9.lt
  have bel1 := h9.2
  clear b1
  obtain rfl := HAd.out
  have hc0 : w1.cell? ⟨b, o, none⟩ = some (.int .u16 v) := (bel1.cell (p := ⟨b, o, none⟩) hb1).trans (by have := HC.out; rwa [Nat.add_zero] at this)
  go_wp2_with fail
  refine (Bytes_two _ a v ha hvb).mono ?_
  rintro e w2 ⟨rfl, g2, b2⟩
  go_wp2
  go_ret
  exact ⟨_, rfl, Own.laid g2 (by omega) (wbytes_length _) (by simp [maxLen]), bel1.trans (b2.mono (by omega))⟩
set_option maxHeartbeats 1000000 in
set_option maxRecDepth 100000 in
theorem behind_bits (c a n : Int) (Ao As Ap : Option Addr) (lo co ls cs lp cp : Nat) (on : List Bool) (w : World) (hc : c = 15) (ha : 0 ≤ a ∧ a < 65536) (h : L.Row () w w.heap.size Ao on) (hl : on.length = lo) (h1 : 1 ≤ lo ∧ lo ≤ 1968) :
    Calls Try.prog 118 #[.agg #[.int .i64 c, .int .i64 a, .int .i64 n, .slice Ao lo co, .slice As ls cs, .slice Ap lp cp]] w (Makes .u8 5 w (wbytes [a, (lo : Int)] ++ ((need lo : Nat) : Int) :: pk on (need lo))) := by
  have hmm : 0 < mm 15 := by decide
  have HMany : Hid (many 15 n lo ls lp = lo) := Lib.hid rfl
  have e2 : IntKind.u16.wrap (lo : Int) = lo := by rw [IntKind.wrap_u16]; omega
  have HH := Lib.hid h
  have HLn := Lib.hid hl
  clear h hl
  have e1 : IntKind.u16.wrap a = a := by rw [IntKind.wrap_u16]; omega
  have hx0 := Bx.new w (.cells #[.int .i64 c, .int .i64 a, .int .i64 n, .slice Ao lo co, .slice As ls cs, .slice Ap lp cp] 26)
  subst hc
  go_enter Try.func118, Try.ntmps118
  go_wp2_with fail
  go_region_held3 (fun w' => Bx w w.heap.size (.cells #[.int .i64 15, .int .i64 a, .int .i64 n, .slice Ao lo co, .slice As ls cs, .slice Ap lp cp] 26) w' ∧ w'.cell? ⟨w.heap.size, 0, none⟩ = some (.int .i64 15) ∧ w'.cell? ⟨w.heap.size, 1, none⟩ = some (.int .i64 a) ∧ w'.cell? ⟨w.heap.size, 2, none⟩ = some (.int .i64 n) ∧ w'.cell? ⟨w.heap.size, 3, none⟩ = some (.slice Ao lo co) ∧ w'.cell? ⟨w.heap.size, 4, none⟩ = some (.slice As ls cs) ∧ w'.cell? ⟨w.heap.size, 5, none⟩ = some (.slice Ap lp cp))
    ((first
      | exact ⟨hx0.drew, hx0.drew.six⟩
      | exact ⟨h9, h9.six⟩))
    (first
      | (go_at_call 75; refine (howMany_any _ a n Ao As Ap lo co ls cs lp cp _ hmm).mono ?_; rintro e w1 ⟨rfl, b1⟩; rw [HMany.out]; have h9 := hx0.drew.below b1))
  clear hx0
  obtain ⟨d0, d1, d2, d3, d4, d5⟩ := h9.six
  have hs := h9.lt
  have bel1 := h9.2
  clear b1
  have hd2 : need lo ≤ 255 := by unfold need; omega
  obtain ⟨d, hd⟩ : ∃ d, Hid (need lo = d) := ⟨_, Lib.hid rfl⟩
  rw [hd.out] at hd2 ⊢
  have hwf := pk_wf on d
  have HL : Hid ((pk on d).length = d) := Lib.hid (pk_length _ _)
  go_wp2_with fail
  go_region_held3 (fun w' => Bx w w.heap.size (.cells #[.int .i64 15, .int .i64 a, .int .i64 n, .slice Ao lo co, .slice As ls cs, .slice Ap lp cp] 26) w' ∧ w'.cell? ⟨w.heap.size, 0, none⟩ = some (.int .i64 15) ∧ w'.cell? ⟨w.heap.size, 1, none⟩ = some (.int .i64 a) ∧ w'.cell? ⟨w.heap.size, 2, none⟩ = some (.int .i64 n) ∧ w'.cell? ⟨w.heap.size, 3, none⟩ = some (.slice Ao lo co) ∧ w'.cell? ⟨w.heap.size, 4, none⟩ = some (.slice As ls cs) ∧ w'.cell? ⟨w.heap.size, 5, none⟩ = some (.slice Ap lp cp))
    ((first
      | exact ⟨h9, h9.six⟩
      | exact ⟨h9.drew, h9.drew.six⟩
      | exact ⟨(h9.alloc _).drew, (h9.alloc _).drew.six⟩
      | exact ⟨h10, h10.six⟩
      | exact ⟨h12, h12.six⟩
      | exact ⟨h11, h11.six⟩))
    (first
      | (go_at_call 125; refine (counted_two _ (w.heap.size + 1) (w1.heap.size + 1) w2.heap.size 4 d (wbytes [a, (lo : Int)]) (pk on d) g2p g3 (wbytes_length _) HL.out (by simp) hd2 hwf (by omega) (by omega)).mono ?_; rintro e w4 ⟨v4, rfl, own4, b4⟩; have h12 := h11.below2 b4 (by omega))
      | (go_at_call 87; refine (Bytes_at _ w1.heap.size (w1.heap.size + 1) a (lo : Int) ha (by omega) (by simp) (by exact heap_alloc_new w1 _)).mono ?_; rintro e w2 ⟨rfl, g2, b2⟩; have h10 := (h9.alloc (.cells #[.int .u16 a, .int .u16 (lo : Int)] 90)).drew.below (b2.mono (by simp))) | (go_at_call 86; refine (Bits_any Ao lo co on w2 ((HH.out.below h10.2).more (Nat.le_of_lt h10.lt)) HLn.out (by omega)).mono ?_; rw [hd.out]; rintro e w3 ⟨rfl, g3, b3⟩; have h11 := h10.below b3; have hz2 := block_lt g2; have g2p := (b3.block _ hz2).trans g2))
  clear g2 g3 g2p b2 b3 h10 h11 d0 d1 d2 d3 d4 d5
  go_wp2
  go_ret
  refine ⟨_, rfl, ?_, h12.2⟩
  rw [hd.out]
  exact own4.mono (by omega)
set_option maxHeartbeats 1000000 in
set_option maxRecDepth 100000 in
theorem behind_words (c a n : Int) (Ao As Ap : Option Addr) (lo co ls cs lp cp : Nat) (set : List Int) (w : World) (hc : c = 16) (ha : 0 ≤ a ∧ a < 65536) (h : Row .u16 w w.heap.size As set) (hl : set.length = ls) (h1 : 1 ≤ ls ∧ ls ≤ 123) :
    Calls Try.prog 118 #[.agg #[.int .i64 c, .int .i64 a, .int .i64 n, .slice Ao lo co, .slice As ls cs, .slice Ap lp cp]] w (Makes .u8 5 w (wbytes [a, (ls : Int)] ++ ((2 * ls : Nat) : Int) :: wbytes set)) := by
  have hmm : 0 < mm 16 := by decide
  have HMany : Hid (many 16 n lo ls lp = ls) := Lib.hid rfl
  have e2 : IntKind.u16.wrap (ls : Int) = ls := by rw [IntKind.wrap_u16]; omega
  have HH := Lib.hid h
  have HLn := Lib.hid hl
  clear h hl
  have e1 : IntKind.u16.wrap a = a := by rw [IntKind.wrap_u16]; omega
  have hx0 := Bx.new w (.cells #[.int .i64 c, .int .i64 a, .int .i64 n, .slice Ao lo co, .slice As ls cs, .slice Ap lp cp] 26)
  subst hc
  go_enter Try.func118, Try.ntmps118
  go_wp2_with fail
  go_region_held3 (fun w' => Bx w w.heap.size (.cells #[.int .i64 16, .int .i64 a, .int .i64 n, .slice Ao lo co, .slice As ls cs, .slice Ap lp cp] 26) w' ∧ w'.cell? ⟨w.heap.size, 0, none⟩ = some (.int .i64 16) ∧ w'.cell? ⟨w.heap.size, 1, none⟩ = some (.int .i64 a) ∧ w'.cell? ⟨w.heap.size, 2, none⟩ = some (.int .i64 n) ∧ w'.cell? ⟨w.heap.size, 3, none⟩ = some (.slice Ao lo co) ∧ w'.cell? ⟨w.heap.size, 4, none⟩ = some (.slice As ls cs) ∧ w'.cell? ⟨w.heap.size, 5, none⟩ = some (.slice Ap lp cp))
    ((first
      | exact ⟨hx0.drew, hx0.drew.six⟩
      | exact ⟨h9, h9.six⟩))
    (first
      | (go_at_call 75; refine (howMany_any _ a n Ao As Ap lo co ls cs lp cp _ hmm).mono ?_; rintro e w1 ⟨rfl, b1⟩; rw [HMany.out]; have h9 := hx0.drew.below b1))
  clear hx0
  obtain ⟨d0, d1, d2, d3, d4, d5⟩ := h9.six
  have hs := h9.lt
  have bel1 := h9.2
  clear b1
  obtain ⟨d, hd⟩ : ∃ d, Hid (2 * ls = d) := ⟨_, Lib.hid rfl⟩
  have hd2 : d ≤ 255 := by have := hd.out; omega
  rw [hd.out]
  have hwf := wbytes_wf set
  have HL : Hid ((wbytes set).length = d) := Lib.hid (by rw [wbytes_length, HLn.out, hd.out])
  go_wp2_with fail
  go_region_held3 (fun w' => Bx w w.heap.size (.cells #[.int .i64 16, .int .i64 a, .int .i64 n, .slice Ao lo co, .slice As ls cs, .slice Ap lp cp] 26) w' ∧ w'.cell? ⟨w.heap.size, 0, none⟩ = some (.int .i64 16) ∧ w'.cell? ⟨w.heap.size, 1, none⟩ = some (.int .i64 a) ∧ w'.cell? ⟨w.heap.size, 2, none⟩ = some (.int .i64 n) ∧ w'.cell? ⟨w.heap.size, 3, none⟩ = some (.slice Ao lo co) ∧ w'.cell? ⟨w.heap.size, 4, none⟩ = some (.slice As ls cs) ∧ w'.cell? ⟨w.heap.size, 5, none⟩ = some (.slice Ap lp cp))
    ((first
      | exact ⟨h9, h9.six⟩
      | exact ⟨h9.drew, h9.drew.six⟩
      | exact ⟨(h9.alloc _).drew, (h9.alloc _).drew.six⟩
      | exact ⟨h10, h10.six⟩
      | exact ⟨h12, h12.six⟩
      | exact ⟨h11, h11.six⟩))
    (first
      | (go_at_call 125; refine (counted_two _ (w.heap.size + 1) (w1.heap.size + 1) w2.heap.size 4 d (wbytes [a, (ls : Int)]) (wbytes set) g2p g3 (wbytes_length _) HL.out (by simp) hd2 hwf (by omega) (by omega)).mono ?_; rintro e w4 ⟨v4, rfl, own4, b4⟩; have h12 := h11.below2 b4 (by omega))
      | (go_at_call_of 87 (Value.slice (some ⟨w1.heap.size, 0, none⟩) 2 2); refine (Bytes_at _ w1.heap.size (w1.heap.size + 1) a (ls : Int) ha (by omega) (by simp) (by exact heap_alloc_new w1 _)).mono ?_; rintro e w2 ⟨rfl, g2, b2⟩; have h10 := (h9.alloc (.cells #[.int .u16 a, .int .u16 (ls : Int)] 90)).drew.below (b2.mono (by simp))) | (go_at_call 87; refine (Bytes_any As ls cs set w2 ((HH.out.below h10.2).more (Nat.le_of_lt h10.lt)) HLn.out (by omega)).mono ?_; rw [hd.out]; rintro e w3 ⟨rfl, g3, b3⟩; have h11 := h10.below b3; have hz2 := block_lt g2; have g2p := (b3.block _ hz2).trans g2))
  clear g2 g3 g2p b2 b3 h10 h11 d0 d1 d2 d3 d4 d5
  go_wp2
  go_ret
  refine ⟨_, rfl, ?_, h12.2⟩
  rw [hd.out]
  exact own4.mono (by omega)
set_option maxHeartbeats 1000000 in
set_option maxRecDepth 100000 in
theorem behind_file (c a n : Int) (Ao As Ap : Option Addr) (lo co ls cs lp cp : Nat) (fl : List Int) (w : World) (hc : c = 20) (ha : 0 ≤ a ∧ a < 65536) (h : Row .i64 w w.heap.size Ap fl) (hl : fl.length = 3 * lp) (h1 : lp ≤ 35) (hok : allOk fl lp = true) :
    Calls Try.prog 118 #[.agg #[.int .i64 c, .int .i64 a, .int .i64 n, .slice Ao lo co, .slice As ls cs, .slice Ap lp cp]] w (Makes .u8 5 w (((7 * lp : Nat) : Int) :: pbytes fl lp)) := by
  have hmm : 0 < mm 20 := by decide
  have HMany : Hid (many 20 n lo ls lp = lp) := Lib.hid rfl
  have e2 : IntKind.u16.wrap (lp : Int) = lp := by rw [IntKind.wrap_u16]; omega
  have HH := Lib.hid h
  have HLn := Lib.hid hl
  have HOK := Lib.hid hok
  clear h hl hok
  have e1 : IntKind.u16.wrap a = a := by rw [IntKind.wrap_u16]; omega
  have hx0 := Bx.new w (.cells #[.int .i64 c, .int .i64 a, .int .i64 n, .slice Ao lo co, .slice As ls cs, .slice Ap lp cp] 26)
  subst hc
  go_enter Try.func118, Try.ntmps118
  go_wp2_with fail
  go_region_held3 (fun w' => Bx w w.heap.size (.cells #[.int .i64 20, .int .i64 a, .int .i64 n, .slice Ao lo co, .slice As ls cs, .slice Ap lp cp] 26) w' ∧ w'.cell? ⟨w.heap.size, 0, none⟩ = some (.int .i64 20) ∧ w'.cell? ⟨w.heap.size, 1, none⟩ = some (.int .i64 a) ∧ w'.cell? ⟨w.heap.size, 2, none⟩ = some (.int .i64 n) ∧ w'.cell? ⟨w.heap.size, 3, none⟩ = some (.slice Ao lo co) ∧ w'.cell? ⟨w.heap.size, 4, none⟩ = some (.slice As ls cs) ∧ w'.cell? ⟨w.heap.size, 5, none⟩ = some (.slice Ap lp cp))
    ((first
      | exact ⟨hx0.drew, hx0.drew.six⟩
      | exact ⟨h9, h9.six⟩))
    (first
      | (go_at_call 75; refine (howMany_any _ a n Ao As Ap lo co ls cs lp cp _ hmm).mono ?_; rintro e w1 ⟨rfl, b1⟩; rw [HMany.out]; have h9 := hx0.drew.below b1))
  clear hx0
  obtain ⟨d0, d1, d2, d3, d4, d5⟩ := h9.six
  have hs := h9.lt
  have bel1 := h9.2
  clear b1
  go_wp2_with fail
  refine (partBytes_any Ap lp cp fl _ ((HH.out.below bel1).more bel1.size) HLn.out h1 HOK.out).mono ?_
  rintro e w2 ⟨v, rfl, own2, b2⟩
  obtain ⟨A2, c2, rfl, row2, _, _⟩ := own2.row (pbytes_wf fl lp)
  rw [pbytes_length] at own2 ⊢
  go_wp2_with fail
  refine (counted_any (.slice none 0 0) [] (pbytes fl lp) A2 (7 * lp) c2 w2.heap.size w2 (Own.nil _ _ _ _) row2 (pbytes_length _ _) (by omega) (by simp) (by simp [Value.ownBlock]) (Nat.le_refl _)).mono ?_
  rintro e w3 ⟨v3, rfl, own3, b3⟩
  rw [List.nil_append] at own3
  have hs2 := b2.size
  go_wp2
  go_ret
  exact ⟨_, rfl, own3.mono (by omega), (bel1.trans (b2.mono (by omega))).trans (b3.mono (by omega))⟩
end Go.Proofs.Ytfdikjfbmfibjaa
namespace Go.Proofs.Ytfdikjfbmfibjaa
open Go.RowKit

section
variable {P : Program}
theorem run_append_row (w : World) (base : Nat) (t ty : TypeId) (k : IntKind) (e : TypeId) (bytes : Nat) (ht : P.underlying t = some (.slice e)) (hi : (P.info? e).map (fun i => (i.zero, i.size, i.bytes)) = some (some (.int k 0), 1, bytes))
    (v : Value) (xs : List Int) (hown : Own k e w base v xs) (B : Nat) (A : Option Addr) (m c : Nat) (ys : List Int) (hr : Row k w B A ys) (hm : ys.length = m)
    (hbytes : (xs.length + m) * bytes ≤ 140737488355328) (h63 : xs.length + m ≤ maxLen) (hbase : base ≤ w.heap.size) :
    ∃ v' w', (Builtin.append_ #[t, t] ty #[v, .slice A m c]).run P w = .ok v' w' ∧ Own k e w' base v' (xs ++ ys) ∧ w.grownBy w' v.ownBlock := by
  obtain ⟨i, hi1, hz, hsz, hby⟩ := info_parts hi
  cases A with
  | none =>
    have hm0 : m = 0 := by
      rcases Nat.eq_zero_or_pos m with h0 | h0
      · exact h0
      · obtain ⟨b, o, h, _⟩ := hr.2 (by omega); cases h
    subst hm0
    have hy : ys = [] := List.eq_nil_of_length_eq_zero hm
    subst hy
    exact ⟨v, w, run_append_none (P := P) w t ty e i ht hi1 base v _ _ hown c, by simpa using hown, World.grownBy.refl _ _⟩
  | some ad =>
    have hcells : ∀ j u, (ys.map (Value.int k))[j]? = some u → w.cell? (ad.add j) = some u := by
      intro j u hu
      rw [List.getElem?_map] at hu
      by_cases hj : j < ys.length
      · obtain ⟨b, o, e1, _, hc⟩ := hr.2 (by omega)
        injection e1 with e1
        subst e1
        rw [List.getElem?_eq_getElem hj] at hu
        rw [Go.WideShapes.add_plain, hc j hj, nth_eq ys j hj]
        exact hu
      · rw [List.getElem?_eq_none (by omega)] at hu
        cases hu
    obtain ⟨v', w', hrun, h2, h3, _, _⟩ := run_append_own_at (P := P) w base t ty e i (.int k 0) 1 bytes ht hi1 hz hsz hby rfl (by omega) v _ _ hown ad m c (ys.map (Value.int k)) (by simp [hm]) hcells (ints_oneCell k ys) h63 hbytes hbase
    exact ⟨v', w', hrun, by simpa [Own, hm] using h2, h3⟩

theorem run_append_row2 (w : World) (base : Nat) (t ty : TypeId) (k : IntKind) (e : TypeId) (bytes : Nat) (ht : P.underlying t = some (.slice e)) (hi : (P.info? e).map (fun i => (i.zero, i.size, i.bytes)) = some (some (.int k 0), 1, bytes))
    (v : Value) (xs : List Int) (hown : Own k e w base v xs) (B : Nat) (A : Option Addr) (m c : Nat) (ys : List Int) (hr : Row k w B A ys) (hm : ys.length = m)
    (hbytes : (xs.length + m) * bytes ≤ 140737488355328) (h63 : xs.length + m ≤ maxLen) (hbase : base ≤ w.heap.size) :
    ∃ v' w', (Builtin.append_ #[t, t] ty #[v, .slice A m c]).run P w = .ok v' w' ∧ Own k e w' base v' (xs ++ ys) ∧ w.grownBy w' v.ownBlock ∧ (v'.ownBlock = v.ownBlock ∨ v'.ownBlock = some w.heap.size) := by
  obtain ⟨i, hi1, hz, hsz, hby⟩ := info_parts hi
  cases A with
  | none =>
    have hm0 : m = 0 := by
      rcases Nat.eq_zero_or_pos m with h0 | h0
      · exact h0
      · obtain ⟨b, o, h, _⟩ := hr.2 (by omega); cases h
    subst hm0
    have hy : ys = [] := List.eq_nil_of_length_eq_zero hm
    subst hy
    exact ⟨v, w, run_append_none (P := P) w t ty e i ht hi1 base v _ _ hown c, by simpa using hown, World.grownBy.refl _ _, .inl rfl⟩
  | some ad =>
    have hcells : ∀ j u, (ys.map (Value.int k))[j]? = some u → w.cell? (ad.add j) = some u := by
      intro j u hu
      rw [List.getElem?_map] at hu
      by_cases hj : j < ys.length
      · obtain ⟨b, o, e1, _, hc⟩ := hr.2 (by omega)
        injection e1 with e1
        subst e1
        rw [List.getElem?_eq_getElem hj] at hu
        rw [Go.WideShapes.add_plain, hc j hj, nth_eq ys j hj]
        exact hu
      · rw [List.getElem?_eq_none (by omega)] at hu
        cases hu
    obtain ⟨v', w', hrun, h2, h3, _, h5⟩ := run_append_own_at (P := P) w base t ty e i (.int k 0) 1 bytes ht hi1 hz hsz hby rfl (by omega) v _ _ hown ad m c (ys.map (Value.int k)) (by simp [hm]) hcells (ints_oneCell k ys) h63 hbytes hbase
    exact ⟨v', w', hrun, by simpa [Own, hm] using h2, h3, h5⟩

/-- 'append(v, src...)': v owned, src whatever row of integers; where the new row lies. -/
theorem wpList_append_row2 {ops : Array Oper} {rest : List Oper} {o : Oper} {a : Act} {Q : Exit → Act → World → Prop} (w : World) (hgd : o.guard = none) (s x : Operand) (t : TypeId)
    (ho : o.op = .call { callee := .builtin .append, args := #[s, x], argTypes := #[t, t] })
    (base : Nat) (k : IntKind) (e : TypeId) (bytes : Nat) (ht : P.underlying t = some (.slice e)) (hi : (P.info? e).map (fun i => (i.zero, i.size, i.bytes)) = some (some (.int k 0), 1, bytes))
    (v : Value) (xs : List Int) (hs : a.eval s = v) (hown : Own k e w base v xs) (B : Nat) (A : Option Addr) (m c : Nat) (ys : List Int) (hx : a.eval x = .slice A m c) (hr : Row k w B A ys) (hm : ys.length = m)
    (hbytes : (xs.length + m) * bytes ≤ 140737488355328) (h63 : xs.length + m ≤ maxLen) (hbase : base ≤ w.heap.size)
    (h : ∀ v' w', Own k e w' base v' (xs ++ ys) → w.grownBy w' v.ownBlock → (v'.ownBlock = v.ownBlock ∨ v'.ownBlock = some w.heap.size) → wpList P ops Q rest (a.put o.dst v') w') : wpList P ops Q (o :: rest) a w := by
  obtain ⟨v', w', hrun, h1, h2, h3⟩ := run_append_row2 (P := P) w base t o.type k e bytes ht hi v xs hown B A m c ys hr hm hbytes h63 hbase
  refine wpList_plain hgd fun K hK => ?_
  unfold Oper.wp
  simp [execOp, ho, resolve, invoke, builtin, hs, hx, hrun, Result.andThen]
  exact hK _ _ (h v' w' h1 h2 h3)

theorem step_append_row {ops : Array Oper} {o : Oper} {a : Act} {K : Act → World → Prop} {Q : Exit → Act → World → Prop} {E : Prop} (w : World) (hgd : o.guard = none) (s x : Operand) (t : TypeId)
    (ho : o.op = .call { callee := .builtin .append, args := #[s, x], argTypes := #[t, t] })
    (base : Nat) (k : IntKind) (e : TypeId) (bytes : Nat) (ht : P.underlying t = some (.slice e)) (hi : (P.info? e).map (fun i => (i.zero, i.size, i.bytes)) = some (some (.int k 0), 1, bytes))
    (v : Value) (xs : List Int) (hs : a.eval s = v) (hown : Own k e w base v xs) (B : Nat) (A : Option Addr) (m c : Nat) (ys : List Int) (hx : a.eval x = .slice A m c) (hr : Row k w B A ys) (hm : ys.length = m)
    (hbytes : (xs.length + m) * bytes ≤ 140737488355328) (h63 : xs.length + m ≤ maxLen) (hbase : base ≤ w.heap.size)
    (h : ∀ v' w', Own k e w' base v' (xs ++ ys) → w.grownBy w' v.ownBlock → K (a.put o.dst v') w') :
    if Region.wanted o (yielded ops a.tmps) = true then Oper.wp P o a w K Q else E := by
  have hw : Region.wanted o (yielded ops a.tmps) = true := by simp [Region.wanted, hgd]
  rw [if_pos hw]
  obtain ⟨v', w', hrun, h1, h2⟩ := run_append_row (P := P) w base t o.type k e bytes ht hi v xs hown B A m c ys hr hm hbytes h63 hbase
  unfold Oper.wp execOp
  simp only [ho, resolve, invoke, builtin, Sem.run_bind, Sem.run_pure, Result.andThen_ok, List.map_toArray, List.map_cons, List.map_nil, hs, hx, hrun]
  exact h v' w' h1 h2
end
end Go.Proofs.Ytfdikjfbmfibjaa
namespace Go.Proofs.Ytfdikjfbmfibjaa
open Go.RowKit
set_option linter.unusedVariables false

/-- The bounds of a right request. -/
theorem right_many {c a n : Int} {lo ls lp : Nat} {fl : List Int} (h : chk c a n lo ls lp fl = 0) : (lo ≤ 1968 ∧ ls ≤ 123) ∧ lp ≤ 35 := by
  obtain ⟨h1, h2, h3, h4, h5, h6⟩ := chk_zero h
  rcases mm_pos h1 with rfl | rfl | rfl | rfl | rfl | rfl | rfl | rfl | rfl <;> simp [stray, many, mm] at h2 h4 <;> omega
def pduOf (q : Req) (lo ls lp : Nat) : List Int := q.c :: tl q.c q.a q.n q.on q.set q.fl lo ls lp
theorem tl_length (c a n : Int) (on : List Bool) (set fl : List Int) (lo ls lp : Nat) : (tl c a n on set fl lo ls lp).length ≤ 5 + need lo + 2 * set.length + 7 * lp := by
  unfold tl
  split
  · rw [wbytes_length]; simp; omega
  · split
    · rw [wbytes_length]; simp; omega
    · split
      · simp [wbytes_length, pk_length]; omega
      · split
        · simp [wbytes_length]; omega
        · split
          · rw [List.length_cons, pbytes_length]; omega
          · rw [wbytes_length]; simp; omega
theorem tl_wf {c a n : Int} {on : List Bool} {set fl : List Int} {lo ls lp : Nat} (h : need lo ≤ 255 ∧ 2 * ls ≤ 255 ∧ 7 * lp ≤ 255) : ∀ x ∈ tl c a n on set fl lo ls lp, (Lit.int .u8 x).wf = true := by
  have hcons : ∀ (m : Nat) (l : List Int), m ≤ 255 → (∀ x ∈ l, (Lit.int .u8 x).wf = true) → ∀ x ∈ (m : Int) :: l, (Lit.int .u8 x).wf = true := by
    intro m l hm hl x hx
    rcases List.mem_cons.1 hx with rfl | hx
    · exact wf_byte m (by omega)
    · exact hl x hx
  unfold tl
  split
  · exact wbytes_wf _
  · split
    · exact wbytes_wf _
    · split
      · exact wf_append (wbytes_wf _) (hcons _ _ h.1 (pk_wf _ _))
      · split
        · exact wf_append (wbytes_wf _) (hcons _ _ h.2.1 (wbytes_wf _))
        · split
          · exact hcons _ _ h.2.2 (pbytes_wf _ _)
          · exact wbytes_wf _

theorem Asked.drew {w : World} {B : Nat} {q : Req} {Ao As Ap : Option Addr} {lo ls lp : Nat} (h : Asked w B q Ao As Ap lo ls lp) : Asked w.drew B q Ao As Ap lo ls lp := ⟨h.on, h.set, h.fl, h.lo, h.ls, h.lp⟩
theorem Asked.upDrew {w : World} {q : Req} {Ao As Ap : Option Addr} {lo ls lp : Nat} (h : Asked w w.heap.size q Ao As Ap lo ls lp) : Asked w.drew w.drew.heap.size q Ao As Ap lo ls lp := h.drew
theorem Asked.upAlloc {w : World} {q : Req} {Ao As Ap : Option Addr} {lo ls lp : Nat} (h : Asked w w.heap.size q Ao As Ap lo ls lp) (o : Obj) : Asked (w.alloc o) (w.alloc o).heap.size q Ao As Ap lo ls lp := h.up (bel_alloc w o)
theorem Bx.grown {w0 w w' : World} {g : Nat} {o : Obj} {row : Option Nat} (h : Bx w0 g o w) (hg : w.grownBy w' row) (hr : ∀ k, row = some k → g < k) : Bx w0 g o w' :=
  ⟨(hg.block g h.lt (fun e => by have := hr g e.symm; omega)).trans h.1, h.2.grown hg (Nat.le_of_lt h.lt) (fun k e => by have := hr k e; omega)⟩

theorem behind_any (q : Req) (Ao As Ap : Option Addr) (lo ls lp co cs cp : Nat) (w : World) (h : Asked w w.heap.size q Ao As Ap lo ls lp) (hk : chk q.c q.a q.n lo ls lp q.fl = 0) :
    Calls Try.prog 118 #[.agg #[.int .i64 q.c, .int .i64 q.a, .int .i64 q.n, .slice Ao lo co, .slice As ls cs, .slice Ap lp cp]] w (Makes .u8 5 w (tl q.c q.a q.n q.on q.set q.fl lo ls lp)) := by
  obtain ⟨c, a, n, on, set, fl⟩ := q
  simp only at hk ⊢
  obtain ⟨h1, h2, h3, h4, h5, h6⟩ := chk_zero hk
  rcases mm_pos h1 with rfl | rfl | rfl | rfl | rfl | rfl | rfl | rfl | rfl
  · have h4 : 1 ≤ n ∧ n ≤ 2000 := h4
    exact behind_read 1 a n Ao As Ap lo co ls cs lp cp w (by omega) h3 h4
  · have h4 : 1 ≤ n ∧ n ≤ 2000 := h4
    exact behind_read 2 a n Ao As Ap lo co ls cs lp cp w (by omega) h3 h4
  · have h4 : 1 ≤ n ∧ n ≤ 125 := h4
    exact behind_read 3 a n Ao As Ap lo co ls cs lp cp w (by omega) h3 (by omega)
  · have h4 : 1 ≤ n ∧ n ≤ 125 := h4
    exact behind_read 4 a n Ao As Ap lo co ls cs lp cp w (by omega) h3 (by omega)
  · have h4 : 1 ≤ (lo : Int) ∧ (lo : Int) ≤ 1 := h4
    exact behind_coil 5 a n Ao As Ap lo co ls cs lp cp on w rfl h3 h.on h.lo (by omega)
  · have h4 : 1 ≤ (ls : Int) ∧ (ls : Int) ≤ 1 := h4
    exact behind_reg 6 a n Ao As Ap lo co ls cs lp cp set w rfl h3 h.set h.ls (by omega)
  · have h4 : 1 ≤ (lo : Int) ∧ (lo : Int) ≤ 1968 := h4
    exact behind_bits 15 a n Ao As Ap lo co ls cs lp cp on w rfl h3 h.on h.lo (by omega)
  · have h4 : 1 ≤ (ls : Int) ∧ (ls : Int) ≤ 123 := h4
    exact behind_words 16 a n Ao As Ap lo co ls cs lp cp set w rfl h3 h.set h.ls (by omega)
  · have h4 : 1 ≤ (lp : Int) ∧ (lp : Int) ≤ 35 := h4
    exact behind_file 20 a n Ao As Ap lo co ls cs lp cp fl w rfl h3 h.fl h.lp (by omega) (h5 rfl).1

theorem Put_no (q : Req) (Ao As Ap : Option Addr) (lo ls lp co cs cp : Nat) (w : World) (h : Asked w w.heap.size q Ao As Ap lo ls lp) (hk : chk q.c q.a q.n lo ls lp q.fl ≠ 0) :
    Calls Try.prog 110 #[.agg #[.int .i64 q.c, .int .i64 q.a, .int .i64 q.n, .slice Ao lo co, .slice As ls cs, .slice Ap lp cp]] w
      fun e w' => e = .returned (.tuple #[.slice none 0 0, .int .i64 (chk q.c q.a q.n lo ls lp q.fl)]) ∧ Below w.heap.size w w' := by
  have H := Lib.hid (h.alloc (Nat.le_refl _) (.cells #[.int .i64 q.c, .int .i64 q.a, .int .i64 q.n, .slice Ao lo co, .slice As ls cs, .slice Ap lp cp] 26))
  have HC := Lib.hid (Check_any q Ao As Ap lo ls lp co cs cp (w.alloc (.cells #[.int .i64 q.c, .int .i64 q.a, .int .i64 q.n, .slice Ao lo co, .slice As ls cs, .slice Ap lp cp] 26)) (H.out.more (by simp)))
  generalize chk q.c q.a q.n lo ls lp q.fl = r at *
  have b1 : (r != 0) = true := by simpa using hk
  have b2 : (r == 0) = false := beq_false_of_ne hk
  clear h hk
  go_enter Try.func110, Try.ntmps110
  go_wp2_with fail
  refine HC.out.mono ?_
  rintro e w1 ⟨rfl, bel⟩
  go_wp2
  go_ret2
  exact ⟨rfl, (bel_alloc w _).trans (bel.mono (by simp))⟩

set_option maxHeartbeats 1000000 in
set_option maxRecDepth 100000 in
theorem Put_ok (q : Req) (Ao As Ap : Option Addr) (lo ls lp co cs cp : Nat) (w : World) (h : Asked w w.heap.size q Ao As Ap lo ls lp) (hk : chk q.c q.a q.n lo ls lp q.fl = 0) :
    Calls Try.prog 110 #[.agg #[.int .i64 q.c, .int .i64 q.a, .int .i64 q.n, .slice Ao lo co, .slice As ls cs, .slice Ap lp cp]] w (Makes2 w (pduOf q lo ls lp)) := by
  have H := Lib.hid (h.alloc (Nat.le_refl _) (.cells #[.int .i64 q.c, .int .i64 q.a, .int .i64 q.n, .slice Ao lo co, .slice As ls cs, .slice Ap lp cp] 26))
  have HC := Lib.hid (Check_any q Ao As Ap lo ls lp co cs cp (w.alloc (.cells #[.int .i64 q.c, .int .i64 q.a, .int .i64 q.n, .slice Ao lo co, .slice As ls cs, .slice Ap lp cp] 26)) (H.out.more (by simp)))
  rw [hk] at HC
  have hcb : 0 ≤ q.c ∧ q.c < 256 := by
    have := (chk_zero hk).1
    have := mm_pos this
    omega
  obtain ⟨⟨hlo, hls⟩, hlp⟩ := right_many hk
  have e1 : IntKind.u8.wrap q.c = q.c := by rw [IntKind.wrap_u8]; omega
  have hcw : Hid ((Lit.int .u8 q.c).wf = true) := Lib.hid (by have := wf_byte q.c.toNat (by omega); rwa [show ((q.c.toNat : Nat) : Int) = q.c by omega] at this)
  have HP : Hid (pduOf q lo ls lp = [q.c] ++ tl q.c q.a q.n q.on q.set q.fl lo ls lp) := Lib.hid rfl
  have HTL : Hid ((tl q.c q.a q.n q.on q.set q.fl lo ls lp).length ≤ 1000) := Lib.hid (by
    have := tl_length q.c q.a q.n q.on q.set q.fl lo ls lp
    have h1 := h.ls
    unfold need at this
    omega)
  have HTW := Lib.hid (tl_wf (c := q.c) (a := q.a) (n := q.n) (on := q.on) (set := q.set) (fl := q.fl) (lo := lo) (ls := ls) (lp := lp) (by unfold need; omega))
  have HK := Lib.hid hk
  have hx0 := Bx.new w (.cells #[.int .i64 q.c, .int .i64 q.a, .int .i64 q.n, .slice Ao lo co, .slice As ls cs, .slice Ap lp cp] 26)
  rw [HP.out]
  clear h hk
  go_enter Try.func110, Try.ntmps110
  go_wp2_with fail
  refine HC.out.mono ?_
  rintro e w1 ⟨rfl, bel⟩
  have h9 := hx0.below bel
  have HA := Lib.hid ((H.out.below (bel.mono (by simp))).more (show w.heap.size ≤ w1.heap.size from Nat.le_of_lt h9.lt))
  have hz9 := h9.lt
  clear HC H hx0 bel
  go_wp2_with fail
  go_region_held3 (fun w' => Bx w w.heap.size (.cells #[.int .i64 q.c, .int .i64 q.a, .int .i64 q.n, .slice Ao lo co, .slice As ls cs, .slice Ap lp cp] 26) w' ∧ w'.cell? ⟨w.heap.size, 0, none⟩ = some (.int .i64 q.c) ∧ w'.cell? ⟨w.heap.size, 1, none⟩ = some (.int .i64 q.a) ∧ w'.cell? ⟨w.heap.size, 2, none⟩ = some (.int .i64 q.n) ∧ w'.cell? ⟨w.heap.size, 3, none⟩ = some (.slice Ao lo co) ∧ w'.cell? ⟨w.heap.size, 4, none⟩ = some (.slice As ls cs) ∧ w'.cell? ⟨w.heap.size, 5, none⟩ = some (.slice Ap lp cp))
    ((first
      | exact ⟨h9.drew, h9.drew.six⟩
      | exact ⟨(h9.alloc _).drew, (h9.alloc _).drew.six⟩
      | exact ⟨h12, h12.six⟩
      | exact ⟨h10, h10.six⟩
      | exact ⟨h10.alloc _, (h10.alloc _).six⟩))
    (first
      | (go_at_call 118
         refine (behind_any q Ao As Ap lo ls lp co cs cp _ (by first | exact (HA.out.upAlloc _).upDrew | exact HA.out.upDrew) HK.out).mono ?_
         rintro e w2 ⟨v2, rfl, own2, b2⟩
         obtain ⟨A2, c2, rfl, row2, _, _⟩ := own2.row HTW.out
         have h10 : Bx w w.heap.size (.cells #[.int .i64 q.c, .int .i64 q.a, .int .i64 q.n, .slice Ao lo co, .slice As ls cs, .slice Ap lp cp] 26) w2 := by first | exact (h9.alloc _).drew.below b2 | exact h9.drew.below b2)
      | (refine step_append_row w2 rfl _ _ 36 rfl (w.heap.size + 1) .u8 5 1 Try.underlying36 info_u8 (.slice (some ⟨w1.heap.size, 0, none⟩) 1 1) [q.c] rfl (Own.laid (l := [q.c]) ((b2.block w1.heap.size (by simp)).trans (heap_alloc_new w1 _)) hz9 rfl (by simp [maxLen])) _ A2 _ c2 (tl q.c q.a q.n q.on q.set q.fl lo ls lp) rfl row2 rfl (by have := HTL.out; simp only [List.length_singleton]; omega) (by have := HTL.out; simp only [List.length_singleton, maxLen]; omega) (by have := h10.lt; omega) ?_
         intro v3 w3 own3 g3
         have h12 := h10.grown g3 (by simp [Value.ownBlock]; omega))
      | (refine step_append_row (w2.alloc (.cells (blk .u8 [q.c]) 5)) rfl _ _ 36 rfl (w.heap.size + 1) .u8 5 1 Try.underlying36 info_u8 (.slice (some ⟨w2.heap.size, 0, none⟩) 1 1) [q.c] rfl (Own.laid (l := [q.c]) (heap_alloc_new w2 _) h10.lt rfl (by simp [maxLen])) _ A2 _ c2 (tl q.c q.a q.n q.on q.set q.fl lo ls lp) rfl (row2.alloc (Nat.le_refl _) _) rfl (by have := HTL.out; simp only [List.length_singleton]; omega) (by have := HTL.out; simp only [List.length_singleton, maxLen]; omega) (by have := h10.lt; simp; omega) ?_
         intro v3 w3 own3 g3
         have hz10 := h10.lt
         have h12 := (h10.alloc _).grown g3 (by simp [Value.ownBlock]; omega)))
  all_goals
    go_wp2
    go_ret2
    exact ⟨v3, rfl, own3.mono (by omega), h12.2⟩
end Go.Proofs.Ytfdikjfbmfibjaa
namespace Go.Proofs.Ytfdikjfbmfibjaa
open Go.RowKit
set_option linter.unusedVariables false

/-- The word that stands at a place. -/
def at2 (ys : List Int) (i : Nat) : Int := nth ys i * 256 + nth ys (i + 1)
theorem at2_range (ys : List Int) (hw : ∀ x ∈ ys, (Lit.int .u8 x).wf = true) (i : Nat) (h : i + 2 ≤ ys.length) : 0 ≤ at2 ys i ∧ at2 ys i < 65536 := by
  have h1 := wf_u8 (hw _ (nth_mem ys i (by omega)))
  have h2 := wf_u8 (hw _ (nth_mem ys (i + 1) (by omega)))
  unfold at2; omega
theorem bval_at2 (ys : List Int) (hw : ∀ x ∈ ys, (Lit.int .u8 x).wf = true) (i : Nat) (h : i + 2 ≤ ys.length) : ((bval ((ys.drop i).take 2) : Nat) : Int) = at2 ys i := by
  have h1 := wf_u8 (hw _ (nth_mem ys i (by omega)))
  have h2 := wf_u8 (hw _ (nth_mem ys (i + 1) (by omega)))
  rw [bval_two ys i h, at2]; omega
/-- How many bytes a PDU must have. -/
def szOf (ys : List Int) : Int :=
  if nth ys 0 = 15 ∨ nth ys 0 = 16 then (if ys.length < 6 then 6 else 6 + nth ys 5)
  else if nth ys 0 = 20 then (if ys.length < 2 then 2 else 2 + nth ys 1) else 5
/-- The numbers of the first k parts. -/
def flOf (ys : List Int) : Nat → List Int
  | 0 => []
  | k + 1 => flOf ys k ++ [at2 ys (7 * k + 1), at2 ys (7 * k + 3), at2 ys (7 * k + 5)]
theorem flOf_length (ys : List Int) (k : Nat) : (flOf ys k).length = 3 * k := by
  induction k with
  | zero => rfl
  | succ k ih => rw [flOf, List.length_append, ih]; simp; omega
/-- Do the first k parts begin with their mark? -/
def mkOk (ys : List Int) : Nat → Bool
  | 0 => true
  | k + 1 => mkOk ys k && decide (nth ys (7 * k) = 6)
theorem mkOk_le {ys : List Int} {n : Nat} (h : mkOk ys n = true) : ∀ k, k < n → nth ys (7 * k) = 6 := by
  induction n with
  | zero => intro k hk; omega
  | succ n ih =>
    rw [mkOk, Bool.and_eq_true, decide_eq_true_eq] at h
    intro k hk
    rcases Nat.lt_or_ge k n with h1 | h1
    · exact ih h.1 k h1
    · obtain rfl : k = n := by omega
      exact h.2
theorem mkOk_no {ys : List Int} {n k : Nat} (hk : k < n) (h : nth ys (7 * k) ≠ 6) : mkOk ys n = false := by
  cases hn : mkOk ys n with
  | false => rfl
  | true => exact absurd (mkOk_le hn k hk) h
theorem flOf_wf (ys : List Int) (hw : ∀ x ∈ ys, (Lit.int .u8 x).wf = true) (k : Nat) (h : 7 * k ≤ ys.length) : ∀ x ∈ flOf ys k, 0 ≤ x ∧ x < 65536 := by
  induction k with
  | zero => simp [flOf]
  | succ k ih =>
    intro x hx
    rw [flOf] at hx
    rcases List.mem_append.1 hx with hx | hx
    · exact ih (by omega) x hx
    · simp only [List.mem_cons, List.not_mem_nil, or_false] at hx
      rcases hx with rfl | rfl | rfl <;> exact at2_range ys hw _ (by omega)

theorem wordAt_any (b o n c i : Nat) (ys : List Int) (w : World) (B : Nat) (hr : Row .u8 w B (some ⟨b, o, none⟩) ys) (hn : ys.length = n) (hc : n ≤ c) (hb : n ≤ 100000) (hi : i + 2 ≤ n) :
    Calls Try.prog 100 #[.slice (some ⟨b, o, none⟩) n c, .int .i64 i] w fun e w' => e = .returned (.int .i64 (at2 ys i)) ∧ w = w' := by
  have HB := Lib.hid (bval_at2 ys hr.1 i (by omega))
  have hrg := at2_range ys hr.1 i (by omega)
  have HC := Lib.hid (Get_ok (some ⟨b, o, none⟩) n c i 2 ys w B hr hn hc (by omega) (by omega) (by omega) (by omega))
  rw [show ((2 : Nat) : Int) = 2 from rfl, HB.out] at HC
  generalize at2 ys i = v at *
  have hw1 : IntKind.i64.wrap v = v := IntWalk.i64_in _ (by omega)
  clear hr hn
  go_enter Try.func100, Try.ntmps100
  go_wp2_with fail
  refine HC.out.mono ?_
  rintro e w' ⟨rfl, rfl⟩
  go_wp2
  go_ret
  exact ⟨rfl, rfl⟩

theorem wordAt_at (b o n c i : Nat) (z : Int) (hz : z = i) (ys : List Int) (w : World) (B : Nat) (hr : Row .u8 w B (some ⟨b, o, none⟩) ys) (hn : ys.length = n) (hc : n ≤ c) (hb : n ≤ 100000) (hi : i + 2 ≤ n) :
    Calls Try.prog 100 #[.slice (some ⟨b, o, none⟩) n c, .int .i64 z] w fun e w' => e = .returned (.int .i64 (at2 ys i)) ∧ w = w' := by
  subst hz; exact wordAt_any b o n c i ys w B hr hn hc hb hi

theorem countedSize_short (A : Option Addr) (n c h : Nat) (w : World) (hlt : n < h) (hb : n ≤ 140737488355328) :
    Calls Try.prog 98 #[.slice A n c, .int .i64 h] w fun e w' => e = .returned (.int .i64 h) ∧ w = w' := by
  go_enter Try.func98, Try.ntmps98
  go_wp2
  go_ret
  exact ⟨rfl, rfl⟩
theorem countedSize_long (A : Option Addr) (n c h : Nat) (ys : List Int) (w : World) (B : Nat) (hr : Row .u8 w B A ys) (hn : ys.length = n) (hlt : h + 1 ≤ n) (hb : n ≤ 140737488355328) :
    Calls Try.prog 98 #[.slice A n c, .int .i64 ((h + 1 : Nat) : Int)] w fun e w' => e = .returned (.int .i64 ((h + 1 : Nat) + nth ys h)) ∧ w = w' := by
  obtain ⟨b, o, rfl, _, hc⟩ := hr.at_ (i := h) (by omega)
  have hv := wf_u8 (hr.wf_at (i := h) (by omega))
  have e0 : IntKind.i64.wrap (nth ys h) = nth ys h := IntWalk.i64_in _ (by omega)
  have e1 : ((h + 1 : Nat) : Int) - 1 = (h : Int) := by omega
  have e3 : IntKind.i64.wrap ((h : Int) + 1 - 1) = (h : Int) := by rw [show (h : Int) + 1 - 1 = h by omega]; exact IntWalk.i64_in _ (by omega)
  have e2 : IntKind.i64.wrap ((h : Int) + 1 + nth ys h) = (h : Int) + 1 + nth ys h := IntWalk.i64_in _ (by omega)
  generalize nth ys h = v at *
  clear hr hn e1
  rw [show ((h + 1 : Nat) : Int) = (h : Int) + 1 by omega]
  go_enter Try.func98, Try.ntmps98
  go_wp2
  go_ret
  exact ⟨rfl, rfl⟩

theorem size_any (b o n c : Nat) (ys : List Int) (w : World) (B : Nat) (hr : Row .u8 w B (some ⟨b, o, none⟩) ys) (hn : ys.length = n) (h1 : 1 ≤ n) (hb : n ≤ 140737488355328) :
    Calls Try.prog 67 #[.slice (some ⟨b, o, none⟩) n c] w fun e w' => e = .returned (.int .i64 (szOf ys)) ∧ w = w' := by
  obtain ⟨b', o', hA, _, hc⟩ := hr.at_ (i := 0) (by omega)
  injection hA with hA
  injection hA with hA1 hA2
  subst hA1 hA2
  rw [Nat.add_zero] at hc
  have hv := wf_u8 (hr.wf_at (i := 0) (by omega))
  have HR := Lib.hid hr
  have HN := Lib.hid hn
  obtain ⟨s, hs⟩ : ∃ s, Hid (szOf ys = s) := ⟨_, Lib.hid rfl⟩
  rw [hs.out]
  have hs2 : Hid ((if nth ys 0 = 15 ∨ nth ys 0 = 16 then (if n < 6 then 6 else 6 + nth ys 5) else if nth ys 0 = 20 then (if n < 2 then 2 else 2 + nth ys 1) else 5) = s) := Lib.hid (by rw [← hs.out, ← hn]; rfl)
  have e0 : IntKind.i64.wrap (nth ys 0) = nth ys 0 := IntWalk.i64_in _ (by omega)
  generalize nth ys 0 = v at *
  clear hr hn hs
  by_cases hq : v = 15 ∨ v = 16
  · by_cases h6 : n < 6
    · have hs3 : Hid (s = 6) := Lib.hid (by rw [← hs2.out, if_pos hq, if_pos h6])
      rcases hq with rfl | rfl
      all_goals
        go_enter Try.func67, Try.ntmps67
        go_wp2_with fail
        refine (countedSize_short _ n c 6 _ h6 hb).mono ?_
        rintro e w' ⟨rfl, rfl⟩
        go_wp2
        go_ret
        exact ⟨by rw [hs3.out]; rfl, rfl⟩
    · have hs3 : Hid (s = 6 + nth ys 5) := Lib.hid (by rw [← hs2.out, if_pos hq, if_neg h6])
      rcases hq with rfl | rfl
      all_goals
        go_enter Try.func67, Try.ntmps67
        go_wp2_with fail
        refine (countedSize_long _ n c 5 ys _ B HR.out HN.out (by omega) hb).mono ?_
        rintro e w' ⟨rfl, rfl⟩
        go_wp2
        go_ret
        exact ⟨by rw [hs3.out]; rfl, rfl⟩
  · have t15 : (v == 15) = false := beq_false_of_ne (by omega)
    have t16 : (v == 16) = false := beq_false_of_ne (by omega)
    by_cases h20 : v = 20
    · by_cases h2 : n < 2
      · have hs3 : Hid (s = 2) := Lib.hid (by rw [← hs2.out, if_neg hq, if_pos h20, if_pos h2])
        subst h20
        clear hq
        go_enter Try.func67, Try.ntmps67
        go_wp2_with fail
        refine (countedSize_short _ n c 2 _ h2 hb).mono ?_
        rintro e w' ⟨rfl, rfl⟩
        go_wp2
        go_ret
        exact ⟨by rw [hs3.out]; rfl, rfl⟩
      · have hs3 : Hid (s = 2 + nth ys 1) := Lib.hid (by rw [← hs2.out, if_neg hq, if_pos h20, if_neg h2])
        subst h20
        clear hq
        go_enter Try.func67, Try.ntmps67
        go_wp2_with fail
        refine (countedSize_long _ n c 1 ys _ B HR.out HN.out (by omega) hb).mono ?_
        rintro e w' ⟨rfl, rfl⟩
        go_wp2
        go_ret
        exact ⟨by rw [hs3.out]; rfl, rfl⟩
    · have t20 : (v == 20) = false := beq_false_of_ne h20
      have hs3 : Hid (s = 5) := Lib.hid (by rw [← hs2.out, if_neg hq, if_neg h20])
      clear hq
      go_enter Try.func67, Try.ntmps67
      go_wp2
      go_ret
      exact ⟨by rw [hs3.out]; rfl, rfl⟩

/-- The bit that a word says of a coil. -/
def coilL (m : Int) : List Bool := if m = 65280 then [true] else if m = 0 then [false] else []
theorem readCoil_yes (m : Int) (w : World) (h : m = 65280 ∨ m = 0) :
    Calls Try.prog 101 #[.int .i64 m] w fun e w' => e = .returned (.tuple #[.slice (some ⟨w.heap.size, 0, none⟩) 1 1, .int .i64 0]) ∧ w' = w.alloc (.cells (L.blk () (coilL m)) 4) := by
  rcases h with rfl | rfl
  · have e : L.blk () (coilL 65280) = #[.bool true] := rfl
    rw [e]
    go_enter Try.func101, Try.ntmps101
    go_wp2
    go_ret2
    exact ⟨rfl, rfl⟩
  · have e : L.blk () (coilL 0) = #[.bool false] := rfl
    rw [e]
    go_enter Try.func101, Try.ntmps101
    go_wp2
    go_ret2
    exact ⟨rfl, rfl⟩
theorem readCoil_no (m : Int) (w : World) (h : m ≠ 65280 ∧ m ≠ 0) :
    Calls Try.prog 101 #[.int .i64 m] w (Errs 4 w) := by
  have b1 : (m == 65280) = false := beq_false_of_ne h.1
  have b2 : (m == 0) = false := beq_false_of_ne h.2
  clear h
  go_enter Try.func101, Try.ntmps101
  go_wp2
  go_ret2
  exact ⟨rfl, rfl⟩

/-- Are bytes just n bits? -/
def bitsOk (ys : List Int) (n : Nat) : Bool := decide (ys.length = need n) && !spareB ys n
theorem readBits_yes (A : Option Addr) (m c n : Nat) (ys : List Int) (w : World) (hr : Row .u8 w w.heap.size A ys) (hy : ys.length = m) (hm : m ≤ 1000000) (h : bitsOk ys n = true) :
    Calls Try.prog 102 #[.slice A m c, .int .i64 n] w fun e w' => ∃ g, Hid (w.heap.size = g) ∧ e = .returned (.tuple #[.slice (some ⟨g, 0, none⟩) n n, .int .i64 0]) ∧ L.Bk w' g (unpk ys n) ∧ Below w.heap.size w w' := by
  simp only [bitsOk, Bool.and_eq_true, decide_eq_true_eq, Bool.not_eq_true'] at h
  have HC := Lib.hid (Unbits_ok A m c n ys w hr hy hm (by rw [← hy]; exact h.1) h.2)
  clear hr hy h
  go_enter Try.func102, Try.ntmps102
  go_wp2_with fail
  refine HC.out.mono ?_
  rintro e w' ⟨g, hg, rfl, hb, bel⟩
  go_wp2
  go_ret2
  exact ⟨g, hg, rfl, hb, bel⟩
theorem readBits_no (A : Option Addr) (m c n : Nat) (ys : List Int) (w : World) (hr : Row .u8 w w.heap.size A ys) (hy : ys.length = m) (hm : m ≤ 1000000) (hn : n < 65536) (h : bitsOk ys n = false) :
    Calls Try.prog 102 #[.slice A m c, .int .i64 n] w fun e w' => e = .returned (.tuple #[.slice none 0 0, .int .i64 4]) ∧ Below w.heap.size w w' := by
  have HC : Hid (∃ E : Int, (1 ≤ E ∧ E ≤ 100) ∧ Calls Try.prog 114 #[.slice A m c, .int .i64 n] w fun e w' => e = .returned (.tuple #[.slice none 0 0, .int .i64 E]) ∧ Below w.heap.size w w') := Lib.hid (by
    by_cases h2 : ys.length = need n
    · rw [bitsOk, decide_eq_true h2, Bool.true_and] at h
      exact ⟨4, by omega, (Unbits_spare A m c n ys w _ hr hy hm (by rw [← hy]; exact h2) (by simpa using h)).mono fun e w' ⟨he, q, hw⟩ => by subst hw; exact ⟨he, bel_drewN _ _⟩⟩
    · exact ⟨22, by omega, (Unbits_count A m c n w (by omega) hm (by rw [← hy]; exact h2)).mono fun e w' ⟨he, hw⟩ => by subst hw; exact ⟨he, Below.refl _ _⟩⟩)
  obtain ⟨E, hE, HC⟩ := HC.out
  have HC := Lib.hid HC
  have b1 : (E != 0) = true := by simp; omega
  have b2 : (E == 0) = false := beq_false_of_ne (by omega)
  clear hr hy h hE
  go_enter Try.func102, Try.ntmps102
  go_wp2_with fail
  refine HC.out.mono ?_
  rintro e w' ⟨rfl, bel⟩
  go_wp2
  go_ret2
  exact ⟨rfl, bel⟩

theorem readWords_yes (A : Option Addr) (m c n : Nat) (ys : List Int) (w : World) (hr : Row .u8 w w.heap.size A ys) (hy : ys.length = m) (hc : m ≤ c) (hm : m ≤ 1000000) (h : m = 2 * n) :
    Calls Try.prog 103 #[.slice A m c, .int .i64 n] w fun e w' => e = .returned (.tuple #[.slice (some ⟨w.heap.size, 0, none⟩) n n, .int .i64 0]) ∧ w' = w.alloc (.cells (blk .u16 (wwords ys)) 90) := by
  have HC := Lib.hid (Words_ok A m c n ys w hr hy hc hm h)
  have t0 : ((n : Int) != (n : Int)) = false := by simp
  clear hr hy h
  go_enter Try.func103, Try.ntmps103
  go_wp2_with fail
  refine HC.out.mono ?_
  rintro e w' ⟨rfl, rfl⟩
  go_wp2
  go_ret2
  exact ⟨rfl, rfl⟩
theorem readWords_no (A : Option Addr) (m c n : Nat) (ys : List Int) (w : World) (hr : Row .u8 w w.heap.size A ys) (hy : ys.length = m) (hc : m ≤ c) (hm : m ≤ 1000000) (h : m ≠ 2 * n) :
    Calls Try.prog 103 #[.slice A m c, .int .i64 n] w fun e w' => e = .returned (.tuple #[.slice none 0 0, .int .i64 4]) ∧ Below w.heap.size w w' := by
  by_cases h2 : m % 2 = 1
  · have HC := Lib.hid (Words_odd A m c w hm h2)
    clear hr hy h h2
    go_enter Try.func103, Try.ntmps103
    go_wp2_with fail
    refine HC.out.mono ?_
    rintro e w' ⟨rfl, rfl⟩
    go_wp2
    go_ret2
    exact ⟨rfl, Below.refl _ _⟩
  · obtain ⟨k, hk⟩ : ∃ k, m = 2 * k := ⟨m / 2, by omega⟩
    have HC := Lib.hid (Words_ok A m c k ys w hr hy hc hm hk)
    have t0 : ((k : Int) != (n : Int)) = true := by simp; omega
    have t1 : ((k : Int) == (n : Int)) = false := beq_false_of_ne (by omega)
    clear hr hy h h2 hk
    go_enter Try.func103, Try.ntmps103
    go_wp2_with fail
    refine HC.out.mono ?_
    rintro e w' ⟨rfl, rfl⟩
    go_wp2
    go_ret2
    exact ⟨rfl, bel_alloc _ _⟩

/-- Are bytes just parts? -/
def partsOk (ys : List Int) : Bool := decide (ys.length % 7 = 0) && mkOk ys (ys.length / 7)
theorem readParts_mod (A : Option Addr) (m c : Nat) (w : World) (hm : m ≤ 1000000) (h : m % 7 ≠ 0) :
    Calls Try.prog 99 #[.slice A m c] w (Errs 4 w) := by
  have t0 : ((m : Int) % 7 != 0) = true := by simp; omega
  have t1 : ((m : Int) % 7 == 0) = false := beq_false_of_ne (by omega)
  clear h
  go_enter Try.func99, Try.ntmps99
  go_wp2
  go_step3
  go_wp2
  (try rw [Exit.noGoto_ret])
  go_ret2
  exact ⟨rfl, rfl⟩
/-- Parts are told, or it is said that there are none. -/
def PartsPost (w : World) (ys : List Int) (m : Nat) (e : Ending) (w' : World) : Prop :=
  (mkOk ys m = true ∧ ∃ v, e = .returned (.tuple #[v, .int .i64 0]) ∧ POwn 61 w' w.heap.size v (flOf ys m) ∧ Below w.heap.size w w') ∨
  (mkOk ys m = false ∧ e = .returned (.tuple #[.slice none 0 0, .int .i64 4]) ∧ Below w.heap.size w w')
set_option maxHeartbeats 1000000 in
theorem readParts_loop (A : Option Addr) (m c : Nat) (ys : List Int) (w : World) (hr : Row .u8 w w.heap.size A ys) (hy : ys.length = 7 * m) (hc : 7 * m ≤ c) (hm : m ≤ 1000) :
    Calls Try.prog 99 #[.slice A (7 * m) c] w (PartsPost w ys m) := by
  have hy' := Lib.hid hy
  have t0 : ((7 * (m : Int)) % 7 != 0) = false := by simp
  have t1 : ((7 * (m : Int)) % 7 == 0) = true := by simp
  have hcast : ((7 * m : Nat) : Int) = 7 * (m : Int) := by omega
  clear hy
  go_enter Try.func99, Try.ntmps99
  go_wp2
  go_step3
  go_wp2
  go_step3
  go_wp2
  go_loopw [4, 5] (fun v i wr => ∃ k : Nat, k ≤ m ∧ i = .int .i64 (7 * (k : Int)) ∧ POwn 61 wr w.heap.size v (flOf ys k) ∧ Hid (mkOk ys k = true) ∧ Below w.heap.size w wr) (fun _ i _ => 7 * m - (intOf i).toNat)
  case atStart => exact ⟨0, by omega, rfl, POwn.nil _ _ _, Lib.hid rfl, Below.refl _ _⟩
  case round =>
    obtain ⟨k, hk, rfl, hown, hok, hbel⟩ := hrel
    by_cases hlt : k < m
    · have hlt' : 7 * (k : Int) < 7 * (m : Int) := by omega
      have hrw := (hr.below hbel).more hbel.size
      obtain ⟨b, o, hA, hb1, hc1⟩ := hrw.at_ (i := 7 * k) (by have := hy'.out; omega)
      subst hA
      have hsz := hbel.size
      by_cases h6 : nth ys (7 * k) = 6
      · rw [h6] at hc1
        have HM : Hid (mkOk ys (k + 1) = true) := Lib.hid (by rw [mkOk, hok.out, decide_eq_true h6]; rfl)
        have HF : Hid (flOf ys (k + 1) = flOf ys k ++ [at2 ys (7 * k + 1), at2 ys (7 * k + 3), at2 ys (7 * k + 5)]) := Lib.hid rfl
        have HL : Hid ((flOf ys k).length ≤ 3000000) := Lib.hid (by rw [flOf_length]; omega)
        clear h6
        go_wp2_with fail
        refine (wordAt_at b o (7 * m) c (7 * k + 1) _ (by omega) ys _ _ hrw hy'.out hc (by omega) (by omega)).mono ?_
        rintro e w' ⟨rfl, rfl⟩
        go_wp2_with fail
        refine (wordAt_at b o (7 * m) c (7 * k + 3) _ (by omega) ys _ _ hrw hy'.out hc (by omega) (by omega)).mono ?_
        rintro e w' ⟨rfl, rfl⟩
        go_wp2_with fail
        refine (wordAt_at b o (7 * m) c (7 * k + 5) _ (by omega) ys _ _ hrw hy'.out hc (by omega) (by omega)).mono ?_
        rintro e w' ⟨rfl, rfl⟩
        generalize at2 ys (7 * k + 1) = x at *
        generalize at2 ys (7 * k + 3) = y at *
        generalize at2 ys (7 * k + 5) = z at *
        have hbox := box_three wr 61 x y z
        go_wp2_with (at_builtin; refine wpList_append_part _ rfl _ _ 24 rfl w.heap.size 61 Try.underlying24 info_part _ (flOf ys k) rfl (hown.alloc _) _ 1 _ _ _ rfl hbox HL.out (by simp; omega) ?_; intro v1 w1 hown1 hg1)
        have hbel1 := Below.pown1 hbel hsz hown hg1
        rw [← HF.out] at hown1
        clear hbox hc1 hg1 hown
        go_wp2
        go_roundw
        case rel => exact ⟨k + 1, by omega, by go_num, hown1, HM, hbel1⟩
        case measure => simp [intOf]; omega
      · have HN : Hid (mkOk ys m = false) := Lib.hid (mkOk_no hlt h6)
        have b1 : (nth ys (7 * k) == 6) = false := beq_false_of_ne h6
        clear h6
        generalize nth ys (7 * k) = q at *
        go_wp2
        (try rw [Exit.noGoto_ret])
        go_ret2
        exact .inr ⟨HN.out, rfl, hbel⟩
    · obtain rfl : k = m := by omega
      go_wp2
      (try rw [Exit.noGoto_ret])
      go_ret2
      exact .inl ⟨hok.out, _, rfl, hown, hbel⟩
end Go.Proofs.Ytfdikjfbmfibjaa
namespace Go.Proofs.Ytfdikjfbmfibjaa
open Go.RowKit
set_option linter.unusedVariables false

/-- A call returns a request in memory of its own, and a number. -/
def Told (w : World) (q : Req) (err : Int) (e : Ending) (w' : World) : Prop :=
  ∃ (A1 A2 : Option Addr) (m1 m2 g1 g2 : Nat) (vp : Value), e = .returned (.tuple #[.agg #[.int .i64 q.c, .int .i64 q.a, .int .i64 q.n, .slice A1 m1 m1, .slice A2 m2 m2, vp], .int .i64 err]) ∧
    L.Li w' A1 m1 g1 q.on [] ∧ W.Li w' A2 m2 g2 q.set [] ∧ POwn 61 w' w.heap.size vp q.fl ∧ (q.on.length = m1 ∧ q.set.length = m2) ∧ (w.heap.size ≤ g1 ∧ w.heap.size ≤ g2) ∧ Below w.heap.size w w'
/-- Do bytes of the right size say a request? -/
def rdOk (ys : List Int) : Bool :=
  if nth ys 0 = 20 then partsOk (ys.drop 2) else if nth ys 0 = 5 then decide (at2 ys 3 = 65280 ∨ at2 ys 3 = 0)
  else if nth ys 0 = 15 then bitsOk (ys.drop 6) (at2 ys 3).toNat else if nth ys 0 = 16 then decide ((ys.drop 6).length = 2 * (at2 ys 3).toNat) else true
/-- That request. -/
def rdQ (ys : List Int) : Req :=
  if nth ys 0 = 20 then ⟨20, 0, 0, [], [], flOf (ys.drop 2) ((ys.drop 2).length / 7)⟩
  else if nth ys 0 = 5 then ⟨5, at2 ys 1, 0, coilL (at2 ys 3), [], []⟩
  else if nth ys 0 = 6 then ⟨6, at2 ys 1, 0, [], [at2 ys 3], []⟩
  else if nth ys 0 = 15 then ⟨15, at2 ys 1, 0, unpk (ys.drop 6) (at2 ys 3).toNat, [], []⟩
  else if nth ys 0 = 16 then ⟨16, at2 ys 1, 0, [], wwords (ys.drop 6), []⟩
  else ⟨nth ys 0, at2 ys 1, at2 ys 3, [], [], []⟩

theorem row_head {w : World} {B : Nat} {A : Option Addr} {ys : List Int} (h : Row .u8 w B A ys) (h1 : 1 ≤ ys.length) :
    ∃ b o, A = some ⟨b, o, none⟩ ∧ b < B ∧ w.cell? ⟨b, o, none⟩ = some (.int .u8 (nth ys 0)) ∧ (0 ≤ nth ys 0 ∧ nth ys 0 < 256) := by
  obtain ⟨b, o, rfl, hb, hc⟩ := h.at_ (i := 0) (by omega)
  exact ⟨b, o, rfl, hb, by rwa [Nat.add_zero] at hc, wf_u8 (h.wf_at (i := 0) (by omega))⟩

set_option maxHeartbeats 1000000 in
set_option maxRecDepth 100000 in
theorem read_plain (A : Option Addr) (n c : Nat) (ys : List Int) (w : World) (hr : Row .u8 w w.heap.size A ys) (hn : ys.length = n) (hc : n ≤ c) (hb : n ≤ 100000) (h5 : 5 ≤ n) (hv : nth ys 0 = 1 ∨ nth ys 0 = 2 ∨ nth ys 0 = 3 ∨ nth ys 0 = 4) :
    Calls Try.prog 68 #[.slice A n c] w (Told w (rdQ ys) 0) := by
  obtain ⟨b, o, rfl, hb1, hc1, hrg⟩ := row_head hr (by omega)
  have HN := Lib.hid hn
  have HR := Lib.hid hr
  have HQ : Hid (rdQ ys = ⟨nth ys 0, at2 ys 1, at2 ys 3, [], [], []⟩) := Lib.hid (by unfold rdQ; rw [if_neg (by omega), if_neg (by omega), if_neg (by omega), if_neg (by omega), if_neg (by omega)])
  rw [HQ.out]
  clear hr hn HQ
  generalize nth ys 0 = v at *
  have t5 : (v == 5) = false := beq_false_of_ne (by omega)
  have t6 : (v == 6) = false := beq_false_of_ne (by omega)
  have t15 : (v == 15) = false := beq_false_of_ne (by omega)
  have t16 : (v == 16) = false := beq_false_of_ne (by omega)
  have t20 : (v == 20) = false := beq_false_of_ne (by omega)
  have e0 : IntKind.i64.wrap v = v := IntWalk.i64_in _ (by omega)
  clear hv
  go_enter Try.func68, Try.ntmps68
  go_wp2_with fail
  refine (wordAt_at b o n c 1 _ rfl ys _ _ (by first | exact (HR.out.alloc (Nat.le_refl _) _).alloc (by simp) _) HN.out hc hb (by omega)).mono ?_
  rintro e w' ⟨rfl, rfl⟩
  go_wp2_with fail
  refine (wordAt_at b o n c 3 _ rfl ys _ _ (by first | exact (HR.out.alloc (Nat.le_refl _) _).alloc (by simp) _) HN.out hc hb (by omega)).mono ?_
  rintro e w' ⟨rfl, rfl⟩
  generalize at2 ys 1 = x at *
  generalize at2 ys 3 = y at *
  go_wp2
  (try simp only [Exit.inBlock, Exit.then])
  refine bodyPost_ret (v := .tuple #[.agg #[.int .i64 v, .int .i64 x, .int .i64 y, .slice none 0 0, .slice none 0 0, .slice none 0 0], .int .i64 0]) (by simp [results, Try.results68, go_sem]) rfl ?_
  exact ⟨none, none, 0, 0, w.heap.size, w.heap.size, _, rfl, .inl ⟨rfl, rfl⟩, .inl ⟨rfl, rfl⟩, POwn.nil _ _ _, ⟨rfl, rfl⟩, ⟨Nat.le_refl _, Nat.le_refl _⟩, (bel_alloc w _).alloc (by simp) _⟩
end Go.Proofs.Ytfdikjfbmfibjaa
