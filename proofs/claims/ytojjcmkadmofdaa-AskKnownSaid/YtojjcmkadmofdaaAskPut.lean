/-
  Contracts of what Put of package ask calls: coilWord, counted, partBytes.
-/
import Derived.Test.YtojjcmkadmofdaaAskCheck
import Derived.Deep.RegionHeld3
import Derived.Deep.AppendLies
namespace Go.Proofs.Ytojjcmkadmofdaa
open Go.RowKit
set_option linter.unusedVariables false

/-- The first k parts as they stand in a PDU. -/
def pbytes (fl : List Int) : Nat → List Int
  | 0 => []
  | k + 1 => pbytes fl k ++ (6 :: wbytes [nth fl (3 * k), nth fl (3 * k + 1), nth fl (3 * k + 2)])
theorem pbytes_length (fl : List Int) (k : Nat) : (pbytes fl k).length = 7 * k := by
  induction k with
  | zero => rfl
  | succ k ih => rw [pbytes, List.length_append, ih, List.length_cons, wbytes_length]; simp; omega
theorem pbytes_wf (fl : List Int) (k : Nat) : ∀ x ∈ pbytes fl k, (Lit.int .u8 x).wf = true := by
  induction k with
  | zero => simp [pbytes]
  | succ k ih =>
    rw [pbytes]
    refine wf_append ih fun x hx => ?_
    rcases List.mem_cons.1 hx with rfl | hx
    · decide
    · exact wbytes_wf _ x hx
/-- What stands behind the code in a PDU. -/
def tl (c a n : Int) (on : List Bool) (set fl : List Int) (lo ls lp : Nat) : List Int :=
  if c = 5 then wbytes [a, if L.nth on 0 = true then 65280 else 0]
  else if c = 6 then wbytes [a, nth set 0]
  else if c = 15 then wbytes [a, (lo : Int)] ++ ((need lo : Nat) : Int) :: pk on (need lo)
  else if c = 16 then wbytes [a, (ls : Int)] ++ ((2 * ls : Nat) : Int) :: wbytes set
  else if c = 20 then ((7 * lp : Nat) : Int) :: pbytes fl lp
  else wbytes [a, n]

theorem chk_zero {c a n : Int} {lo ls lp : Nat} {fl : List Int} (h : chk c a n lo ls lp fl = 0) :
    0 < mm c ∧ stray c a n lo ls lp = false ∧ (0 ≤ a ∧ a < 65536) ∧ (1 ≤ many c n lo ls lp ∧ many c n lo ls lp ≤ mm c) ∧ (c = 20 → allOk fl lp = true ∧ sumTo fl lp ≤ 245) ∧ (c ≠ 20 → a + many c n lo ls lp ≤ 65536) := by
  unfold chk at h
  split at h
  · cases h
  split at h
  · cases h
  split at h
  · cases h
  split at h
  · cases h
  rename_i h1 h2 h3 h4
  refine ⟨by omega, by simpa using h2, by omega, by omega, ?_, ?_⟩
  · intro h20
    rw [if_pos h20, ptsE] at h
    split at h
    · rename_i hok
      refine ⟨hok, ?_⟩
      split at h
      · cases h
      · omega
    · cases h
  · intro h20
    rw [if_neg h20] at h
    split at h
    · cases h
    · omega

/-- One element's box, wherever it stands. -/
theorem Row.one_at (k : IntKind) (w : World) (t : TypeId) (x : Int) (h : (Lit.int k x).wf = true) {g : Nat} (hg : w.heap.size = g) : Row k (w.alloc (.cells #[.int k x] t)) (g + 1) (some ⟨g, 0, none⟩) [x] := by
  subst hg; exact Row.one k w t x h
theorem Row.lit_at (k : IntKind) (w : World) (t : TypeId) (xs : List Int) (h : ∀ x ∈ xs, (Lit.int k x).wf = true) {g : Nat} (hg : w.heap.size = g) : Row k (w.alloc (.cells (blk k xs) t)) (g + 1) (some ⟨g, 0, none⟩) xs := by
  subst hg; exact Row.new k w t xs xs h (List.prefix_refl _)

theorem coilWord_any (b : Bool) (w : World) : Calls Try.prog 67 #[.bool b] w fun e w' => e = .returned (.int .u16 (if b = true then 65280 else 0)) ∧ w' = w := by
  cases b
  · go_enter Try.func67, Try.ntmps67
    go_wp2
    go_ret
    exact ⟨rfl, rfl⟩
  · go_enter Try.func67, Try.ntmps67
    go_wp2
    go_ret
    exact ⟨rfl, rfl⟩

theorem Row.grown {k : IntKind} {w w' : World} {B : Nat} {A : Option Addr} {xs : List Int} {row : Option Nat} (h : Row k w B A xs) (hg : w.grownBy w' row) (hB : B ≤ w.heap.size) (hne : ∀ b o, A = some ⟨b, o, none⟩ → some b ≠ row) : Row k w' B A xs := by
  refine ⟨h.1, fun hn => ?_⟩
  obtain ⟨b, o, e, hb, hc⟩ := h.2 hn
  exact ⟨b, o, e, hb, fun i hi => hg.cell (hc i hi) (hne b o e)⟩

theorem counted_any (v : Value) (xs ys : List Int) (A : Option Addr) (m c base : Nat) (w : World) (hown : Own .u8 5 w base v xs) (hr : Row .u8 w w.heap.size A ys) (hm : ys.length = m) (hm2 : m ≤ 255) (hx : xs.length ≤ 1000)
    (hne : ∀ b o, A = some ⟨b, o, none⟩ → some b ≠ v.ownBlock) (hbase : base ≤ w.heap.size) :
    Calls Try.prog 68 #[v, .slice A m c] w fun e w' => ∃ v', e = .returned v' ∧ Own .u8 5 w' base v' (xs ++ ((m : Int) :: ys)) ∧ Below base w w' := by
  have hw1 : IntKind.u8.wrap (m : Int) = (m : Int) := by rw [IntKind.wrap_u8]; omega
  have one := Row.one .u8 w 5 (m : Int) (wf_byte m (by omega))
  have hx' := Lib.hid hx
  have hm' := Lib.hid hm
  clear hx hm
  obtain ⟨Av, nv, cv, rfl⟩ : ∃ Av nv cv, v = .slice Av nv cv := by
    rcases hown.2 with ⟨rfl, _⟩ | ⟨g, cap, cur, rfl, _⟩
    · exact ⟨_, _, _, rfl⟩
    · exact ⟨_, _, _, rfl⟩
  go_enter Try.func68, Try.ntmps68
  go_wp2_with (first
    | (at_builtin; refine wpList_append_row _ rfl _ _ 32 rfl base .u8 5 1 Try.underlying32 info_u8 (.slice Av nv cv) xs rfl (hown.alloc _) _ _ 1 1 [(m : Int)] rfl one rfl (by have := hx'.out; omega) (by have := hx'.out; simp only [maxLen]; omega) (by simp; omega) ?_; intro v1 w1 hown1 hg1)
    | (at_builtin; refine wpList_append_row _ rfl _ _ 32 rfl base .u8 5 1 Try.underlying32 info_u8 v1 (xs ++ [(m : Int)]) rfl hown1 w.heap.size A m c ys rfl (((hr.alloc (Nat.le_refl _) _).grown hg1 (by simp) hne)) hm'.out (by rw [List.length_append]; have := hx'.out; simp; omega) (by rw [List.length_append]; have := hx'.out; simp [maxLen]; omega) (by have := hg1.size; simp at this; omega) ?_; intro v2 w2 hown2 hg2))
  have b1 := Below.own1 (Below.refl base w) hbase hown hg1
  have b2 := Below.own b1 (by have := hg1.size; simp at this; omega) hown1 hg2
  rw [List.append_assoc] at hown2
  go_ret
  exact ⟨_, rfl, hown2, b2⟩

set_option maxHeartbeats 1000000 in
set_option maxRecDepth 100000 in
theorem partBytes_any (A : Option Addr) (n c : Nat) (fl : List Int) (w : World) (hr : Row .i64 w w.heap.size A fl) (hn : fl.length = 3 * n) (hb : n ≤ 35) (hok : allOk fl n = true) :
    Calls Try.prog 70 #[.slice A n c] w (Makes .u8 5 w (pbytes fl n)) := by
  have hn' := Lib.hid hn
  clear hn
  go_enter Try.func70, Try.ntmps70
  go_wp2
  go_loopw [3, 9] (fun v i wr => ∃ k : Nat, k ≤ n ∧ i = .int .i64 k ∧ Own .u8 5 wr w.heap.size v (pbytes fl k) ∧ Below w.heap.size w wr) (fun _ i _ => n - (intOf i).toNat)
  case atStart => exact ⟨0, by omega, rfl, Own.nil _ _ _ _, Below.refl _ _⟩
  case round =>
    obtain ⟨k, hk, rfl, hown, hbel⟩ := hrel
    by_cases hlt : k < n
    · obtain ⟨b, o, rfl, hb1, hc1, hc2, hc3⟩ := (hr.below hbel).three (k := k) (by have := hn'.out; omega)
      have hin := (inPl_iff _ _ _).1 (allOk_le hok k hlt)
      have HP : Hid (pbytes fl (k + 1) = pbytes fl k ++ (6 :: wbytes [nth fl (3 * k), nth fl (3 * k + 1), nth fl (3 * k + 2)])) := Lib.hid rfl
      have HL : Hid ((pbytes fl k).length = 7 * k) := Lib.hid (pbytes_length fl k)
      have hsz := hbel.size
      generalize nth fl (3 * k) = x at *
      generalize nth fl (3 * k + 1) = y at *
      generalize nth fl (3 * k + 2) = z at *
      have e1 : IntKind.u16.wrap x = x := by rw [IntKind.wrap_u16]; omega
      have e2 : IntKind.u16.wrap y = y := by rw [IntKind.wrap_u16]; omega
      have e3 : IntKind.u16.wrap z = z := by rw [IntKind.wrap_u16]; omega
      have HB := Lib.hid (heap_alloc_new wr (.cells #[.int .i64 x, .int .i64 y, .int .i64 z] 47))
      have HWB := Lib.hid (heap_alloc_new (wr.alloc (.cells #[.int .i64 x, .int .i64 y, .int .i64 z] 47)) (.cells (blk .u16 [x, y, z]) 45))
      have hwf : Hid (∀ v ∈ [x, y, z], (Lit.int .u16 v).wf = true) := Lib.hid (by
        intro v hv
        simp only [List.mem_cons, List.not_mem_nil, or_false] at hv
        rcases hv with rfl | rfl | rfl <;> exact wf_word16 (by omega))
      go_wp2_with (first
        | (at_builtin; refine wpList_append_row _ rfl (.tmp 23) (.tmp 24) 32 rfl w.heap.size .u8 5 1 Try.underlying32 info_u8 u3 (pbytes fl k) rfl (((hown.alloc _).alloc _).alloc _) _ _ 1 1 [(6 : Int)] rfl (Row.one_at .u8 _ 5 6 (by decide) (by simp)) rfl (by rw [HL.out]; omega) (by rw [HL.out]; simp only [maxLen]; omega) (by simp; omega) ?_; intro v1 w1 hown1 hg1))
      have HW1 := Lib.hid ((hg1.block (wr.heap.size + 1) (by simp) (fun e => by have := hown.block _ e.symm; omega)).trans ((heap_alloc_old _ _ (by simp)).trans (heap_new_at _ _ (by simp))))
      have bel1 := Below.own (((hbel.alloc hsz _).alloc (by simp; omega) _).alloc (by simp; omega) _) (by simp; omega) (((hown.alloc _).alloc _).alloc _) hg1
      have hs1 := bel1.size
      clear HB HWB hg1 hown hbel hc1 hc2 hc3
      refine (Bytes_any _ 3 _ [x, y, z] _ ((Row.of_block HW1.out [x, y, z] hwf.out (List.prefix_refl _)).more (block_lt HW1.out)) rfl (by omega)).mono ?_
      intro e w2 hL
      obtain ⟨rfl, li, b2⟩ := hL.li
      have hs2 := b2.size
      have rw2 := li.row (by rw [wbytes_length]; rfl) (wbytes_wf _)
      go_wp2_with (first
        | (at_builtin; refine wpList_append_row _ rfl (.tmp 25) (.tmp 27) 32 rfl w.heap.size .u8 5 1 Try.underlying32 info_u8 v1 (pbytes fl k ++ [6]) rfl (hown1.below b2 (Nat.le_refl _)) _ _ 6 6 (wbytes [x, y, z]) rfl rw2 (by rw [wbytes_length]; rfl) (by rw [List.length_append, HL.out]; simp; omega) (by rw [List.length_append, HL.out]; simp [maxLen]; omega) (by omega) ?_; intro v2 w3 hown2 hg2))
      have bel2 := Below.own (bel1.trans (b2.mono hs1)) (by omega) (hown1.below b2 (Nat.le_refl _)) hg2
      rw [List.append_assoc, List.singleton_append, ← HP.out] at hown2
      clear hg2 hown1 b2 bel1 HW1 rw2 li
      go_wp2
      go_roundw
      case rel => exact ⟨k + 1, by omega, by go_num, hown2, bel2⟩
      case measure => simp [intOf]; omega
    · obtain rfl : k = n := by omega
      go_wp2
      go_ret
      exact ⟨_, rfl, hown, hbel⟩
end Go.Proofs.Ytojjcmkadmofdaa
