/-
  Contract of what stands behind the code in a PDU.
-/
import Derived.Test.YtojjcmkadmofdaaAskPut
namespace Go.Proofs.Ytojjcmkadmofdaa
open Go.RowKit
set_option linter.unusedVariables false

/-- Block g is known whole, and what lies below it is as it was. -/
def Bx (w0 : World) (g : Nat) (o : Obj) (w : World) : Prop := w.heap[g]? = some o ∧ Below g w0 w
theorem Bx.new (w : World) (o : Obj) : Bx w w.heap.size o (w.alloc o) := ⟨heap_alloc_new w o, bel_alloc w o⟩
theorem Bx.lt {w0 w : World} {g : Nat} {o : Obj} (h : Bx w0 g o w) : g < w.heap.size := block_lt h.1
theorem Bx.below {w0 w w' : World} {g : Nat} {o : Obj} (h : Bx w0 g o w) (hb : Below w.heap.size w w') : Bx w0 g o w' :=
  ⟨(hb.block g h.lt).trans h.1, h.2.trans (hb.mono (Nat.le_of_lt h.lt))⟩
theorem Bx.below2 {w0 w w' : World} {g B : Nat} {o : Obj} (h : Bx w0 g o w) (hb : Below B w w') (hB : g < B) : Bx w0 g o w' :=
  ⟨(hb.block g hB).trans h.1, h.2.trans (hb.mono (Nat.le_of_lt hB))⟩
theorem Bx.drewN {w0 w : World} {g : Nat} {o : Obj} (h : Bx w0 g o w) (n : Nat) : Bx w0 g o (w.drewN n) := h.below (bel_drewN w n)
theorem Bx.drew {w0 w : World} {g : Nat} {o : Obj} (h : Bx w0 g o w) : Bx w0 g o w.drew := h.below ⟨rfl, rfl, rfl, Nat.le_refl _, fun _ _ => rfl⟩
theorem Bx.alloc {w0 w : World} {g : Nat} {o : Obj} (h : Bx w0 g o w) (o' : Obj) : Bx w0 g o (w.alloc o') := h.below (bel_alloc w o')
/-- The cells of a request in its box. -/
theorem Bx.six {w0 w : World} {g : Nat} {t : TypeId} {v0 v1 v2 v3 v4 v5 : Value} (h : Bx w0 g (.cells #[v0, v1, v2, v3, v4, v5] t (0, 0)) w) :
    w.cell? ⟨g, 0, none⟩ = some v0 ∧ w.cell? ⟨g, 1, none⟩ = some v1 ∧ w.cell? ⟨g, 2, none⟩ = some v2 ∧ w.cell? ⟨g, 3, none⟩ = some v3 ∧ w.cell? ⟨g, 4, none⟩ = some v4 ∧ w.cell? ⟨g, 5, none⟩ = some v5 := by
  obtain ⟨⟨a, b, c⟩, ⟨d, e, f⟩, _⟩ := cells6 h.1
  exact ⟨a, b, c, d, e, f⟩


theorem wf_two {a n : Int} (ha : 0 ≤ a ∧ a < 65536) (hn : 0 ≤ n ∧ n < 65536) : ∀ v ∈ [a, n], (Lit.int .u16 v).wf = true := by
  intro v hv
  simp only [List.mem_cons, List.not_mem_nil, or_false] at hv
  rcases hv with rfl | rfl
  · exact wf_word16 ha
  · exact wf_word16 hn
/-- Bytes of a new list of two words. -/
theorem Bytes_two (w1 : World) (a n : Int) (ha : 0 ≤ a ∧ a < 65536) (hn : 0 ≤ n ∧ n < 65536) :
    Calls Try.prog 66 #[.slice (some ⟨w1.heap.size, 0, none⟩) 2 2] (w1.alloc (.cells #[.int .u16 a, .int .u16 n] 45)) fun e w' => e = .returned (.slice (some ⟨w1.heap.size + 1, 0, none⟩) 4 4) ∧
      w'.heap[w1.heap.size + 1]? = some (.cells (blk .u8 (wbytes [a, n])) 5 (0, 0)) ∧ Below w1.heap.size w1 w' := by
  have hz : (w1.alloc (.cells #[.int .u16 a, .int .u16 n] 45)).heap.size = w1.heap.size + 1 := by simp
  refine (Bytes_any _ 2 2 [a, n] (w1.alloc (.cells #[.int .u16 a, .int .u16 n] 45)) ((Row.lit_at .u16 w1 45 [a, n] (wf_two ha hn) rfl).more (by simp)) rfl (by omega)).mono ?_
  rintro e w' ⟨rfl, h1, h2⟩
  rw [hz] at h1 h2 ⊢
  exact ⟨rfl, h1, (bel_alloc w1 _).trans (h2.mono (by omega))⟩

/-- Bytes of a list of two words that fills a block. -/
theorem Bytes_at (W : World) (g z : Nat) (a n : Int) (ha : 0 ≤ a ∧ a < 65536) (hn : 0 ≤ n ∧ n < 65536) (hz : W.heap.size = z) (hW : W.heap[g]? = some (.cells #[.int .u16 a, .int .u16 n] 45 (0, 0))) :
    Calls Try.prog 66 #[.slice (some ⟨g, 0, none⟩) 2 2] W fun e w' => e = .returned (.slice (some ⟨z, 0, none⟩) 4 4) ∧
      w'.heap[z]? = some (.cells (blk .u8 (wbytes [a, n])) 5 (0, 0)) ∧ Below z W w' := by
  subst hz
  refine (Bytes_any _ 2 2 [a, n] W ((Row.of_block (l := [a, n]) (show W.heap[g]? = some (.cells (blk .u16 [a, n]) 45 (0, 0)) from hW) [a, n] (wf_two ha hn) (List.prefix_refl _)).more (block_lt hW)) rfl (by omega)).mono ?_
  rintro e w' ⟨rfl, h1, h2⟩
  exact ⟨rfl, h1, h2⟩
/-- counted, of two lists that fill blocks of their own. -/
theorem counted_two (w : World) (base g1 g2 m1 m2 : Nat) (l1 l2 : List Int) (h1 : w.heap[g1]? = some (.cells (blk .u8 l1) 5 (0, 0))) (h2 : w.heap[g2]? = some (.cells (blk .u8 l2) 5 (0, 0))) (n1 : l1.length = m1) (n2 : l2.length = m2)
    (hm1 : m1 ≤ 1000) (hm2 : m2 ≤ 255) (hw : ∀ x ∈ l2, (Lit.int .u8 x).wf = true) (hne : g1 ≠ g2) (hb : base ≤ g1) :
    Calls Try.prog 68 #[.slice (some ⟨g1, 0, none⟩) m1 m1, .slice (some ⟨g2, 0, none⟩) m2 m2] w fun e w' => ∃ v', e = .returned v' ∧ Own .u8 5 w' base v' (l1 ++ ((m2 : Int) :: l2)) ∧ Below base w w' :=
  counted_any _ l1 l2 _ m2 m2 base w (Own.laid h1 hb n1 (by simp only [maxLen]; omega)) ((Row.of_block h2 l2 hw (List.prefix_refl _)).more (block_lt h2)) n2 hm2 (by omega)
    (fun b o e => by injection e with e; injection e with e1 e2; subst e1; simp [Value.ownBlock]; omega) (by have := block_lt h1; omega)

abbrev reqBox (c a n : Int) (Ao As Ap : Option Addr) (lo co ls cs lp cp : Nat) : Obj := .cells #[.int .i64 c, .int .i64 a, .int .i64 n, .slice Ao lo co, .slice As ls cs, .slice Ap lp cp] 26

set_option maxHeartbeats 1000000 in
set_option maxRecDepth 100000 in
theorem behind_read (c a n : Int) (Ao As Ap : Option Addr) (lo co ls cs lp cp : Nat) (w : World) (hc : c = 1 ∨ c = 2 ∨ c = 3 ∨ c = 4) (ha : 0 ≤ a ∧ a < 65536) (hn : 1 ≤ n ∧ n ≤ 2000) :
    Calls Try.prog 39 #[.agg #[.int .i64 c, .int .i64 a, .int .i64 n, .slice Ao lo co, .slice As ls cs, .slice Ap lp cp]] w (Makes .u8 5 w (wbytes [a, n])) := by
  have hmm : 0 < mm c := by rcases hc with rfl | rfl | rfl | rfl <;> decide
  have HMany : Hid (many c n lo ls lp = n) := Lib.hid (by rcases hc with rfl | rfl | rfl | rfl <;> rfl)
  have e2 : IntKind.u16.wrap n = n := by rw [IntKind.wrap_u16]; omega
  have t5 : (c == 5) = false := beq_false_of_ne (by omega)
  have t6 : (c == 6) = false := beq_false_of_ne (by omega)
  have t15 : (c == 15) = false := beq_false_of_ne (by omega)
  have t16 : (c == 16) = false := beq_false_of_ne (by omega)
  have t20 : (c == 20) = false := beq_false_of_ne (by omega)
  have e1 : IntKind.u16.wrap a = a := by rw [IntKind.wrap_u16]; omega
  have hx0 := Bx.new w (.cells #[.int .i64 c, .int .i64 a, .int .i64 n, .slice Ao lo co, .slice As ls cs, .slice Ap lp cp] 26)
  clear hc
  go_enter Try.func39, Try.ntmps39
  go_wp2_with fail
  go_region_held3 (fun w' => Bx w w.heap.size (.cells #[.int .i64 c, .int .i64 a, .int .i64 n, .slice Ao lo co, .slice As ls cs, .slice Ap lp cp] 26) w' ∧ w'.cell? ⟨w.heap.size, 0, none⟩ = some (.int .i64 c) ∧ w'.cell? ⟨w.heap.size, 1, none⟩ = some (.int .i64 a) ∧ w'.cell? ⟨w.heap.size, 2, none⟩ = some (.int .i64 n) ∧ w'.cell? ⟨w.heap.size, 3, none⟩ = some (.slice Ao lo co) ∧ w'.cell? ⟨w.heap.size, 4, none⟩ = some (.slice As ls cs) ∧ w'.cell? ⟨w.heap.size, 5, none⟩ = some (.slice Ap lp cp))
    ((first
      | exact ⟨hx0.drew, hx0.drew.six⟩
      | exact ⟨h9, h9.six⟩))
    (first
      | (go_at_call 36; refine (howMany_any _ a n Ao As Ap lo co ls cs lp cp _ hmm).mono ?_; rintro e w1 ⟨rfl, b1⟩; rw [HMany.out]; have h9 := hx0.drew.below b1))
  clear hx0
  obtain ⟨d0, d1, d2, d3, d4, d5⟩ := h9.six
  have hs := h9.lt
  have bel1 := h9.2
  clear b1
  go_wp2_with fail
  refine (Bytes_two w1 a n ha (by omega)).mono ?_
  rintro e w2 ⟨rfl, g2, b2⟩
  go_wp2
  go_ret
  exact ⟨_, rfl, Own.laid g2 (by omega) (wbytes_length _) (by simp [maxLen]), bel1.trans (b2.mono (by omega))⟩
set_option maxHeartbeats 1000000 in
set_option maxRecDepth 100000 in
theorem behind_coil (c a n : Int) (Ao As Ap : Option Addr) (lo co ls cs lp cp : Nat) (on : List Bool) (w : World) (hc : c = 5) (ha : 0 ≤ a ∧ a < 65536) (h : L.Row () w w.heap.size Ao on) (hl : on.length = lo) (h1 : lo = 1) :
    Calls Try.prog 39 #[.agg #[.int .i64 c, .int .i64 a, .int .i64 n, .slice Ao lo co, .slice As ls cs, .slice Ap lp cp]] w (Makes .u8 5 w (wbytes [a, if L.nth on 0 = true then 65280 else 0])) := by
  have hmm : 0 < mm 5 := by decide
  have HMany : Hid (many 5 n lo ls lp = lo) := Lib.hid rfl
  have e2 : IntKind.u16.wrap (lo : Int) = lo := by rw [IntKind.wrap_u16]; omega
  have hlt : (0 : Int) < (lo : Int) := by omega
  have hl0 : 0 < lo := by omega
  have hlo : lo ≤ 1 := by omega
  obtain ⟨b, o, hAd, hb1, hcell⟩ := h.at_ (i := 0) (by omega)
  have HAd := Lib.hid hAd
  have HC := Lib.hid hcell
  obtain ⟨v, hv⟩ : ∃ v : Int, Hid ((if L.nth on 0 = true then 65280 else 0) = v) := ⟨_, Lib.hid rfl⟩
  have hvb : 0 ≤ v ∧ v < 65536 := by rw [← hv.out]; split <;> omega
  have HC2 := Lib.hid (coilWord_any (L.nth on 0))
  rw [hv.out] at HC2 ⊢
  generalize L.nth on 0 = bit at *
  clear h hcell hl h1 hAd
  have e1 : IntKind.u16.wrap a = a := by rw [IntKind.wrap_u16]; omega
  have hx0 := Bx.new w (.cells #[.int .i64 c, .int .i64 a, .int .i64 n, .slice Ao lo co, .slice As ls cs, .slice Ap lp cp] 26)
  subst hc
  go_enter Try.func39, Try.ntmps39
  go_wp2_with fail
  go_region_held3 (fun w' => Bx w w.heap.size (.cells #[.int .i64 5, .int .i64 a, .int .i64 n, .slice Ao lo co, .slice As ls cs, .slice Ap lp cp] 26) w' ∧ w'.cell? ⟨w.heap.size, 0, none⟩ = some (.int .i64 5) ∧ w'.cell? ⟨w.heap.size, 1, none⟩ = some (.int .i64 a) ∧ w'.cell? ⟨w.heap.size, 2, none⟩ = some (.int .i64 n) ∧ w'.cell? ⟨w.heap.size, 3, none⟩ = some (.slice Ao lo co) ∧ w'.cell? ⟨w.heap.size, 4, none⟩ = some (.slice As ls cs) ∧ w'.cell? ⟨w.heap.size, 5, none⟩ = some (.slice Ap lp cp))
    ((first
      | exact ⟨hx0.drew, hx0.drew.six⟩
      | exact ⟨h9, h9.six⟩))
    (first
      | (go_at_call 36; refine (howMany_any _ a n Ao As Ap lo co ls cs lp cp _ hmm).mono ?_; rintro e w1 ⟨rfl, b1⟩; rw [HMany.out]; have h9 := hx0.drew.below b1))
  clear hx0
  obtain ⟨d0, d1, d2, d3, d4, d5⟩ := h9.six
  have hs := h9.lt
  have bel1 := h9.2
  clear b1
  obtain rfl := HAd.out
  have hc0 : w1.cell? ⟨b, o, none⟩ = some (.bool bit) := (bel1.cell (p := ⟨b, o, none⟩) hb1).trans (by have := HC.out; rwa [Nat.add_zero] at this)
  go_wp2_with fail
  refine (HC2.out _).mono ?_
  rintro e w' ⟨rfl, rfl⟩
  go_wp2_with fail
  refine (Bytes_two _ a v ha hvb).mono ?_
  rintro e w2 ⟨rfl, g2, b2⟩
  go_wp2
  go_ret
  exact ⟨_, rfl, Own.laid g2 (by omega) (wbytes_length _) (by simp [maxLen]), bel1.trans (b2.mono (by omega))⟩
set_option maxHeartbeats 1000000 in
set_option maxRecDepth 100000 in
theorem behind_reg (c a n : Int) (Ao As Ap : Option Addr) (lo co ls cs lp cp : Nat) (set : List Int) (w : World) (hc : c = 6) (ha : 0 ≤ a ∧ a < 65536) (h : Row .u16 w w.heap.size As set) (hl : set.length = ls) (h1 : ls = 1) :
    Calls Try.prog 39 #[.agg #[.int .i64 c, .int .i64 a, .int .i64 n, .slice Ao lo co, .slice As ls cs, .slice Ap lp cp]] w (Makes .u8 5 w (wbytes [a, nth set 0])) := by
  have hmm : 0 < mm 6 := by decide
  have HMany : Hid (many 6 n lo ls lp = ls) := Lib.hid rfl
  have e2 : IntKind.u16.wrap (ls : Int) = ls := by rw [IntKind.wrap_u16]; omega
  have hlt : (0 : Int) < (ls : Int) := by omega
  have hl0 : 0 < ls := by omega
  have hlo : ls ≤ 1 := by omega
  obtain ⟨b, o, hAd, hb1, hcell⟩ := h.at_ (i := 0) (by omega)
  have HAd := Lib.hid hAd
  have hvb := wf_u16 (h.wf_at (i := 0) (by omega))
  have HC := Lib.hid hcell
  generalize nth set 0 = v at *
  clear h hcell hl h1 hAd
  have e1 : IntKind.u16.wrap a = a := by rw [IntKind.wrap_u16]; omega
  have hx0 := Bx.new w (.cells #[.int .i64 c, .int .i64 a, .int .i64 n, .slice Ao lo co, .slice As ls cs, .slice Ap lp cp] 26)
  subst hc
  go_enter Try.func39, Try.ntmps39
  go_wp2_with fail
  go_region_held3 (fun w' => Bx w w.heap.size (.cells #[.int .i64 6, .int .i64 a, .int .i64 n, .slice Ao lo co, .slice As ls cs, .slice Ap lp cp] 26) w' ∧ w'.cell? ⟨w.heap.size, 0, none⟩ = some (.int .i64 6) ∧ w'.cell? ⟨w.heap.size, 1, none⟩ = some (.int .i64 a) ∧ w'.cell? ⟨w.heap.size, 2, none⟩ = some (.int .i64 n) ∧ w'.cell? ⟨w.heap.size, 3, none⟩ = some (.slice Ao lo co) ∧ w'.cell? ⟨w.heap.size, 4, none⟩ = some (.slice As ls cs) ∧ w'.cell? ⟨w.heap.size, 5, none⟩ = some (.slice Ap lp cp))
    ((first
      | exact ⟨hx0.drew, hx0.drew.six⟩
      | exact ⟨h9, h9.six⟩))
    (first
      | (go_at_call 36; refine (howMany_any _ a n Ao As Ap lo co ls cs lp cp _ hmm).mono ?_; rintro e w1 ⟨rfl, b1⟩; rw [HMany.out]; have h9 := hx0.drew.below b1))
  clear hx0
  obtain ⟨d0, d1, d2, d3, d4, d5⟩ := h9.six
  have hs := h9.lt
  have bel1 := h9.2
  clear b1
  obtain rfl := HAd.out
  have hc0 : w1.cell? ⟨b, o, none⟩ = some (.int .u16 v) := (bel1.cell (p := ⟨b, o, none⟩) hb1).trans (by have := HC.out; rwa [Nat.add_zero] at this)
  go_wp2_with fail
  refine (Bytes_two _ a v ha hvb).mono ?_
  rintro e w2 ⟨rfl, g2, b2⟩
  go_wp2
  go_ret
  exact ⟨_, rfl, Own.laid g2 (by omega) (wbytes_length _) (by simp [maxLen]), bel1.trans (b2.mono (by omega))⟩
set_option maxHeartbeats 1000000 in
set_option maxRecDepth 100000 in
theorem behind_bits (c a n : Int) (Ao As Ap : Option Addr) (lo co ls cs lp cp : Nat) (on : List Bool) (w : World) (hc : c = 15) (ha : 0 ≤ a ∧ a < 65536) (h : L.Row () w w.heap.size Ao on) (hl : on.length = lo) (h1 : 1 ≤ lo ∧ lo ≤ 1968) :
    Calls Try.prog 39 #[.agg #[.int .i64 c, .int .i64 a, .int .i64 n, .slice Ao lo co, .slice As ls cs, .slice Ap lp cp]] w (Makes .u8 5 w (wbytes [a, (lo : Int)] ++ ((need lo : Nat) : Int) :: pk on (need lo))) := by
  have hmm : 0 < mm 15 := by decide
  have HMany : Hid (many 15 n lo ls lp = lo) := Lib.hid rfl
  have e2 : IntKind.u16.wrap (lo : Int) = lo := by rw [IntKind.wrap_u16]; omega
  have HH := Lib.hid h
  have HLn := Lib.hid hl
  clear h hl
  have e1 : IntKind.u16.wrap a = a := by rw [IntKind.wrap_u16]; omega
  have hx0 := Bx.new w (.cells #[.int .i64 c, .int .i64 a, .int .i64 n, .slice Ao lo co, .slice As ls cs, .slice Ap lp cp] 26)
  subst hc
  go_enter Try.func39, Try.ntmps39
  go_wp2_with fail
  go_region_held3 (fun w' => Bx w w.heap.size (.cells #[.int .i64 15, .int .i64 a, .int .i64 n, .slice Ao lo co, .slice As ls cs, .slice Ap lp cp] 26) w' ∧ w'.cell? ⟨w.heap.size, 0, none⟩ = some (.int .i64 15) ∧ w'.cell? ⟨w.heap.size, 1, none⟩ = some (.int .i64 a) ∧ w'.cell? ⟨w.heap.size, 2, none⟩ = some (.int .i64 n) ∧ w'.cell? ⟨w.heap.size, 3, none⟩ = some (.slice Ao lo co) ∧ w'.cell? ⟨w.heap.size, 4, none⟩ = some (.slice As ls cs) ∧ w'.cell? ⟨w.heap.size, 5, none⟩ = some (.slice Ap lp cp))
    ((first
      | exact ⟨hx0.drew, hx0.drew.six⟩
      | exact ⟨h9, h9.six⟩))
    (first
      | (go_at_call 36; refine (howMany_any _ a n Ao As Ap lo co ls cs lp cp _ hmm).mono ?_; rintro e w1 ⟨rfl, b1⟩; rw [HMany.out]; have h9 := hx0.drew.below b1))
  clear hx0
  obtain ⟨d0, d1, d2, d3, d4, d5⟩ := h9.six
  have hs := h9.lt
  have bel1 := h9.2
  clear b1
  have hd2 : need lo ≤ 255 := by unfold need; omega
  obtain ⟨d, hd⟩ : ∃ d, Hid (need lo = d) := ⟨_, Lib.hid rfl⟩
  rw [hd.out] at hd2 ⊢
  have hwf := pk_wf on d
  have HL : Hid ((pk on d).length = d) := Lib.hid (pk_length _ _)
  go_wp2_with fail
  go_region_held3 (fun w' => Bx w w.heap.size (.cells #[.int .i64 15, .int .i64 a, .int .i64 n, .slice Ao lo co, .slice As ls cs, .slice Ap lp cp] 26) w' ∧ w'.cell? ⟨w.heap.size, 0, none⟩ = some (.int .i64 15) ∧ w'.cell? ⟨w.heap.size, 1, none⟩ = some (.int .i64 a) ∧ w'.cell? ⟨w.heap.size, 2, none⟩ = some (.int .i64 n) ∧ w'.cell? ⟨w.heap.size, 3, none⟩ = some (.slice Ao lo co) ∧ w'.cell? ⟨w.heap.size, 4, none⟩ = some (.slice As ls cs) ∧ w'.cell? ⟨w.heap.size, 5, none⟩ = some (.slice Ap lp cp))
    ((first
      | exact ⟨h9, h9.six⟩
      | exact ⟨h9.drew, h9.drew.six⟩
      | exact ⟨(h9.alloc _).drew, (h9.alloc _).drew.six⟩
      | exact ⟨h10, h10.six⟩
      | exact ⟨h12, h12.six⟩
      | exact ⟨h11, h11.six⟩))
    (first
      | (go_at_call 68; refine (counted_two _ (w.heap.size + 1) (w1.heap.size + 1) w2.heap.size 4 d (wbytes [a, (lo : Int)]) (pk on d) g2p g3 (wbytes_length _) HL.out (by simp) hd2 hwf (by omega) (by omega)).mono ?_; rintro e w4 ⟨v4, rfl, own4, b4⟩; have h12 := h11.below2 b4 (by omega))
      | (go_at_call 66; refine (Bytes_at _ w1.heap.size (w1.heap.size + 1) a (lo : Int) ha (by omega) (by simp) (by exact heap_alloc_new w1 _)).mono ?_; rintro e w2 ⟨rfl, g2, b2⟩; have h10 := (h9.alloc (.cells #[.int .u16 a, .int .u16 (lo : Int)] 45)).drew.below (b2.mono (by simp))) | (go_at_call 69; refine (Bits_any Ao lo co on w2 ((HH.out.below h10.2).more (Nat.le_of_lt h10.lt)) HLn.out (by omega)).mono ?_; rw [hd.out]; rintro e w3 ⟨rfl, g3, b3⟩; have h11 := h10.below b3; have hz2 := block_lt g2; have g2p := (b3.block _ hz2).trans g2))
  clear g2 g3 g2p b2 b3 h10 h11 d0 d1 d2 d3 d4 d5
  go_wp2
  go_ret
  refine ⟨_, rfl, ?_, h12.2⟩
  rw [hd.out]
  exact own4.mono (by omega)
set_option maxHeartbeats 1000000 in
set_option maxRecDepth 100000 in
theorem behind_words (c a n : Int) (Ao As Ap : Option Addr) (lo co ls cs lp cp : Nat) (set : List Int) (w : World) (hc : c = 16) (ha : 0 ≤ a ∧ a < 65536) (h : Row .u16 w w.heap.size As set) (hl : set.length = ls) (h1 : 1 ≤ ls ∧ ls ≤ 123) :
    Calls Try.prog 39 #[.agg #[.int .i64 c, .int .i64 a, .int .i64 n, .slice Ao lo co, .slice As ls cs, .slice Ap lp cp]] w (Makes .u8 5 w (wbytes [a, (ls : Int)] ++ ((2 * ls : Nat) : Int) :: wbytes set)) := by
  have hmm : 0 < mm 16 := by decide
  have HMany : Hid (many 16 n lo ls lp = ls) := Lib.hid rfl
  have e2 : IntKind.u16.wrap (ls : Int) = ls := by rw [IntKind.wrap_u16]; omega
  have HH := Lib.hid h
  have HLn := Lib.hid hl
  clear h hl
  have e1 : IntKind.u16.wrap a = a := by rw [IntKind.wrap_u16]; omega
  have hx0 := Bx.new w (.cells #[.int .i64 c, .int .i64 a, .int .i64 n, .slice Ao lo co, .slice As ls cs, .slice Ap lp cp] 26)
  subst hc
  go_enter Try.func39, Try.ntmps39
  go_wp2_with fail
  go_region_held3 (fun w' => Bx w w.heap.size (.cells #[.int .i64 16, .int .i64 a, .int .i64 n, .slice Ao lo co, .slice As ls cs, .slice Ap lp cp] 26) w' ∧ w'.cell? ⟨w.heap.size, 0, none⟩ = some (.int .i64 16) ∧ w'.cell? ⟨w.heap.size, 1, none⟩ = some (.int .i64 a) ∧ w'.cell? ⟨w.heap.size, 2, none⟩ = some (.int .i64 n) ∧ w'.cell? ⟨w.heap.size, 3, none⟩ = some (.slice Ao lo co) ∧ w'.cell? ⟨w.heap.size, 4, none⟩ = some (.slice As ls cs) ∧ w'.cell? ⟨w.heap.size, 5, none⟩ = some (.slice Ap lp cp))
    ((first
      | exact ⟨hx0.drew, hx0.drew.six⟩
      | exact ⟨h9, h9.six⟩))
    (first
      | (go_at_call 36; refine (howMany_any _ a n Ao As Ap lo co ls cs lp cp _ hmm).mono ?_; rintro e w1 ⟨rfl, b1⟩; rw [HMany.out]; have h9 := hx0.drew.below b1))
  clear hx0
  obtain ⟨d0, d1, d2, d3, d4, d5⟩ := h9.six
  have hs := h9.lt
  have bel1 := h9.2
  clear b1
  obtain ⟨d, hd⟩ : ∃ d, Hid (2 * ls = d) := ⟨_, Lib.hid rfl⟩
  have hd2 : d ≤ 255 := by have := hd.out; omega
  rw [hd.out]
  have hwf := wbytes_wf set
  have HL : Hid ((wbytes set).length = d) := Lib.hid (by rw [wbytes_length, HLn.out, hd.out])
  go_wp2_with fail
  go_region_held3 (fun w' => Bx w w.heap.size (.cells #[.int .i64 16, .int .i64 a, .int .i64 n, .slice Ao lo co, .slice As ls cs, .slice Ap lp cp] 26) w' ∧ w'.cell? ⟨w.heap.size, 0, none⟩ = some (.int .i64 16) ∧ w'.cell? ⟨w.heap.size, 1, none⟩ = some (.int .i64 a) ∧ w'.cell? ⟨w.heap.size, 2, none⟩ = some (.int .i64 n) ∧ w'.cell? ⟨w.heap.size, 3, none⟩ = some (.slice Ao lo co) ∧ w'.cell? ⟨w.heap.size, 4, none⟩ = some (.slice As ls cs) ∧ w'.cell? ⟨w.heap.size, 5, none⟩ = some (.slice Ap lp cp))
    ((first
      | exact ⟨h9, h9.six⟩
      | exact ⟨h9.drew, h9.drew.six⟩
      | exact ⟨(h9.alloc _).drew, (h9.alloc _).drew.six⟩
      | exact ⟨h10, h10.six⟩
      | exact ⟨h12, h12.six⟩
      | exact ⟨h11, h11.six⟩))
    (first
      | (go_at_call 68; refine (counted_two _ (w.heap.size + 1) (w1.heap.size + 1) w2.heap.size 4 d (wbytes [a, (ls : Int)]) (wbytes set) g2p g3 (wbytes_length _) HL.out (by simp) hd2 hwf (by omega) (by omega)).mono ?_; rintro e w4 ⟨v4, rfl, own4, b4⟩; have h12 := h11.below2 b4 (by omega))
      | (go_at_call_of 66 (Value.slice (some ⟨w1.heap.size, 0, none⟩) 2 2); refine (Bytes_at _ w1.heap.size (w1.heap.size + 1) a (ls : Int) ha (by omega) (by simp) (by exact heap_alloc_new w1 _)).mono ?_; rintro e w2 ⟨rfl, g2, b2⟩; have h10 := (h9.alloc (.cells #[.int .u16 a, .int .u16 (ls : Int)] 45)).drew.below (b2.mono (by simp))) | (go_at_call 66; refine (Bytes_any As ls cs set w2 ((HH.out.below h10.2).more (Nat.le_of_lt h10.lt)) HLn.out (by omega)).mono ?_; rw [hd.out]; rintro e w3 ⟨rfl, g3, b3⟩; have h11 := h10.below b3; have hz2 := block_lt g2; have g2p := (b3.block _ hz2).trans g2))
  clear g2 g3 g2p b2 b3 h10 h11 d0 d1 d2 d3 d4 d5
  go_wp2
  go_ret
  refine ⟨_, rfl, ?_, h12.2⟩
  rw [hd.out]
  exact own4.mono (by omega)
set_option maxHeartbeats 1000000 in
set_option maxRecDepth 100000 in
theorem behind_file (c a n : Int) (Ao As Ap : Option Addr) (lo co ls cs lp cp : Nat) (fl : List Int) (w : World) (hc : c = 20) (ha : 0 ≤ a ∧ a < 65536) (h : Row .i64 w w.heap.size Ap fl) (hl : fl.length = 3 * lp) (h1 : lp ≤ 35) (hok : allOk fl lp = true) :
    Calls Try.prog 39 #[.agg #[.int .i64 c, .int .i64 a, .int .i64 n, .slice Ao lo co, .slice As ls cs, .slice Ap lp cp]] w (Makes .u8 5 w (((7 * lp : Nat) : Int) :: pbytes fl lp)) := by
  have hmm : 0 < mm 20 := by decide
  have HMany : Hid (many 20 n lo ls lp = lp) := Lib.hid rfl
  have e2 : IntKind.u16.wrap (lp : Int) = lp := by rw [IntKind.wrap_u16]; omega
  have HH := Lib.hid h
  have HLn := Lib.hid hl
  have HOK := Lib.hid hok
  clear h hl hok
  have e1 : IntKind.u16.wrap a = a := by rw [IntKind.wrap_u16]; omega
  have hx0 := Bx.new w (.cells #[.int .i64 c, .int .i64 a, .int .i64 n, .slice Ao lo co, .slice As ls cs, .slice Ap lp cp] 26)
  subst hc
  go_enter Try.func39, Try.ntmps39
  go_wp2_with fail
  go_region_held3 (fun w' => Bx w w.heap.size (.cells #[.int .i64 20, .int .i64 a, .int .i64 n, .slice Ao lo co, .slice As ls cs, .slice Ap lp cp] 26) w' ∧ w'.cell? ⟨w.heap.size, 0, none⟩ = some (.int .i64 20) ∧ w'.cell? ⟨w.heap.size, 1, none⟩ = some (.int .i64 a) ∧ w'.cell? ⟨w.heap.size, 2, none⟩ = some (.int .i64 n) ∧ w'.cell? ⟨w.heap.size, 3, none⟩ = some (.slice Ao lo co) ∧ w'.cell? ⟨w.heap.size, 4, none⟩ = some (.slice As ls cs) ∧ w'.cell? ⟨w.heap.size, 5, none⟩ = some (.slice Ap lp cp))
    ((first
      | exact ⟨hx0.drew, hx0.drew.six⟩
      | exact ⟨h9, h9.six⟩))
    (first
      | (go_at_call 36; refine (howMany_any _ a n Ao As Ap lo co ls cs lp cp _ hmm).mono ?_; rintro e w1 ⟨rfl, b1⟩; rw [HMany.out]; have h9 := hx0.drew.below b1))
  clear hx0
  obtain ⟨d0, d1, d2, d3, d4, d5⟩ := h9.six
  have hs := h9.lt
  have bel1 := h9.2
  clear b1
  go_wp2_with fail
  refine (partBytes_any Ap lp cp fl _ ((HH.out.below bel1).more bel1.size) HLn.out h1 HOK.out).mono ?_
  rintro e w2 ⟨v, rfl, own2, b2⟩
  obtain ⟨A2, c2, rfl, row2, _, _⟩ := own2.row (pbytes_wf fl lp)
  rw [pbytes_length] at own2 ⊢
  go_wp2_with fail
  refine (counted_any (.slice none 0 0) [] (pbytes fl lp) A2 (7 * lp) c2 w2.heap.size w2 (Own.nil _ _ _ _) row2 (pbytes_length _ _) (by omega) (by simp) (by simp [Value.ownBlock]) (Nat.le_refl _)).mono ?_
  rintro e w3 ⟨v3, rfl, own3, b3⟩
  rw [List.nil_append] at own3
  have hs2 := b2.size
  go_wp2
  go_ret
  exact ⟨_, rfl, own3.mono (by omega), (bel1.trans (b2.mono (by omega))).trans (b3.mono (by omega))⟩
end Go.Proofs.Ytojjcmkadmofdaa
