/-
  Contract of read of package ask, for the codes with a list that another call makes.
-/
import Derived.Test.YtojjcmkadmofdaaAskRead
namespace Go.Proofs.Ytojjcmkadmofdaa
open Go.RowKit
set_option linter.unusedVariables false

/-- What read tells: the request that the bytes say, or that they say none. -/
def Readd (w : World) (ys : List Int) (e : Ending) (w' : World) : Prop :=
  ∃ q E, Told w q E e w' ∧ (rdOk ys = true ∧ q = rdQ ys ∧ E = 0 ∨ rdOk ys = false ∧ E = 4)
/-- A list of bits that a call has made, and a number. -/
def LGot (w : World) (ok : Bool) (l0 : List Bool) (e : Ending) (w' : World) : Prop :=
  ∃ (A : Option Addr) (m g : Nat) (l : List Bool) (E : Int), e = .returned (.tuple #[.slice A m m, .int .i64 E]) ∧ L.Li w' A m g l [] ∧ l.length = m ∧ w.heap.size ≤ g ∧ Below w.heap.size w w' ∧ (ok = true ∧ l = l0 ∧ E = 0 ∨ ok = false ∧ E = 4)
def WGot (w : World) (ok : Bool) (l0 : List Int) (e : Ending) (w' : World) : Prop :=
  ∃ (A : Option Addr) (m g : Nat) (l : List Int) (E : Int), e = .returned (.tuple #[.slice A m m, .int .i64 E]) ∧ W.Li w' A m g l [] ∧ l.length = m ∧ w.heap.size ≤ g ∧ Below w.heap.size w w' ∧ (ok = true ∧ l = l0 ∧ E = 0 ∨ ok = false ∧ E = 4)
def PGot (w : World) (ok : Bool) (l0 : List Int) (e : Ending) (w' : World) : Prop :=
  ∃ (v : Value) (l : List Int) (E : Int), e = .returned (.tuple #[v, .int .i64 E]) ∧ POwn 47 w' w.heap.size v l ∧ Below w.heap.size w w' ∧ (ok = true ∧ l = l0 ∧ E = 0 ∨ ok = false ∧ E = 4)

theorem readCoil_got (m : Int) (w : World) : Calls Try.prog 74 #[.int .i64 m] w (LGot w (decide (m = 65280 ∨ m = 0)) (coilL m)) := by
  by_cases h : m = 65280 ∨ m = 0
  · refine (readCoil_yes m w h).mono fun e w' ⟨he, hw⟩ => ?_
    subst hw
    exact ⟨_, _, w.heap.size, coilL m, 0, he, .inr ⟨rfl, by rw [List.append_nil]; exact heap_alloc_new w _⟩, by rcases h with rfl | rfl <;> rfl, Nat.le_refl _, bel_alloc w _, .inl ⟨decide_eq_true h, rfl, rfl⟩⟩
  · refine (readCoil_no m w (by omega)).mono fun e w' ⟨he, hw⟩ => ?_
    subst hw
    exact ⟨_, _, w.heap.size, [], 4, he, .inl ⟨rfl, rfl⟩, rfl, Nat.le_refl _, Below.refl _ _, .inr ⟨decide_eq_false h, rfl⟩⟩
theorem readBits_got (A : Option Addr) (m c : Nat) (v : Int) (ys : List Int) (w : World) (hr : Row .u8 w w.heap.size A ys) (hy : ys.length = m) (hm : m ≤ 1000000) (hv : 0 ≤ v ∧ v < 65536) :
    Calls Try.prog 75 #[.slice A m c, .int .i64 v] w (LGot w (bitsOk ys v.toNat) (unpk ys v.toNat)) := by
  obtain ⟨n, rfl⟩ := Int.eq_ofNat_of_zero_le hv.1
  rw [Int.toNat_natCast]
  cases h : bitsOk ys n with
  | true =>
    refine (readBits_yes A m c n ys w hr hy hm h).mono fun e w' ⟨g, hg, he, hb, bel⟩ => ?_
    exact ⟨_, _, g, unpk ys n, 0, he, .inr ⟨rfl, by rw [List.append_nil]; exact hb⟩, unpk_length _ _, Nat.le_of_eq hg.out, bel, .inl ⟨rfl, rfl, rfl⟩⟩
  | false =>
    refine (readBits_no A m c n ys w hr hy hm (by omega) h).mono fun e w' ⟨he, bel⟩ => ?_
    exact ⟨_, _, w.heap.size, [], 4, he, .inl ⟨rfl, rfl⟩, rfl, Nat.le_refl _, bel, .inr ⟨rfl, rfl⟩⟩
theorem readWords_got (A : Option Addr) (m c : Nat) (v : Int) (ys : List Int) (w : World) (hr : Row .u8 w w.heap.size A ys) (hy : ys.length = m) (hc : m ≤ c) (hm : m ≤ 1000000) (hv : 0 ≤ v ∧ v < 65536) :
    Calls Try.prog 76 #[.slice A m c, .int .i64 v] w (WGot w (decide (ys.length = 2 * v.toNat)) (wwords ys)) := by
  obtain ⟨n, rfl⟩ := Int.eq_ofNat_of_zero_le hv.1
  rw [Int.toNat_natCast]
  by_cases h : m = 2 * n
  · refine (readWords_yes A m c n ys w hr hy hc hm h).mono fun e w' ⟨he, hw⟩ => ?_
    subst hw
    exact ⟨_, _, w.heap.size, wwords ys, 0, he, .inr ⟨rfl, by rw [List.append_nil]; exact heap_alloc_new w _⟩, by rw [wwords_length]; omega, Nat.le_refl _, bel_alloc w _, .inl ⟨decide_eq_true (by omega), rfl, rfl⟩⟩
  · refine (readWords_no A m c n ys w hr hy hc hm h).mono fun e w' ⟨he, bel⟩ => ?_
    exact ⟨_, _, w.heap.size, [], 4, he, .inl ⟨rfl, rfl⟩, rfl, Nat.le_refl _, bel, .inr ⟨decide_eq_false (by omega), rfl⟩⟩
theorem readParts_got (A : Option Addr) (m c : Nat) (ys : List Int) (w : World) (hr : Row .u8 w w.heap.size A ys) (hy : ys.length = m) (hc : m ≤ c) (hm : m ≤ 7000) :
    Calls Try.prog 72 #[.slice A m c] w (PGot w (partsOk ys) (flOf ys (ys.length / 7))) := by
  by_cases h : m % 7 = 0
  · obtain ⟨k, hk⟩ : ∃ k, m = 7 * k := ⟨m / 7, by omega⟩
    subst hk
    have e1 : partsOk ys = mkOk ys k := by rw [partsOk, hy, decide_eq_true h, Bool.true_and, Nat.mul_div_cancel_left k (by omega)]
    rw [e1, hy, Nat.mul_div_cancel_left k (by omega)]
    refine (readParts_loop A k c ys w hr hy hc (by omega)).mono fun e w' hp => ?_
    rcases hp with ⟨h1, v, he, ho, bel⟩ | ⟨h1, he, bel⟩
    · exact ⟨v, _, 0, he, ho, bel, .inl ⟨h1, rfl, rfl⟩⟩
    · exact ⟨_, [], 4, he, POwn.nil _ _ _, bel, .inr ⟨h1, rfl⟩⟩
  · refine (readParts_mod A m c w (by omega) h).mono fun e w' ⟨he, hw⟩ => ?_
    subst hw
    exact ⟨_, [], 4, he, POwn.nil _ _ _, Below.refl _ _, .inr ⟨by rw [partsOk, hy, decide_eq_false h]; rfl, rfl⟩⟩

theorem POwn.form {e : TypeId} {w : World} {base : Nat} {v : Value} {fl : List Int} (h : POwn e w base v fl) : ∃ A n c, v = .slice A n c := by
  rcases h with ⟨rfl, _⟩ | ⟨g, n, cap, r, rfl, _⟩
  · exact ⟨_, _, _, rfl⟩
  · exact ⟨_, _, _, rfl⟩
theorem L.Bk.set {w : World} {g g' : Nat} {l : List Bool} (h : L.Bk w g l) (hne : g ≠ g') (i : Nat) (u : Value) : L.Bk (w.setCell ⟨g', i, none⟩ u) g l := (Below.heap_setCell w ⟨g', i, none⟩ u g (by simpa using hne)).trans h
theorem W.Bk.set {w : World} {g g' : Nat} {l : List Int} (h : W.Bk w g l) (hne : g ≠ g') (i : Nat) (u : Value) : W.Bk (w.setCell ⟨g', i, none⟩ u) g l := (Below.heap_setCell w ⟨g', i, none⟩ u g (by simpa using hne)).trans h
theorem L.Li.set {w : World} {A : Option Addr} {m g g' : Nat} {l r : List Bool} (h : L.Li w A m g l r) (hne : g ≠ g') (i : Nat) (u : Value) : L.Li (w.setCell ⟨g', i, none⟩ u) A m g l r := by
  rcases h with h | ⟨h1, h2⟩
  · exact .inl h
  · exact .inr ⟨h1, h2.set hne i u⟩
theorem W.Li.set {w : World} {A : Option Addr} {m g g' : Nat} {l r : List Int} (h : W.Li w A m g l r) (hne : g ≠ g') (i : Nat) (u : Value) : W.Li (w.setCell ⟨g', i, none⟩ u) A m g l r := by
  rcases h with h | ⟨h1, h2⟩
  · exact .inl h
  · exact .inr ⟨h1, h2.set hne i u⟩
theorem L.Li.put6 {w : World} {A : Option Addr} {m g g' : Nat} {l r : List Bool} (h : L.Li w A m g l r) (hne : g ≠ g') (v0 v1 v2 v3 v4 v5 : Value) : L.Li (put6 w g' v0 v1 v2 v3 v4 v5) A m g l r :=
  (((((h.set hne 0 v0).set hne 1 v1).set hne 2 v2).set hne 3 v3).set hne 4 v4).set hne 5 v5
theorem W.Li.put6 {w : World} {A : Option Addr} {m g g' : Nat} {l r : List Int} (h : W.Li w A m g l r) (hne : g ≠ g') (v0 v1 v2 v3 v4 v5 : Value) : W.Li (put6 w g' v0 v1 v2 v3 v4 v5) A m g l r :=
  (((((h.set hne 0 v0).set hne 1 v1).set hne 2 v2).set hne 3 v3).set hne 4 v4).set hne 5 v5

set_option maxHeartbeats 600000 in
set_option maxRecDepth 100000 in
theorem read_coil (A : Option Addr) (n c : Nat) (ys : List Int) (w : World) (hr : Row .u8 w w.heap.size A ys) (hn : ys.length = n) (hc : n ≤ c) (hb : n ≤ 7000) (h5 : 5 ≤ n) (hv : nth ys 0 = 5) :
    Calls Try.prog 51 #[.slice A n c] w (Readd w ys) := by
  obtain ⟨b, o, rfl, hb1, hc1, hrg⟩ := row_head hr (by omega)
  rw [hv] at hc1
  have HN := Lib.hid hn
  have HR := Lib.hid hr
  have HQ : Hid (∀ (l : List Bool) (E : Int), (decide (at2 ys 3 = 65280 ∨ at2 ys 3 = 0) = true ∧ l = coilL (at2 ys 3) ∧ E = 0 ∨ decide (at2 ys 3 = 65280 ∨ at2 ys 3 = 0) = false ∧ E = 4) → (rdOk ys = true ∧ (⟨5, at2 ys 1, 0, l, [], []⟩ : Req) = rdQ ys ∧ E = 0 ∨ rdOk ys = false ∧ E = 4)) := Lib.hid (by
    have e1 : rdOk ys = decide (at2 ys 3 = 65280 ∨ at2 ys 3 = 0) := by unfold rdOk; rw [if_neg (by omega), if_pos hv]
    have e2 : rdQ ys = ⟨5, at2 ys 1, 0, coilL (at2 ys 3), [], []⟩ := by unfold rdQ; rw [if_neg (by omega), if_pos hv]
    rw [e1, e2]
    rintro l E (⟨h1, rfl, h3⟩ | h)
    · exact .inl ⟨h1, rfl, h3⟩
    · exact .inr h)
  clear hr hn hv hrg
  go_enter Try.func51, Try.ntmps51
  go_wp2_with fail
  refine (wordAt_at b o n c 1 _ rfl ys _ _ (by first | exact (HR.out.alloc (Nat.le_refl _) _).alloc (by simp) _) HN.out hc (by omega) (by omega)).mono ?_
  rintro e w' ⟨rfl, rfl⟩
  go_wp2_with fail
  refine (wordAt_at b o n c 3 _ rfl ys _ _ (by first | exact (HR.out.alloc (Nat.le_refl _) _).alloc (by simp) _) HN.out hc (by omega) (by omega)).mono ?_
  rintro e w' ⟨rfl, rfl⟩
  generalize at2 ys 1 = x at *
  generalize at2 ys 3 = y at *
  go_wp2_with fail
  refine (readCoil_got y _).mono ?_
  rintro e w1 ⟨A1, m1, g1, l1, E, rfl, li1, hl1, hg1, b1, hok⟩
  skip
  have hz : ((w.alloc (.cells #[.int .i64 0, .int .i64 0, .int .i64 0, .slice none 0 0, .slice none 0 0, .slice none 0 0] 26)).alloc (.cells #[.int .i64 5, .int .i64 x, .int .i64 0, .slice none 0 0, .slice none 0 0, .slice none 0 0] 26)).heap.size = w.heap.size + 1 + 1 := by simp
  rw [hz] at hg1
  have ret1 : Hid (w1.heap[w.heap.size]? = some (.cells #[.int .i64 0, .int .i64 0, .int .i64 0, .slice none 0 0, .slice none 0 0, .slice none 0 0] 26 (0, 0))) := Lib.hid ((b1.block w.heap.size (by rw [hz]; omega)).trans ((heap_alloc_old _ _ (by simp)).trans (heap_alloc_new w _)))
  have box1 : Hid (w1.heap[w.heap.size + 1]? = some (.cells #[.int .i64 5, .int .i64 x, .int .i64 0, .slice none 0 0, .slice none 0 0, .slice none 0 0] 26 (0, 0))) := Lib.hid ((b1.block (w.heap.size + 1) (by rw [hz]; omega)).trans (heap_new_at _ _ (by simp)))
  have bel1 : Below w.heap.size w w1 := ((bel_alloc w _).alloc (by simp) _).trans (b1.mono (by simp; omega))
  have hs1 : w.heap.size + 1 < w1.heap.size := by have := b1.size; rw [hz] at this; omega
  have HE := Lib.hid (HQ.out _ _ hok)
  have P1 := Lib.hid ((li1.set (g' := w.heap.size + 1) (by omega) 3 (.slice A1 m1 m1)).put6 (g' := w.heap.size) (by omega) (.int .i64 5) (.int .i64 x) (.int .i64 0) (.slice A1 m1 m1) (.slice none 0 0) (.slice none 0 0))
  have P4 := Lib.hid (below_put6 (below_setCell bel1 (Nat.le_succ _) 3 (.slice A1 m1 m1)) (g := w.heap.size) (Nat.le_refl _) (.int .i64 5) (.int .i64 x) (.int .i64 0) (.slice A1 m1 m1) (.slice none 0 0) (.slice none 0 0))
  have P5 := Lib.hid (put6_heap ((Below.heap_setCell w1 ⟨w.heap.size + 1, 3, none⟩ (.slice A1 m1 m1) w.heap.size (by simp)).trans ret1.out) (.int .i64 5) (.int .i64 x) (.int .i64 0) (.slice A1 m1 m1) (.slice none 0 0) (.slice none 0 0))
  have hl1 := Lib.hid hl1
  clear hok li1 b1 bel1 HQ hz
  obtain ⟨⟨c10, c11, c12⟩, ⟨c13, c14, c15⟩, c16⟩ := cells6 box1.out
  obtain ⟨⟨d10, d11, d12⟩, ⟨d13, d14, d15⟩, d16⟩ := cells6 ret1.out
  go_wp2
  (try simp only [Exit.inBlock, Exit.then])
  show bodyPost _ _ _ _ _ (put6 (w1.setCell ⟨w.heap.size + 1, 3, none⟩ (.slice A1 m1 m1)) w.heap.size (.int .i64 5) (.int .i64 x) (.int .i64 0) (.slice A1 m1 m1) (.slice none 0 0) (.slice none 0 0))
  generalize put6 (w1.setCell ⟨w.heap.size + 1, 3, none⟩ (.slice A1 m1 m1)) w.heap.size (.int .i64 5) (.int .i64 x) (.int .i64 0) (.slice A1 m1 m1) (.slice none 0 0) (.slice none 0 0) = w6 at *
  clear c10 c11 c12 c13 c14 c15 c16 d10 d11 d12 d13 d14 d15 d16
  obtain ⟨⟨d10, d11, d12⟩, ⟨d13, d14, d15⟩, d16⟩ := cells6 P5.out
  refine bodyPost_ret (v := .tuple #[.agg #[.int .i64 5, .int .i64 x, .int .i64 0, .slice A1 m1 m1, .slice none 0 0, .slice none 0 0], .int .i64 E]) (by simp [results, Try.results51, go_sem, d10, d11, d12, d13, d14, d15]) rfl ?_
  exact ⟨⟨5, x, 0, l1, [], []⟩, E, ⟨A1, none, m1, 0, g1, w.heap.size, _, rfl, P1.out, .inl ⟨rfl, rfl⟩, POwn.nil _ _ _, ⟨hl1.out, rfl⟩, ⟨by omega, Nat.le_refl _⟩, P4.out⟩, HE.out⟩

set_option maxHeartbeats 600000 in
set_option maxRecDepth 100000 in
theorem read_bits_far (A : Option Addr) (n c : Nat) (ys : List Int) (w : World) (hr : Row .u8 w w.heap.size A ys) (hn : ys.length = n) (hc : n ≤ c) (hb : n ≤ 7000) (h5 : 6 ≤ n) (hv : nth ys 0 = 15) (hck : ¬ c = 6) :
    Calls Try.prog 51 #[.slice A n c] w (Readd w ys) := by
  obtain ⟨b, o, rfl, hb1, hc1, hrg⟩ := row_head hr (by omega)
  rw [hv] at hc1
  have HN := Lib.hid hn
  have HR := Lib.hid hr
  have hyr := at2_range ys hr.1 3 (by omega)
  have HQ : Hid (∀ (l : List Bool) (E : Int), (bitsOk (ys.drop 6) (at2 ys 3).toNat = true ∧ l = unpk (ys.drop 6) (at2 ys 3).toNat ∧ E = 0 ∨ bitsOk (ys.drop 6) (at2 ys 3).toNat = false ∧ E = 4) → (rdOk ys = true ∧ (⟨15, at2 ys 1, 0, l, [], []⟩ : Req) = rdQ ys ∧ E = 0 ∨ rdOk ys = false ∧ E = 4)) := Lib.hid (by
    have e1 : rdOk ys = bitsOk (ys.drop 6) (at2 ys 3).toNat := by unfold rdOk; rw [if_neg (by omega), if_neg (by omega), if_pos hv]
    have e2 : rdQ ys = ⟨15, at2 ys 1, 0, unpk (ys.drop 6) (at2 ys 3).toNat, [], []⟩ := by unfold rdQ; rw [if_neg (by omega), if_neg (by omega), if_neg (by omega), if_pos hv]
    rw [e1, e2]
    rintro l E (⟨h1, rfl, h3⟩ | h)
    · exact .inl ⟨h1, rfl, h3⟩
    · exact .inr h)
  clear hr hn hv hrg
  go_enter Try.func51, Try.ntmps51
  go_wp2_with fail
  refine (wordAt_at b o n c 1 _ rfl ys _ _ (by first | exact (HR.out.alloc (Nat.le_refl _) _).alloc (by simp) _) HN.out hc (by omega) (by omega)).mono ?_
  rintro e w' ⟨rfl, rfl⟩
  go_wp2_with fail
  refine (wordAt_at b o n c 3 _ rfl ys _ _ (by first | exact (HR.out.alloc (Nat.le_refl _) _).alloc (by simp) _) HN.out hc (by omega) (by omega)).mono ?_
  rintro e w' ⟨rfl, rfl⟩
  generalize at2 ys 1 = x at *
  generalize at2 ys 3 = y at *
  go_wp2_with fail
  refine (readBits_got (some ⟨b, o + 6, none⟩) (n - 6) (c - 6) y (ys.drop 6) _ (by exact (((HR.out.drop 6).alloc (Nat.le_refl _) _).alloc (by simp) _).more (by simp; omega)) (by rw [List.length_drop, HN.out]) (by omega) hyr).mono ?_
  rintro e w1 ⟨A1, m1, g1, l1, E, rfl, li1, hl1, hg1, b1, hok⟩
  skip
  have hz : ((w.alloc (.cells #[.int .i64 0, .int .i64 0, .int .i64 0, .slice none 0 0, .slice none 0 0, .slice none 0 0] 26)).alloc (.cells #[.int .i64 15, .int .i64 x, .int .i64 0, .slice none 0 0, .slice none 0 0, .slice none 0 0] 26)).heap.size = w.heap.size + 1 + 1 := by simp
  rw [hz] at hg1
  have ret1 : Hid (w1.heap[w.heap.size]? = some (.cells #[.int .i64 0, .int .i64 0, .int .i64 0, .slice none 0 0, .slice none 0 0, .slice none 0 0] 26 (0, 0))) := Lib.hid ((b1.block w.heap.size (by rw [hz]; omega)).trans ((heap_alloc_old _ _ (by simp)).trans (heap_alloc_new w _)))
  have box1 : Hid (w1.heap[w.heap.size + 1]? = some (.cells #[.int .i64 15, .int .i64 x, .int .i64 0, .slice none 0 0, .slice none 0 0, .slice none 0 0] 26 (0, 0))) := Lib.hid ((b1.block (w.heap.size + 1) (by rw [hz]; omega)).trans (heap_new_at _ _ (by simp)))
  have bel1 : Below w.heap.size w w1 := ((bel_alloc w _).alloc (by simp) _).trans (b1.mono (by simp; omega))
  have hs1 : w.heap.size + 1 < w1.heap.size := by have := b1.size; rw [hz] at this; omega
  have HE := Lib.hid (HQ.out _ _ hok)
  have P1 := Lib.hid ((li1.set (g' := w.heap.size + 1) (by omega) 3 (.slice A1 m1 m1)).put6 (g' := w.heap.size) (by omega) (.int .i64 15) (.int .i64 x) (.int .i64 0) (.slice A1 m1 m1) (.slice none 0 0) (.slice none 0 0))
  have P4 := Lib.hid (below_put6 (below_setCell bel1 (Nat.le_succ _) 3 (.slice A1 m1 m1)) (g := w.heap.size) (Nat.le_refl _) (.int .i64 15) (.int .i64 x) (.int .i64 0) (.slice A1 m1 m1) (.slice none 0 0) (.slice none 0 0))
  have P5 := Lib.hid (put6_heap ((Below.heap_setCell w1 ⟨w.heap.size + 1, 3, none⟩ (.slice A1 m1 m1) w.heap.size (by simp)).trans ret1.out) (.int .i64 15) (.int .i64 x) (.int .i64 0) (.slice A1 m1 m1) (.slice none 0 0) (.slice none 0 0))
  have hl1 := Lib.hid hl1
  clear hok li1 b1 bel1 HQ hz
  obtain ⟨⟨c10, c11, c12⟩, ⟨c13, c14, c15⟩, c16⟩ := cells6 box1.out
  obtain ⟨⟨d10, d11, d12⟩, ⟨d13, d14, d15⟩, d16⟩ := cells6 ret1.out
  go_wp2
  (try simp only [Exit.inBlock, Exit.then])
  show bodyPost _ _ _ _ _ (put6 (w1.setCell ⟨w.heap.size + 1, 3, none⟩ (.slice A1 m1 m1)) w.heap.size (.int .i64 15) (.int .i64 x) (.int .i64 0) (.slice A1 m1 m1) (.slice none 0 0) (.slice none 0 0))
  generalize put6 (w1.setCell ⟨w.heap.size + 1, 3, none⟩ (.slice A1 m1 m1)) w.heap.size (.int .i64 15) (.int .i64 x) (.int .i64 0) (.slice A1 m1 m1) (.slice none 0 0) (.slice none 0 0) = w6 at *
  clear c10 c11 c12 c13 c14 c15 c16 d10 d11 d12 d13 d14 d15 d16
  obtain ⟨⟨d10, d11, d12⟩, ⟨d13, d14, d15⟩, d16⟩ := cells6 P5.out
  refine bodyPost_ret (v := .tuple #[.agg #[.int .i64 15, .int .i64 x, .int .i64 0, .slice A1 m1 m1, .slice none 0 0, .slice none 0 0], .int .i64 E]) (by simp [results, Try.results51, go_sem, d10, d11, d12, d13, d14, d15]) rfl ?_
  exact ⟨⟨15, x, 0, l1, [], []⟩, E, ⟨A1, none, m1, 0, g1, w.heap.size, _, rfl, P1.out, .inl ⟨rfl, rfl⟩, POwn.nil _ _ _, ⟨hl1.out, rfl⟩, ⟨by omega, Nat.le_refl _⟩, P4.out⟩, HE.out⟩

set_option maxHeartbeats 600000 in
set_option maxRecDepth 100000 in
theorem read_bits_at (A : Option Addr) (n c : Nat) (ys : List Int) (w : World) (hr : Row .u8 w w.heap.size A ys) (hn : ys.length = n) (hc : n ≤ c) (hb : n ≤ 7000) (h5 : 6 ≤ n) (hv : nth ys 0 = 15) (hck : c = 6) :
    Calls Try.prog 51 #[.slice A n c] w (Readd w ys) := by
  obtain rfl : n = 6 := by omega
  subst hck
  have HD : Hid (ys.drop 6 = []) := Lib.hid (List.drop_eq_nil_of_le (by omega))
  obtain ⟨b, o, rfl, hb1, hc1, hrg⟩ := row_head hr (by omega)
  rw [hv] at hc1
  have HN := Lib.hid hn
  have HR := Lib.hid hr
  have hyr := at2_range ys hr.1 3 (by omega)
  have HQ : Hid (∀ (l : List Bool) (E : Int), (bitsOk (ys.drop 6) (at2 ys 3).toNat = true ∧ l = unpk (ys.drop 6) (at2 ys 3).toNat ∧ E = 0 ∨ bitsOk (ys.drop 6) (at2 ys 3).toNat = false ∧ E = 4) → (rdOk ys = true ∧ (⟨15, at2 ys 1, 0, l, [], []⟩ : Req) = rdQ ys ∧ E = 0 ∨ rdOk ys = false ∧ E = 4)) := Lib.hid (by
    have e1 : rdOk ys = bitsOk (ys.drop 6) (at2 ys 3).toNat := by unfold rdOk; rw [if_neg (by omega), if_neg (by omega), if_pos hv]
    have e2 : rdQ ys = ⟨15, at2 ys 1, 0, unpk (ys.drop 6) (at2 ys 3).toNat, [], []⟩ := by unfold rdQ; rw [if_neg (by omega), if_neg (by omega), if_neg (by omega), if_pos hv]
    rw [e1, e2]
    rintro l E (⟨h1, rfl, h3⟩ | h)
    · exact .inl ⟨h1, rfl, h3⟩
    · exact .inr h)
  clear hr hn hv hrg
  go_enter Try.func51, Try.ntmps51
  go_wp2_with fail
  refine (wordAt_at b o 6 6 1 _ rfl ys _ _ (by first | exact (HR.out.alloc (Nat.le_refl _) _).alloc (by simp) _) HN.out (by omega) (by omega) (by omega)).mono ?_
  rintro e w' ⟨rfl, rfl⟩
  go_wp2_with fail
  refine (wordAt_at b o 6 6 3 _ rfl ys _ _ (by first | exact (HR.out.alloc (Nat.le_refl _) _).alloc (by simp) _) HN.out (by omega) (by omega) (by omega)).mono ?_
  rintro e w' ⟨rfl, rfl⟩
  generalize at2 ys 1 = x at *
  generalize at2 ys 3 = y at *
  go_wp2_with fail
  refine (readBits_got (some ⟨b, o, none⟩) 0 0 y (ys.drop 6) _ (by rw [HD.out]; exact Row.nil _ _ _ _) (by rw [HD.out]; rfl) (by omega) hyr).mono ?_
  rintro e w1 ⟨A1, m1, g1, l1, E, rfl, li1, hl1, hg1, b1, hok⟩
  skip
  have hz : ((w.alloc (.cells #[.int .i64 0, .int .i64 0, .int .i64 0, .slice none 0 0, .slice none 0 0, .slice none 0 0] 26)).alloc (.cells #[.int .i64 15, .int .i64 x, .int .i64 0, .slice none 0 0, .slice none 0 0, .slice none 0 0] 26)).heap.size = w.heap.size + 1 + 1 := by simp
  rw [hz] at hg1
  have ret1 : Hid (w1.heap[w.heap.size]? = some (.cells #[.int .i64 0, .int .i64 0, .int .i64 0, .slice none 0 0, .slice none 0 0, .slice none 0 0] 26 (0, 0))) := Lib.hid ((b1.block w.heap.size (by rw [hz]; omega)).trans ((heap_alloc_old _ _ (by simp)).trans (heap_alloc_new w _)))
  have box1 : Hid (w1.heap[w.heap.size + 1]? = some (.cells #[.int .i64 15, .int .i64 x, .int .i64 0, .slice none 0 0, .slice none 0 0, .slice none 0 0] 26 (0, 0))) := Lib.hid ((b1.block (w.heap.size + 1) (by rw [hz]; omega)).trans (heap_new_at _ _ (by simp)))
  have bel1 : Below w.heap.size w w1 := ((bel_alloc w _).alloc (by simp) _).trans (b1.mono (by simp; omega))
  have hs1 : w.heap.size + 1 < w1.heap.size := by have := b1.size; rw [hz] at this; omega
  have HE := Lib.hid (HQ.out _ _ hok)
  have P1 := Lib.hid ((li1.set (g' := w.heap.size + 1) (by omega) 3 (.slice A1 m1 m1)).put6 (g' := w.heap.size) (by omega) (.int .i64 15) (.int .i64 x) (.int .i64 0) (.slice A1 m1 m1) (.slice none 0 0) (.slice none 0 0))
  have P4 := Lib.hid (below_put6 (below_setCell bel1 (Nat.le_succ _) 3 (.slice A1 m1 m1)) (g := w.heap.size) (Nat.le_refl _) (.int .i64 15) (.int .i64 x) (.int .i64 0) (.slice A1 m1 m1) (.slice none 0 0) (.slice none 0 0))
  have P5 := Lib.hid (put6_heap ((Below.heap_setCell w1 ⟨w.heap.size + 1, 3, none⟩ (.slice A1 m1 m1) w.heap.size (by simp)).trans ret1.out) (.int .i64 15) (.int .i64 x) (.int .i64 0) (.slice A1 m1 m1) (.slice none 0 0) (.slice none 0 0))
  have hl1 := Lib.hid hl1
  clear hok li1 b1 bel1 HQ hz
  obtain ⟨⟨c10, c11, c12⟩, ⟨c13, c14, c15⟩, c16⟩ := cells6 box1.out
  obtain ⟨⟨d10, d11, d12⟩, ⟨d13, d14, d15⟩, d16⟩ := cells6 ret1.out
  go_wp2
  (try simp only [Exit.inBlock, Exit.then])
  show bodyPost _ _ _ _ _ (put6 (w1.setCell ⟨w.heap.size + 1, 3, none⟩ (.slice A1 m1 m1)) w.heap.size (.int .i64 15) (.int .i64 x) (.int .i64 0) (.slice A1 m1 m1) (.slice none 0 0) (.slice none 0 0))
  generalize put6 (w1.setCell ⟨w.heap.size + 1, 3, none⟩ (.slice A1 m1 m1)) w.heap.size (.int .i64 15) (.int .i64 x) (.int .i64 0) (.slice A1 m1 m1) (.slice none 0 0) (.slice none 0 0) = w6 at *
  clear c10 c11 c12 c13 c14 c15 c16 d10 d11 d12 d13 d14 d15 d16
  obtain ⟨⟨d10, d11, d12⟩, ⟨d13, d14, d15⟩, d16⟩ := cells6 P5.out
  refine bodyPost_ret (v := .tuple #[.agg #[.int .i64 15, .int .i64 x, .int .i64 0, .slice A1 m1 m1, .slice none 0 0, .slice none 0 0], .int .i64 E]) (by simp [results, Try.results51, go_sem, d10, d11, d12, d13, d14, d15]) rfl ?_
  exact ⟨⟨15, x, 0, l1, [], []⟩, E, ⟨A1, none, m1, 0, g1, w.heap.size, _, rfl, P1.out, .inl ⟨rfl, rfl⟩, POwn.nil _ _ _, ⟨hl1.out, rfl⟩, ⟨by omega, Nat.le_refl _⟩, P4.out⟩, HE.out⟩

theorem read_bits (A : Option Addr) (n c : Nat) (ys : List Int) (w : World) (hr : Row .u8 w w.heap.size A ys) (hn : ys.length = n) (hc : n ≤ c) (hb : n ≤ 7000) (h5 : 6 ≤ n) (hv : nth ys 0 = 15) :
    Calls Try.prog 51 #[.slice A n c] w (Readd w ys) := by
  by_cases h : c = 6
  · exact read_bits_at A n c ys w hr hn hc hb h5 hv h
  · exact read_bits_far A n c ys w hr hn hc hb h5 hv h

set_option maxHeartbeats 600000 in
set_option maxRecDepth 100000 in
theorem read_words_far (A : Option Addr) (n c : Nat) (ys : List Int) (w : World) (hr : Row .u8 w w.heap.size A ys) (hn : ys.length = n) (hc : n ≤ c) (hb : n ≤ 7000) (h5 : 6 ≤ n) (hv : nth ys 0 = 16) (hck : ¬ c = 6) :
    Calls Try.prog 51 #[.slice A n c] w (Readd w ys) := by
  obtain ⟨b, o, rfl, hb1, hc1, hrg⟩ := row_head hr (by omega)
  rw [hv] at hc1
  have HN := Lib.hid hn
  have HR := Lib.hid hr
  have hyr := at2_range ys hr.1 3 (by omega)
  have HQ : Hid (∀ (l : List Int) (E : Int), (decide ((ys.drop 6).length = 2 * (at2 ys 3).toNat) = true ∧ l = wwords (ys.drop 6) ∧ E = 0 ∨ decide ((ys.drop 6).length = 2 * (at2 ys 3).toNat) = false ∧ E = 4) → (rdOk ys = true ∧ (⟨16, at2 ys 1, 0, [], l, []⟩ : Req) = rdQ ys ∧ E = 0 ∨ rdOk ys = false ∧ E = 4)) := Lib.hid (by
    have e1 : rdOk ys = decide ((ys.drop 6).length = 2 * (at2 ys 3).toNat) := by unfold rdOk; rw [if_neg (by omega), if_neg (by omega), if_neg (by omega), if_pos hv]
    have e2 : rdQ ys = ⟨16, at2 ys 1, 0, [], wwords (ys.drop 6), []⟩ := by unfold rdQ; rw [if_neg (by omega), if_neg (by omega), if_neg (by omega), if_neg (by omega), if_pos hv]
    rw [e1, e2]
    rintro l E (⟨h1, rfl, h3⟩ | h)
    · exact .inl ⟨h1, rfl, h3⟩
    · exact .inr h)
  clear hr hn hv hrg
  go_enter Try.func51, Try.ntmps51
  go_wp2_with fail
  refine (wordAt_at b o n c 1 _ rfl ys _ _ (by first | exact (HR.out.alloc (Nat.le_refl _) _).alloc (by simp) _) HN.out hc (by omega) (by omega)).mono ?_
  rintro e w' ⟨rfl, rfl⟩
  go_wp2_with fail
  refine (wordAt_at b o n c 3 _ rfl ys _ _ (by first | exact (HR.out.alloc (Nat.le_refl _) _).alloc (by simp) _) HN.out hc (by omega) (by omega)).mono ?_
  rintro e w' ⟨rfl, rfl⟩
  generalize at2 ys 1 = x at *
  generalize at2 ys 3 = y at *
  go_wp2_with fail
  refine (readWords_got (some ⟨b, o + 6, none⟩) (n - 6) (c - 6) y (ys.drop 6) _ (by exact (((HR.out.drop 6).alloc (Nat.le_refl _) _).alloc (by simp) _).more (by simp; omega)) (by rw [List.length_drop, HN.out]) (by omega) (by omega) hyr).mono ?_
  rintro e w1 ⟨A1, m1, g1, l1, E, rfl, li1, hl1, hg1, b1, hok⟩
  skip
  have hz : ((w.alloc (.cells #[.int .i64 0, .int .i64 0, .int .i64 0, .slice none 0 0, .slice none 0 0, .slice none 0 0] 26)).alloc (.cells #[.int .i64 16, .int .i64 x, .int .i64 0, .slice none 0 0, .slice none 0 0, .slice none 0 0] 26)).heap.size = w.heap.size + 1 + 1 := by simp
  rw [hz] at hg1
  have ret1 : Hid (w1.heap[w.heap.size]? = some (.cells #[.int .i64 0, .int .i64 0, .int .i64 0, .slice none 0 0, .slice none 0 0, .slice none 0 0] 26 (0, 0))) := Lib.hid ((b1.block w.heap.size (by rw [hz]; omega)).trans ((heap_alloc_old _ _ (by simp)).trans (heap_alloc_new w _)))
  have box1 : Hid (w1.heap[w.heap.size + 1]? = some (.cells #[.int .i64 16, .int .i64 x, .int .i64 0, .slice none 0 0, .slice none 0 0, .slice none 0 0] 26 (0, 0))) := Lib.hid ((b1.block (w.heap.size + 1) (by rw [hz]; omega)).trans (heap_new_at _ _ (by simp)))
  have bel1 : Below w.heap.size w w1 := ((bel_alloc w _).alloc (by simp) _).trans (b1.mono (by simp; omega))
  have hs1 : w.heap.size + 1 < w1.heap.size := by have := b1.size; rw [hz] at this; omega
  have HE := Lib.hid (HQ.out _ _ hok)
  have P1 := Lib.hid ((li1.set (g' := w.heap.size + 1) (by omega) 4 (.slice A1 m1 m1)).put6 (g' := w.heap.size) (by omega) (.int .i64 16) (.int .i64 x) (.int .i64 0) (.slice none 0 0) (.slice A1 m1 m1) (.slice none 0 0))
  have P4 := Lib.hid (below_put6 (below_setCell bel1 (Nat.le_succ _) 4 (.slice A1 m1 m1)) (g := w.heap.size) (Nat.le_refl _) (.int .i64 16) (.int .i64 x) (.int .i64 0) (.slice none 0 0) (.slice A1 m1 m1) (.slice none 0 0))
  have P5 := Lib.hid (put6_heap ((Below.heap_setCell w1 ⟨w.heap.size + 1, 4, none⟩ (.slice A1 m1 m1) w.heap.size (by simp)).trans ret1.out) (.int .i64 16) (.int .i64 x) (.int .i64 0) (.slice none 0 0) (.slice A1 m1 m1) (.slice none 0 0))
  have hl1 := Lib.hid hl1
  clear hok li1 b1 bel1 HQ hz
  obtain ⟨⟨c10, c11, c12⟩, ⟨c13, c14, c15⟩, c16⟩ := cells6 box1.out
  obtain ⟨⟨d10, d11, d12⟩, ⟨d13, d14, d15⟩, d16⟩ := cells6 ret1.out
  go_wp2
  (try simp only [Exit.inBlock, Exit.then])
  show bodyPost _ _ _ _ _ (put6 (w1.setCell ⟨w.heap.size + 1, 4, none⟩ (.slice A1 m1 m1)) w.heap.size (.int .i64 16) (.int .i64 x) (.int .i64 0) (.slice none 0 0) (.slice A1 m1 m1) (.slice none 0 0))
  generalize put6 (w1.setCell ⟨w.heap.size + 1, 4, none⟩ (.slice A1 m1 m1)) w.heap.size (.int .i64 16) (.int .i64 x) (.int .i64 0) (.slice none 0 0) (.slice A1 m1 m1) (.slice none 0 0) = w6 at *
  clear c10 c11 c12 c13 c14 c15 c16 d10 d11 d12 d13 d14 d15 d16
  obtain ⟨⟨d10, d11, d12⟩, ⟨d13, d14, d15⟩, d16⟩ := cells6 P5.out
  refine bodyPost_ret (v := .tuple #[.agg #[.int .i64 16, .int .i64 x, .int .i64 0, .slice none 0 0, .slice A1 m1 m1, .slice none 0 0], .int .i64 E]) (by simp [results, Try.results51, go_sem, d10, d11, d12, d13, d14, d15]) rfl ?_
  exact ⟨⟨16, x, 0, [], l1, []⟩, E, ⟨none, A1, 0, m1, w.heap.size, g1, _, rfl, .inl ⟨rfl, rfl⟩, P1.out, POwn.nil _ _ _, ⟨rfl, hl1.out⟩, ⟨Nat.le_refl _, by omega⟩, P4.out⟩, HE.out⟩

set_option maxHeartbeats 600000 in
set_option maxRecDepth 100000 in
theorem read_words_at (A : Option Addr) (n c : Nat) (ys : List Int) (w : World) (hr : Row .u8 w w.heap.size A ys) (hn : ys.length = n) (hc : n ≤ c) (hb : n ≤ 7000) (h5 : 6 ≤ n) (hv : nth ys 0 = 16) (hck : c = 6) :
    Calls Try.prog 51 #[.slice A n c] w (Readd w ys) := by
  obtain rfl : n = 6 := by omega
  subst hck
  have HD : Hid (ys.drop 6 = []) := Lib.hid (List.drop_eq_nil_of_le (by omega))
  obtain ⟨b, o, rfl, hb1, hc1, hrg⟩ := row_head hr (by omega)
  rw [hv] at hc1
  have HN := Lib.hid hn
  have HR := Lib.hid hr
  have hyr := at2_range ys hr.1 3 (by omega)
  have HQ : Hid (∀ (l : List Int) (E : Int), (decide ((ys.drop 6).length = 2 * (at2 ys 3).toNat) = true ∧ l = wwords (ys.drop 6) ∧ E = 0 ∨ decide ((ys.drop 6).length = 2 * (at2 ys 3).toNat) = false ∧ E = 4) → (rdOk ys = true ∧ (⟨16, at2 ys 1, 0, [], l, []⟩ : Req) = rdQ ys ∧ E = 0 ∨ rdOk ys = false ∧ E = 4)) := Lib.hid (by
    have e1 : rdOk ys = decide ((ys.drop 6).length = 2 * (at2 ys 3).toNat) := by unfold rdOk; rw [if_neg (by omega), if_neg (by omega), if_neg (by omega), if_pos hv]
    have e2 : rdQ ys = ⟨16, at2 ys 1, 0, [], wwords (ys.drop 6), []⟩ := by unfold rdQ; rw [if_neg (by omega), if_neg (by omega), if_neg (by omega), if_neg (by omega), if_pos hv]
    rw [e1, e2]
    rintro l E (⟨h1, rfl, h3⟩ | h)
    · exact .inl ⟨h1, rfl, h3⟩
    · exact .inr h)
  clear hr hn hv hrg
  go_enter Try.func51, Try.ntmps51
  go_wp2_with fail
  refine (wordAt_at b o 6 6 1 _ rfl ys _ _ (by first | exact (HR.out.alloc (Nat.le_refl _) _).alloc (by simp) _) HN.out (by omega) (by omega) (by omega)).mono ?_
  rintro e w' ⟨rfl, rfl⟩
  go_wp2_with fail
  refine (wordAt_at b o 6 6 3 _ rfl ys _ _ (by first | exact (HR.out.alloc (Nat.le_refl _) _).alloc (by simp) _) HN.out (by omega) (by omega) (by omega)).mono ?_
  rintro e w' ⟨rfl, rfl⟩
  generalize at2 ys 1 = x at *
  generalize at2 ys 3 = y at *
  go_wp2_with fail
  refine (readWords_got (some ⟨b, o, none⟩) 0 0 y (ys.drop 6) _ (by rw [HD.out]; exact Row.nil _ _ _ _) (by rw [HD.out]; rfl) (by omega) (by omega) hyr).mono ?_
  rintro e w1 ⟨A1, m1, g1, l1, E, rfl, li1, hl1, hg1, b1, hok⟩
  skip
  have hz : ((w.alloc (.cells #[.int .i64 0, .int .i64 0, .int .i64 0, .slice none 0 0, .slice none 0 0, .slice none 0 0] 26)).alloc (.cells #[.int .i64 16, .int .i64 x, .int .i64 0, .slice none 0 0, .slice none 0 0, .slice none 0 0] 26)).heap.size = w.heap.size + 1 + 1 := by simp
  rw [hz] at hg1
  have ret1 : Hid (w1.heap[w.heap.size]? = some (.cells #[.int .i64 0, .int .i64 0, .int .i64 0, .slice none 0 0, .slice none 0 0, .slice none 0 0] 26 (0, 0))) := Lib.hid ((b1.block w.heap.size (by rw [hz]; omega)).trans ((heap_alloc_old _ _ (by simp)).trans (heap_alloc_new w _)))
  have box1 : Hid (w1.heap[w.heap.size + 1]? = some (.cells #[.int .i64 16, .int .i64 x, .int .i64 0, .slice none 0 0, .slice none 0 0, .slice none 0 0] 26 (0, 0))) := Lib.hid ((b1.block (w.heap.size + 1) (by rw [hz]; omega)).trans (heap_new_at _ _ (by simp)))
  have bel1 : Below w.heap.size w w1 := ((bel_alloc w _).alloc (by simp) _).trans (b1.mono (by simp; omega))
  have hs1 : w.heap.size + 1 < w1.heap.size := by have := b1.size; rw [hz] at this; omega
  have HE := Lib.hid (HQ.out _ _ hok)
  have P1 := Lib.hid ((li1.set (g' := w.heap.size + 1) (by omega) 4 (.slice A1 m1 m1)).put6 (g' := w.heap.size) (by omega) (.int .i64 16) (.int .i64 x) (.int .i64 0) (.slice none 0 0) (.slice A1 m1 m1) (.slice none 0 0))
  have P4 := Lib.hid (below_put6 (below_setCell bel1 (Nat.le_succ _) 4 (.slice A1 m1 m1)) (g := w.heap.size) (Nat.le_refl _) (.int .i64 16) (.int .i64 x) (.int .i64 0) (.slice none 0 0) (.slice A1 m1 m1) (.slice none 0 0))
  have P5 := Lib.hid (put6_heap ((Below.heap_setCell w1 ⟨w.heap.size + 1, 4, none⟩ (.slice A1 m1 m1) w.heap.size (by simp)).trans ret1.out) (.int .i64 16) (.int .i64 x) (.int .i64 0) (.slice none 0 0) (.slice A1 m1 m1) (.slice none 0 0))
  have hl1 := Lib.hid hl1
  clear hok li1 b1 bel1 HQ hz
  obtain ⟨⟨c10, c11, c12⟩, ⟨c13, c14, c15⟩, c16⟩ := cells6 box1.out
  obtain ⟨⟨d10, d11, d12⟩, ⟨d13, d14, d15⟩, d16⟩ := cells6 ret1.out
  go_wp2
  (try simp only [Exit.inBlock, Exit.then])
  show bodyPost _ _ _ _ _ (put6 (w1.setCell ⟨w.heap.size + 1, 4, none⟩ (.slice A1 m1 m1)) w.heap.size (.int .i64 16) (.int .i64 x) (.int .i64 0) (.slice none 0 0) (.slice A1 m1 m1) (.slice none 0 0))
  generalize put6 (w1.setCell ⟨w.heap.size + 1, 4, none⟩ (.slice A1 m1 m1)) w.heap.size (.int .i64 16) (.int .i64 x) (.int .i64 0) (.slice none 0 0) (.slice A1 m1 m1) (.slice none 0 0) = w6 at *
  clear c10 c11 c12 c13 c14 c15 c16 d10 d11 d12 d13 d14 d15 d16
  obtain ⟨⟨d10, d11, d12⟩, ⟨d13, d14, d15⟩, d16⟩ := cells6 P5.out
  refine bodyPost_ret (v := .tuple #[.agg #[.int .i64 16, .int .i64 x, .int .i64 0, .slice none 0 0, .slice A1 m1 m1, .slice none 0 0], .int .i64 E]) (by simp [results, Try.results51, go_sem, d10, d11, d12, d13, d14, d15]) rfl ?_
  exact ⟨⟨16, x, 0, [], l1, []⟩, E, ⟨none, A1, 0, m1, w.heap.size, g1, _, rfl, .inl ⟨rfl, rfl⟩, P1.out, POwn.nil _ _ _, ⟨rfl, hl1.out⟩, ⟨Nat.le_refl _, by omega⟩, P4.out⟩, HE.out⟩

theorem read_words (A : Option Addr) (n c : Nat) (ys : List Int) (w : World) (hr : Row .u8 w w.heap.size A ys) (hn : ys.length = n) (hc : n ≤ c) (hb : n ≤ 7000) (h5 : 6 ≤ n) (hv : nth ys 0 = 16) :
    Calls Try.prog 51 #[.slice A n c] w (Readd w ys) := by
  by_cases h : c = 6
  · exact read_words_at A n c ys w hr hn hc hb h5 hv h
  · exact read_words_far A n c ys w hr hn hc hb h5 hv h

set_option maxHeartbeats 600000 in
set_option maxRecDepth 100000 in
theorem read_file_far (A : Option Addr) (n c : Nat) (ys : List Int) (w : World) (hr : Row .u8 w w.heap.size A ys) (hn : ys.length = n) (hc : n ≤ c) (hb : n ≤ 7000) (h5 : 2 ≤ n) (hv : nth ys 0 = 20) (hck : ¬ c = 2) :
    Calls Try.prog 51 #[.slice A n c] w (Readd w ys) := by
  obtain ⟨b, o, rfl, hb1, hc1, hrg⟩ := row_head hr (by omega)
  rw [hv] at hc1
  have HN := Lib.hid hn
  have HR := Lib.hid hr
  have HQ : Hid (∀ (l : List Int) (E : Int), (partsOk (ys.drop 2) = true ∧ l = flOf (ys.drop 2) ((ys.drop 2).length / 7) ∧ E = 0 ∨ partsOk (ys.drop 2) = false ∧ E = 4) → (rdOk ys = true ∧ (⟨20, 0, 0, [], [], l⟩ : Req) = rdQ ys ∧ E = 0 ∨ rdOk ys = false ∧ E = 4)) := Lib.hid (by
    have e1 : rdOk ys = partsOk (ys.drop 2) := by unfold rdOk; rw [if_pos hv]
    have e2 : rdQ ys = ⟨20, 0, 0, [], [], flOf (ys.drop 2) ((ys.drop 2).length / 7)⟩ := by unfold rdQ; rw [if_pos hv]
    rw [e1, e2]
    rintro l E (⟨h1, rfl, h3⟩ | h)
    · exact .inl ⟨h1, rfl, h3⟩
    · exact .inr h)
  clear hr hn hv hrg
  go_enter Try.func51, Try.ntmps51

  go_wp2_with fail
  refine (readParts_got (some ⟨b, o + 2, none⟩) (n - 2) (c - 2) (ys.drop 2) _ (by exact (((HR.out.drop 2).alloc (Nat.le_refl _) _).alloc (by simp) _).more (by simp; omega)) (by rw [List.length_drop, HN.out]) (by omega) (by omega)).mono ?_
  rintro e w1 ⟨v1, l1, E, rfl, own1, b1, hok⟩
  obtain ⟨A1, n1, c1, rfl⟩ := own1.form
  have hz : ((w.alloc (.cells #[.int .i64 0, .int .i64 0, .int .i64 0, .slice none 0 0, .slice none 0 0, .slice none 0 0] 26)).alloc (.cells #[.int .i64 20, .int .i64 0, .int .i64 0, .slice none 0 0, .slice none 0 0, .slice none 0 0] 26)).heap.size = w.heap.size + 1 + 1 := by simp
  skip
  have ret1 : Hid (w1.heap[w.heap.size]? = some (.cells #[.int .i64 0, .int .i64 0, .int .i64 0, .slice none 0 0, .slice none 0 0, .slice none 0 0] 26 (0, 0))) := Lib.hid ((b1.block w.heap.size (by rw [hz]; omega)).trans ((heap_alloc_old _ _ (by simp)).trans (heap_alloc_new w _)))
  have box1 : Hid (w1.heap[w.heap.size + 1]? = some (.cells #[.int .i64 20, .int .i64 0, .int .i64 0, .slice none 0 0, .slice none 0 0, .slice none 0 0] 26 (0, 0))) := Lib.hid ((b1.block (w.heap.size + 1) (by rw [hz]; omega)).trans (heap_new_at _ _ (by simp)))
  have bel1 : Below w.heap.size w w1 := ((bel_alloc w _).alloc (by simp) _).trans (b1.mono (by simp; omega))
  have hs1 : w.heap.size + 1 < w1.heap.size := by have := b1.size; rw [hz] at this; omega
  have HE := Lib.hid (HQ.out _ _ hok)
  have P1 := Lib.hid (((own1.set (g := w.heap.size + 1) (by simp) 5 (.slice A1 n1 c1)).put6 (g := w.heap.size) (by simp; omega) (.int .i64 20) (.int .i64 0) (.int .i64 0) (.slice none 0 0) (.slice none 0 0) (.slice A1 n1 c1)).mono (base' := w.heap.size) (by simp; omega))
  have P4 := Lib.hid (below_put6 (below_setCell bel1 (Nat.le_succ _) 5 (.slice A1 n1 c1)) (g := w.heap.size) (Nat.le_refl _) (.int .i64 20) (.int .i64 0) (.int .i64 0) (.slice none 0 0) (.slice none 0 0) (.slice A1 n1 c1))
  have P5 := Lib.hid (put6_heap ((Below.heap_setCell w1 ⟨w.heap.size + 1, 5, none⟩ (.slice A1 n1 c1) w.heap.size (by simp)).trans ret1.out) (.int .i64 20) (.int .i64 0) (.int .i64 0) (.slice none 0 0) (.slice none 0 0) (.slice A1 n1 c1))
  skip
  clear hok own1 b1 bel1 HQ hz
  obtain ⟨⟨c10, c11, c12⟩, ⟨c13, c14, c15⟩, c16⟩ := cells6 box1.out
  obtain ⟨⟨d10, d11, d12⟩, ⟨d13, d14, d15⟩, d16⟩ := cells6 ret1.out
  go_wp2
  (try simp only [Exit.inBlock, Exit.then])
  show bodyPost _ _ _ _ _ (put6 (w1.setCell ⟨w.heap.size + 1, 5, none⟩ (.slice A1 n1 c1)) w.heap.size (.int .i64 20) (.int .i64 0) (.int .i64 0) (.slice none 0 0) (.slice none 0 0) (.slice A1 n1 c1))
  generalize put6 (w1.setCell ⟨w.heap.size + 1, 5, none⟩ (.slice A1 n1 c1)) w.heap.size (.int .i64 20) (.int .i64 0) (.int .i64 0) (.slice none 0 0) (.slice none 0 0) (.slice A1 n1 c1) = w6 at *
  clear c10 c11 c12 c13 c14 c15 c16 d10 d11 d12 d13 d14 d15 d16
  obtain ⟨⟨d10, d11, d12⟩, ⟨d13, d14, d15⟩, d16⟩ := cells6 P5.out
  refine bodyPost_ret (v := .tuple #[.agg #[.int .i64 20, .int .i64 0, .int .i64 0, .slice none 0 0, .slice none 0 0, .slice A1 n1 c1], .int .i64 E]) (by simp [results, Try.results51, go_sem, d10, d11, d12, d13, d14, d15]) rfl ?_
  exact ⟨⟨20, 0, 0, [], [], l1⟩, E, ⟨none, none, 0, 0, w.heap.size, w.heap.size, _, rfl, .inl ⟨rfl, rfl⟩, .inl ⟨rfl, rfl⟩, P1.out, ⟨rfl, rfl⟩, ⟨Nat.le_refl _, Nat.le_refl _⟩, P4.out⟩, HE.out⟩

set_option maxHeartbeats 600000 in
set_option maxRecDepth 100000 in
theorem read_file_at (A : Option Addr) (n c : Nat) (ys : List Int) (w : World) (hr : Row .u8 w w.heap.size A ys) (hn : ys.length = n) (hc : n ≤ c) (hb : n ≤ 7000) (h5 : 2 ≤ n) (hv : nth ys 0 = 20) (hck : c = 2) :
    Calls Try.prog 51 #[.slice A n c] w (Readd w ys) := by
  obtain rfl : n = 2 := by omega
  subst hck
  have HD : Hid (ys.drop 2 = []) := Lib.hid (List.drop_eq_nil_of_le (by omega))
  obtain ⟨b, o, rfl, hb1, hc1, hrg⟩ := row_head hr (by omega)
  rw [hv] at hc1
  have HN := Lib.hid hn
  have HR := Lib.hid hr
  have HQ : Hid (∀ (l : List Int) (E : Int), (partsOk (ys.drop 2) = true ∧ l = flOf (ys.drop 2) ((ys.drop 2).length / 7) ∧ E = 0 ∨ partsOk (ys.drop 2) = false ∧ E = 4) → (rdOk ys = true ∧ (⟨20, 0, 0, [], [], l⟩ : Req) = rdQ ys ∧ E = 0 ∨ rdOk ys = false ∧ E = 4)) := Lib.hid (by
    have e1 : rdOk ys = partsOk (ys.drop 2) := by unfold rdOk; rw [if_pos hv]
    have e2 : rdQ ys = ⟨20, 0, 0, [], [], flOf (ys.drop 2) ((ys.drop 2).length / 7)⟩ := by unfold rdQ; rw [if_pos hv]
    rw [e1, e2]
    rintro l E (⟨h1, rfl, h3⟩ | h)
    · exact .inl ⟨h1, rfl, h3⟩
    · exact .inr h)
  clear hr hn hv hrg
  go_enter Try.func51, Try.ntmps51

  go_wp2_with fail
  refine (readParts_got (some ⟨b, o, none⟩) 0 0 (ys.drop 2) _ (by rw [HD.out]; exact Row.nil _ _ _ _) (by rw [HD.out]; rfl) (by omega) (by omega)).mono ?_
  rintro e w1 ⟨v1, l1, E, rfl, own1, b1, hok⟩
  obtain ⟨A1, n1, c1, rfl⟩ := own1.form
  have hz : ((w.alloc (.cells #[.int .i64 0, .int .i64 0, .int .i64 0, .slice none 0 0, .slice none 0 0, .slice none 0 0] 26)).alloc (.cells #[.int .i64 20, .int .i64 0, .int .i64 0, .slice none 0 0, .slice none 0 0, .slice none 0 0] 26)).heap.size = w.heap.size + 1 + 1 := by simp
  skip
  have ret1 : Hid (w1.heap[w.heap.size]? = some (.cells #[.int .i64 0, .int .i64 0, .int .i64 0, .slice none 0 0, .slice none 0 0, .slice none 0 0] 26 (0, 0))) := Lib.hid ((b1.block w.heap.size (by rw [hz]; omega)).trans ((heap_alloc_old _ _ (by simp)).trans (heap_alloc_new w _)))
  have box1 : Hid (w1.heap[w.heap.size + 1]? = some (.cells #[.int .i64 20, .int .i64 0, .int .i64 0, .slice none 0 0, .slice none 0 0, .slice none 0 0] 26 (0, 0))) := Lib.hid ((b1.block (w.heap.size + 1) (by rw [hz]; omega)).trans (heap_new_at _ _ (by simp)))
  have bel1 : Below w.heap.size w w1 := ((bel_alloc w _).alloc (by simp) _).trans (b1.mono (by simp; omega))
  have hs1 : w.heap.size + 1 < w1.heap.size := by have := b1.size; rw [hz] at this; omega
  have HE := Lib.hid (HQ.out _ _ hok)
  have P1 := Lib.hid (((own1.set (g := w.heap.size + 1) (by simp) 5 (.slice A1 n1 c1)).put6 (g := w.heap.size) (by simp; omega) (.int .i64 20) (.int .i64 0) (.int .i64 0) (.slice none 0 0) (.slice none 0 0) (.slice A1 n1 c1)).mono (base' := w.heap.size) (by simp; omega))
  have P4 := Lib.hid (below_put6 (below_setCell bel1 (Nat.le_succ _) 5 (.slice A1 n1 c1)) (g := w.heap.size) (Nat.le_refl _) (.int .i64 20) (.int .i64 0) (.int .i64 0) (.slice none 0 0) (.slice none 0 0) (.slice A1 n1 c1))
  have P5 := Lib.hid (put6_heap ((Below.heap_setCell w1 ⟨w.heap.size + 1, 5, none⟩ (.slice A1 n1 c1) w.heap.size (by simp)).trans ret1.out) (.int .i64 20) (.int .i64 0) (.int .i64 0) (.slice none 0 0) (.slice none 0 0) (.slice A1 n1 c1))
  skip
  clear hok own1 b1 bel1 HQ hz
  obtain ⟨⟨c10, c11, c12⟩, ⟨c13, c14, c15⟩, c16⟩ := cells6 box1.out
  obtain ⟨⟨d10, d11, d12⟩, ⟨d13, d14, d15⟩, d16⟩ := cells6 ret1.out
  go_wp2
  (try simp only [Exit.inBlock, Exit.then])
  show bodyPost _ _ _ _ _ (put6 (w1.setCell ⟨w.heap.size + 1, 5, none⟩ (.slice A1 n1 c1)) w.heap.size (.int .i64 20) (.int .i64 0) (.int .i64 0) (.slice none 0 0) (.slice none 0 0) (.slice A1 n1 c1))
  generalize put6 (w1.setCell ⟨w.heap.size + 1, 5, none⟩ (.slice A1 n1 c1)) w.heap.size (.int .i64 20) (.int .i64 0) (.int .i64 0) (.slice none 0 0) (.slice none 0 0) (.slice A1 n1 c1) = w6 at *
  clear c10 c11 c12 c13 c14 c15 c16 d10 d11 d12 d13 d14 d15 d16
  obtain ⟨⟨d10, d11, d12⟩, ⟨d13, d14, d15⟩, d16⟩ := cells6 P5.out
  refine bodyPost_ret (v := .tuple #[.agg #[.int .i64 20, .int .i64 0, .int .i64 0, .slice none 0 0, .slice none 0 0, .slice A1 n1 c1], .int .i64 E]) (by simp [results, Try.results51, go_sem, d10, d11, d12, d13, d14, d15]) rfl ?_
  exact ⟨⟨20, 0, 0, [], [], l1⟩, E, ⟨none, none, 0, 0, w.heap.size, w.heap.size, _, rfl, .inl ⟨rfl, rfl⟩, .inl ⟨rfl, rfl⟩, P1.out, ⟨rfl, rfl⟩, ⟨Nat.le_refl _, Nat.le_refl _⟩, P4.out⟩, HE.out⟩

theorem read_file (A : Option Addr) (n c : Nat) (ys : List Int) (w : World) (hr : Row .u8 w w.heap.size A ys) (hn : ys.length = n) (hc : n ≤ c) (hb : n ≤ 7000) (h5 : 2 ≤ n) (hv : nth ys 0 = 20) :
    Calls Try.prog 51 #[.slice A n c] w (Readd w ys) := by
  by_cases h : c = 2
  · exact read_file_at A n c ys w hr hn hc hb h5 hv h
  · exact read_file_far A n c ys w hr hn hc hb h5 hv h

set_option maxHeartbeats 600000 in
set_option maxRecDepth 100000 in
theorem read_reg (A : Option Addr) (n c : Nat) (ys : List Int) (w : World) (hr : Row .u8 w w.heap.size A ys) (hn : ys.length = n) (hc : n ≤ c) (hb : n ≤ 100000) (h5 : 5 ≤ n) (hv : nth ys 0 = 6) :
    Calls Try.prog 51 #[.slice A n c] w (Told w (rdQ ys) 0) := by
  obtain ⟨b, o, rfl, hb1, hc1, hrg⟩ := row_head hr (by omega)
  rw [hv] at hc1
  have hyr := at2_range ys hr.1 3 (by omega)
  have HN := Lib.hid hn
  have HR := Lib.hid hr
  have HQ : Hid (rdQ ys = ⟨6, at2 ys 1, 0, [], [at2 ys 3], []⟩) := Lib.hid (by unfold rdQ; rw [if_neg (by omega), if_neg (by omega), if_pos hv])
  rw [HQ.out]
  clear hr hn HQ hv hrg
  go_enter Try.func51, Try.ntmps51
  go_wp2_with fail
  refine (wordAt_at b o n c 1 _ rfl ys _ _ (by first | exact (HR.out.alloc (Nat.le_refl _) _).alloc (by simp) _) HN.out hc hb (by omega)).mono ?_
  rintro e w' ⟨rfl, rfl⟩
  go_wp2_with fail
  refine (wordAt_at b o n c 3 _ rfl ys _ _ (by first | exact (HR.out.alloc (Nat.le_refl _) _).alloc (by simp) _) HN.out hc hb (by omega)).mono ?_
  rintro e w' ⟨rfl, rfl⟩
  generalize at2 ys 1 = x at *
  generalize at2 ys 3 = y at *
  have e1 : IntKind.u16.wrap y = y := by rw [IntKind.wrap_u16]; omega
  go_wp2
  (try simp only [Exit.inBlock, Exit.then])
  refine bodyPost_ret (v := .tuple #[.agg #[.int .i64 6, .int .i64 x, .int .i64 0, .slice none 0 0, .slice (some ⟨w.heap.size + 1 + 1, 0, none⟩) 1 1, .slice none 0 0], .int .i64 0]) (by simp [results, Try.results51, go_sem]) rfl ?_
  exact ⟨none, _, 0, 1, w.heap.size, w.heap.size + 1 + 1, _, rfl, .inl ⟨rfl, rfl⟩, .inr ⟨rfl, heap_new_at _ _ (by simp)⟩, POwn.nil _ _ _, ⟨rfl, rfl⟩, ⟨Nat.le_refl _, by omega⟩, ((bel_alloc w _).alloc (by simp) _).alloc (by simp; omega) _⟩

/-- read, of bytes of the right size. -/
theorem read_any (A : Option Addr) (n c : Nat) (ys : List Int) (w : World) (hr : Row .u8 w w.heap.size A ys) (hn : ys.length = n) (hc : n ≤ c) (h1 : 1 ≤ n) (hb : n ≤ 7000) (hm : 0 < mm (nth ys 0)) (hs : (n : Int) = szOf ys) :
    Calls Try.prog 51 #[.slice A n c] w (Readd w ys) := by
  have hw : ∀ i, i < n → 0 ≤ nth ys i := fun i hi => (wf_u8 (hr.1 _ (nth_mem ys i (by omega)))).1
  have h2 : nth ys 0 ≠ 20 → 5 ≤ n := by
    intro h20
    unfold szOf at hs
    rw [if_neg h20] at hs
    split at hs
    · split at hs
      · omega
      · have := hw 5 (by omega); omega
    · omega
  have h6 : nth ys 0 = 15 ∨ nth ys 0 = 16 → 6 ≤ n := by
    intro h
    unfold szOf at hs
    rw [if_pos h] at hs
    split at hs
    · omega
    · omega
  have h20 : nth ys 0 = 20 → 2 ≤ n := by
    intro h
    unfold szOf at hs
    rw [if_neg (by omega), if_pos h] at hs
    split at hs
    · omega
    · omega
  rcases mm_pos hm with h | h | h | h | h | h | h | h | h
  · exact (read_plain A n c ys w hr hn hc (by omega) (h2 (by omega)) (by omega)).mono fun e w' ht => ⟨_, _, ht, .inl ⟨by unfold rdOk; simp [h], rfl, rfl⟩⟩
  · exact (read_plain A n c ys w hr hn hc (by omega) (h2 (by omega)) (by omega)).mono fun e w' ht => ⟨_, _, ht, .inl ⟨by unfold rdOk; simp [h], rfl, rfl⟩⟩
  · exact (read_plain A n c ys w hr hn hc (by omega) (h2 (by omega)) (by omega)).mono fun e w' ht => ⟨_, _, ht, .inl ⟨by unfold rdOk; simp [h], rfl, rfl⟩⟩
  · exact (read_plain A n c ys w hr hn hc (by omega) (h2 (by omega)) (by omega)).mono fun e w' ht => ⟨_, _, ht, .inl ⟨by unfold rdOk; simp [h], rfl, rfl⟩⟩
  · exact read_coil A n c ys w hr hn hc hb (h2 (by omega)) h
  · exact (read_reg A n c ys w hr hn hc (by omega) (h2 (by omega)) h).mono fun e w' ht => ⟨_, _, ht, .inl ⟨by unfold rdOk; simp [h], rfl, rfl⟩⟩
  · exact read_bits A n c ys w hr hn hc hb (h6 (by omega)) h
  · exact read_words A n c ys w hr hn hc hb (h6 (by omega)) h
  · exact read_file A n c ys w hr hn hc hb (h20 h) h
end Go.Proofs.Ytojjcmkadmofdaa
