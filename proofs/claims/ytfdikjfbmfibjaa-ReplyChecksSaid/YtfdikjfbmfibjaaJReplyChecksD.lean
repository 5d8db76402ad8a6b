/-
  Texts of the proof of ReplyChecks, joined.
-/
import Derived.Test.YtfdikjfbmfibjaaJReplyChecksC
import Derived.Test.YtfdikjfbmfibjaaJReplyChecksB
namespace Go.Proofs.Ytfdikjfbmfibjaa
open Go.RowKit
set_option linter.unusedVariables false

/-- What read tells: the request that the bytes say, or that they say none. -/
def Readd (w : World) (ys : List Int) (e : Ending) (w' : World) : Prop :=
  ∃ q E, Told w q E e w' ∧ (rdOk ys = true ∧ q = rdQ ys ∧ E = 0 ∨ rdOk ys = false ∧ E = 4)
/-- A list of bits that a call has made, and a number. -/
def LGot (w : World) (ok : Bool) (l0 : List Bool) (e : Ending) (w' : World) : Prop :=
  ∃ (A : Option Addr) (m g : Nat) (l : List Bool) (E : Int), e = .returned (.tuple #[.slice A m m, .int .i64 E]) ∧ L.Li w' A m g l [] ∧ l.length = m ∧ w.heap.size ≤ g ∧ Below w.heap.size w w' ∧ (ok = true ∧ l = l0 ∧ E = 0 ∨ ok = false ∧ E = 4)
def WGot (w : World) (ok : Bool) (l0 : List Int) (e : Ending) (w' : World) : Prop :=
  ∃ (A : Option Addr) (m g : Nat) (l : List Int) (E : Int), e = .returned (.tuple #[.slice A m m, .int .i64 E]) ∧ W.Li w' A m g l [] ∧ l.length = m ∧ w.heap.size ≤ g ∧ Below w.heap.size w w' ∧ (ok = true ∧ l = l0 ∧ E = 0 ∨ ok = false ∧ E = 4)
def PGot (w : World) (ok : Bool) (l0 : List Int) (e : Ending) (w' : World) : Prop :=
  ∃ (v : Value) (l : List Int) (E : Int), e = .returned (.tuple #[v, .int .i64 E]) ∧ POwn 61 w' w.heap.size v l ∧ Below w.heap.size w w' ∧ (ok = true ∧ l = l0 ∧ E = 0 ∨ ok = false ∧ E = 4)

theorem readCoil_got (m : Int) (w : World) : Calls Try.prog 101 #[.int .i64 m] w (LGot w (decide (m = 65280 ∨ m = 0)) (coilL m)) := by
  by_cases h : m = 65280 ∨ m = 0
  · refine (readCoil_yes m w h).mono fun e w' ⟨he, hw⟩ => ?_
    subst hw
    exact ⟨_, _, w.heap.size, coilL m, 0, he, .inr ⟨rfl, by rw [List.append_nil]; exact heap_alloc_new w _⟩, by rcases h with rfl | rfl <;> rfl, Nat.le_refl _, bel_alloc w _, .inl ⟨decide_eq_true h, rfl, rfl⟩⟩
  · refine (readCoil_no m w (by omega)).mono fun e w' ⟨he, hw⟩ => ?_
    subst hw
    exact ⟨_, _, w.heap.size, [], 4, he, .inl ⟨rfl, rfl⟩, rfl, Nat.le_refl _, Below.refl _ _, .inr ⟨decide_eq_false h, rfl⟩⟩
theorem readBits_got (A : Option Addr) (m c : Nat) (v : Int) (ys : List Int) (w : World) (hr : Row .u8 w w.heap.size A ys) (hy : ys.length = m) (hm : m ≤ 1000000) (hv : 0 ≤ v ∧ v < 65536) :
    Calls Try.prog 102 #[.slice A m c, .int .i64 v] w (LGot w (bitsOk ys v.toNat) (unpk ys v.toNat)) := by
  obtain ⟨n, rfl⟩ := Int.eq_ofNat_of_zero_le hv.1
  rw [Int.toNat_natCast]
  cases h : bitsOk ys n with
  | true =>
    refine (readBits_yes A m c n ys w hr hy hm h).mono fun e w' ⟨g, hg, he, hb, bel⟩ => ?_
    exact ⟨_, _, g, unpk ys n, 0, he, .inr ⟨rfl, by rw [List.append_nil]; exact hb⟩, unpk_length _ _, Nat.le_of_eq hg.out, bel, .inl ⟨rfl, rfl, rfl⟩⟩
  | false =>
    refine (readBits_no A m c n ys w hr hy hm (by omega) h).mono fun e w' ⟨he, bel⟩ => ?_
    exact ⟨_, _, w.heap.size, [], 4, he, .inl ⟨rfl, rfl⟩, rfl, Nat.le_refl _, bel, .inr ⟨rfl, rfl⟩⟩
theorem readWords_got (A : Option Addr) (m c : Nat) (v : Int) (ys : List Int) (w : World) (hr : Row .u8 w w.heap.size A ys) (hy : ys.length = m) (hc : m ≤ c) (hm : m ≤ 1000000) (hv : 0 ≤ v ∧ v < 65536) :
    Calls Try.prog 103 #[.slice A m c, .int .i64 v] w (WGot w (decide (ys.length = 2 * v.toNat)) (wwords ys)) := by
  obtain ⟨n, rfl⟩ := Int.eq_ofNat_of_zero_le hv.1
  rw [Int.toNat_natCast]
  by_cases h : m = 2 * n
  · refine (readWords_yes A m c n ys w hr hy hc hm h).mono fun e w' ⟨he, hw⟩ => ?_
    subst hw
    exact ⟨_, _, w.heap.size, wwords ys, 0, he, .inr ⟨rfl, by rw [List.append_nil]; exact heap_alloc_new w _⟩, by rw [wwords_length]; omega, Nat.le_refl _, bel_alloc w _, .inl ⟨decide_eq_true (by omega), rfl, rfl⟩⟩
  · refine (readWords_no A m c n ys w hr hy hc hm h).mono fun e w' ⟨he, bel⟩ => ?_
    exact ⟨_, _, w.heap.size, [], 4, he, .inl ⟨rfl, rfl⟩, rfl, Nat.le_refl _, bel, .inr ⟨decide_eq_false (by omega), rfl⟩⟩
theorem readParts_got (A : Option Addr) (m c : Nat) (ys : List Int) (w : World) (hr : Row .u8 w w.heap.size A ys) (hy : ys.length = m) (hc : m ≤ c) (hm : m ≤ 7000) :
    Calls Try.prog 99 #[.slice A m c] w (PGot w (partsOk ys) (flOf ys (ys.length / 7))) := by
  by_cases h : m % 7 = 0
  · obtain ⟨k, hk⟩ : ∃ k, m = 7 * k := ⟨m / 7, by omega⟩
    subst hk
    have e1 : partsOk ys = mkOk ys k := by rw [partsOk, hy, decide_eq_true h, Bool.true_and, Nat.mul_div_cancel_left k (by omega)]
    rw [e1, hy, Nat.mul_div_cancel_left k (by omega)]
    refine (readParts_loop A k c ys w hr hy hc (by omega)).mono fun e w' hp => ?_
    rcases hp with ⟨h1, v, he, ho, bel⟩ | ⟨h1, he, bel⟩
    · exact ⟨v, _, 0, he, ho, bel, .inl ⟨h1, rfl, rfl⟩⟩
    · exact ⟨_, [], 4, he, POwn.nil _ _ _, bel, .inr ⟨h1, rfl⟩⟩
  · refine (readParts_mod A m c w (by omega) h).mono fun e w' ⟨he, hw⟩ => ?_
    subst hw
    exact ⟨_, [], 4, he, POwn.nil _ _ _, Below.refl _ _, .inr ⟨by rw [partsOk, hy, decide_eq_false h]; rfl, rfl⟩⟩

theorem POwn.form {e : TypeId} {w : World} {base : Nat} {v : Value} {fl : List Int} (h : POwn e w base v fl) : ∃ A n c, v = .slice A n c := by
  rcases h with ⟨rfl, _⟩ | ⟨g, n, cap, r, rfl, _⟩
  · exact ⟨_, _, _, rfl⟩
  · exact ⟨_, _, _, rfl⟩
theorem L.Bk.set {w : World} {g g' : Nat} {l : List Bool} (h : L.Bk w g l) (hne : g ≠ g') (i : Nat) (u : Value) : L.Bk (w.setCell ⟨g', i, none⟩ u) g l := (Below.heap_setCell w ⟨g', i, none⟩ u g (by simpa using hne)).trans h
theorem W.Bk.set {w : World} {g g' : Nat} {l : List Int} (h : W.Bk w g l) (hne : g ≠ g') (i : Nat) (u : Value) : W.Bk (w.setCell ⟨g', i, none⟩ u) g l := (Below.heap_setCell w ⟨g', i, none⟩ u g (by simpa using hne)).trans h
theorem L.Li.set {w : World} {A : Option Addr} {m g g' : Nat} {l r : List Bool} (h : L.Li w A m g l r) (hne : g ≠ g') (i : Nat) (u : Value) : L.Li (w.setCell ⟨g', i, none⟩ u) A m g l r := by
  rcases h with h | ⟨h1, h2⟩
  · exact .inl h
  · exact .inr ⟨h1, h2.set hne i u⟩
theorem W.Li.set {w : World} {A : Option Addr} {m g g' : Nat} {l r : List Int} (h : W.Li w A m g l r) (hne : g ≠ g') (i : Nat) (u : Value) : W.Li (w.setCell ⟨g', i, none⟩ u) A m g l r := by
  rcases h with h | ⟨h1, h2⟩
  · exact .inl h
  · exact .inr ⟨h1, h2.set hne i u⟩
theorem L.Li.put6 {w : World} {A : Option Addr} {m g g' : Nat} {l r : List Bool} (h : L.Li w A m g l r) (hne : g ≠ g') (v0 v1 v2 v3 v4 v5 : Value) : L.Li (put6 w g' v0 v1 v2 v3 v4 v5) A m g l r :=
  (((((h.set hne 0 v0).set hne 1 v1).set hne 2 v2).set hne 3 v3).set hne 4 v4).set hne 5 v5
theorem W.Li.put6 {w : World} {A : Option Addr} {m g g' : Nat} {l r : List Int} (h : W.Li w A m g l r) (hne : g ≠ g') (v0 v1 v2 v3 v4 v5 : Value) : W.Li (put6 w g' v0 v1 v2 v3 v4 v5) A m g l r :=
  (((((h.set hne 0 v0).set hne 1 v1).set hne 2 v2).set hne 3 v3).set hne 4 v4).set hne 5 v5

set_option maxHeartbeats 600000 in
set_option maxRecDepth 100000 in
theorem read_coil (A : Option Addr) (n c : Nat) (ys : List Int) (w : World) (hr : Row .u8 w w.heap.size A ys) (hn : ys.length = n) (hc : n ≤ c) (hb : n ≤ 7000) (h5 : 5 ≤ n) (hv : nth ys 0 = 5) :
    Calls Try.prog 68 #[.slice A n c] w (Readd w ys) := by
  obtain ⟨b, o, rfl, hb1, hc1, hrg⟩ := row_head hr (by omega)
  rw [hv] at hc1
  have HN := Lib.hid hn
  have HR := Lib.hid hr
  have HQ : Hid (∀ (l : List Bool) (E : Int), (decide (at2 ys 3 = 65280 ∨ at2 ys 3 = 0) = true ∧ l = coilL (at2 ys 3) ∧ E = 0 ∨ decide (at2 ys 3 = 65280 ∨ at2 ys 3 = 0) = false ∧ E = 4) → (rdOk ys = true ∧ (⟨5, at2 ys 1, 0, l, [], []⟩ : Req) = rdQ ys ∧ E = 0 ∨ rdOk ys = false ∧ E = 4)) := Lib.hid (by
    have e1 : rdOk ys = decide (at2 ys 3 = 65280 ∨ at2 ys 3 = 0) := by unfold rdOk; rw [if_neg (by omega), if_pos hv]
    have e2 : rdQ ys = ⟨5, at2 ys 1, 0, coilL (at2 ys 3), [], []⟩ := by unfold rdQ; rw [if_neg (by omega), if_pos hv]
    rw [e1, e2]
    rintro l E (⟨h1, rfl, h3⟩ | h)
    · exact .inl ⟨h1, rfl, h3⟩
    · exact .inr h)
  clear hr hn hv hrg
  go_enter Try.func68, Try.ntmps68
  go_wp2_with fail
  refine (wordAt_at b o n c 1 _ rfl ys _ _ (by first | exact (HR.out.alloc (Nat.le_refl _) _).alloc (by simp) _) HN.out hc (by omega) (by omega)).mono ?_
  rintro e w' ⟨rfl, rfl⟩
  go_wp2_with fail
  refine (wordAt_at b o n c 3 _ rfl ys _ _ (by first | exact (HR.out.alloc (Nat.le_refl _) _).alloc (by simp) _) HN.out hc (by omega) (by omega)).mono ?_
  rintro e w' ⟨rfl, rfl⟩
  generalize at2 ys 1 = x at *
  generalize at2 ys 3 = y at *
  go_wp2_with fail
  refine (readCoil_got y _).mono ?_
  rintro e w1 ⟨A1, m1, g1, l1, E, rfl, li1, hl1, hg1, b1, hok⟩
  skip
  have hz : ((w.alloc (.cells #[.int .i64 0, .int .i64 0, .int .i64 0, .slice none 0 0, .slice none 0 0, .slice none 0 0] 26)).alloc (.cells #[.int .i64 5, .int .i64 x, .int .i64 0, .slice none 0 0, .slice none 0 0, .slice none 0 0] 26)).heap.size = w.heap.size + 1 + 1 := by simp
  rw [hz] at hg1
  have ret1 : Hid (w1.heap[w.heap.size]? = some (.cells #[.int .i64 0, .int .i64 0, .int .i64 0, .slice none 0 0, .slice none 0 0, .slice none 0 0] 26 (0, 0))) := Lib.hid ((b1.block w.heap.size (by rw [hz]; omega)).trans ((heap_alloc_old _ _ (by simp)).trans (heap_alloc_new w _)))
  have box1 : Hid (w1.heap[w.heap.size + 1]? = some (.cells #[.int .i64 5, .int .i64 x, .int .i64 0, .slice none 0 0, .slice none 0 0, .slice none 0 0] 26 (0, 0))) := Lib.hid ((b1.block (w.heap.size + 1) (by rw [hz]; omega)).trans (heap_new_at _ _ (by simp)))
  have bel1 : Below w.heap.size w w1 := ((bel_alloc w _).alloc (by simp) _).trans (b1.mono (by simp; omega))
  have hs1 : w.heap.size + 1 < w1.heap.size := by have := b1.size; rw [hz] at this; omega
  have HE := Lib.hid (HQ.out _ _ hok)
  have P1 := Lib.hid ((li1.set (g' := w.heap.size + 1) (by omega) 3 (.slice A1 m1 m1)).put6 (g' := w.heap.size) (by omega) (.int .i64 5) (.int .i64 x) (.int .i64 0) (.slice A1 m1 m1) (.slice none 0 0) (.slice none 0 0))
  have P4 := Lib.hid (below_put6 (below_setCell bel1 (Nat.le_succ _) 3 (.slice A1 m1 m1)) (g := w.heap.size) (Nat.le_refl _) (.int .i64 5) (.int .i64 x) (.int .i64 0) (.slice A1 m1 m1) (.slice none 0 0) (.slice none 0 0))
  have P5 := Lib.hid (put6_heap ((Below.heap_setCell w1 ⟨w.heap.size + 1, 3, none⟩ (.slice A1 m1 m1) w.heap.size (by simp)).trans ret1.out) (.int .i64 5) (.int .i64 x) (.int .i64 0) (.slice A1 m1 m1) (.slice none 0 0) (.slice none 0 0))
  have hl1 := Lib.hid hl1
  clear hok li1 b1 bel1 HQ hz
  obtain ⟨⟨c10, c11, c12⟩, ⟨c13, c14, c15⟩, c16⟩ := cells6 box1.out
  obtain ⟨⟨d10, d11, d12⟩, ⟨d13, d14, d15⟩, d16⟩ := cells6 ret1.out
  go_wp2
  (try simp only [Exit.inBlock, Exit.then])
  show bodyPost _ _ _ _ _ (put6 (w1.setCell ⟨w.heap.size + 1, 3, none⟩ (.slice A1 m1 m1)) w.heap.size (.int .i64 5) (.int .i64 x) (.int .i64 0) (.slice A1 m1 m1) (.slice none 0 0) (.slice none 0 0))
  generalize put6 (w1.setCell ⟨w.heap.size + 1, 3, none⟩ (.slice A1 m1 m1)) w.heap.size (.int .i64 5) (.int .i64 x) (.int .i64 0) (.slice A1 m1 m1) (.slice none 0 0) (.slice none 0 0) = w6 at *
  clear c10 c11 c12 c13 c14 c15 c16 d10 d11 d12 d13 d14 d15 d16
  obtain ⟨⟨d10, d11, d12⟩, ⟨d13, d14, d15⟩, d16⟩ := cells6 P5.out
  refine bodyPost_ret (v := .tuple #[.agg #[.int .i64 5, .int .i64 x, .int .i64 0, .slice A1 m1 m1, .slice none 0 0, .slice none 0 0], .int .i64 E]) (by simp [results, Try.results68, go_sem, d10, d11, d12, d13, d14, d15]) rfl ?_
  exact ⟨⟨5, x, 0, l1, [], []⟩, E, ⟨A1, none, m1, 0, g1, w.heap.size, _, rfl, P1.out, .inl ⟨rfl, rfl⟩, POwn.nil _ _ _, ⟨hl1.out, rfl⟩, ⟨by omega, Nat.le_refl _⟩, P4.out⟩, HE.out⟩

set_option maxHeartbeats 600000 in
set_option maxRecDepth 100000 in
theorem read_bits_far (A : Option Addr) (n c : Nat) (ys : List Int) (w : World) (hr : Row .u8 w w.heap.size A ys) (hn : ys.length = n) (hc : n ≤ c) (hb : n ≤ 7000) (h5 : 6 ≤ n) (hv : nth ys 0 = 15) (hck : ¬ c = 6) :
    Calls Try.prog 68 #[.slice A n c] w (Readd w ys) := by
  obtain ⟨b, o, rfl, hb1, hc1, hrg⟩ := row_head hr (by omega)
  rw [hv] at hc1
  have HN := Lib.hid hn
  have HR := Lib.hid hr
  have hyr := at2_range ys hr.1 3 (by omega)
  have HQ : Hid (∀ (l : List Bool) (E : Int), (bitsOk (ys.drop 6) (at2 ys 3).toNat = true ∧ l = unpk (ys.drop 6) (at2 ys 3).toNat ∧ E = 0 ∨ bitsOk (ys.drop 6) (at2 ys 3).toNat = false ∧ E = 4) → (rdOk ys = true ∧ (⟨15, at2 ys 1, 0, l, [], []⟩ : Req) = rdQ ys ∧ E = 0 ∨ rdOk ys = false ∧ E = 4)) := Lib.hid (by
    have e1 : rdOk ys = bitsOk (ys.drop 6) (at2 ys 3).toNat := by unfold rdOk; rw [if_neg (by omega), if_neg (by omega), if_pos hv]
    have e2 : rdQ ys = ⟨15, at2 ys 1, 0, unpk (ys.drop 6) (at2 ys 3).toNat, [], []⟩ := by unfold rdQ; rw [if_neg (by omega), if_neg (by omega), if_neg (by omega), if_pos hv]
    rw [e1, e2]
    rintro l E (⟨h1, rfl, h3⟩ | h)
    · exact .inl ⟨h1, rfl, h3⟩
    · exact .inr h)
  clear hr hn hv hrg
  go_enter Try.func68, Try.ntmps68
  go_wp2_with fail
  refine (wordAt_at b o n c 1 _ rfl ys _ _ (by first | exact (HR.out.alloc (Nat.le_refl _) _).alloc (by simp) _) HN.out hc (by omega) (by omega)).mono ?_
  rintro e w' ⟨rfl, rfl⟩
  go_wp2_with fail
  refine (wordAt_at b o n c 3 _ rfl ys _ _ (by first | exact (HR.out.alloc (Nat.le_refl _) _).alloc (by simp) _) HN.out hc (by omega) (by omega)).mono ?_
  rintro e w' ⟨rfl, rfl⟩
  generalize at2 ys 1 = x at *
  generalize at2 ys 3 = y at *
  go_wp2_with fail
  refine (readBits_got (some ⟨b, o + 6, none⟩) (n - 6) (c - 6) y (ys.drop 6) _ (by exact (((HR.out.drop 6).alloc (Nat.le_refl _) _).alloc (by simp) _).more (by simp; omega)) (by rw [List.length_drop, HN.out]) (by omega) hyr).mono ?_
  rintro e w1 ⟨A1, m1, g1, l1, E, rfl, li1, hl1, hg1, b1, hok⟩
  skip
  have hz : ((w.alloc (.cells #[.int .i64 0, .int .i64 0, .int .i64 0, .slice none 0 0, .slice none 0 0, .slice none 0 0] 26)).alloc (.cells #[.int .i64 15, .int .i64 x, .int .i64 0, .slice none 0 0, .slice none 0 0, .slice none 0 0] 26)).heap.size = w.heap.size + 1 + 1 := by simp
  rw [hz] at hg1
  have ret1 : Hid (w1.heap[w.heap.size]? = some (.cells #[.int .i64 0, .int .i64 0, .int .i64 0, .slice none 0 0, .slice none 0 0, .slice none 0 0] 26 (0, 0))) := Lib.hid ((b1.block w.heap.size (by rw [hz]; omega)).trans ((heap_alloc_old _ _ (by simp)).trans (heap_alloc_new w _)))
  have box1 : Hid (w1.heap[w.heap.size + 1]? = some (.cells #[.int .i64 15, .int .i64 x, .int .i64 0, .slice none 0 0, .slice none 0 0, .slice none 0 0] 26 (0, 0))) := Lib.hid ((b1.block (w.heap.size + 1) (by rw [hz]; omega)).trans (heap_new_at _ _ (by simp)))
  have bel1 : Below w.heap.size w w1 := ((bel_alloc w _).alloc (by simp) _).trans (b1.mono (by simp; omega))
  have hs1 : w.heap.size + 1 < w1.heap.size := by have := b1.size; rw [hz] at this; omega
  have HE := Lib.hid (HQ.out _ _ hok)
  have P1 := Lib.hid ((li1.set (g' := w.heap.size + 1) (by omega) 3 (.slice A1 m1 m1)).put6 (g' := w.heap.size) (by omega) (.int .i64 15) (.int .i64 x) (.int .i64 0) (.slice A1 m1 m1) (.slice none 0 0) (.slice none 0 0))
  have P4 := Lib.hid (below_put6 (below_setCell bel1 (Nat.le_succ _) 3 (.slice A1 m1 m1)) (g := w.heap.size) (Nat.le_refl _) (.int .i64 15) (.int .i64 x) (.int .i64 0) (.slice A1 m1 m1) (.slice none 0 0) (.slice none 0 0))
  have P5 := Lib.hid (put6_heap ((Below.heap_setCell w1 ⟨w.heap.size + 1, 3, none⟩ (.slice A1 m1 m1) w.heap.size (by simp)).trans ret1.out) (.int .i64 15) (.int .i64 x) (.int .i64 0) (.slice A1 m1 m1) (.slice none 0 0) (.slice none 0 0))
  have hl1 := Lib.hid hl1
  clear hok li1 b1 bel1 HQ hz
  obtain ⟨⟨c10, c11, c12⟩, ⟨c13, c14, c15⟩, c16⟩ := cells6 box1.out
  obtain ⟨⟨d10, d11, d12⟩, ⟨d13, d14, d15⟩, d16⟩ := cells6 ret1.out
  go_wp2
  (try simp only [Exit.inBlock, Exit.then])
  show bodyPost _ _ _ _ _ (put6 (w1.setCell ⟨w.heap.size + 1, 3, none⟩ (.slice A1 m1 m1)) w.heap.size (.int .i64 15) (.int .i64 x) (.int .i64 0) (.slice A1 m1 m1) (.slice none 0 0) (.slice none 0 0))
  generalize put6 (w1.setCell ⟨w.heap.size + 1, 3, none⟩ (.slice A1 m1 m1)) w.heap.size (.int .i64 15) (.int .i64 x) (.int .i64 0) (.slice A1 m1 m1) (.slice none 0 0) (.slice none 0 0) = w6 at *
  clear c10 c11 c12 c13 c14 c15 c16 d10 d11 d12 d13 d14 d15 d16
  obtain ⟨⟨d10, d11, d12⟩, ⟨d13, d14, d15⟩, d16⟩ := cells6 P5.out
  refine bodyPost_ret (v := .tuple #[.agg #[.int .i64 15, .int .i64 x, .int .i64 0, .slice A1 m1 m1, .slice none 0 0, .slice none 0 0], .int .i64 E]) (by simp [results, Try.results68, go_sem, d10, d11, d12, d13, d14, d15]) rfl ?_
  exact ⟨⟨15, x, 0, l1, [], []⟩, E, ⟨A1, none, m1, 0, g1, w.heap.size, _, rfl, P1.out, .inl ⟨rfl, rfl⟩, POwn.nil _ _ _, ⟨hl1.out, rfl⟩, ⟨by omega, Nat.le_refl _⟩, P4.out⟩, HE.out⟩

set_option maxHeartbeats 600000 in
set_option maxRecDepth 100000 in
theorem read_bits_at (A : Option Addr) (n c : Nat) (ys : List Int) (w : World) (hr : Row .u8 w w.heap.size A ys) (hn : ys.length = n) (hc : n ≤ c) (hb : n ≤ 7000) (h5 : 6 ≤ n) (hv : nth ys 0 = 15) (hck : c = 6) :
    Calls Try.prog 68 #[.slice A n c] w (Readd w ys) := by
  obtain rfl : n = 6 := by omega
  subst hck
  have HD : Hid (ys.drop 6 = []) := Lib.hid (List.drop_eq_nil_of_le (by omega))
  obtain ⟨b, o, rfl, hb1, hc1, hrg⟩ := row_head hr (by omega)
  rw [hv] at hc1
  have HN := Lib.hid hn
  have HR := Lib.hid hr
  have hyr := at2_range ys hr.1 3 (by omega)
  have HQ : Hid (∀ (l : List Bool) (E : Int), (bitsOk (ys.drop 6) (at2 ys 3).toNat = true ∧ l = unpk (ys.drop 6) (at2 ys 3).toNat ∧ E = 0 ∨ bitsOk (ys.drop 6) (at2 ys 3).toNat = false ∧ E = 4) → (rdOk ys = true ∧ (⟨15, at2 ys 1, 0, l, [], []⟩ : Req) = rdQ ys ∧ E = 0 ∨ rdOk ys = false ∧ E = 4)) := Lib.hid (by
    have e1 : rdOk ys = bitsOk (ys.drop 6) (at2 ys 3).toNat := by unfold rdOk; rw [if_neg (by omega), if_neg (by omega), if_pos hv]
    have e2 : rdQ ys = ⟨15, at2 ys 1, 0, unpk (ys.drop 6) (at2 ys 3).toNat, [], []⟩ := by unfold rdQ; rw [if_neg (by omega), if_neg (by omega), if_neg (by omega), if_pos hv]
    rw [e1, e2]
    rintro l E (⟨h1, rfl, h3⟩ | h)
    · exact .inl ⟨h1, rfl, h3⟩
    · exact .inr h)
  clear hr hn hv hrg
  go_enter Try.func68, Try.ntmps68
  go_wp2_with fail
  refine (wordAt_at b o 6 6 1 _ rfl ys _ _ (by first | exact (HR.out.alloc (Nat.le_refl _) _).alloc (by simp) _) HN.out (by omega) (by omega) (by omega)).mono ?_
  rintro e w' ⟨rfl, rfl⟩
  go_wp2_with fail
  refine (wordAt_at b o 6 6 3 _ rfl ys _ _ (by first | exact (HR.out.alloc (Nat.le_refl _) _).alloc (by simp) _) HN.out (by omega) (by omega) (by omega)).mono ?_
  rintro e w' ⟨rfl, rfl⟩
  generalize at2 ys 1 = x at *
  generalize at2 ys 3 = y at *
  go_wp2_with fail
  refine (readBits_got (some ⟨b, o, none⟩) 0 0 y (ys.drop 6) _ (by rw [HD.out]; exact Row.nil _ _ _ _) (by rw [HD.out]; rfl) (by omega) hyr).mono ?_
  rintro e w1 ⟨A1, m1, g1, l1, E, rfl, li1, hl1, hg1, b1, hok⟩
  skip
  have hz : ((w.alloc (.cells #[.int .i64 0, .int .i64 0, .int .i64 0, .slice none 0 0, .slice none 0 0, .slice none 0 0] 26)).alloc (.cells #[.int .i64 15, .int .i64 x, .int .i64 0, .slice none 0 0, .slice none 0 0, .slice none 0 0] 26)).heap.size = w.heap.size + 1 + 1 := by simp
  rw [hz] at hg1
  have ret1 : Hid (w1.heap[w.heap.size]? = some (.cells #[.int .i64 0, .int .i64 0, .int .i64 0, .slice none 0 0, .slice none 0 0, .slice none 0 0] 26 (0, 0))) := Lib.hid ((b1.block w.heap.size (by rw [hz]; omega)).trans ((heap_alloc_old _ _ (by simp)).trans (heap_alloc_new w _)))
  have box1 : Hid (w1.heap[w.heap.size + 1]? = some (.cells #[.int .i64 15, .int .i64 x, .int .i64 0, .slice none 0 0, .slice none 0 0, .slice none 0 0] 26 (0, 0))) := Lib.hid ((b1.block (w.heap.size + 1) (by rw [hz]; omega)).trans (heap_new_at _ _ (by simp)))
  have bel1 : Below w.heap.size w w1 := ((bel_alloc w _).alloc (by simp) _).trans (b1.mono (by simp; omega))
  have hs1 : w.heap.size + 1 < w1.heap.size := by have := b1.size; rw [hz] at this; omega
  have HE := Lib.hid (HQ.out _ _ hok)
  have P1 := Lib.hid ((li1.set (g' := w.heap.size + 1) (by omega) 3 (.slice A1 m1 m1)).put6 (g' := w.heap.size) (by omega) (.int .i64 15) (.int .i64 x) (.int .i64 0) (.slice A1 m1 m1) (.slice none 0 0) (.slice none 0 0))
  have P4 := Lib.hid (below_put6 (below_setCell bel1 (Nat.le_succ _) 3 (.slice A1 m1 m1)) (g := w.heap.size) (Nat.le_refl _) (.int .i64 15) (.int .i64 x) (.int .i64 0) (.slice A1 m1 m1) (.slice none 0 0) (.slice none 0 0))
  have P5 := Lib.hid (put6_heap ((Below.heap_setCell w1 ⟨w.heap.size + 1, 3, none⟩ (.slice A1 m1 m1) w.heap.size (by simp)).trans ret1.out) (.int .i64 15) (.int .i64 x) (.int .i64 0) (.slice A1 m1 m1) (.slice none 0 0) (.slice none 0 0))
  have hl1 := Lib.hid hl1
  clear hok li1 b1 bel1 HQ hz
  obtain ⟨⟨c10, c11, c12⟩, ⟨c13, c14, c15⟩, c16⟩ := cells6 box1.out
  obtain ⟨⟨d10, d11, d12⟩, ⟨d13, d14, d15⟩, d16⟩ := cells6 ret1.out
  go_wp2
  (try simp only [Exit.inBlock, Exit.then])
  show bodyPost _ _ _ _ _ (put6 (w1.setCell ⟨w.heap.size + 1, 3, none⟩ (.slice A1 m1 m1)) w.heap.size (.int .i64 15) (.int .i64 x) (.int .i64 0) (.slice A1 m1 m1) (.slice none 0 0) (.slice none 0 0))
  generalize put6 (w1.setCell ⟨w.heap.size + 1, 3, none⟩ (.slice A1 m1 m1)) w.heap.size (.int .i64 15) (.int .i64 x) (.int .i64 0) (.slice A1 m1 m1) (.slice none 0 0) (.slice none 0 0) = w6 at *
  clear c10 c11 c12 c13 c14 c15 c16 d10 d11 d12 d13 d14 d15 d16
  obtain ⟨⟨d10, d11, d12⟩, ⟨d13, d14, d15⟩, d16⟩ := cells6 P5.out
  refine bodyPost_ret (v := .tuple #[.agg #[.int .i64 15, .int .i64 x, .int .i64 0, .slice A1 m1 m1, .slice none 0 0, .slice none 0 0], .int .i64 E]) (by simp [results, Try.results68, go_sem, d10, d11, d12, d13, d14, d15]) rfl ?_
  exact ⟨⟨15, x, 0, l1, [], []⟩, E, ⟨A1, none, m1, 0, g1, w.heap.size, _, rfl, P1.out, .inl ⟨rfl, rfl⟩, POwn.nil _ _ _, ⟨hl1.out, rfl⟩, ⟨by omega, Nat.le_refl _⟩, P4.out⟩, HE.out⟩

theorem read_bits (A : Option Addr) (n c : Nat) (ys : List Int) (w : World) (hr : Row .u8 w w.heap.size A ys) (hn : ys.length = n) (hc : n ≤ c) (hb : n ≤ 7000) (h5 : 6 ≤ n) (hv : nth ys 0 = 15) :
    Calls Try.prog 68 #[.slice A n c] w (Readd w ys) := by
  by_cases h : c = 6
  · exact read_bits_at A n c ys w hr hn hc hb h5 hv h
  · exact read_bits_far A n c ys w hr hn hc hb h5 hv h

set_option maxHeartbeats 600000 in
set_option maxRecDepth 100000 in
theorem read_words_far (A : Option Addr) (n c : Nat) (ys : List Int) (w : World) (hr : Row .u8 w w.heap.size A ys) (hn : ys.length = n) (hc : n ≤ c) (hb : n ≤ 7000) (h5 : 6 ≤ n) (hv : nth ys 0 = 16) (hck : ¬ c = 6) :
    Calls Try.prog 68 #[.slice A n c] w (Readd w ys) := by
  obtain ⟨b, o, rfl, hb1, hc1, hrg⟩ := row_head hr (by omega)
  rw [hv] at hc1
  have HN := Lib.hid hn
  have HR := Lib.hid hr
  have hyr := at2_range ys hr.1 3 (by omega)
  have HQ : Hid (∀ (l : List Int) (E : Int), (decide ((ys.drop 6).length = 2 * (at2 ys 3).toNat) = true ∧ l = wwords (ys.drop 6) ∧ E = 0 ∨ decide ((ys.drop 6).length = 2 * (at2 ys 3).toNat) = false ∧ E = 4) → (rdOk ys = true ∧ (⟨16, at2 ys 1, 0, [], l, []⟩ : Req) = rdQ ys ∧ E = 0 ∨ rdOk ys = false ∧ E = 4)) := Lib.hid (by
    have e1 : rdOk ys = decide ((ys.drop 6).length = 2 * (at2 ys 3).toNat) := by unfold rdOk; rw [if_neg (by omega), if_neg (by omega), if_neg (by omega), if_pos hv]
    have e2 : rdQ ys = ⟨16, at2 ys 1, 0, [], wwords (ys.drop 6), []⟩ := by unfold rdQ; rw [if_neg (by omega), if_neg (by omega), if_neg (by omega), if_neg (by omega), if_pos hv]
    rw [e1, e2]
    rintro l E (⟨h1, rfl, h3⟩ | h)
    · exact .inl ⟨h1, rfl, h3⟩
    · exact .inr h)
  clear hr hn hv hrg
  go_enter Try.func68, Try.ntmps68
  go_wp2_with fail
  refine (wordAt_at b o n c 1 _ rfl ys _ _ (by first | exact (HR.out.alloc (Nat.le_refl _) _).alloc (by simp) _) HN.out hc (by omega) (by omega)).mono ?_
  rintro e w' ⟨rfl, rfl⟩
  go_wp2_with fail
  refine (wordAt_at b o n c 3 _ rfl ys _ _ (by first | exact (HR.out.alloc (Nat.le_refl _) _).alloc (by simp) _) HN.out hc (by omega) (by omega)).mono ?_
  rintro e w' ⟨rfl, rfl⟩
  generalize at2 ys 1 = x at *
  generalize at2 ys 3 = y at *
  go_wp2_with fail
  refine (readWords_got (some ⟨b, o + 6, none⟩) (n - 6) (c - 6) y (ys.drop 6) _ (by exact (((HR.out.drop 6).alloc (Nat.le_refl _) _).alloc (by simp) _).more (by simp; omega)) (by rw [List.length_drop, HN.out]) (by omega) (by omega) hyr).mono ?_
  rintro e w1 ⟨A1, m1, g1, l1, E, rfl, li1, hl1, hg1, b1, hok⟩
  skip
  have hz : ((w.alloc (.cells #[.int .i64 0, .int .i64 0, .int .i64 0, .slice none 0 0, .slice none 0 0, .slice none 0 0] 26)).alloc (.cells #[.int .i64 16, .int .i64 x, .int .i64 0, .slice none 0 0, .slice none 0 0, .slice none 0 0] 26)).heap.size = w.heap.size + 1 + 1 := by simp
  rw [hz] at hg1
  have ret1 : Hid (w1.heap[w.heap.size]? = some (.cells #[.int .i64 0, .int .i64 0, .int .i64 0, .slice none 0 0, .slice none 0 0, .slice none 0 0] 26 (0, 0))) := Lib.hid ((b1.block w.heap.size (by rw [hz]; omega)).trans ((heap_alloc_old _ _ (by simp)).trans (heap_alloc_new w _)))
  have box1 : Hid (w1.heap[w.heap.size + 1]? = some (.cells #[.int .i64 16, .int .i64 x, .int .i64 0, .slice none 0 0, .slice none 0 0, .slice none 0 0] 26 (0, 0))) := Lib.hid ((b1.block (w.heap.size + 1) (by rw [hz]; omega)).trans (heap_new_at _ _ (by simp)))
  have bel1 : Below w.heap.size w w1 := ((bel_alloc w _).alloc (by simp) _).trans (b1.mono (by simp; omega))
  have hs1 : w.heap.size + 1 < w1.heap.size := by have := b1.size; rw [hz] at this; omega
  have HE := Lib.hid (HQ.out _ _ hok)
  have P1 := Lib.hid ((li1.set (g' := w.heap.size + 1) (by omega) 4 (.slice A1 m1 m1)).put6 (g' := w.heap.size) (by omega) (.int .i64 16) (.int .i64 x) (.int .i64 0) (.slice none 0 0) (.slice A1 m1 m1) (.slice none 0 0))
  have P4 := Lib.hid (below_put6 (below_setCell bel1 (Nat.le_succ _) 4 (.slice A1 m1 m1)) (g := w.heap.size) (Nat.le_refl _) (.int .i64 16) (.int .i64 x) (.int .i64 0) (.slice none 0 0) (.slice A1 m1 m1) (.slice none 0 0))
  have P5 := Lib.hid (put6_heap ((Below.heap_setCell w1 ⟨w.heap.size + 1, 4, none⟩ (.slice A1 m1 m1) w.heap.size (by simp)).trans ret1.out) (.int .i64 16) (.int .i64 x) (.int .i64 0) (.slice none 0 0) (.slice A1 m1 m1) (.slice none 0 0))
  have hl1 := Lib.hid hl1
  clear hok li1 b1 bel1 HQ hz
  obtain ⟨⟨c10, c11, c12⟩, ⟨c13, c14, c15⟩, c16⟩ := cells6 box1.out
  obtain ⟨⟨d10, d11, d12⟩, ⟨d13, d14, d15⟩, d16⟩ := cells6 ret1.out
  go_wp2
  (try simp only [Exit.inBlock, Exit.then])
  show bodyPost _ _ _ _ _ (put6 (w1.setCell ⟨w.heap.size + 1, 4, none⟩ (.slice A1 m1 m1)) w.heap.size (.int .i64 16) (.int .i64 x) (.int .i64 0) (.slice none 0 0) (.slice A1 m1 m1) (.slice none 0 0))
  generalize put6 (w1.setCell ⟨w.heap.size + 1, 4, none⟩ (.slice A1 m1 m1)) w.heap.size (.int .i64 16) (.int .i64 x) (.int .i64 0) (.slice none 0 0) (.slice A1 m1 m1) (.slice none 0 0) = w6 at *
  clear c10 c11 c12 c13 c14 c15 c16 d10 d11 d12 d13 d14 d15 d16
  obtain ⟨⟨d10, d11, d12⟩, ⟨d13, d14, d15⟩, d16⟩ := cells6 P5.out
  refine bodyPost_ret (v := .tuple #[.agg #[.int .i64 16, .int .i64 x, .int .i64 0, .slice none 0 0, .slice A1 m1 m1, .slice none 0 0], .int .i64 E]) (by simp [results, Try.results68, go_sem, d10, d11, d12, d13, d14, d15]) rfl ?_
  exact ⟨⟨16, x, 0, [], l1, []⟩, E, ⟨none, A1, 0, m1, w.heap.size, g1, _, rfl, .inl ⟨rfl, rfl⟩, P1.out, POwn.nil _ _ _, ⟨rfl, hl1.out⟩, ⟨Nat.le_refl _, by omega⟩, P4.out⟩, HE.out⟩

set_option maxHeartbeats 600000 in
set_option maxRecDepth 100000 in
theorem read_words_at (A : Option Addr) (n c : Nat) (ys : List Int) (w : World) (hr : Row .u8 w w.heap.size A ys) (hn : ys.length = n) (hc : n ≤ c) (hb : n ≤ 7000) (h5 : 6 ≤ n) (hv : nth ys 0 = 16) (hck : c = 6) :
    Calls Try.prog 68 #[.slice A n c] w (Readd w ys) := by
  obtain rfl : n = 6 := by omega
  subst hck
  have HD : Hid (ys.drop 6 = []) := Lib.hid (List.drop_eq_nil_of_le (by omega))
  obtain ⟨b, o, rfl, hb1, hc1, hrg⟩ := row_head hr (by omega)
  rw [hv] at hc1
  have HN := Lib.hid hn
  have HR := Lib.hid hr
  have hyr := at2_range ys hr.1 3 (by omega)
  have HQ : Hid (∀ (l : List Int) (E : Int), (decide ((ys.drop 6).length = 2 * (at2 ys 3).toNat) = true ∧ l = wwords (ys.drop 6) ∧ E = 0 ∨ decide ((ys.drop 6).length = 2 * (at2 ys 3).toNat) = false ∧ E = 4) → (rdOk ys = true ∧ (⟨16, at2 ys 1, 0, [], l, []⟩ : Req) = rdQ ys ∧ E = 0 ∨ rdOk ys = false ∧ E = 4)) := Lib.hid (by
    have e1 : rdOk ys = decide ((ys.drop 6).length = 2 * (at2 ys 3).toNat) := by unfold rdOk; rw [if_neg (by omega), if_neg (by omega), if_neg (by omega), if_pos hv]
    have e2 : rdQ ys = ⟨16, at2 ys 1, 0, [], wwords (ys.drop 6), []⟩ := by unfold rdQ; rw [if_neg (by omega), if_neg (by omega), if_neg (by omega), if_neg (by omega), if_pos hv]
    rw [e1, e2]
    rintro l E (⟨h1, rfl, h3⟩ | h)
    · exact .inl ⟨h1, rfl, h3⟩
    · exact .inr h)
  clear hr hn hv hrg
  go_enter Try.func68, Try.ntmps68
  go_wp2_with fail
  refine (wordAt_at b o 6 6 1 _ rfl ys _ _ (by first | exact (HR.out.alloc (Nat.le_refl _) _).alloc (by simp) _) HN.out (by omega) (by omega) (by omega)).mono ?_
  rintro e w' ⟨rfl, rfl⟩
  go_wp2_with fail
  refine (wordAt_at b o 6 6 3 _ rfl ys _ _ (by first | exact (HR.out.alloc (Nat.le_refl _) _).alloc (by simp) _) HN.out (by omega) (by omega) (by omega)).mono ?_
  rintro e w' ⟨rfl, rfl⟩
  generalize at2 ys 1 = x at *
  generalize at2 ys 3 = y at *
  go_wp2_with fail
  refine (readWords_got (some ⟨b, o, none⟩) 0 0 y (ys.drop 6) _ (by rw [HD.out]; exact Row.nil _ _ _ _) (by rw [HD.out]; rfl) (by omega) (by omega) hyr).mono ?_
  rintro e w1 ⟨A1, m1, g1, l1, E, rfl, li1, hl1, hg1, b1, hok⟩
  skip
  have hz : ((w.alloc (.cells #[.int .i64 0, .int .i64 0, .int .i64 0, .slice none 0 0, .slice none 0 0, .slice none 0 0] 26)).alloc (.cells #[.int .i64 16, .int .i64 x, .int .i64 0, .slice none 0 0, .slice none 0 0, .slice none 0 0] 26)).heap.size = w.heap.size + 1 + 1 := by simp
  rw [hz] at hg1
  have ret1 : Hid (w1.heap[w.heap.size]? = some (.cells #[.int .i64 0, .int .i64 0, .int .i64 0, .slice none 0 0, .slice none 0 0, .slice none 0 0] 26 (0, 0))) := Lib.hid ((b1.block w.heap.size (by rw [hz]; omega)).trans ((heap_alloc_old _ _ (by simp)).trans (heap_alloc_new w _)))
  have box1 : Hid (w1.heap[w.heap.size + 1]? = some (.cells #[.int .i64 16, .int .i64 x, .int .i64 0, .slice none 0 0, .slice none 0 0, .slice none 0 0] 26 (0, 0))) := Lib.hid ((b1.block (w.heap.size + 1) (by rw [hz]; omega)).trans (heap_new_at _ _ (by simp)))
  have bel1 : Below w.heap.size w w1 := ((bel_alloc w _).alloc (by simp) _).trans (b1.mono (by simp; omega))
  have hs1 : w.heap.size + 1 < w1.heap.size := by have := b1.size; rw [hz] at this; omega
  have HE := Lib.hid (HQ.out _ _ hok)
  have P1 := Lib.hid ((li1.set (g' := w.heap.size + 1) (by omega) 4 (.slice A1 m1 m1)).put6 (g' := w.heap.size) (by omega) (.int .i64 16) (.int .i64 x) (.int .i64 0) (.slice none 0 0) (.slice A1 m1 m1) (.slice none 0 0))
  have P4 := Lib.hid (below_put6 (below_setCell bel1 (Nat.le_succ _) 4 (.slice A1 m1 m1)) (g := w.heap.size) (Nat.le_refl _) (.int .i64 16) (.int .i64 x) (.int .i64 0) (.slice none 0 0) (.slice A1 m1 m1) (.slice none 0 0))
  have P5 := Lib.hid (put6_heap ((Below.heap_setCell w1 ⟨w.heap.size + 1, 4, none⟩ (.slice A1 m1 m1) w.heap.size (by simp)).trans ret1.out) (.int .i64 16) (.int .i64 x) (.int .i64 0) (.slice none 0 0) (.slice A1 m1 m1) (.slice none 0 0))
  have hl1 := Lib.hid hl1
  clear hok li1 b1 bel1 HQ hz
  obtain ⟨⟨c10, c11, c12⟩, ⟨c13, c14, c15⟩, c16⟩ := cells6 box1.out
  obtain ⟨⟨d10, d11, d12⟩, ⟨d13, d14, d15⟩, d16⟩ := cells6 ret1.out
  go_wp2
  (try simp only [Exit.inBlock, Exit.then])
  show bodyPost _ _ _ _ _ (put6 (w1.setCell ⟨w.heap.size + 1, 4, none⟩ (.slice A1 m1 m1)) w.heap.size (.int .i64 16) (.int .i64 x) (.int .i64 0) (.slice none 0 0) (.slice A1 m1 m1) (.slice none 0 0))
  generalize put6 (w1.setCell ⟨w.heap.size + 1, 4, none⟩ (.slice A1 m1 m1)) w.heap.size (.int .i64 16) (.int .i64 x) (.int .i64 0) (.slice none 0 0) (.slice A1 m1 m1) (.slice none 0 0) = w6 at *
  clear c10 c11 c12 c13 c14 c15 c16 d10 d11 d12 d13 d14 d15 d16
  obtain ⟨⟨d10, d11, d12⟩, ⟨d13, d14, d15⟩, d16⟩ := cells6 P5.out
  refine bodyPost_ret (v := .tuple #[.agg #[.int .i64 16, .int .i64 x, .int .i64 0, .slice none 0 0, .slice A1 m1 m1, .slice none 0 0], .int .i64 E]) (by simp [results, Try.results68, go_sem, d10, d11, d12, d13, d14, d15]) rfl ?_
  exact ⟨⟨16, x, 0, [], l1, []⟩, E, ⟨none, A1, 0, m1, w.heap.size, g1, _, rfl, .inl ⟨rfl, rfl⟩, P1.out, POwn.nil _ _ _, ⟨rfl, hl1.out⟩, ⟨Nat.le_refl _, by omega⟩, P4.out⟩, HE.out⟩

theorem read_words (A : Option Addr) (n c : Nat) (ys : List Int) (w : World) (hr : Row .u8 w w.heap.size A ys) (hn : ys.length = n) (hc : n ≤ c) (hb : n ≤ 7000) (h5 : 6 ≤ n) (hv : nth ys 0 = 16) :
    Calls Try.prog 68 #[.slice A n c] w (Readd w ys) := by
  by_cases h : c = 6
  · exact read_words_at A n c ys w hr hn hc hb h5 hv h
  · exact read_words_far A n c ys w hr hn hc hb h5 hv h

set_option maxHeartbeats 600000 in
set_option maxRecDepth 100000 in
theorem read_file_far (A : Option Addr) (n c : Nat) (ys : List Int) (w : World) (hr : Row .u8 w w.heap.size A ys) (hn : ys.length = n) (hc : n ≤ c) (hb : n ≤ 7000) (h5 : 2 ≤ n) (hv : nth ys 0 = 20) (hck : ¬ c = 2) :
    Calls Try.prog 68 #[.slice A n c] w (Readd w ys) := by
  obtain ⟨b, o, rfl, hb1, hc1, hrg⟩ := row_head hr (by omega)
  rw [hv] at hc1
  have HN := Lib.hid hn
  have HR := Lib.hid hr
  have HQ : Hid (∀ (l : List Int) (E : Int), (partsOk (ys.drop 2) = true ∧ l = flOf (ys.drop 2) ((ys.drop 2).length / 7) ∧ E = 0 ∨ partsOk (ys.drop 2) = false ∧ E = 4) → (rdOk ys = true ∧ (⟨20, 0, 0, [], [], l⟩ : Req) = rdQ ys ∧ E = 0 ∨ rdOk ys = false ∧ E = 4)) := Lib.hid (by
    have e1 : rdOk ys = partsOk (ys.drop 2) := by unfold rdOk; rw [if_pos hv]
    have e2 : rdQ ys = ⟨20, 0, 0, [], [], flOf (ys.drop 2) ((ys.drop 2).length / 7)⟩ := by unfold rdQ; rw [if_pos hv]
    rw [e1, e2]
    rintro l E (⟨h1, rfl, h3⟩ | h)
    · exact .inl ⟨h1, rfl, h3⟩
    · exact .inr h)
  clear hr hn hv hrg
  go_enter Try.func68, Try.ntmps68

  go_wp2_with fail
  refine (readParts_got (some ⟨b, o + 2, none⟩) (n - 2) (c - 2) (ys.drop 2) _ (by exact (((HR.out.drop 2).alloc (Nat.le_refl _) _).alloc (by simp) _).more (by simp; omega)) (by rw [List.length_drop, HN.out]) (by omega) (by omega)).mono ?_
  rintro e w1 ⟨v1, l1, E, rfl, own1, b1, hok⟩
  obtain ⟨A1, n1, c1, rfl⟩ := own1.form
  have hz : ((w.alloc (.cells #[.int .i64 0, .int .i64 0, .int .i64 0, .slice none 0 0, .slice none 0 0, .slice none 0 0] 26)).alloc (.cells #[.int .i64 20, .int .i64 0, .int .i64 0, .slice none 0 0, .slice none 0 0, .slice none 0 0] 26)).heap.size = w.heap.size + 1 + 1 := by simp
  skip
  have ret1 : Hid (w1.heap[w.heap.size]? = some (.cells #[.int .i64 0, .int .i64 0, .int .i64 0, .slice none 0 0, .slice none 0 0, .slice none 0 0] 26 (0, 0))) := Lib.hid ((b1.block w.heap.size (by rw [hz]; omega)).trans ((heap_alloc_old _ _ (by simp)).trans (heap_alloc_new w _)))
  have box1 : Hid (w1.heap[w.heap.size + 1]? = some (.cells #[.int .i64 20, .int .i64 0, .int .i64 0, .slice none 0 0, .slice none 0 0, .slice none 0 0] 26 (0, 0))) := Lib.hid ((b1.block (w.heap.size + 1) (by rw [hz]; omega)).trans (heap_new_at _ _ (by simp)))
  have bel1 : Below w.heap.size w w1 := ((bel_alloc w _).alloc (by simp) _).trans (b1.mono (by simp; omega))
  have hs1 : w.heap.size + 1 < w1.heap.size := by have := b1.size; rw [hz] at this; omega
  have HE := Lib.hid (HQ.out _ _ hok)
  have P1 := Lib.hid (((own1.set (g := w.heap.size + 1) (by simp) 5 (.slice A1 n1 c1)).put6 (g := w.heap.size) (by simp; omega) (.int .i64 20) (.int .i64 0) (.int .i64 0) (.slice none 0 0) (.slice none 0 0) (.slice A1 n1 c1)).mono (base' := w.heap.size) (by simp; omega))
  have P4 := Lib.hid (below_put6 (below_setCell bel1 (Nat.le_succ _) 5 (.slice A1 n1 c1)) (g := w.heap.size) (Nat.le_refl _) (.int .i64 20) (.int .i64 0) (.int .i64 0) (.slice none 0 0) (.slice none 0 0) (.slice A1 n1 c1))
  have P5 := Lib.hid (put6_heap ((Below.heap_setCell w1 ⟨w.heap.size + 1, 5, none⟩ (.slice A1 n1 c1) w.heap.size (by simp)).trans ret1.out) (.int .i64 20) (.int .i64 0) (.int .i64 0) (.slice none 0 0) (.slice none 0 0) (.slice A1 n1 c1))
  skip
  clear hok own1 b1 bel1 HQ hz
  obtain ⟨⟨c10, c11, c12⟩, ⟨c13, c14, c15⟩, c16⟩ := cells6 box1.out
  obtain ⟨⟨d10, d11, d12⟩, ⟨d13, d14, d15⟩, d16⟩ := cells6 ret1.out
  go_wp2
  (try simp only [Exit.inBlock, Exit.then])
  show bodyPost _ _ _ _ _ (put6 (w1.setCell ⟨w.heap.size + 1, 5, none⟩ (.slice A1 n1 c1)) w.heap.size (.int .i64 20) (.int .i64 0) (.int .i64 0) (.slice none 0 0) (.slice none 0 0) (.slice A1 n1 c1))
  generalize put6 (w1.setCell ⟨w.heap.size + 1, 5, none⟩ (.slice A1 n1 c1)) w.heap.size (.int .i64 20) (.int .i64 0) (.int .i64 0) (.slice none 0 0) (.slice none 0 0) (.slice A1 n1 c1) = w6 at *
  clear c10 c11 c12 c13 c14 c15 c16 d10 d11 d12 d13 d14 d15 d16
  obtain ⟨⟨d10, d11, d12⟩, ⟨d13, d14, d15⟩, d16⟩ := cells6 P5.out
  refine bodyPost_ret (v := .tuple #[.agg #[.int .i64 20, .int .i64 0, .int .i64 0, .slice none 0 0, .slice none 0 0, .slice A1 n1 c1], .int .i64 E]) (by simp [results, Try.results68, go_sem, d10, d11, d12, d13, d14, d15]) rfl ?_
  exact ⟨⟨20, 0, 0, [], [], l1⟩, E, ⟨none, none, 0, 0, w.heap.size, w.heap.size, _, rfl, .inl ⟨rfl, rfl⟩, .inl ⟨rfl, rfl⟩, P1.out, ⟨rfl, rfl⟩, ⟨Nat.le_refl _, Nat.le_refl _⟩, P4.out⟩, HE.out⟩

set_option maxHeartbeats 600000 in
set_option maxRecDepth 100000 in
theorem read_file_at (A : Option Addr) (n c : Nat) (ys : List Int) (w : World) (hr : Row .u8 w w.heap.size A ys) (hn : ys.length = n) (hc : n ≤ c) (hb : n ≤ 7000) (h5 : 2 ≤ n) (hv : nth ys 0 = 20) (hck : c = 2) :
    Calls Try.prog 68 #[.slice A n c] w (Readd w ys) := by
  obtain rfl : n = 2 := by omega
  subst hck
  have HD : Hid (ys.drop 2 = []) := Lib.hid (List.drop_eq_nil_of_le (by omega))
  obtain ⟨b, o, rfl, hb1, hc1, hrg⟩ := row_head hr (by omega)
  rw [hv] at hc1
  have HN := Lib.hid hn
  have HR := Lib.hid hr
  have HQ : Hid (∀ (l : List Int) (E : Int), (partsOk (ys.drop 2) = true ∧ l = flOf (ys.drop 2) ((ys.drop 2).length / 7) ∧ E = 0 ∨ partsOk (ys.drop 2) = false ∧ E = 4) → (rdOk ys = true ∧ (⟨20, 0, 0, [], [], l⟩ : Req) = rdQ ys ∧ E = 0 ∨ rdOk ys = false ∧ E = 4)) := Lib.hid (by
    have e1 : rdOk ys = partsOk (ys.drop 2) := by unfold rdOk; rw [if_pos hv]
    have e2 : rdQ ys = ⟨20, 0, 0, [], [], flOf (ys.drop 2) ((ys.drop 2).length / 7)⟩ := by unfold rdQ; rw [if_pos hv]
    rw [e1, e2]
    rintro l E (⟨h1, rfl, h3⟩ | h)
    · exact .inl ⟨h1, rfl, h3⟩
    · exact .inr h)
  clear hr hn hv hrg
  go_enter Try.func68, Try.ntmps68

  go_wp2_with fail
  refine (readParts_got (some ⟨b, o, none⟩) 0 0 (ys.drop 2) _ (by rw [HD.out]; exact Row.nil _ _ _ _) (by rw [HD.out]; rfl) (by omega) (by omega)).mono ?_
  rintro e w1 ⟨v1, l1, E, rfl, own1, b1, hok⟩
  obtain ⟨A1, n1, c1, rfl⟩ := own1.form
  have hz : ((w.alloc (.cells #[.int .i64 0, .int .i64 0, .int .i64 0, .slice none 0 0, .slice none 0 0, .slice none 0 0] 26)).alloc (.cells #[.int .i64 20, .int .i64 0, .int .i64 0, .slice none 0 0, .slice none 0 0, .slice none 0 0] 26)).heap.size = w.heap.size + 1 + 1 := by simp
  skip
  have ret1 : Hid (w1.heap[w.heap.size]? = some (.cells #[.int .i64 0, .int .i64 0, .int .i64 0, .slice none 0 0, .slice none 0 0, .slice none 0 0] 26 (0, 0))) := Lib.hid ((b1.block w.heap.size (by rw [hz]; omega)).trans ((heap_alloc_old _ _ (by simp)).trans (heap_alloc_new w _)))
  have box1 : Hid (w1.heap[w.heap.size + 1]? = some (.cells #[.int .i64 20, .int .i64 0, .int .i64 0, .slice none 0 0, .slice none 0 0, .slice none 0 0] 26 (0, 0))) := Lib.hid ((b1.block (w.heap.size + 1) (by rw [hz]; omega)).trans (heap_new_at _ _ (by simp)))
  have bel1 : Below w.heap.size w w1 := ((bel_alloc w _).alloc (by simp) _).trans (b1.mono (by simp; omega))
  have hs1 : w.heap.size + 1 < w1.heap.size := by have := b1.size; rw [hz] at this; omega
  have HE := Lib.hid (HQ.out _ _ hok)
  have P1 := Lib.hid (((own1.set (g := w.heap.size + 1) (by simp) 5 (.slice A1 n1 c1)).put6 (g := w.heap.size) (by simp; omega) (.int .i64 20) (.int .i64 0) (.int .i64 0) (.slice none 0 0) (.slice none 0 0) (.slice A1 n1 c1)).mono (base' := w.heap.size) (by simp; omega))
  have P4 := Lib.hid (below_put6 (below_setCell bel1 (Nat.le_succ _) 5 (.slice A1 n1 c1)) (g := w.heap.size) (Nat.le_refl _) (.int .i64 20) (.int .i64 0) (.int .i64 0) (.slice none 0 0) (.slice none 0 0) (.slice A1 n1 c1))
  have P5 := Lib.hid (put6_heap ((Below.heap_setCell w1 ⟨w.heap.size + 1, 5, none⟩ (.slice A1 n1 c1) w.heap.size (by simp)).trans ret1.out) (.int .i64 20) (.int .i64 0) (.int .i64 0) (.slice none 0 0) (.slice none 0 0) (.slice A1 n1 c1))
  skip
  clear hok own1 b1 bel1 HQ hz
  obtain ⟨⟨c10, c11, c12⟩, ⟨c13, c14, c15⟩, c16⟩ := cells6 box1.out
  obtain ⟨⟨d10, d11, d12⟩, ⟨d13, d14, d15⟩, d16⟩ := cells6 ret1.out
  go_wp2
  (try simp only [Exit.inBlock, Exit.then])
  show bodyPost _ _ _ _ _ (put6 (w1.setCell ⟨w.heap.size + 1, 5, none⟩ (.slice A1 n1 c1)) w.heap.size (.int .i64 20) (.int .i64 0) (.int .i64 0) (.slice none 0 0) (.slice none 0 0) (.slice A1 n1 c1))
  generalize put6 (w1.setCell ⟨w.heap.size + 1, 5, none⟩ (.slice A1 n1 c1)) w.heap.size (.int .i64 20) (.int .i64 0) (.int .i64 0) (.slice none 0 0) (.slice none 0 0) (.slice A1 n1 c1) = w6 at *
  clear c10 c11 c12 c13 c14 c15 c16 d10 d11 d12 d13 d14 d15 d16
  obtain ⟨⟨d10, d11, d12⟩, ⟨d13, d14, d15⟩, d16⟩ := cells6 P5.out
  refine bodyPost_ret (v := .tuple #[.agg #[.int .i64 20, .int .i64 0, .int .i64 0, .slice none 0 0, .slice none 0 0, .slice A1 n1 c1], .int .i64 E]) (by simp [results, Try.results68, go_sem, d10, d11, d12, d13, d14, d15]) rfl ?_
  exact ⟨⟨20, 0, 0, [], [], l1⟩, E, ⟨none, none, 0, 0, w.heap.size, w.heap.size, _, rfl, .inl ⟨rfl, rfl⟩, .inl ⟨rfl, rfl⟩, P1.out, ⟨rfl, rfl⟩, ⟨Nat.le_refl _, Nat.le_refl _⟩, P4.out⟩, HE.out⟩

theorem read_file (A : Option Addr) (n c : Nat) (ys : List Int) (w : World) (hr : Row .u8 w w.heap.size A ys) (hn : ys.length = n) (hc : n ≤ c) (hb : n ≤ 7000) (h5 : 2 ≤ n) (hv : nth ys 0 = 20) :
    Calls Try.prog 68 #[.slice A n c] w (Readd w ys) := by
  by_cases h : c = 2
  · exact read_file_at A n c ys w hr hn hc hb h5 hv h
  · exact read_file_far A n c ys w hr hn hc hb h5 hv h

set_option maxHeartbeats 600000 in
set_option maxRecDepth 100000 in
theorem read_reg (A : Option Addr) (n c : Nat) (ys : List Int) (w : World) (hr : Row .u8 w w.heap.size A ys) (hn : ys.length = n) (hc : n ≤ c) (hb : n ≤ 100000) (h5 : 5 ≤ n) (hv : nth ys 0 = 6) :
    Calls Try.prog 68 #[.slice A n c] w (Told w (rdQ ys) 0) := by
  obtain ⟨b, o, rfl, hb1, hc1, hrg⟩ := row_head hr (by omega)
  rw [hv] at hc1
  have hyr := at2_range ys hr.1 3 (by omega)
  have HN := Lib.hid hn
  have HR := Lib.hid hr
  have HQ : Hid (rdQ ys = ⟨6, at2 ys 1, 0, [], [at2 ys 3], []⟩) := Lib.hid (by unfold rdQ; rw [if_neg (by omega), if_neg (by omega), if_pos hv])
  rw [HQ.out]
  clear hr hn HQ hv hrg
  go_enter Try.func68, Try.ntmps68
  go_wp2_with fail
  refine (wordAt_at b o n c 1 _ rfl ys _ _ (by first | exact (HR.out.alloc (Nat.le_refl _) _).alloc (by simp) _) HN.out hc hb (by omega)).mono ?_
  rintro e w' ⟨rfl, rfl⟩
  go_wp2_with fail
  refine (wordAt_at b o n c 3 _ rfl ys _ _ (by first | exact (HR.out.alloc (Nat.le_refl _) _).alloc (by simp) _) HN.out hc hb (by omega)).mono ?_
  rintro e w' ⟨rfl, rfl⟩
  generalize at2 ys 1 = x at *
  generalize at2 ys 3 = y at *
  have e1 : IntKind.u16.wrap y = y := by rw [IntKind.wrap_u16]; omega
  go_wp2
  (try simp only [Exit.inBlock, Exit.then])
  refine bodyPost_ret (v := .tuple #[.agg #[.int .i64 6, .int .i64 x, .int .i64 0, .slice none 0 0, .slice (some ⟨w.heap.size + 1 + 1, 0, none⟩) 1 1, .slice none 0 0], .int .i64 0]) (by simp [results, Try.results68, go_sem]) rfl ?_
  exact ⟨none, _, 0, 1, w.heap.size, w.heap.size + 1 + 1, _, rfl, .inl ⟨rfl, rfl⟩, .inr ⟨rfl, heap_new_at _ _ (by simp)⟩, POwn.nil _ _ _, ⟨rfl, rfl⟩, ⟨Nat.le_refl _, by omega⟩, ((bel_alloc w _).alloc (by simp) _).alloc (by simp; omega) _⟩

/-- read, of bytes of the right size. -/
theorem read_any (A : Option Addr) (n c : Nat) (ys : List Int) (w : World) (hr : Row .u8 w w.heap.size A ys) (hn : ys.length = n) (hc : n ≤ c) (h1 : 1 ≤ n) (hb : n ≤ 7000) (hm : 0 < mm (nth ys 0)) (hs : (n : Int) = szOf ys) :
    Calls Try.prog 68 #[.slice A n c] w (Readd w ys) := by
  have hw : ∀ i, i < n → 0 ≤ nth ys i := fun i hi => (wf_u8 (hr.1 _ (nth_mem ys i (by omega)))).1
  have h2 : nth ys 0 ≠ 20 → 5 ≤ n := by
    intro h20
    unfold szOf at hs
    rw [if_neg h20] at hs
    split at hs
    · split at hs
      · omega
      · have := hw 5 (by omega); omega
    · omega
  have h6 : nth ys 0 = 15 ∨ nth ys 0 = 16 → 6 ≤ n := by
    intro h
    unfold szOf at hs
    rw [if_pos h] at hs
    split at hs
    · omega
    · omega
  have h20 : nth ys 0 = 20 → 2 ≤ n := by
    intro h
    unfold szOf at hs
    rw [if_neg (by omega), if_pos h] at hs
    split at hs
    · omega
    · omega
  rcases mm_pos hm with h | h | h | h | h | h | h | h | h
  · exact (read_plain A n c ys w hr hn hc (by omega) (h2 (by omega)) (by omega)).mono fun e w' ht => ⟨_, _, ht, .inl ⟨by unfold rdOk; simp [h], rfl, rfl⟩⟩
  · exact (read_plain A n c ys w hr hn hc (by omega) (h2 (by omega)) (by omega)).mono fun e w' ht => ⟨_, _, ht, .inl ⟨by unfold rdOk; simp [h], rfl, rfl⟩⟩
  · exact (read_plain A n c ys w hr hn hc (by omega) (h2 (by omega)) (by omega)).mono fun e w' ht => ⟨_, _, ht, .inl ⟨by unfold rdOk; simp [h], rfl, rfl⟩⟩
  · exact (read_plain A n c ys w hr hn hc (by omega) (h2 (by omega)) (by omega)).mono fun e w' ht => ⟨_, _, ht, .inl ⟨by unfold rdOk; simp [h], rfl, rfl⟩⟩
  · exact read_coil A n c ys w hr hn hc hb (h2 (by omega)) h
  · exact (read_reg A n c ys w hr hn hc (by omega) (h2 (by omega)) h).mono fun e w' ht => ⟨_, _, ht, .inl ⟨by unfold rdOk; simp [h], rfl, rfl⟩⟩
  · exact read_bits A n c ys w hr hn hc hb (h6 (by omega)) h
  · exact read_words A n c ys w hr hn hc hb (h6 (by omega)) h
  · exact read_file A n c ys w hr hn hc hb (h20 h) h
end Go.Proofs.Ytfdikjfbmfibjaa
namespace Go.Proofs.Ytfdikjfbmfibjaa
open Go.RowKit
set_option linter.unusedVariables false

theorem spoil_li_bool (A : Option Addr) (m g : Nat) (l : List Bool) (w : World) (h : L.Li w A m g l []) (hm : l.length = m) (hc : m ≤ 140737488355328) :
    Calls Try.prog 64 #[.slice A m m] w fun e w' => e = .returned (.tuple #[]) ∧ w.grownBy w' (if A = none then none else some g) ∧ w'.heap.size = w.heap.size := by
  rcases h with ⟨rfl, rfl⟩ | ⟨rfl, hb⟩
  · refine (L.spoil_nil w).mono ?_
    rintro e w' ⟨rfl, rfl⟩
    exact ⟨rfl, World.grownBy.refl _ _, rfl⟩
  · refine (L.spoil_bool g m m l [] w hb hm (Nat.le_refl _) hc).mono ?_
    rintro e w' ⟨rfl, _, h1, h2⟩
    exact ⟨rfl, by simpa using h1, h2⟩
theorem spoil_li_u16 (A : Option Addr) (m g : Nat) (l : List Int) (w : World) (h : W.Li w A m g l []) (hm : l.length = m) (hc : m ≤ 70368744177664) :
    Calls Try.prog 65 #[.slice A m m] w fun e w' => e = .returned (.tuple #[]) ∧ w.grownBy w' (if A = none then none else some g) ∧ w'.heap.size = w.heap.size := by
  rcases h with ⟨rfl, rfl⟩ | ⟨rfl, hb⟩
  · refine (W.spoil_nil w).mono ?_
    rintro e w' ⟨rfl, rfl⟩
    exact ⟨rfl, World.grownBy.refl _ _, rfl⟩
  · refine (W.spoil_u16 g m m l [] w hb hm (Nat.le_refl _) hc).mono ?_
    rintro e w' ⟨rfl, _, h1, h2⟩
    exact ⟨rfl, by simpa using h1, h2⟩
theorem spoil_own_part (v : Value) (base : Nat) (fl : List Int) (w : World) (h : POwn 61 w base v fl) :
    Calls Try.prog 73 #[v] w fun e w' => e = .returned (.tuple #[]) ∧ w.grownBy w' v.ownBlock ∧ w'.heap.size = w.heap.size := by
  rcases h with ⟨rfl, rfl⟩ | ⟨g, n, cap, r, rfl, h2, h3, h4, h5, h6, h7⟩
  · refine (spoil_part_nil w).mono ?_
    rintro e w' ⟨rfl, rfl⟩
    exact ⟨rfl, World.grownBy.refl _ _, rfl⟩
  · refine (spoil_part g n cap (fl ++ r) w h4 (by rw [List.length_append]; exact h7) h5 (by simpa [maxLen] using h6)).mono ?_
    rintro e w' ⟨rfl, h1, h2⟩
    exact ⟨rfl, h1, h2⟩

theorem L.Li.grown {w w' : World} {A : Option Addr} {m g : Nat} {l r : List Bool} (h : L.Li w A m g l r) {row : Option Nat} (hg : w.grownBy w' row) (hne : A = none ∨ some g ≠ row) : L.Li w' A m g l r := by
  rcases h with h | ⟨h1, h2⟩
  · exact .inl h
  · exact .inr ⟨h1, (hg.block g (block_lt h2) (hne.resolve_left (by rw [h1]; simp))).trans h2⟩
theorem W.Li.grown {w w' : World} {A : Option Addr} {m g : Nat} {l r : List Int} (h : W.Li w A m g l r) {row : Option Nat} (hg : w.grownBy w' row) (hne : A = none ∨ some g ≠ row) : W.Li w' A m g l r := by
  rcases h with h | ⟨h1, h2⟩
  · exact .inl h
  · exact .inr ⟨h1, (hg.block g (block_lt h2) (hne.resolve_left (by rw [h1]; simp))).trans h2⟩
theorem POwn.grown {e : TypeId} {w w' : World} {base : Nat} {v : Value} {fl : List Int} (h : POwn e w base v fl) {row : Option Nat} (hg : w.grownBy w' row) (hne : ∀ g, v.ownBlock = some g → some g ≠ row) : POwn e w' base v fl := by
  rcases h with h | ⟨g, n, cap, r, rfl, h2, h3, h4, h5⟩
  · exact .inl h
  · exact .inr ⟨g, n, cap, r, rfl, h2, h3, (hg.block g (block_lt h4) (hne g rfl)).trans h4, h5⟩
/-- Blocks of different types are different ones. -/
theorem blocks_ne {w : World} {g g' : Nat} {cs cs' : Array Value} {t t' : TypeId} {f f' : Nat × Nat} (h : w.heap[g]? = some (.cells cs t f)) (h' : w.heap[g']? = some (.cells cs' t' f')) (hne : t ≠ t') : g ≠ g' := by
  rintro rfl
  rw [h] at h'
  injection h' with h'
  injection h' with _ h2
  exact hne h2

theorem SpoilAsk_any (c a n : Int) (A1 A2 : Option Addr) (m1 m2 g1 g2 B : Nat) (l1 : List Bool) (l2 fl : List Int) (vp : Value) (w : World) (h1 : L.Li w A1 m1 g1 l1 []) (h2 : W.Li w A2 m2 g2 l2 []) (h3 : POwn 61 w B vp fl)
    (n1 : l1.length = m1) (n2 : l2.length = m2) (k1 : m1 ≤ 1000000) (k2 : m2 ≤ 1000000) (q1 : B ≤ g1) (q2 : B ≤ g2) (hB : B ≤ w.heap.size) :
    Calls Try.prog 32 #[.agg #[.int .i64 c, .int .i64 a, .int .i64 n, .slice A1 m1 m1, .slice A2 m2 m2, vp]] w fun e w' => e = .returned (.tuple #[]) ∧ Below B w w' := by
  obtain ⟨A3, n3, c3, hv, e3⟩ : ∃ A3 n3 c3, vp = .slice A3 n3 c3 ∧ vp.ownBlock = A3.map (·.block) := by
    rcases h3 with ⟨rfl, _⟩ | ⟨g, n, cap, r, rfl, _⟩
    · exact ⟨_, _, _, rfl, rfl⟩
    · exact ⟨_, _, _, rfl, rfl⟩
  subst hv
  have H3 : ∀ g, (Value.slice A3 n3 c3).ownBlock = some g → ∃ cs, w.heap[g]? = some (.cells cs 61 (0, 0)) := by
    intro g hg
    rcases h3 with ⟨h, _⟩ | ⟨g', n, cap, r, h, _, _, h4, _⟩
    · rw [h] at hg; cases hg
    · rw [h] at hg; injection hg with hg; subst hg; exact ⟨_, h4⟩
  have e13 : ∀ g, (Value.slice A3 n3 c3).ownBlock = some g → some g ≠ (if A1 = none then none else some g1) := by
    intro g hg
    obtain ⟨cs, hcs⟩ := H3 g hg
    split
    · simp
    · rename_i hA
      rcases h1 with ⟨h, _⟩ | ⟨_, h⟩
      · exact absurd h hA
      · have := blocks_ne hcs h (by decide)
        simpa using this
  have e23 : ∀ g, (Value.slice A3 n3 c3).ownBlock = some g → some g ≠ (if A2 = none then none else some g2) := by
    intro g hg
    obtain ⟨cs, hcs⟩ := H3 g hg
    split
    · simp
    · rename_i hA
      rcases h2 with ⟨h, _⟩ | ⟨_, h⟩
      · exact absurd h hA
      · have := blocks_ne hcs h (by decide)
        simpa using this
  have e12 : A2 = none ∨ some g2 ≠ (if A1 = none then none else some g1) := by
    rcases h2 with ⟨h, _⟩ | ⟨_, h⟩
    · exact .inl h
    · refine .inr ?_
      split
      · simp
      · rename_i hA
        rcases h1 with ⟨h', _⟩ | ⟨_, h'⟩
        · exact absurd h' hA
        · have := blocks_ne h h' (by decide)
          simpa using this
  have r1 : ∀ k, (if A1 = none then none else some g1) = some k → B ≤ k ∧ k < w.heap.size := by
    intro k hk
    split at hk
    · cases hk
    · rename_i hA
      rcases h1 with ⟨h', _⟩ | ⟨_, h'⟩
      · exact absurd h' hA
      · injection hk with hk; subst hk; exact ⟨q1, block_lt h'⟩
  have r2 : ∀ k, (if A2 = none then none else some g2) = some k → B ≤ k ∧ k < w.heap.size := by
    intro k hk
    split at hk
    · cases hk
    · rename_i hA
      rcases h2 with ⟨h', _⟩ | ⟨_, h'⟩
      · exact absurd h' hA
      · injection hk with hk; subst hk; exact ⟨q2, block_lt h'⟩
  have r3 : ∀ k, (Value.slice A3 n3 c3).ownBlock = some k → B ≤ k ∧ k < w.heap.size := h3.block
  generalize hr1 : (if A1 = none then none else some g1) = row1 at *
  generalize hr2 : (if A2 = none then none else some g2) = row2 at *
  generalize hr3 : (Value.slice A3 n3 c3).ownBlock = row3 at *
  have H1 := Lib.hid h1
  have H2 := Lib.hid h2
  have H3' := Lib.hid h3
  have HR1 := Lib.hid hr1
  have HR2 := Lib.hid hr2
  have HR3 := Lib.hid hr3
  clear h1 h2 h3 H3 hr1 hr2 hr3 e3
  go_enter Try.func32, Try.ntmps32
  go_wp2_with fail
  have hbox := Lib.hid (heap_alloc_new w (.cells #[.int .i64 c, .int .i64 a, .int .i64 n, .slice A1 m1 m1, .slice A2 m2 m2, .slice A3 n3 c3] 26))
  have b0 := bel_alloc w (.cells #[.int .i64 c, .int .i64 a, .int .i64 n, .slice A1 m1 m1, .slice A2 m2 m2, .slice A3 n3 c3] 26)
  have bel := (Below.refl B w).alloc hB (.cells #[.int .i64 c, .int .i64 a, .int .i64 n, .slice A1 m1 m1, .slice A2 m2 m2, .slice A3 n3 c3] 26)
  have hs1 : w.heap.size < (w.alloc (.cells #[.int .i64 c, .int .i64 a, .int .i64 n, .slice A1 m1 m1, .slice A2 m2 m2, .slice A3 n3 c3] 26)).heap.size := by simp
  generalize w.alloc (.cells #[.int .i64 c, .int .i64 a, .int .i64 n, .slice A1 m1 m1, .slice A2 m2 m2, .slice A3 n3 c3] 26) = wa at *
  refine (spoil_li_bool A1 m1 g1 l1 wa (H1.out.below b0) n1 (by omega)).mono ?_
  rintro e w1 ⟨rfl, gr, sz⟩
  rw [HR1.out] at gr
  have box1 := Lib.hid ((gr.block w.heap.size hs1 (fun e => by have := r1 _ e.symm; omega)).trans hbox.out)
  have L2 := Lib.hid ((H2.out.below b0).grown gr e12)
  have L3 := Lib.hid ((H3'.out.below b0 (Nat.le_refl _)).grown gr (fun g hg => e13 g (HR3.out ▸ hg)))
  have bel1 := bel.grown gr (by have := bel.size; omega) (fun k e => (r1 k e).1)
  have hs2 : w.heap.size < w1.heap.size := by omega
  clear gr bel hbox hs1 b0 sz H1 H2 H3' e12 e13
  obtain ⟨⟨d10, d11, d12⟩, ⟨d13, d14, d15⟩, d16⟩ := cells6 box1.out
  go_wp2_with fail
  clear d10 d11 d12 d13 d14 d15 d16
  refine (spoil_li_u16 A2 m2 g2 l2 w1 L2.out n2 (by omega)).mono ?_
  rintro e w2 ⟨rfl, gr, sz⟩
  rw [HR2.out] at gr
  have box2 := Lib.hid ((gr.block w.heap.size hs2 (fun e => by have := r2 _ e.symm; omega)).trans box1.out)
  have L4 := Lib.hid (L3.out.grown gr (fun g hg => e23 g (HR3.out ▸ hg)))
  have bel2 := bel1.grown gr (by have := bel1.size; omega) (fun k e => (r2 k e).1)
  have hs3 : w.heap.size < w2.heap.size := by omega
  clear gr bel1 box1 hs2 sz L2 L3 e23
  obtain ⟨⟨d10, d11, d12⟩, ⟨d13, d14, d15⟩, d16⟩ := cells6 box2.out
  go_wp2_with fail
  clear d10 d11 d12 d13 d14 d15 d16
  refine (spoil_own_part _ B fl w2 L4.out).mono ?_
  rintro e w3 ⟨rfl, gr, sz⟩
  rw [HR3.out] at gr
  have bel3 := bel2.grown gr (by have := bel2.size; omega) (fun k e => (r3 k e).1)
  go_wp2
  go_end0
  exact ⟨rfl, bel3⟩
end Go.Proofs.Ytfdikjfbmfibjaa
namespace Go.Proofs.Ytfdikjfbmfibjaa
open Go.RowKit
set_option linter.unusedVariables false

/-- What is wrong with a request. -/
def chkQ (q : Req) : Int := chk q.c q.a q.n q.on.length q.set.length (q.fl.length / 3) q.fl
/-- What is wrong with bytes. -/
def getE (ys : List Int) : Int :=
  if ys.length = 0 then 1 else if mm (nth ys 0) ≤ 0 then 20 else if (ys.length : Int) < szOf ys then 1 else if szOf ys < (ys.length : Int) then 2 else if rdOk ys = false then 4 else chkQ (rdQ ys)
def getQ (ys : List Int) : Req := if getE ys = 0 then rdQ ys else Req.zero

theorem Told.zero_ {w w' : World} {err : Int} {e : Ending} (h : e = .returned (.tuple #[.agg #[.int .i64 0, .int .i64 0, .int .i64 0, .slice none 0 0, .slice none 0 0, .slice none 0 0], .int .i64 err])) (hb : Below w.heap.size w w') : Told w Req.zero err e w' :=
  ⟨none, none, 0, 0, w.heap.size, w.heap.size, _, h, .inl ⟨rfl, rfl⟩, .inl ⟨rfl, rfl⟩, POwn.nil _ _ _, ⟨rfl, rfl⟩, ⟨Nat.le_refl _, Nat.le_refl _⟩, hb⟩

set_option maxRecDepth 100000 in
theorem Get_none (A : Option Addr) (c : Nat) (w : World) : Calls Try.prog 29 #[.slice A 0 c] w (Told w Req.zero 1) := by
  go_enter Try.func29, Try.ntmps29
  go_wp2
  (try simp only [Exit.inBlock, Exit.then])
  refine bodyPost_ret (v := .tuple #[.agg #[.int .i64 0, .int .i64 0, .int .i64 0, .slice none 0 0, .slice none 0 0, .slice none 0 0], .int .i64 1]) (by simp [results, Try.results29, go_sem]) rfl ?_
  exact Told.zero_ rfl (bel_alloc w _)
set_option maxRecDepth 100000 in
theorem Get_code (A : Option Addr) (n c : Nat) (ys : List Int) (w : World) (hr : Row .u8 w w.heap.size A ys) (hn : ys.length = n) (hb : n ≤ 140737488355328) (h1 : 1 ≤ n) (hm : mm (nth ys 0) ≤ 0) :
    Calls Try.prog 29 #[.slice A n c] w (Told w Req.zero 20) := by
  obtain ⟨b, o, rfl, hb1, hc1, hrg⟩ := row_head hr (by omega)
  have t0 : ((n : Int) == 0) = false := beq_false_of_ne (by omega)
  have HD : Hid (decide (0 < mm (nth ys 0)) = false) := Lib.hid (decide_eq_false (by omega))
  clear hr hn hm
  generalize nth ys 0 = v at *
  have e0 : IntKind.i64.wrap v = v := IntWalk.i64_in _ (by omega)
  go_enter Try.func29, Try.ntmps29
  go_wp2_with fail
  refine (isCode_any v _).mono ?_
  rintro e w1 ⟨rfl, rfl⟩
  rw [HD.out]
  go_wp2
  (try simp only [Exit.inBlock, Exit.then])
  refine bodyPost_ret (v := .tuple #[.agg #[.int .i64 0, .int .i64 0, .int .i64 0, .slice none 0 0, .slice none 0 0, .slice none 0 0], .int .i64 20]) (by simp [results, Try.results29, go_sem]) rfl ?_
  exact Told.zero_ rfl (bel_alloc w _)
set_option maxRecDepth 100000 in
theorem Get_size (A : Option Addr) (n c : Nat) (ys : List Int) (w : World) (hr : Row .u8 w w.heap.size A ys) (hn : ys.length = n) (hb : n ≤ 140737488355328) (h1 : 1 ≤ n) (hm : 0 < mm (nth ys 0)) (hs : (n : Int) ≠ szOf ys) :
    Calls Try.prog 29 #[.slice A n c] w (Told w Req.zero (if (n : Int) < szOf ys then 1 else 2)) := by
  obtain ⟨b, o, rfl, hb1, hc1, hrg⟩ := row_head hr (by omega)
  have t0 : ((n : Int) == 0) = false := beq_false_of_ne (by omega)
  have HD : Hid (decide (0 < mm (nth ys 0)) = true) := Lib.hid (decide_eq_true (by omega))
  have HR := Lib.hid hr
  have HN := Lib.hid hn
  clear hr hn hm
  generalize nth ys 0 = v at *
  have e0 : IntKind.i64.wrap v = v := IntWalk.i64_in _ (by omega)
  by_cases hlt : (n : Int) < szOf ys
  · rw [if_pos hlt]
    go_enter Try.func29, Try.ntmps29
    go_wp2_with fail
    refine (isCode_any v _).mono ?_
    rintro e w1 ⟨rfl, rfl⟩
    rw [HD.out]
    go_wp2_with fail
    refine (size_any b o n c ys _ w.heap.size (HR.out.alloc (Nat.le_refl _) _) HN.out h1 hb).mono ?_
    rintro e w1 ⟨rfl, rfl⟩
    generalize szOf ys = s at *
    go_wp2
    (try simp only [Exit.inBlock, Exit.then])
    refine bodyPost_ret (v := .tuple #[.agg #[.int .i64 0, .int .i64 0, .int .i64 0, .slice none 0 0, .slice none 0 0, .slice none 0 0], .int .i64 1]) (by simp [results, Try.results29, go_sem]) rfl ?_
    exact Told.zero_ rfl (bel_alloc w _)
  · rw [if_neg hlt]
    have hgt : szOf ys < (n : Int) := by omega
    go_enter Try.func29, Try.ntmps29
    go_wp2_with fail
    refine (isCode_any v _).mono ?_
    rintro e w1 ⟨rfl, rfl⟩
    rw [HD.out]
    go_wp2_with fail
    refine (size_any b o n c ys _ w.heap.size (HR.out.alloc (Nat.le_refl _) _) HN.out h1 hb).mono ?_
    rintro e w1 ⟨rfl, rfl⟩
    generalize szOf ys = s at *
    go_wp2
    (try simp only [Exit.inBlock, Exit.then])
    refine bodyPost_ret (v := .tuple #[.agg #[.int .i64 0, .int .i64 0, .int .i64 0, .slice none 0 0, .slice none 0 0, .slice none 0 0], .int .i64 2]) (by simp [results, Try.results29, go_sem]) rfl ?_
    exact Told.zero_ rfl (bel_alloc w _)

theorem POwn.row_at {e : TypeId} {w : World} {base n c : Nat} {A : Option Addr} {fl : List Int} (h : POwn e w base (.slice A n c) fl) (hw : ∀ x ∈ fl, (Lit.int .i64 x).wf = true) : Row .i64 w w.heap.size A fl ∧ fl.length = 3 * n := by
  obtain ⟨A', n', c', hv, hr, hl, _⟩ := h.row hw
  injection hv with h1 h2 h3
  subst h1 h2
  exact ⟨hr, hl⟩
theorem wf_i64_16 {x : Int} (h : 0 ≤ x ∧ x < 65536) : (Lit.int .i64 x).wf = true := by
  simp [Lit.wf, IntKind.min, IntKind.max, IntKind.signed, IntKind.bits]; omega
/-- What the lists of the request that bytes say hold. -/
theorem rdQ_wf (ys : List Int) (hw : ∀ x ∈ ys, (Lit.int .u8 x).wf = true) (h5 : nth ys 0 ≠ 20 → 5 ≤ ys.length) : (∀ x ∈ (rdQ ys).set, (Lit.int .u16 x).wf = true) ∧ ∀ x ∈ (rdQ ys).fl, (Lit.int .i64 x).wf = true := by
  unfold rdQ
  split
  · exact ⟨by simp, fun x hx => wf_i64_16 (flOf_wf _ (fun x hx => hw x (List.mem_of_mem_drop hx)) _ (by omega) x hx)⟩
  · split
    · exact ⟨by simp, by simp⟩
    · split
      · refine ⟨fun x hx => ?_, by simp⟩
        simp only [List.mem_singleton] at hx
        subst hx
        exact wf_word16 (at2_range ys hw 3 (h5 (by omega)))
      · split
        · exact ⟨by simp, by simp⟩
        · split
          · exact ⟨wwords_wf _ (fun x hx => hw x (List.mem_of_mem_drop hx)), by simp⟩
          · exact ⟨by simp, by simp⟩
theorem Told.asked {w : World} {q : Req} {A1 A2 A3 : Option Addr} {m1 m2 g1 g2 n3 c3 base : Nat} (h1 : L.Li w A1 m1 g1 q.on []) (h2 : W.Li w A2 m2 g2 q.set []) (h3 : POwn 61 w base (.slice A3 n3 c3) q.fl) (hl : q.on.length = m1 ∧ q.set.length = m2) (hw : (∀ x ∈ q.set, (Lit.int .u16 x).wf = true) ∧ ∀ x ∈ q.fl, (Lit.int .i64 x).wf = true) :
    Asked w w.heap.size q A1 A2 A3 m1 m2 n3 :=
  ⟨h1.row hl.1 (fun _ _ => rfl), h2.row hl.2 hw.1, (h3.row_at hw.2).1, hl.1, hl.2, (h3.row_at hw.2).2⟩
theorem szOf_le (ys : List Int) (hw : ∀ x ∈ ys, (Lit.int .u8 x).wf = true) : szOf ys ≤ 300 := by
  unfold szOf
  split
  · split
    · omega
    · have := wf_u8 (hw _ (nth_mem ys 5 (by omega))); omega
  · split
    · split
      · omega
      · have := wf_u8 (hw _ (nth_mem ys 1 (by omega))); omega
    · omega
theorem szOf_five (ys : List Int) (hw : ∀ x ∈ ys, (Lit.int .u8 x).wf = true) (hs : (ys.length : Int) = szOf ys) : nth ys 0 ≠ 20 → 5 ≤ ys.length := by
  intro h20
  unfold szOf at hs
  rw [if_neg h20] at hs
  split at hs
  · split at hs
    · omega
    · have := wf_u8 (hw _ (nth_mem ys 5 (by omega))); omega
  · omega

set_option maxHeartbeats 600000 in
set_option maxRecDepth 100000 in
theorem Get_rest (A : Option Addr) (n c : Nat) (ys : List Int) (w : World) (hr : Row .u8 w w.heap.size A ys) (hn : ys.length = n) (hc : n ≤ c) (h1 : 1 ≤ n) (hm : 0 < mm (nth ys 0)) (hs : (n : Int) = szOf ys) :
    Calls Try.prog 29 #[.slice A n c] w (Told w (if rdOk ys = false then Req.zero else if chkQ (rdQ ys) = 0 then rdQ ys else Req.zero) (if rdOk ys = false then 4 else chkQ (rdQ ys))) := by
  have hle := szOf_le ys hr.1
  have hwfq := Lib.hid (rdQ_wf ys hr.1 (szOf_five ys hr.1 (by rw [hn]; exact hs)))
  have hrd := Lib.hid (fun (W : World) (hR : Row .u8 W W.heap.size A ys) => read_any A n c ys W hR hn hc h1 (by omega) hm hs)
  obtain ⟨b, o, rfl, hb1, hc1, hrg⟩ := row_head hr (by omega)
  have t0 : ((n : Int) == 0) = false := beq_false_of_ne (by omega)
  have HD : Hid (decide (0 < mm (nth ys 0)) = true) := Lib.hid (decide_eq_true (by omega))
  have HR := Lib.hid hr
  have HN := Lib.hid hn
  have hn3 : n ≤ 300 := by omega
  have HS : Hid (szOf ys = (n : Int)) := Lib.hid hs.symm
  clear hr hn hm hs hle
  obtain ⟨q', hq'⟩ : ∃ q', Hid ((if rdOk ys = false then Req.zero else if chkQ (rdQ ys) = 0 then rdQ ys else Req.zero) = q') := ⟨_, Lib.hid rfl⟩
  obtain ⟨E', hE'⟩ : ∃ E', Hid ((if rdOk ys = false then 4 else chkQ (rdQ ys)) = E') := ⟨_, Lib.hid rfl⟩
  rw [hq'.out, hE'.out]
  generalize nth ys 0 = v at *
  have e0 : IntKind.i64.wrap v = v := IntWalk.i64_in _ (by omega)
  go_enter Try.func29, Try.ntmps29
  go_wp2_with fail
  refine (isCode_any v _).mono ?_
  rintro e w1 ⟨rfl, rfl⟩
  rw [HD.out]
  go_wp2_with fail
  refine (size_any b o n c ys _ w.heap.size (HR.out.alloc (Nat.le_refl _) _) HN.out h1 (by omega)).mono ?_
  rintro e w1 ⟨rfl, rfl⟩
  rw [HS.out]
  go_wp2_with fail
  refine (hrd.out _ (by exact (HR.out.alloc (Nat.le_refl _) _).more (by simp))).mono ?_
  rintro e w1 ⟨q, E, ⟨A1, A2, m1, m2, g1, g2, vp, rfl, li1, li2, own1, hl, hg, b1⟩, hok⟩
  obtain ⟨A3, n3, c3, rfl⟩ := own1.form
  have hz : (w.alloc (.cells #[.int .i64 0, .int .i64 0, .int .i64 0, .slice none 0 0, .slice none 0 0, .slice none 0 0] 26)).heap.size = w.heap.size + 1 := by simp
  rw [hz] at hg own1 b1
  have ret1 : Hid (w1.heap[w.heap.size]? = some (.cells #[.int .i64 0, .int .i64 0, .int .i64 0, .slice none 0 0, .slice none 0 0, .slice none 0 0] 26 (0, 0))) := Lib.hid ((b1.block w.heap.size (by omega)).trans (heap_alloc_new w _))
  have bel1 : Below w.heap.size w w1 := (bel_alloc w _).trans (b1.mono (by omega))
  have hs1 : w.heap.size < w1.heap.size := by have := b1.size; rw [hz] at this; omega
  have HOK := Lib.hid hok
  have L1 := Lib.hid li1
  have L2 := Lib.hid li2
  have O1 := Lib.hid own1
  have HL := Lib.hid hl
  clear hok li1 li2 own1 b1 hz hl hrd HD HS t0 e0
  cases hrk : rdOk ys with
  | false =>
    have hE : Hid (E = 4) := Lib.hid (by
      rcases HOK.out with ⟨h, _⟩ | ⟨_, h⟩
      · rw [hrk] at h; cases h
      · exact h)
    obtain rfl := hE.out
    have hsz : w.heap.size < (put6 w1 w.heap.size (.int .i64 0) (.int .i64 0) (.int .i64 0) (.slice none 0 0) (.slice none 0 0) (.slice none 0 0)).heap.size := by simpa [put6, World.setCell] using hs1
    have P4 := Lib.hid ((below_put6 bel1 (g := w.heap.size) (Nat.le_refl _) (.int .i64 0) (.int .i64 0) (.int .i64 0) (.slice none 0 0) (.slice none 0 0) (.slice none 0 0)).alloc (Nat.le_of_lt hsz) (.cells #[.int .i64 q.c, .int .i64 q.a, .int .i64 q.n, .slice A1 m1 m1, .slice A2 m2 m2, .slice A3 n3 c3] 26))
    have P5 := Lib.hid ((heap_alloc_old (put6 w1 w.heap.size (.int .i64 0) (.int .i64 0) (.int .i64 0) (.slice none 0 0) (.slice none 0 0) (.slice none 0 0)) (.cells #[.int .i64 q.c, .int .i64 q.a, .int .i64 q.n, .slice A1 m1 m1, .slice A2 m2 m2, .slice A3 n3 c3] 26) hsz).trans (put6_heap ret1.out (.int .i64 0) (.int .i64 0) (.int .i64 0) (.slice none 0 0) (.slice none 0 0) (.slice none 0 0)))
    clear hsz
    have hrk' := Lib.hid hrk
    clear hrk hg
    obtain ⟨⟨d10, d11, d12⟩, ⟨d13, d14, d15⟩, d16⟩ := cells6 ret1.out
    go_wp2
    (try simp only [Exit.inBlock, Exit.then])
    show bodyPost _ _ _ _ _ ((put6 w1 w.heap.size (.int .i64 0) (.int .i64 0) (.int .i64 0) (.slice none 0 0) (.slice none 0 0) (.slice none 0 0)).alloc (.cells #[.int .i64 q.c, .int .i64 q.a, .int .i64 q.n, .slice A1 m1 m1, .slice A2 m2 m2, .slice A3 n3 c3] 26))
    generalize (put6 w1 w.heap.size (.int .i64 0) (.int .i64 0) (.int .i64 0) (.slice none 0 0) (.slice none 0 0) (.slice none 0 0)).alloc (.cells #[.int .i64 q.c, .int .i64 q.a, .int .i64 q.n, .slice A1 m1 m1, .slice A2 m2 m2, .slice A3 n3 c3] 26) = w6 at *
    clear d10 d11 d12 d13 d14 d15 d16
    obtain ⟨⟨d10, d11, d12⟩, ⟨d13, d14, d15⟩, d16⟩ := cells6 P5.out
    refine bodyPost_ret (v := .tuple #[.agg #[.int .i64 0, .int .i64 0, .int .i64 0, .slice none 0 0, .slice none 0 0, .slice none 0 0], .int .i64 4]) (by simp [results, Try.results29, go_sem, d10, d11, d12, d13, d14, d15]) rfl ?_
    rw [← hq'.out, ← hE'.out, if_pos hrk'.out, if_pos hrk'.out]
    exact Told.zero_ rfl P4.out
  | true =>
    obtain ⟨hq, hE⟩ : Hid (q = rdQ ys) ∧ Hid (E = 0) := by
      rcases HOK.out with ⟨_, h1, h2⟩ | ⟨h, _⟩
      · exact ⟨Lib.hid h1, Lib.hid h2⟩
      · rw [hrk] at h; cases h
    obtain rfl := hE.out
    have hrk' := Lib.hid hrk
    have hwq : Hid ((∀ x ∈ q.set, (Lit.int .u16 x).wf = true) ∧ ∀ x ∈ q.fl, (Lit.int .i64 x).wf = true) := Lib.hid (by rw [hq.out]; exact hwfq.out)
    have HA := Lib.hid ((Told.asked L1.out L2.out O1.out HL.out hwq.out).upAlloc (.cells #[.int .i64 q.c, .int .i64 q.a, .int .i64 q.n, .slice A1 m1 m1, .slice A2 m2 m2, .slice A3 n3 c3] 26))
    have hk : Hid (chk q.c q.a q.n m1 m2 n3 q.fl = chkQ (rdQ ys)) := Lib.hid (by
      rw [← hq.out, chkQ, HL.out.1, HL.out.2, HA.out.lp, Nat.mul_div_cancel_left n3 (by omega)])
    obtain ⟨r, hr⟩ : ∃ r, Hid (chkQ (rdQ ys) = r) := ⟨_, Lib.hid rfl⟩
    rw [hr.out] at hk
    have HC := Lib.hid (Check_any q A1 A2 A3 m1 m2 n3 m1 m2 c3 (w1.alloc (.cells #[.int .i64 q.c, .int .i64 q.a, .int .i64 q.n, .slice A1 m1 m1, .slice A2 m2 m2, .slice A3 n3 c3] 26)) HA.out)
    rw [hk.out] at HC
    have bxn := Lib.hid (heap_alloc_new w1 (.cells #[.int .i64 q.c, .int .i64 q.a, .int .i64 q.n, .slice A1 m1 m1, .slice A2 m2 m2, .slice A3 n3 c3] 26))
    have hz1 : (w1.alloc (.cells #[.int .i64 q.c, .int .i64 q.a, .int .i64 q.n, .slice A1 m1 m1, .slice A2 m2 m2, .slice A3 n3 c3] 26)).heap.size = w1.heap.size + 1 := by simp
    have K1 := Lib.hid (L1.out.below (bel_alloc w1 (.cells #[.int .i64 q.c, .int .i64 q.a, .int .i64 q.n, .slice A1 m1 m1, .slice A2 m2 m2, .slice A3 n3 c3] 26)))
    have K2 := Lib.hid (L2.out.below (bel_alloc w1 (.cells #[.int .i64 q.c, .int .i64 q.a, .int .i64 q.n, .slice A1 m1 m1, .slice A2 m2 m2, .slice A3 n3 c3] 26)))
    have K3 := Lib.hid (O1.out.below (bel_alloc w1 (.cells #[.int .i64 q.c, .int .i64 q.a, .int .i64 q.n, .slice A1 m1 m1, .slice A2 m2 m2, .slice A3 n3 c3] 26)) (Nat.le_refl _))
    have HG := Lib.hid hg
    clear hrk hg HA
    go_wp2_with fail
    refine HC.out.mono ?_
    rintro e w2 ⟨rfl, b2⟩
    have ret2 : Hid (w2.heap[w.heap.size]? = some (.cells #[.int .i64 0, .int .i64 0, .int .i64 0, .slice none 0 0, .slice none 0 0, .slice none 0 0] 26 (0, 0))) := Lib.hid ((b2.block w.heap.size (by rw [hz1]; omega)).trans ((heap_alloc_old w1 _ hs1).trans ret1.out))
    have box2 := Lib.hid ((b2.block w1.heap.size (by rw [hz1]; omega)).trans bxn.out)
    have bel2 : Below w.heap.size w w2 := (bel1.alloc (by omega) _).trans (b2.mono (by rw [hz1]; omega))
    have J1 := Lib.hid (K1.out.below b2)
    have J2 := Lib.hid (K2.out.below b2)
    have J3 := Lib.hid (K3.out.below b2 (Nat.le_refl _))
    clear b2 bxn HC hz1 K1 K2 K3 bel1 ret1 L1 L2 O1
    obtain ⟨⟨d10, d11, d12⟩, ⟨d13, d14, d15⟩, d16⟩ := cells6 ret2.out
    by_cases hr0 : r = 0
    · have hr' := Lib.hid hr0
      obtain rfl := hr0
      have P4 := Lib.hid (below_put6 bel2 (g := w.heap.size) (Nat.le_refl _) (.int .i64 q.c) (.int .i64 q.a) (.int .i64 q.n) (.slice A1 m1 m1) (.slice A2 m2 m2) (.slice A3 n3 c3))
      have P5 := Lib.hid (put6_heap ret2.out (.int .i64 q.c) (.int .i64 q.a) (.int .i64 q.n) (.slice A1 m1 m1) (.slice A2 m2 m2) (.slice A3 n3 c3))
      have P1 := Lib.hid (J1.out.put6 (g' := w.heap.size) (by have := HG.out; omega) (.int .i64 q.c) (.int .i64 q.a) (.int .i64 q.n) (.slice A1 m1 m1) (.slice A2 m2 m2) (.slice A3 n3 c3))
      have P2 := Lib.hid (J2.out.put6 (g' := w.heap.size) (by have := HG.out; omega) (.int .i64 q.c) (.int .i64 q.a) (.int .i64 q.n) (.slice A1 m1 m1) (.slice A2 m2 m2) (.slice A3 n3 c3))
      have P3 := Lib.hid ((J3.out.put6 (g := w.heap.size) (by omega) (.int .i64 q.c) (.int .i64 q.a) (.int .i64 q.n) (.slice A1 m1 m1) (.slice A2 m2 m2) (.slice A3 n3 c3)).mono (base' := w.heap.size) (by omega))
      obtain ⟨⟨c10, c11, c12⟩, ⟨c13, c14, c15⟩, c16⟩ := cells6 box2.out
      go_wp2
      (try simp only [Exit.inBlock, Exit.then])
      show bodyPost _ _ _ _ _ (put6 (w2) w.heap.size (.int .i64 q.c) (.int .i64 q.a) (.int .i64 q.n) (.slice A1 m1 m1) (.slice A2 m2 m2) (.slice A3 n3 c3))
      generalize put6 (w2) w.heap.size (.int .i64 q.c) (.int .i64 q.a) (.int .i64 q.n) (.slice A1 m1 m1) (.slice A2 m2 m2) (.slice A3 n3 c3) = w6 at *
      clear d10 d11 d12 d13 d14 d15 d16 c10 c11 c12 c13 c14 c15 c16
      obtain ⟨⟨d10, d11, d12⟩, ⟨d13, d14, d15⟩, d16⟩ := cells6 P5.out
      refine bodyPost_ret (v := .tuple #[.agg #[.int .i64 q.c, .int .i64 q.a, .int .i64 q.n, .slice A1 m1 m1, .slice A2 m2 m2, .slice A3 n3 c3], .int .i64 0]) (by simp [results, Try.results29, go_sem, d10, d11, d12, d13, d14, d15]) rfl ?_
      have eq1 : q' = q := by rw [← hq'.out, if_neg (by rw [hrk'.out]; simp), hr.out, if_pos rfl, ← hq.out]
      have eE1 : E' = 0 := by rw [← hE'.out, if_neg (by rw [hrk'.out]; simp), hr.out]
      rw [eq1, eE1]
      exact ⟨A1, A2, m1, m2, g1, g2, _, rfl, P1.out, P2.out, P3.out, HL.out, by have := HG.out; omega, P4.out⟩
    · have b1 : (r != 0) = true := by simpa using hr0
      have b2 : (r == 0) = false := beq_false_of_ne hr0
      have hr0' := Lib.hid hr0
      have P4 := Lib.hid (below_put6 bel2 (g := w.heap.size) (Nat.le_refl _) (.int .i64 0) (.int .i64 0) (.int .i64 0) (.slice none 0 0) (.slice none 0 0) (.slice none 0 0))
      have P5 := Lib.hid (put6_heap ret2.out (.int .i64 0) (.int .i64 0) (.int .i64 0) (.slice none 0 0) (.slice none 0 0) (.slice none 0 0))
      clear hr0
      go_wp2
      (try simp only [Exit.inBlock, Exit.then])
      show bodyPost _ _ _ _ _ (put6 (w2) w.heap.size (.int .i64 0) (.int .i64 0) (.int .i64 0) (.slice none 0 0) (.slice none 0 0) (.slice none 0 0))
      generalize put6 (w2) w.heap.size (.int .i64 0) (.int .i64 0) (.int .i64 0) (.slice none 0 0) (.slice none 0 0) (.slice none 0 0) = w6 at *
      clear d10 d11 d12 d13 d14 d15 d16
      obtain ⟨⟨d10, d11, d12⟩, ⟨d13, d14, d15⟩, d16⟩ := cells6 P5.out
      refine bodyPost_ret (v := .tuple #[.agg #[.int .i64 0, .int .i64 0, .int .i64 0, .slice none 0 0, .slice none 0 0, .slice none 0 0], .int .i64 r]) (by simp [results, Try.results29, go_sem, d10, d11, d12, d13, d14, d15]) rfl ?_
      have eq1 : q' = Req.zero := by rw [← hq'.out, if_neg (by rw [hrk'.out]; simp), hr.out, if_neg hr0'.out]
      have eE1 : E' = r := by rw [← hE'.out, if_neg (by rw [hrk'.out]; simp), hr.out]
      rw [eq1, eE1]
      exact Told.zero_ rfl P4.out

/-- Get, of any bytes. -/
theorem Get_any (A : Option Addr) (n c : Nat) (ys : List Int) (w : World) (hr : Row .u8 w w.heap.size A ys) (hn : ys.length = n) (hc : n ≤ c) (hb : n ≤ 140737488355328) :
    Calls Try.prog 29 #[.slice A n c] w (Told w (getQ ys) (getE ys)) := by
  subst hn
  rw [getQ]
  by_cases h0 : ys.length = 0
  · have e : getE ys = 1 := by rw [getE, if_pos h0]
    rw [e, if_neg (by omega), h0]
    exact Get_none A c w
  · by_cases hm : mm (nth ys 0) ≤ 0
    · have e : getE ys = 20 := by rw [getE, if_neg h0, if_pos hm]
      rw [e, if_neg (by omega)]
      exact Get_code A _ c ys w hr rfl hb (by omega) hm
    · by_cases hs : (ys.length : Int) = szOf ys
      · have e : getE ys = if rdOk ys = false then 4 else chkQ (rdQ ys) := by rw [getE, if_neg h0, if_neg hm, if_neg (by omega), if_neg (by omega)]
        have h := Get_rest A _ c ys w hr rfl hc (by omega) (by omega) hs
        rw [← e] at h
        have e2 : (if getE ys = 0 then rdQ ys else Req.zero) = (if rdOk ys = false then Req.zero else if chkQ (rdQ ys) = 0 then rdQ ys else Req.zero) := by
          rw [e]
          cases rdOk ys <;> simp
        rw [e2]
        exact h
      · have e : getE ys = if (ys.length : Int) < szOf ys then 1 else 2 := by
          rw [getE, if_neg h0, if_neg hm]
          split
          · rfl
          · rw [if_pos (by omega)]
        rw [e, if_neg (by split <;> omega)]
        exact Get_size A _ c ys w hr rfl hb (by omega) (by omega) hs
end Go.Proofs.Ytfdikjfbmfibjaa
namespace Go.Proofs.Ytfdikjfbmfibjaa
open Go.RowKit
set_option linter.unusedVariables false

def pduQ (q : Req) : List Int := pduOf q q.on.length q.set.length (q.fl.length / 3)
theorem nth_zero (x : Int) (l : List Int) : nth (x :: l) 0 = x := rfl
theorem nth_succ (x : Int) (l : List Int) (i : Nat) : nth (x :: l) (i + 1) = nth l i := by simp [nth]
theorem nth_pre (l : List Int) (k i : Nat) (h : i < k) : nth (l.take k) i = nth l i := by
  simp only [nth, List.getD_eq_getElem?_getD, List.getElem?_take_of_lt h]
theorem wbytes_one (a : Int) (l : List Int) (h : 0 ≤ a ∧ a < 65536) : wbytes (a :: l) = (a / 256) :: (a % 256) :: wbytes l := by
  rw [wbytes, be_two]
  have e1 : ((a.toNat / 256 % 256 : Nat) : Int) = a / 256 := by omega
  have e2 : ((a.toNat % 256 : Nat) : Int) = a % 256 := by omega
  rw [e1, e2]; rfl
theorem at2_one (x a : Int) (l : List Int) : at2 (x :: (a / 256) :: (a % 256) :: l) 1 = a := by
  rw [at2, nth_succ, nth_zero, nth_succ, nth_succ, nth_zero]; omega
theorem at2_three (x y z a : Int) (l : List Int) : at2 (x :: y :: z :: (a / 256) :: (a % 256) :: l) 3 = a := by
  rw [at2, nth_succ, nth_succ, nth_succ, nth_zero, nth_succ, nth_succ, nth_succ, nth_succ, nth_zero]; omega
theorem nil_of_not_lt {α : Type} {l : List α} (h : decide (0 < l.length) = false) : l = [] := by
  have : ¬ 0 < l.length := of_decide_eq_false h
  exact List.eq_nil_of_length_eq_zero (by omega)
theorem one_of_length {α : Type} {l : List α} (h : l.length = 1) : ∃ x, l = [x] := by
  match l, h with
  | [x], _ => exact ⟨x, rfl⟩
theorem flOf_pbytes (fl : List Int) (m : Nat) (hl : fl.length = 3 * m) (hok : allOk fl m = true) : mkOk (pbytes fl m) m = true ∧ flOf (pbytes fl m) m = fl := by
  have key : ∀ k, k ≤ m → ∀ r : List Int, mkOk (pbytes fl k ++ r) k = true ∧ flOf (pbytes fl k ++ r) k = fl.take (3 * k) := by
    intro k
    induction k with
    | zero => intro _ r; exact ⟨rfl, by simp [flOf]⟩
    | succ k ih =>
      intro hk r
      have hin := (inPl_iff _ _ _).1 (allOk_le hok k (by omega))
      rw [pbytes, List.append_assoc]
      obtain ⟨h1, h2⟩ := ih (by omega) (6 :: wbytes [nth fl (3 * k), nth fl (3 * k + 1), nth fl (3 * k + 2)] ++ r)
      have hpl := pbytes_length fl k
      have hT : (6 :: wbytes [nth fl (3 * k), nth fl (3 * k + 1), nth fl (3 * k + 2)] ++ r) = 6 :: (nth fl (3 * k) / 256) :: (nth fl (3 * k) % 256) :: (nth fl (3 * k + 1) / 256) :: (nth fl (3 * k + 1) % 256) :: (nth fl (3 * k + 2) / 256) :: (nth fl (3 * k + 2) % 256) :: r := by
        rw [wbytes_one _ _ (by omega), wbytes_one _ _ (by omega), wbytes_one _ _ (by omega)]; rfl
      rw [hT] at h1 h2 ⊢
      clear hT
      generalize hTT : (6 :: (nth fl (3 * k) / 256) :: (nth fl (3 * k) % 256) :: (nth fl (3 * k + 1) / 256) :: (nth fl (3 * k + 1) % 256) :: (nth fl (3 * k + 2) / 256) :: (nth fl (3 * k + 2) % 256) :: r) = T at *
      have hn : ∀ j, nth (pbytes fl k ++ T) (7 * k + j) = nth T j := by intro j; rw [← hpl, nth_right]
      have a1 : ∀ i, at2 (pbytes fl k ++ T) (7 * k + i) = at2 T i := by intro i; unfold at2; rw [hn i, Nat.add_assoc, hn (i + 1)]
      have n0 := hn 0
      rw [Nat.add_zero] at n0
      refine ⟨?_, ?_⟩
      · rw [mkOk, h1, Bool.true_and, n0, ← hTT]; rfl
      · rw [flOf, h2, take_three fl k (by omega), a1 1, a1 3, a1 5, ← hTT]
        simp only [at2, nth_succ, nth_zero]
        congr 1
        congr 1
        · omega
        · congr 1
          · omega
          · congr 1
            omega
  have := key m (Nat.le_refl _) []
  rw [List.append_nil, List.take_of_length_le (by omega)] at this
  exact this

theorem getE_ok {ys : List Int} (h0 : ys.length ≠ 0) (hm : 0 < mm (nth ys 0)) (hs : (ys.length : Int) = szOf ys) (hr : rdOk ys = true) (hk : chkQ (rdQ ys) = 0) : getE ys = 0 := by
  rw [getE, if_neg h0, if_neg (by omega), if_neg (by omega), if_neg (by omega), if_neg (by simp [hr]), hk]

set_option maxHeartbeats 1000000 in
/-- A right request is said by its PDU. -/
theorem pdu_back (q : Req) (hset : ∀ x ∈ q.set, (Lit.int .u16 x).wf = true) (h3 : q.fl.length % 3 = 0) (hk : chkQ q = 0) : getE (pduQ q) = 0 ∧ rdQ (pduQ q) = q ∧ (5 ≤ (pduQ q).length ∧ (pduQ q).length ≤ 253) := by
  obtain ⟨c, a, n, on, set, fl⟩ := q
  have hk' := hk
  simp only [chkQ] at hk
  obtain ⟨h1, h2, ha, h4, h5, h6⟩ := chk_zero hk
  simp only at hset h3
  simp only [pduQ, pduOf]
  have fin : ∀ ys : List Int, ys.length ≠ 0 → nth ys 0 = c → (ys.length : Int) = szOf ys → rdOk ys = true → rdQ ys = ⟨c, a, n, on, set, fl⟩ → (5 ≤ ys.length ∧ ys.length ≤ 253) → getE ys = 0 ∧ rdQ ys = ⟨c, a, n, on, set, fl⟩ ∧ (5 ≤ ys.length ∧ ys.length ≤ 253) := by
    intro ys g0 g1 g2 g3 g4 g5
    exact ⟨getE_ok g0 (by rw [g1]; exact h1) g2 g3 (by rw [g4]; exact hk'), g4, g5⟩
  clear hk' hk
  rcases mm_pos h1 with rfl | rfl | rfl | rfl | rfl | rfl | rfl | rfl | rfl
  iterate 4
    · have h4 : 1 ≤ n ∧ n ≤ 2000 := by simp only [many, mm] at h4; omega
      simp [stray] at h2
      obtain ⟨⟨rfl, rfl⟩, h2⟩ := h2
      obtain rfl : fl = [] := List.eq_nil_of_length_eq_zero (by omega)
      simp only [tl]
      rw [if_neg (by omega), if_neg (by omega), if_neg (by omega), if_neg (by omega), if_neg (by omega), wbytes_one _ _ ha, wbytes_one _ _ (by omega)]
      refine fin _ (by simp) rfl rfl rfl ?_ (by simp [wbytes])
      unfold rdQ
      rw [if_neg (by rw [nth_zero]; omega), if_neg (by rw [nth_zero]; omega), if_neg (by rw [nth_zero]; omega), if_neg (by rw [nth_zero]; omega), if_neg (by rw [nth_zero]; omega), at2_one, at2_three, nth_zero]
  · -- 5
    have h4 : 1 ≤ (on.length : Int) ∧ (on.length : Int) ≤ 1 := h4
    simp [stray] at h2
    obtain ⟨⟨rfl, rfl⟩, h2⟩ := h2
    obtain rfl : fl = [] := List.eq_nil_of_length_eq_zero (by omega)
    obtain ⟨b, rfl⟩ := one_of_length (l := on) (by omega)
    have hb : 0 ≤ (if b = true then (65280 : Int) else 0) ∧ (if b = true then (65280 : Int) else 0) < 65536 := by split <;> omega
    have e : tl 5 a 0 [b] [] [] [b].length ([] : List Int).length (([] : List Int).length / 3) = wbytes [a, if b = true then 65280 else 0] := rfl
    rw [e, wbytes_one _ _ ha, wbytes_one _ _ hb]
    refine fin _ (by simp) rfl rfl ?_ ?_ (by simp [wbytes])
    · unfold rdOk
      rw [if_neg (by rw [nth_zero]; omega), if_pos (nth_zero _ _), at2_three]
      cases b <;> decide
    · unfold rdQ
      rw [if_neg (by rw [nth_zero]; omega), if_pos (nth_zero _ _), at2_one, at2_three]
      cases b <;> rfl
  · -- 6
    have h4 : 1 ≤ (set.length : Int) ∧ (set.length : Int) ≤ 1 := h4
    simp [stray] at h2
    obtain ⟨⟨rfl, rfl⟩, h2⟩ := h2
    obtain rfl : fl = [] := List.eq_nil_of_length_eq_zero (by omega)
    obtain ⟨x, rfl⟩ := one_of_length (l := set) (by omega)
    have hx := wf_u16 (hset x (by simp))
    have e : tl 6 a 0 [] [x] [] ([] : List Bool).length [x].length (([] : List Int).length / 3) = wbytes [a, x] := rfl
    rw [e, wbytes_one _ _ ha, wbytes_one _ _ hx]
    refine fin _ (by simp) rfl rfl rfl ?_ (by simp [wbytes])
    unfold rdQ
    rw [if_neg (by rw [nth_zero]; omega), if_neg (by rw [nth_zero]; omega), if_pos (nth_zero _ _), at2_one, at2_three]
  · -- 15
    have h4 : 1 ≤ (on.length : Int) ∧ (on.length : Int) ≤ 1968 := h4
    simp [stray] at h2
    obtain ⟨⟨rfl, rfl⟩, h2⟩ := h2
    obtain rfl : fl = [] := List.eq_nil_of_length_eq_zero (by omega)
    have e : tl 15 a 0 on [] [] on.length ([] : List Int).length (([] : List Int).length / 3) = wbytes [a, (on.length : Int)] ++ ((need on.length : Nat) : Int) :: pk on (need on.length) := rfl
    have hne : 1 ≤ need on.length ∧ need on.length ≤ 246 := by unfold need; omega
    have hpl := pk_length on (need on.length)
    have hnn : ((on.length : Int)).toNat = on.length := by omega
    rw [e, wbytes_one _ _ ha, wbytes_one _ _ (by omega)]
    refine fin _ (by simp) rfl ?_ ?_ ?_ (by simp [wbytes, hpl]; omega)
    · unfold szOf
      rw [if_pos (by left; rfl), if_neg (by simp [wbytes])]
      show _ = 6 + ((need on.length : Nat) : Int)
      simp [wbytes, hpl]; omega
    · unfold rdOk
      rw [if_neg (by rw [nth_zero]; omega), if_neg (by rw [nth_zero]; omega), if_pos (nth_zero _ _)]
      show bitsOk (pk on (need on.length)) (at2 (15 :: (a / 256) :: (a % 256) :: ((on.length : Int) / 256) :: ((on.length : Int) % 256) :: (wbytes [] ++ ((need on.length : Nat) : Int) :: pk on (need on.length))) 3).toNat = true
      rw [at2_three, hnn, bitsOk, hpl, decide_eq_true rfl, Bool.true_and]
      cases hs : spareB (pk on (need on.length)) on.length with
      | false => rfl
      | true => exact absurd ((spareB_iff _ _).1 hs) (no_spare_pk on)
    · unfold rdQ
      rw [if_neg (by rw [nth_zero]; omega), if_neg (by rw [nth_zero]; omega), if_neg (by rw [nth_zero]; omega), if_pos (nth_zero _ _)]
      show (⟨15, at2 (15 :: (a / 256) :: (a % 256) :: ((on.length : Int) / 256) :: ((on.length : Int) % 256) :: (wbytes [] ++ ((need on.length : Nat) : Int) :: pk on (need on.length))) 1, 0, unpk (pk on (need on.length)) (at2 (15 :: (a / 256) :: (a % 256) :: ((on.length : Int) / 256) :: ((on.length : Int) % 256) :: (wbytes [] ++ ((need on.length : Nat) : Int) :: pk on (need on.length))) 3).toNat, [], []⟩ : Req) = _
      rw [at2_one, at2_three, hnn, unpk_pk]
  · -- 16
    have h4 : 1 ≤ (set.length : Int) ∧ (set.length : Int) ≤ 123 := h4
    simp [stray] at h2
    obtain ⟨⟨rfl, rfl⟩, h2⟩ := h2
    obtain rfl : fl = [] := List.eq_nil_of_length_eq_zero (by omega)
    have e : tl 16 a 0 [] set [] ([] : List Bool).length set.length (([] : List Int).length / 3) = wbytes [a, (set.length : Int)] ++ ((2 * set.length : Nat) : Int) :: wbytes set := rfl
    have hpl := wbytes_length set
    have hnn : ((set.length : Int)).toNat = set.length := by omega
    rw [e, wbytes_one _ _ ha, wbytes_one _ _ (by omega)]
    refine fin _ (by simp) rfl ?_ ?_ ?_ (by simp [wbytes, hpl]; omega)
    · unfold szOf
      rw [if_pos (by right; rfl), if_neg (by simp [wbytes])]
      show _ = 6 + ((2 * set.length : Nat) : Int)
      simp [wbytes, hpl]; omega
    · unfold rdOk
      rw [if_neg (by rw [nth_zero]; omega), if_neg (by rw [nth_zero]; omega), if_neg (by rw [nth_zero]; omega), if_pos (nth_zero _ _)]
      show decide ((wbytes set).length = 2 * (at2 (16 :: (a / 256) :: (a % 256) :: ((set.length : Int) / 256) :: ((set.length : Int) % 256) :: (wbytes [] ++ ((2 * set.length : Nat) : Int) :: wbytes set)) 3).toNat) = true
      rw [at2_three, hnn, hpl]; simp
    · unfold rdQ
      rw [if_neg (by rw [nth_zero]; omega), if_neg (by rw [nth_zero]; omega), if_neg (by rw [nth_zero]; omega), if_neg (by rw [nth_zero]; omega), if_pos (nth_zero _ _)]
      show (⟨16, at2 (16 :: (a / 256) :: (a % 256) :: ((set.length : Int) / 256) :: ((set.length : Int) % 256) :: (wbytes [] ++ ((2 * set.length : Nat) : Int) :: wbytes set)) 1, 0, [], wwords (wbytes set), []⟩ : Req) = _
      rw [at2_one, wwords_wbytes set hset]
  · -- 20
    have h4 : 1 ≤ ((fl.length / 3 : Nat) : Int) ∧ ((fl.length / 3 : Nat) : Int) ≤ 35 := h4
    simp [stray] at h2
    obtain ⟨⟨⟨rfl, rfl⟩, rfl⟩, rfl⟩ := h2
    obtain ⟨m, hm⟩ : ∃ m, fl.length = 3 * m := ⟨fl.length / 3, by omega⟩
    have hd : fl.length / 3 = m := by omega
    rw [hd] at h4 h5 ⊢
    have hok := (h5 rfl).1
    obtain ⟨k1, k2⟩ := flOf_pbytes fl m hm hok
    have hpl := pbytes_length fl m
    have e : tl 20 0 0 [] [] fl ([] : List Bool).length ([] : List Int).length m = ((7 * m : Nat) : Int) :: pbytes fl m := rfl
    rw [e]
    have hd7 : (pbytes fl m).length / 7 = m := by rw [hpl]; omega
    refine fin _ (by simp) rfl ?_ ?_ ?_ (by simp [hpl]; omega)
    · unfold szOf
      rw [if_neg (by rw [nth_zero]; omega), if_pos (nth_zero _ _), if_neg (by simp)]
      show _ = 2 + ((7 * m : Nat) : Int)
      simp [hpl]; omega
    · unfold rdOk
      rw [if_pos (nth_zero _ _)]
      show partsOk (pbytes fl m) = true
      rw [partsOk, hd7, k1, hpl, decide_eq_true (by omega)]; rfl
    · unfold rdQ
      rw [if_pos (nth_zero _ _)]
      show (⟨20, 0, 0, [], [], flOf (pbytes fl m) ((pbytes fl m).length / 7)⟩ : Req) = _
      rw [hd7, k2]

/-- What is left of parts that were read is put again. -/
theorem pbytes_flOf (ys : List Int) (hw : ∀ x ∈ ys, (Lit.int .u8 x).wf = true) (m : Nat) (hl : ys.length = 7 * m) (hok : mkOk ys m = true) : pbytes (flOf ys m) m = ys := by
  have hfl : ∀ k, k ≤ m → flOf ys k = (flOf ys m).take (3 * k) := by
    intro k hk
    have : ∀ d, flOf ys k = (flOf ys (k + d)).take (3 * k) := by
      intro d
      induction d with
      | zero => rw [Nat.add_zero, List.take_of_length_le (by rw [flOf_length]; omega)]
      | succ d ih =>
        rw [← Nat.add_assoc, flOf, List.take_append_of_le_length (by rw [flOf_length]; omega)]
        exact ih
    have h2 := this (m - k)
    rwa [show k + (m - k) = m by omega] at h2
  have hnth : ∀ k i, k < m → i < 3 → nth (flOf ys m) (3 * k + i) = at2 ys (7 * k + (1 + 2 * i)) := by
    intro k i hk hi
    rw [← nth_pre (flOf ys m) (3 * (k + 1)) (3 * k + i) (by omega), ← hfl (k + 1) (by omega), flOf]
    have hfk := flOf_length ys k
    rw [← hfk, nth_right]
    rcases (show i = 0 ∨ i = 1 ∨ i = 2 by omega) with rfl | rfl | rfl <;> rfl
  have key : ∀ k, k ≤ m → pbytes (flOf ys m) k = ys.take (7 * k) := by
    intro k
    induction k with
    | zero => intro _; rfl
    | succ k ih =>
      intro hk
      have h6 := mkOk_le hok k (by omega)
      have hb : ∀ i, i < 7 → (0 ≤ nth ys (7 * k + i) ∧ nth ys (7 * k + i) < 256) := fun i hi => wf_u8 (hw _ (nth_mem ys _ (by omega)))
      have r1 := at2_range ys hw (7 * k + 1) (by omega)
      have r3 := at2_range ys hw (7 * k + 3) (by omega)
      have r5 := at2_range ys hw (7 * k + 5) (by omega)
      have b1 := hb 1 (by omega)
      have b2 := hb 2 (by omega)
      have b3 := hb 3 (by omega)
      have b4 := hb 4 (by omega)
      have b5 := hb 5 (by omega)
      have b6 := hb 6 (by omega)
      have e0 := hnth k 0 (by omega) (by omega)
      have e1 := hnth k 1 (by omega) (by omega)
      have e2 := hnth k 2 (by omega) (by omega)
      simp only [Nat.add_zero, Nat.mul_zero, Nat.mul_one] at e0 e1 e2
      rw [pbytes, ih (by omega), e0, e1, e2, show 1 + 2 * 2 = 5 from rfl, show 1 + 2 = 3 from rfl, wbytes_one _ _ r1, wbytes_one _ _ r3, wbytes_one _ _ r5]
      rw [show 7 * (k + 1) = 7 * k + 1 + 1 + 1 + 1 + 1 + 1 + 1 by omega, take_step _ _ (by omega), take_step _ _ (by omega), take_step _ _ (by omega), take_step _ _ (by omega), take_step _ _ (by omega), take_step _ _ (by omega), take_step _ _ (by omega)]
      simp only [List.append_assoc, List.cons_append, List.nil_append]
      unfold at2
      rw [h6]
      simp only [Nat.add_assoc, Nat.reduceAdd, wbytes]
      congr 2
      congr 1
      · omega
      · congr 1
        · omega
        · congr 1
          · omega
          · congr 1
            · omega
            · congr 1
              · omega
              · congr 1
                omega
  rw [key m (Nat.le_refl _), List.take_of_length_le (by omega)]
theorem cons_of_length {α : Type} {l : List α} {n : Nat} (h : l.length = n + 1) : ∃ x t, l = x :: t ∧ t.length = n := by
  match l, h with
  | x :: t, h => exact ⟨x, t, rfl, by simpa using h⟩
theorem five_of {l : List Int} (h : l.length = 5) : ∃ x0 x1 x2 x3 x4, l = [x0, x1, x2, x3, x4] := by
  match l, h with
  | [x0, x1, x2, x3, x4], _ => exact ⟨_, _, _, _, _, rfl⟩
theorem six_of {l : List Int} (h : 6 ≤ l.length) : ∃ x0 x1 x2 x3 x4 x5 t, l = x0 :: x1 :: x2 :: x3 :: x4 :: x5 :: t := by
  match l, h with
  | x0 :: x1 :: x2 :: x3 :: x4 :: x5 :: t, _ => exact ⟨_, _, _, _, _, _, _, rfl⟩
theorem two_of {l : List Int} (h : 2 ≤ l.length) : ∃ x0 x1 t, l = x0 :: x1 :: t := by
  match l, h with
  | x0 :: x1 :: t, _ => exact ⟨_, _, _, rfl⟩
end Go.Proofs.Ytfdikjfbmfibjaa
namespace Go.Proofs.Ytfdikjfbmfibjaa
open Go.RowKit
set_option linter.unusedVariables false

theorem getE_zero {ys : List Int} (h : getE ys = 0) : ys.length ≠ 0 ∧ 0 < mm (nth ys 0) ∧ (ys.length : Int) = szOf ys ∧ rdOk ys = true ∧ chkQ (rdQ ys) = 0 := by
  unfold getE at h
  split at h
  · cases h
  split at h
  · cases h
  split at h
  · cases h
  split at h
  · cases h
  split at h
  · cases h
  rename_i h1 h2 h3 h4 h5
  exact ⟨h1, by omega, by omega, by simpa using h5, h⟩

set_option maxHeartbeats 1000000 in
theorem pdu_only (ys : List Int) (hw : ∀ x ∈ ys, (Lit.int .u8 x).wf = true) (h : getE ys = 0) : pduQ (rdQ ys) = ys := by
  obtain ⟨h0, hm, hs, hr, hk⟩ := getE_zero h
  have hb : ∀ i, i < ys.length → 0 ≤ nth ys i ∧ nth ys i < 256 := fun i hi => wf_u8 (hw _ (nth_mem ys i hi))
  have five : nth ys 0 ≠ 20 → nth ys 0 ≠ 15 → nth ys 0 ≠ 16 → ys.length = 5 := by
    intro a b c
    unfold szOf at hs
    rw [if_neg (by omega), if_neg a] at hs
    omega
  rcases mm_pos hm with hc | hc | hc | hc | hc | hc | hc | hc | hc
  iterate 4
    · obtain ⟨x0, x1, x2, x3, x4, rfl⟩ := five_of (five (by omega) (by omega) (by omega))
      rw [nth_zero] at hc
      have b1 := hb 1 (by simp)
      have b2 := hb 2 (by simp)
      have b3 := hb 3 (by simp)
      have b4 := hb 4 (by simp)
      simp only [nth_succ, nth_zero] at b1 b2 b3 b4
      have e : rdQ [x0, x1, x2, x3, x4] = ⟨x0, x1 * 256 + x2, x3 * 256 + x4, [], [], []⟩ := by
        unfold rdQ
        rw [if_neg (by rw [nth_zero]; omega), if_neg (by rw [nth_zero]; omega), if_neg (by rw [nth_zero]; omega), if_neg (by rw [nth_zero]; omega), if_neg (by rw [nth_zero]; omega)]
        rfl
      rw [e]
      show x0 :: tl x0 (x1 * 256 + x2) (x3 * 256 + x4) [] [] [] ([] : List Bool).length ([] : List Int).length (([] : List Int).length / 3) = _
      unfold tl
      rw [if_neg (by omega), if_neg (by omega), if_neg (by omega), if_neg (by omega), if_neg (by omega), wbytes_one _ _ (by omega), wbytes_one _ _ (by omega)]
      congr 1
      congr 1
      · omega
      · congr 1
        · omega
        · congr 1
          · omega
          · congr 1
            omega
  · -- 5
    obtain ⟨x0, x1, x2, x3, x4, rfl⟩ := five_of (five (by omega) (by omega) (by omega))
    rw [nth_zero] at hc
    subst hc
    have b1 := hb 1 (by simp)
    have b2 := hb 2 (by simp)
    have b3 := hb 3 (by simp)
    have b4 := hb 4 (by simp)
    simp only [nth_succ, nth_zero] at b1 b2 b3 b4
    have ea : at2 [5, x1, x2, x3, x4] 3 = x3 * 256 + x4 := rfl
    unfold rdOk at hr
    rw [if_neg (by rw [nth_zero]; omega), if_pos (nth_zero _ _), ea, decide_eq_true_eq] at hr
    have e : rdQ [5, x1, x2, x3, x4] = ⟨5, x1 * 256 + x2, 0, coilL (x3 * 256 + x4), [], []⟩ := by
      unfold rdQ
      rw [if_neg (by rw [nth_zero]; omega), if_pos (nth_zero _ _)]
      rfl
    rw [e]
    have e2 : ∀ on : List Bool, pduQ ⟨5, x1 * 256 + x2, 0, on, [], []⟩ = 5 :: wbytes [x1 * 256 + x2, if L.nth on 0 = true then 65280 else 0] := fun _ => rfl
    rw [e2, wbytes_one _ _ (by omega), wbytes_one _ _ (by split <;> omega)]
    rcases hr with hr | hr
    · have e3 : (if L.nth (coilL (x3 * 256 + x4)) 0 = true then (65280 : Int) else 0) = 65280 := by rw [hr]; rfl
      rw [e3]
      congr 1
      congr 1
      · omega
      · congr 1
        · omega
        · congr 1
          · omega
          · congr 1
            omega
    · have e3 : (if L.nth (coilL (x3 * 256 + x4)) 0 = true then (65280 : Int) else 0) = 0 := by rw [hr]; rfl
      rw [e3]
      congr 1
      congr 1
      · omega
      · congr 1
        · omega
        · congr 1
          · omega
          · congr 1
            omega
  · -- 6
    obtain ⟨x0, x1, x2, x3, x4, rfl⟩ := five_of (five (by omega) (by omega) (by omega))
    rw [nth_zero] at hc
    subst hc
    have b1 := hb 1 (by simp)
    have b2 := hb 2 (by simp)
    have b3 := hb 3 (by simp)
    have b4 := hb 4 (by simp)
    simp only [nth_succ, nth_zero] at b1 b2 b3 b4
    have e : rdQ [6, x1, x2, x3, x4] = ⟨6, x1 * 256 + x2, 0, [], [x3 * 256 + x4], []⟩ := by
      unfold rdQ
      rw [if_neg (by rw [nth_zero]; omega), if_neg (by rw [nth_zero]; omega), if_pos (nth_zero _ _)]
      rfl
    rw [e]
    have e2 : ∀ x : Int, pduQ ⟨6, x1 * 256 + x2, 0, [], [x], []⟩ = 6 :: wbytes [x1 * 256 + x2, x] := fun _ => rfl
    rw [e2, wbytes_one _ _ (by omega), wbytes_one _ _ (by omega)]
    congr 1
    congr 1
    · omega
    · congr 1
      · omega
      · congr 1
        · omega
        · congr 1
          omega
  · -- 15
    have hlen : 6 ≤ ys.length := by
      unfold szOf at hs
      rw [if_pos (.inl hc)] at hs
      split at hs <;> omega
    obtain ⟨x0, x1, x2, x3, x4, x5, t, rfl⟩ := six_of hlen
    rw [nth_zero] at hc
    subst hc
    have b1 := hb 1 (by simp)
    have b2 := hb 2 (by simp)
    have b3 := hb 3 (by simp)
    have b4 := hb 4 (by simp)
    have b5 := hb 5 (by simp)
    simp only [nth_succ, nth_zero] at b1 b2 b3 b4 b5
    have ht : (t.length : Int) = x5 := by
      unfold szOf at hs
      rw [if_pos (.inl (nth_zero _ _)), if_neg (by simp)] at hs
      simp only [nth_succ, nth_zero, List.length_cons] at hs
      omega
    have hwt : ∀ x ∈ t, (Lit.int .u8 x).wf = true := fun x hx => hw x (by simp [hx])
    obtain ⟨n, hn⟩ : ∃ n : Nat, x3 * 256 + x4 = n := ⟨(x3 * 256 + x4).toNat, by omega⟩
    have ea : at2 (15 :: x1 :: x2 :: x3 :: x4 :: x5 :: t) 3 = n := hn
    have e : rdQ (15 :: x1 :: x2 :: x3 :: x4 :: x5 :: t) = ⟨15, x1 * 256 + x2, 0, unpk t n, [], []⟩ := by
      unfold rdQ
      rw [if_neg (by rw [nth_zero]; omega), if_neg (by rw [nth_zero]; omega), if_neg (by rw [nth_zero]; omega), if_pos (nth_zero _ _), ea, Int.toNat_natCast]
      rfl
    unfold rdOk at hr
    rw [if_neg (by rw [nth_zero]; omega), if_neg (by rw [nth_zero]; omega), if_pos (nth_zero _ _), ea, Int.toNat_natCast] at hr
    have hr : bitsOk t n = true := hr
    simp only [bitsOk, Bool.and_eq_true, decide_eq_true_eq, Bool.not_eq_true'] at hr
    have hsp : ¬ spare t n := fun h => by rw [(spareB_iff t n).2 h] at hr; cases hr.2
    rw [e]
    have e2 : pduQ ⟨15, x1 * 256 + x2, 0, unpk t n, [], []⟩ = 15 :: (wbytes [x1 * 256 + x2, ((unpk t n).length : Int)] ++ ((need (unpk t n).length : Nat) : Int) :: pk (unpk t n) (need (unpk t n).length)) := rfl
    rw [e2, unpk_length, pk_unpk t n hwt hr.1 hsp, wbytes_one _ _ (by omega), wbytes_one _ _ (by omega)]
    show 15 :: (x1 * 256 + x2) / 256 :: (x1 * 256 + x2) % 256 :: (n : Int) / 256 :: (n : Int) % 256 :: ((need n : Nat) : Int) :: t = _
    congr 1
    congr 1
    · omega
    · congr 1
      · omega
      · congr 1
        · omega
        · congr 1
          · omega
          · congr 1
            omega
  · -- 16
    have hlen : 6 ≤ ys.length := by
      unfold szOf at hs
      rw [if_pos (.inr hc)] at hs
      split at hs <;> omega
    obtain ⟨x0, x1, x2, x3, x4, x5, t, rfl⟩ := six_of hlen
    rw [nth_zero] at hc
    subst hc
    have b1 := hb 1 (by simp)
    have b2 := hb 2 (by simp)
    have b3 := hb 3 (by simp)
    have b4 := hb 4 (by simp)
    have b5 := hb 5 (by simp)
    simp only [nth_succ, nth_zero] at b1 b2 b3 b4 b5
    have ht : (t.length : Int) = x5 := by
      unfold szOf at hs
      rw [if_pos (.inr (nth_zero _ _)), if_neg (by simp)] at hs
      simp only [nth_succ, nth_zero, List.length_cons] at hs
      omega
    have hwt : ∀ x ∈ t, (Lit.int .u8 x).wf = true := fun x hx => hw x (by simp [hx])
    obtain ⟨n, hn⟩ : ∃ n : Nat, x3 * 256 + x4 = n := ⟨(x3 * 256 + x4).toNat, by omega⟩
    have ea : at2 (16 :: x1 :: x2 :: x3 :: x4 :: x5 :: t) 3 = n := hn
    have e : rdQ (16 :: x1 :: x2 :: x3 :: x4 :: x5 :: t) = ⟨16, x1 * 256 + x2, 0, [], wwords t, []⟩ := by
      unfold rdQ
      rw [if_neg (by rw [nth_zero]; omega), if_neg (by rw [nth_zero]; omega), if_neg (by rw [nth_zero]; omega), if_neg (by rw [nth_zero]; omega), if_pos (nth_zero _ _)]
      rfl
    unfold rdOk at hr
    rw [if_neg (by rw [nth_zero]; omega), if_neg (by rw [nth_zero]; omega), if_neg (by rw [nth_zero]; omega), if_pos (nth_zero _ _), ea, Int.toNat_natCast, decide_eq_true_eq] at hr
    have hr : t.length = 2 * n := hr
    rw [e]
    have e2 : pduQ ⟨16, x1 * 256 + x2, 0, [], wwords t, []⟩ = 16 :: (wbytes [x1 * 256 + x2, ((wwords t).length : Int)] ++ ((2 * (wwords t).length : Nat) : Int) :: wbytes (wwords t)) := rfl
    have hwl : (wwords t).length = n := by rw [wwords_length]; omega
    rw [e2, hwl, wbytes_wwords t hwt (by omega), wbytes_one _ _ (by omega), wbytes_one _ _ (by omega)]
    show 16 :: (x1 * 256 + x2) / 256 :: (x1 * 256 + x2) % 256 :: (n : Int) / 256 :: (n : Int) % 256 :: ((2 * n : Nat) : Int) :: t = _
    congr 1
    congr 1
    · omega
    · congr 1
      · omega
      · congr 1
        · omega
        · congr 1
          · omega
          · congr 1
            omega
  · -- 20
    have hlen : 2 ≤ ys.length := by
      unfold szOf at hs
      rw [if_neg (by omega), if_pos hc] at hs
      split at hs <;> omega
    obtain ⟨x0, x1, t, rfl⟩ := two_of hlen
    rw [nth_zero] at hc
    subst hc
    have ht : (t.length : Int) = x1 := by
      unfold szOf at hs
      rw [if_neg (by rw [nth_zero]; omega), if_pos (nth_zero _ _), if_neg (by simp)] at hs
      simp only [nth_succ, nth_zero, List.length_cons] at hs
      omega
    have hwt : ∀ x ∈ t, (Lit.int .u8 x).wf = true := fun x hx => hw x (by simp [hx])
    have e : rdQ (20 :: x1 :: t) = ⟨20, 0, 0, [], [], flOf t (t.length / 7)⟩ := by
      unfold rdQ
      rw [if_pos (nth_zero _ _)]
      rfl
    unfold rdOk at hr
    rw [if_pos (nth_zero _ _)] at hr
    have hr : partsOk t = true := hr
    simp only [partsOk, Bool.and_eq_true, decide_eq_true_eq] at hr
    have hl3 : (flOf t (t.length / 7)).length / 3 = t.length / 7 := by rw [flOf_length]; omega
    rw [e]
    have e2 : ∀ m, (flOf t (t.length / 7)).length / 3 = m → pduQ ⟨20, 0, 0, [], [], flOf t (t.length / 7)⟩ = 20 :: ((7 * m : Nat) : Int) :: pbytes (flOf t (t.length / 7)) m := fun m hm => by subst hm; rfl
    rw [e2 _ hl3, pbytes_flOf t hwt _ (by omega) hr.2]
    congr 2
    omega

theorem szOf_take {ys : List Int} (hs : (ys.length : Int) = szOf ys) {k : Nat} (h1 : 1 ≤ k) (h2 : k < ys.length) : (k : Int) < szOf (ys.take k) := by
  have hl : (ys.take k).length = k := by simp; omega
  have h0 := nth_pre ys k 0 (by omega)
  unfold szOf at hs ⊢
  rw [h0, hl]
  split
  · rename_i hc
    rw [if_pos hc] at hs
    split
    · omega
    · rw [if_neg (by omega)] at hs
      rw [nth_pre ys k 5 (by omega)]
      omega
  · rename_i hc
    rw [if_neg hc] at hs
    split
    · rename_i h20
      rw [if_pos h20] at hs
      split
      · omega
      · rw [if_neg (by omega)] at hs
        rw [nth_pre ys k 1 (by omega)]
        omega
    · rename_i h20
      rw [if_neg h20] at hs
      omega
/-- A beginning of a PDU is too short. -/
theorem getE_take {ys : List Int} (h : getE ys = 0) (k : Nat) (hk : k < ys.length) : getE (ys.take k) = 1 := by
  obtain ⟨h0, hm, hs, hr, hc⟩ := getE_zero h
  have hl : (ys.take k).length = k := by simp; omega
  unfold getE
  rw [hl]
  split
  · rfl
  · rename_i hk0
    rw [nth_pre ys k 0 (by omega), if_neg (by omega), if_pos (szOf_take hs (by omega) hk)]
/-- A PDU with more bytes behind it is too long. -/
theorem getE_more {ys : List Int} (h : getE ys = 0) (more : List Int) (hm0 : 0 < more.length) : getE (ys ++ more) = 2 := by
  obtain ⟨h0, hm, hs, hr, hc⟩ := getE_zero h
  have hl : (ys ++ more).length = ys.length + more.length := List.length_append
  have n0 : nth (ys ++ more) 0 = nth ys 0 := nth_left _ _ _ (by omega)
  have hsz : szOf (ys ++ more) = szOf ys := by
    unfold szOf at hs ⊢
    rw [n0, hl]
    split
    · rename_i hc
      rw [if_pos hc] at hs
      split at hs
      · omega
      · rw [if_neg (by omega), if_neg (by omega), nth_left _ _ _ (by omega)]
    · rename_i hc
      rw [if_neg hc] at hs
      split
      · rename_i h20
        rw [if_pos h20] at hs
        split at hs
        · omega
        · rw [if_neg (by omega), if_neg (by omega), nth_left _ _ _ (by omega)]
      · rfl
  unfold getE
  rw [hl, n0, hsz, if_neg (by omega), if_neg (by omega), if_neg (by omega), if_pos (by omega)]
end Go.Proofs.Ytfdikjfbmfibjaa
namespace Go.Proofs.Ytfdikjfbmfibjaa
open Go.RowKit
set_option linter.unusedVariables false

/-- What Put tells: the PDU. -/
def putL (q : Req) : List Int := if chkQ q = 0 then pduQ q else []
theorem chkQ_of {w : World} {B : Nat} {q : Req} {Ao As Ap : Option Addr} {lo ls lp : Nat} (h : Asked w B q Ao As Ap lo ls lp) : chk q.c q.a q.n lo ls lp q.fl = chkQ q := by
  rw [chkQ, h.lo, h.ls, h.lp, Nat.mul_div_cancel_left lp (by omega)]
theorem pduQ_of {w : World} {B : Nat} {q : Req} {Ao As Ap : Option Addr} {lo ls lp : Nat} (h : Asked w B q Ao As Ap lo ls lp) : pduOf q lo ls lp = pduQ q := by
  rw [pduQ, h.lo, h.ls, h.lp, Nat.mul_div_cancel_left lp (by omega)]
theorem right_lengths {q : Req} (hk : chkQ q = 0) : (q.on.length ≤ 1968 ∧ q.set.length ≤ 123) ∧ q.fl.length / 3 ≤ 35 := right_many hk
theorem putL_len (q : Req) (hset : ∀ x ∈ q.set, (Lit.int .u16 x).wf = true) (h3 : q.fl.length % 3 = 0) : (putL q).length ≤ 253 := by
  unfold putL
  split
  · rename_i hk; exact (pdu_back q hset h3 hk).2.2.2
  · simp
theorem putL_wf (q : Req) : ∀ x ∈ putL q, (Lit.int .u8 x).wf = true := by
  unfold putL
  split
  · rename_i hk
    have h2 := right_lengths hk
    have hc := mm_pos (chk_zero hk).1
    intro x hx
    rw [pduQ, pduOf] at hx
    rcases List.mem_cons.1 hx with rfl | hx
    · have := wf_byte q.c.toNat (by omega)
      rwa [show ((q.c.toNat : Nat) : Int) = q.c by omega] at this
    · exact tl_wf (by unfold need; omega) x hx
  · intro x hx; cases hx
/-- Put, of any request. -/
theorem Put_any (q : Req) (Ao As Ap : Option Addr) (lo ls lp co cs cp : Nat) (w : World) (h : Asked w w.heap.size q Ao As Ap lo ls lp) :
    Calls Try.prog 110 #[.agg #[.int .i64 q.c, .int .i64 q.a, .int .i64 q.n, .slice Ao lo co, .slice As ls cs, .slice Ap lp cp]] w (GivesOwn w (putL q) (chkQ q)) := by
  by_cases hk : chkQ q = 0
  · rw [hk, putL, if_pos hk, ← pduQ_of h]
    exact (Put_ok q Ao As Ap lo ls lp co cs cp w h (by rw [chkQ_of h, hk])).mono fun e w' ⟨v, he, ho, hb⟩ => ⟨v, he, ho, hb⟩
  · have h2 := Put_no q Ao As Ap lo ls lp co cs cp w h (by rw [chkQ_of h]; exact hk)
    rw [chkQ_of h] at h2
    rw [putL, if_neg hk]
    exact h2.mono fun e w' ⟨he, hb⟩ => ⟨_, he, Own.nil _ _ _ _, hb⟩
/-- Check, of any request. -/
theorem Check_Q (q : Req) (Ao As Ap : Option Addr) (lo ls lp co cs cp : Nat) (w : World) (h : Asked w w.heap.size q Ao As Ap lo ls lp) :
    Calls Try.prog 34 #[.agg #[.int .i64 q.c, .int .i64 q.a, .int .i64 q.n, .slice Ao lo co, .slice As ls cs, .slice Ap lp cp]] w fun e w' => e = .returned (.int .i64 (chkQ q)) ∧ Below w.heap.size w w' := by
  have h2 := Check_any q Ao As Ap lo ls lp co cs cp w h
  rwa [chkQ_of h] at h2

def ex3 : Req := ⟨3, 107, 3, [], [], []⟩
def ex3L : List Int := [3, 0, 107, 0, 3]
theorem ex3_put : putL ex3 = ex3L := by decide
theorem ex3_chk : chkQ ex3 = 0 := by decide
theorem ex3_getE : getE ex3L = 0 := by decide
theorem ex3_getQ : getQ ex3L = ex3 := by
  unfold getQ
  rw [if_pos ex3_getE]
  rfl
theorem ex3_wf : ∀ x ∈ ex3L, (Lit.int .u8 x).wf = true := by decide
theorem Asked.of_nil (w : World) (B : Nat) (c a n : Int) : Asked w B ⟨c, a, n, [], [], []⟩ none none none 0 0 0 := ⟨L.Row.nil _ _ _ _, Row.nil _ _ _ _, Row.nil _ _ _ _, rfl, rfl, rfl⟩
/-- A request of the call's own, told with a number, reads as its lists. -/
theorem Told.view {w w' : World} {q : Req} {err : Int} {e : Ending} (h : Told w q err e w') (hw : (∀ x ∈ q.set, (Lit.int .u16 x).wf = true) ∧ ∀ x ∈ q.fl, (Lit.int .i64 x).wf = true) :
    ∃ (A1 A2 A3 : Option Addr) (m1 m2 n3 c3 : Nat), e = .returned (.tuple #[.agg #[.int .i64 q.c, .int .i64 q.a, .int .i64 q.n, .slice A1 m1 m1, .slice A2 m2 m2, .slice A3 n3 c3], .int .i64 err]) ∧ Asked w' w'.heap.size q A1 A2 A3 m1 m2 n3 ∧ Below w.heap.size w w' := by
  obtain ⟨A1, A2, m1, m2, g1, g2, vp, he, h1, h2, h3, hl, hg, hb⟩ := h
  obtain ⟨A3, n3, c3, rfl⟩ := h3.form
  exact ⟨A1, A2, A3, m1, m2, n3, c3, he, Told.asked h1 h2 h3 hl hw, hb⟩
/-- Get of what is refused, or of what is right, holds what it may. -/
theorem getQ_wf (ys : List Int) (hw : ∀ x ∈ ys, (Lit.int .u8 x).wf = true) : (∀ x ∈ (getQ ys).set, (Lit.int .u16 x).wf = true) ∧ ∀ x ∈ (getQ ys).fl, (Lit.int .i64 x).wf = true := by
  unfold getQ
  split
  · rename_i h
    obtain ⟨h0, hm, hs, hr, hk⟩ := getE_zero h
    exact rdQ_wf ys hw (szOf_five ys hw hs)
  · exact ⟨by simp [Req.zero], by simp [Req.zero]⟩
theorem Get_view (A : Option Addr) (n c : Nat) (ys : List Int) (w : World) (hr : Row .u8 w w.heap.size A ys) (hn : ys.length = n) (hc : n ≤ c) (hb : n ≤ 140737488355328) :
    Calls Try.prog 29 #[.slice A n c] w fun e w' => ∃ (A1 A2 A3 : Option Addr) (m1 m2 n3 c3 : Nat), e = .returned (.tuple #[.agg #[.int .i64 (getQ ys).c, .int .i64 (getQ ys).a, .int .i64 (getQ ys).n, .slice A1 m1 m1, .slice A2 m2 m2, .slice A3 n3 c3], .int .i64 (getE ys)]) ∧ Asked w' w'.heap.size (getQ ys) A1 A2 A3 m1 m2 n3 ∧ Below w.heap.size w w' :=
  (Get_any A n c ys w hr hn hc hb).mono fun e w' h => h.view (getQ_wf ys hr.1)
end Go.Proofs.Ytfdikjfbmfibjaa
namespace Go.Proofs.Ytfdikjfbmfibjaa
open Go.RowKit
set_option linter.unusedVariables false

theorem grown_of_alloc {w w' : World} {o : Obj} {row : Option Nat} (h : (w.alloc o).grownBy w' row) : w.grownBy w' row :=
  ⟨h.os, h.tape, h.output, by have := h.size; simp at this; omega, fun k hk hne => (h.block k (by simp; omega) hne).trans (heap_alloc_old w o hk)⟩
theorem refTwo_any (v : Value) (xs : List Int) (x : Int) (base : Nat) (w : World) (hown : Own .u8 5 w base v xs) (hx : 0 ≤ x ∧ x < 65536) (hl : xs.length ≤ 1000) (hb : base ≤ w.heap.size) :
    Calls Try.prog 91 #[v, .int .i64 x] w fun e w' => ∃ v', e = .returned v' ∧ Own .u8 5 w' base v' (xs ++ wbytes [x]) ∧ w.grownBy w' v.ownBlock ∧ (∀ g, v'.ownBlock = some g → v.ownBlock = some g ∨ w.heap.size ≤ g) := by
  have e1 : IntKind.u8.wrap (x / 256) = x / 256 := by rw [IntKind.wrap_u8]; omega
  have e2 : IntKind.u8.wrap (x % 256) = x % 256 := by rw [IntKind.wrap_u8]; omega
  have HW : Hid (wbytes [x] = [x / 256, x % 256]) := Lib.hid (by rw [wbytes_one _ _ hx]; rfl)
  have HR : Hid (Row .u8 (w.alloc (.cells #[.int .u8 (x / 256), .int .u8 (x % 256)] 5)) (w.heap.size + 1) (some ⟨w.heap.size, 0, none⟩) [x / 256, x % 256]) := Lib.hid (Row.lit_at .u8 w 5 [x / 256, x % 256] (by
    intro y hy
    simp only [List.mem_cons, List.not_mem_nil, or_false] at hy
    rcases hy with rfl | rfl
    · have := wf_byte (x / 256).toNat (by omega); rwa [show (((x / 256).toNat : Nat) : Int) = x / 256 by omega] at this
    · have := wf_byte (x % 256).toNat (by omega); rwa [show (((x % 256).toNat : Nat) : Int) = x % 256 by omega] at this) rfl)
  have hl' := Lib.hid hl
  rw [HW.out]
  clear hl
  obtain ⟨Av, nv, cv, rfl⟩ : ∃ Av nv cv, v = .slice Av nv cv := by
    rcases hown.2 with ⟨rfl, _⟩ | ⟨g, cap, cur, rfl, _⟩
    · exact ⟨_, _, _, rfl⟩
    · exact ⟨_, _, _, rfl⟩
  go_enter Try.func91, Try.ntmps91
  go_wp2_with (at_builtin; refine wpList_append_row2 _ rfl (.tmp 5) (.tmp 12) 36 rfl base .u8 5 1 Try.underlying36 info_u8 (.slice Av nv cv) xs rfl (hown.alloc _) _ _ 2 2 _ rfl HR.out rfl (by have := hl'.out; omega) (by have := hl'.out; simp only [maxLen]; omega) (by simp; omega) ?_; intro v1 w1 hown1 hg1 hat1)
  go_ret
  exact ⟨_, rfl, hown1, grown_of_alloc hg1, fun g hg => by
    rcases hat1 with h | h
    · exact .inl (h.symm.trans hg)
    · have h2 := hg.symm.trans h
      injection h2 with h2
      simp at h2
      exact .inr (by omega)⟩

theorem shl_pow (r : Nat) (h : r < 8) : (2 : Nat) ^ r < 256 := Nat.lt_of_le_of_lt (Nat.pow_le_pow_right (n := 2) (by omega) (show r ≤ 7 by omega)) (by omega)
set_option maxHeartbeats 2000000 in
set_option maxRecDepth 100000 in
theorem Packed_any (A : Option Addr) (n c : Nat) (bs : List Bool) (w : World) (hr : L.Row () w w.heap.size A bs) (hn : bs.length = n) (hb : n ≤ 100000) :
    Calls Try.prog 92 #[.slice A n c] w (Lays .u8 5 w (pk bs (need n)) (need n)) := by
  have hn' := Lib.hid hn
  clear hn
  have hne : need n ≤ 1000000 := by unfold need; omega
  have hne2 := Lib.hid (show ∀ k, k < n → k / 8 < need n by unfold need; omega)
  have em : ((n : Int) + 7) / 8 = ((need n : Nat) : Int) := by unfold need; omega
  obtain ⟨m, hm⟩ : ∃ m, Hid (need n = m) := ⟨_, Lib.hid rfl⟩
  rw [hm.out] at hne hne2 em ⊢
  have hmk := make_u8 m (by omega)
  have hz : List.replicate m (0 : Int) = pk (bs.take 0) m := by
    refine ext_nth _ _ (by rw [pk_length, List.length_replicate]) fun j hj => ?_
    rw [List.length_replicate] at hj
    rw [nth_replicate _ _ _ hj, pk_nth _ _ _ hj, bsum_stop _ _ 0 8 (by omega) (fun r _ => nth_take_off _ _ _ (by omega))]
    rfl
  rw [hz] at hmk
  clear hz
  have hg0 := Lib.hid (heap_alloc_new w (.cells (blk .u8 (pk (bs.take 0) m)) 5))
  have bel0 : Below w.heap.size w (w.alloc (.cells (blk .u8 (pk (bs.take 0) m)) 5)) := bel_alloc w _
  have hs0 : w.heap.size < (w.alloc (.cells (blk .u8 (pk (bs.take 0) m)) 5)).heap.size := by simp
  go_enter Try.func92, Try.ntmps92
  go_wp2
  go_loopw [4] (fun i wr => ∃ k : Nat, k ≤ n ∧ i = .int .i64 k ∧ Hid (wr.heap[w.heap.size]? = some (.cells (blk .u8 (pk (bs.take k) m)) 5 (0, 0))) ∧ Below w.heap.size w wr ∧ w.heap.size < wr.heap.size) (fun i _ => n - (intOf i).toNat)
  case atStart => exact ⟨0, by omega, rfl, hg0, bel0, hs0⟩
  case round =>
    clear bel0 hs0 hg0 hmk em
    obtain ⟨k, hk, rfl, hg, bel, hs⟩ := hrel
    by_cases hlt : k < n
    · obtain ⟨b, o, rfl, hb1, hc1⟩ := (hr.below bel).at_ (i := k) (by have := hn'.out; omega)
      obtain ⟨v, hv⟩ : ∃ v, Hid (L.nth bs k = v) := ⟨_, Lib.hid rfl⟩
      rw [hv.out] at hc1
      cases v with
      | false =>
        have hg1 := hg
        rw [← pk_off bs k m hv.out] at hg1
        go_wp2
        go_roundw
        case rel => exact ⟨k + 1, by omega, by go_num, hg1, bel, hs⟩
        case measure => simp [intOf]; omega
      | true =>
        have hk8 := hne2.out k hlt
        have hlow := pk_low bs k
        have hc2 : wr.cell? ⟨w.heap.size, k / 8, none⟩ = some (.int .u8 ((bsum (bs.take k) (k / 8) 8 : Nat) : Int)) := by
          rw [cell_of_row wr w.heap.size (k / 8) _ _ _ hg.out, blk_get _ _ _ (by rw [pk_length]; exact hk8), pk_nth _ _ _ hk8]
        have hfz := block_frozen wr w.heap.size (k / 8) _ _ hg.out
        have hnew := Lib.hid (block_setCell wr w.heap.size (k / 8) .u8 5 _ ((bsum (bs.take k) (k / 8) 8 + 2 ^ (k % 8) : Nat) : Int) hg.out)
        rw [pk_on bs k m hk8 hv.out] at hnew
        have bel2 : Below w.heap.size w (wr.setCell ⟨w.heap.size, k / 8, none⟩ (.int .u8 ((bsum (bs.take k) (k / 8) 8 + 2 ^ (k % 8) : Nat) : Int))) := bel.setCell (Nat.le_refl _) _
        have hs2 : w.heap.size < (wr.setCell ⟨w.heap.size, k / 8, none⟩ (.int .u8 ((bsum (bs.take k) (k / 8) 8 + 2 ^ (k % 8) : Nat) : Int))).heap.size := by simpa [World.setCell] using hs
        generalize bsum (bs.take k) (k / 8) 8 = a at *
        obtain ⟨j, hj⟩ : ∃ j, k / 8 = j := ⟨_, rfl⟩
        obtain ⟨r, hr8⟩ : ∃ r, k % 8 = r := ⟨_, rfl⟩
        have er : (k : Int) % 8 = (r : Int) := by omega
        have hr9 : r < 8 := by omega
        have e1 : (k : Int) / 8 = (j : Int) := by omega
        have e2 : (j : Int) < (m : Int) := by omega
        rw [hr8] at hlow hnew bel2 hs2
        rw [hj] at hc2 hfz hnew bel2 hs2 hk8
        clear hj hr8 hg
        obtain rfl | rfl | rfl | rfl | rfl | rfl | rfl | rfl : r = 0 ∨ r = 1 ∨ r = 2 ∨ r = 3 ∨ r = 4 ∨ r = 5 ∨ r = 6 ∨ r = 7 := by omega
        iterate 8
          · simp only [Nat.reducePow] at hlow hnew bel2 hs2
            push_cast at hnew bel2 hs2
            go_wp2
            go_roundw
            case rel => exact ⟨k + 1, by omega, by go_num, hnew, bel2, hs2⟩
            case measure => simp [intOf]; omega
    · obtain rfl : k = n := by omega
      have hx : bs.take k = bs := List.take_of_length_le (by have := hn'.out; omega)
      rw [hx] at hg
      clear hx
      go_wp2
      go_ret
      exact ⟨rfl, hg.out, bel⟩
end Go.Proofs.Ytfdikjfbmfibjaa
