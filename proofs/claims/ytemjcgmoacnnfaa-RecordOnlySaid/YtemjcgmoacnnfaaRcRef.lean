/-
  The document's Check of layer 11.
-/
import Derived.Test.YtemjcgmoacnnfaaRcCheck2
namespace Go.Proofs.Ytemjcgmoacnnfaa
open Go.RowKit
set_option linter.unusedVariables false

theorem tagged_any (k : Int) (w : World) : Calls Try.prog 26 #[.int .i64 k] w fun e w' => e = .returned (.bool (tgK k)) ∧ w = w' := by
  by_cases h1 : k = 1
  · subst h1
    go_enter Try.func26, Try.ntmps26
    go_wp2
    go_ret
    exact ⟨rfl, rfl⟩
  have e1 : (k == 1) = false := beq_false_of_ne h1
  by_cases h2 : k = 2
  · subst h2
    go_enter Try.func26, Try.ntmps26
    go_wp2
    go_ret
    exact ⟨rfl, rfl⟩
  have e2 : (k == 2) = false := beq_false_of_ne h2
  have HB : Hid (tgK k = false) := Lib.hid (by simp [tgK, h1, h2])
  rw [HB.out]
  go_enter Try.func26, Try.ntmps26
  go_wp2
  go_ret
  exact ⟨rfl, rfl⟩
theorem named_any (k : Int) (w : World) : Calls Try.prog 27 #[.int .i64 k] w fun e w' => e = .returned (.bool (idK k)) ∧ w = w' := by
  by_cases h5 : k = 5
  · subst h5
    go_enter Try.func27, Try.ntmps27
    go_wp2
    go_ret
    exact ⟨rfl, rfl⟩
  have e5 : (k == 5) = false := beq_false_of_ne h5
  by_cases h6 : k = 6
  · subst h6
    go_enter Try.func27, Try.ntmps27
    go_wp2
    go_ret
    exact ⟨rfl, rfl⟩
  have e6 : (k == 6) = false := beq_false_of_ne h6
  have HB : Hid (idK k = false) := Lib.hid (by simp [idK, h5, h6])
  rw [HB.out]
  go_enter Try.func27, Try.ntmps27
  go_wp2
  go_ret
  exact ⟨rfl, rfl⟩
theorem valued_any (k : Int) (w : World) : Calls Try.prog 28 #[.int .i64 k] w fun e w' => e = .returned (.bool (vlK k)) ∧ w = w' := by
  by_cases h : k = 5
  · subst h
    go_enter Try.func28, Try.ntmps28
    go_wp2
    go_ret
    exact ⟨rfl, rfl⟩
  have HB : Hid (vlK k = true) := Lib.hid (by simp [vlK, h])
  have e1 : (k == 5) = false := beq_false_of_ne h
  have e2 : (k != 5) = true := by simp [h]
  rw [HB.out]
  go_enter Try.func28, Try.ntmps28
  go_wp2
  go_ret
  exact ⟨rfl, rfl⟩
theorem betw_lo {v a b : Int} (h : ¬ v ≥ a) : betw v a b = false := betw_no.2 fun e => h e.1
theorem betw_hi {v a b : Int} (h : ¬ v ≤ b) : betw v a b = false := betw_no.2 fun e => h e.2
theorem betw_in {v a b : Int} (h : v ≥ a) (h2 : v ≤ b) : betw v a b = true := betw_yes.2 ⟨h, h2⟩
theorem value_1 (v : Int) (w : World) : Calls Try.prog 35 #[.int .i64 1, .int .i64 v] w fun e w' => e = .returned (.bool (betw v (-1099511627776) 1099511627776)) ∧ w = w' := by
  by_cases h : v ≥ (-1099511627776)
  · by_cases h2 : v ≤ 1099511627776
    · have HB := Lib.hid (betw_in h h2)
      rw [HB.out]
      go_enter Try.func35, Try.ntmps35
      go_wp2
      go_ret
      exact ⟨rfl, rfl⟩
    · have HB : Hid (betw v (-1099511627776) 1099511627776 = false) := Lib.hid (betw_hi h2)
      rw [HB.out]
      go_enter Try.func35, Try.ntmps35
      go_wp2
      go_ret
      exact ⟨rfl, rfl⟩
  · have HB : Hid (betw v (-1099511627776) 1099511627776 = false) := Lib.hid (betw_lo h)
    rw [HB.out]
    go_enter Try.func35, Try.ntmps35
    go_wp2
    go_ret
    exact ⟨rfl, rfl⟩
theorem value_2 (v : Int) (w : World) : Calls Try.prog 35 #[.int .i64 2, .int .i64 v] w fun e w' => e = .returned (.bool (betw v 1 4)) ∧ w = w' := by
  by_cases h : v ≥ 1
  · by_cases h2 : v ≤ 4
    · have HB := Lib.hid (betw_in h h2)
      rw [HB.out]
      go_enter Try.func35, Try.ntmps35
      go_wp2
      go_ret
      exact ⟨rfl, rfl⟩
    · have HB : Hid (betw v 1 4 = false) := Lib.hid (betw_hi h2)
      rw [HB.out]
      go_enter Try.func35, Try.ntmps35
      go_wp2
      go_ret
      exact ⟨rfl, rfl⟩
  · have HB : Hid (betw v 1 4 = false) := Lib.hid (betw_lo h)
    rw [HB.out]
    go_enter Try.func35, Try.ntmps35
    go_wp2
    go_ret
    exact ⟨rfl, rfl⟩
theorem value_6 (v : Int) (w : World) : Calls Try.prog 35 #[.int .i64 6, .int .i64 v] w fun e w' => e = .returned (.bool (betw v 0 255)) ∧ w = w' := by
  by_cases h : v ≥ 0
  · by_cases h2 : v ≤ 255
    · have HB := Lib.hid (betw_in h h2)
      rw [HB.out]
      go_enter Try.func35, Try.ntmps35
      go_wp2
      go_ret
      exact ⟨rfl, rfl⟩
    · have HB : Hid (betw v 0 255 = false) := Lib.hid (betw_hi h2)
      rw [HB.out]
      go_enter Try.func35, Try.ntmps35
      go_wp2
      go_ret
      exact ⟨rfl, rfl⟩
  · have HB : Hid (betw v 0 255 = false) := Lib.hid (betw_lo h)
    rw [HB.out]
    go_enter Try.func35, Try.ntmps35
    go_wp2
    go_ret
    exact ⟨rfl, rfl⟩
theorem value_3 (v : Int) (w : World) : Calls Try.prog 35 #[.int .i64 3, .int .i64 v] w fun e w' => e = .returned (.bool (betw v 1 1099511627776)) ∧ w = w' := by
  by_cases h : v ≥ 1
  · by_cases h2 : v ≤ 1099511627776
    · have HB := Lib.hid (betw_in h h2)
      rw [HB.out]
      go_enter Try.func35, Try.ntmps35
      go_wp2
      go_ret
      exact ⟨rfl, rfl⟩
    · have HB : Hid (betw v 1 1099511627776 = false) := Lib.hid (betw_hi h2)
      rw [HB.out]
      go_enter Try.func35, Try.ntmps35
      go_wp2
      go_ret
      exact ⟨rfl, rfl⟩
  · have HB : Hid (betw v 1 1099511627776 = false) := Lib.hid (betw_lo h)
    rw [HB.out]
    go_enter Try.func35, Try.ntmps35
    go_wp2
    go_ret
    exact ⟨rfl, rfl⟩
theorem value_4 (v : Int) (w : World) : Calls Try.prog 35 #[.int .i64 4, .int .i64 v] w fun e w' => e = .returned (.bool (betw v 1 1099511627776)) ∧ w = w' := by
  by_cases h : v ≥ 1
  · by_cases h2 : v ≤ 1099511627776
    · have HB := Lib.hid (betw_in h h2)
      rw [HB.out]
      go_enter Try.func35, Try.ntmps35
      go_wp2
      go_ret
      exact ⟨rfl, rfl⟩
    · have HB : Hid (betw v 1 1099511627776 = false) := Lib.hid (betw_hi h2)
      rw [HB.out]
      go_enter Try.func35, Try.ntmps35
      go_wp2
      go_ret
      exact ⟨rfl, rfl⟩
  · have HB : Hid (betw v 1 1099511627776 = false) := Lib.hid (betw_lo h)
    rw [HB.out]
    go_enter Try.func35, Try.ntmps35
    go_wp2
    go_ret
    exact ⟨rfl, rfl⟩
theorem value11_any (k v : Int) (w : World) (hk : betw k 1 6 = true) (h5 : vlK k = true) : Calls Try.prog 35 #[.int .i64 k, .int .i64 v] w fun e w' => e = .returned (.bool (betw v (lowK k) (topK k))) ∧ w = w' := by
  rcases kinds hk with rfl | rfl | rfl | rfl | rfl | rfl
  · exact value_1 v w
  · exact value_2 v w
  · exact value_3 v w
  · exact value_4 v w
  · exact absurd h5 (by decide)
  · exact value_6 v w
theorem rcs1_i (t : Int) (g : ByteArray) (v i : Int) (w : World) (hn : ¬ i = 0) : Calls Try.prog 12 #[.agg #[.int .i64 1, .int .i64 t, .string g, .int .i64 v, .int .i64 i]] w fun e w' => e = .returned (.int .i64 (chkRc ⟨1, t, g, v, i⟩)) ∧ Below w.heap.size w w' := by
  have HC : Hid (chkRc ⟨1, t, g, v, i⟩ = 23) := Lib.hid (by unfold chkRc; rw [show betw (1 : Int) 1 6 = true from rfl, strK_i ⟨1, t, g, v, i⟩ rfl hn]; rfl)
  rw [HC.out]
  have bel := bel_alloc w (.cells #[.int .i64 1, .int .i64 t, .string g, .int .i64 v, .int .i64 i] 23)
  obtain ⟨c0, c1, c2, c3, c4⟩ := (Bx.new w (.cells #[.int .i64 1, .int .i64 t, .string g, .int .i64 v, .int .i64 i] 23)).five
  have hn1 : (i == 0) = false := beq_false_of_ne hn
  have hn2 : (i != 0) = true := by simp [hn]
  go_enter Try.func12, Try.ntmps12
  go_wp2_with fail
  refine (tagged_any 1 _).mono ?_
  rintro e w' ⟨rfl, rfl⟩
  rw [show tgK 1 = true from rfl]
  go_wp2_with fail
  refine (valued_any 1 _).mono ?_
  rintro e w' ⟨rfl, rfl⟩
  rw [show vlK 1 = true from rfl]
  go_wp2_with fail
  refine (named_any 1 _).mono ?_
  rintro e w' ⟨rfl, rfl⟩
  rw [show idK 1 = false from rfl]
  go_wp2
  go_ret
  exact ⟨rfl, bel⟩
set_option maxHeartbeats 1000000 in
theorem rcr1 (t : Int) (g : ByteArray) (v i : Int) (w : World) (hs : g.size ≤ maxLen) : Calls Try.prog 12 #[.agg #[.int .i64 1, .int .i64 t, .string g, .int .i64 v, .int .i64 0]] w fun e w' => e = .returned (.int .i64 (chkRc ⟨1, t, g, v, 0⟩)) ∧ Below w.heap.size w w' := by
  have HC : Hid (chkRc ⟨1, t, g, v, 0⟩ = bif betw t 0 1099511627776 then (bif nameB (bys g) then (bif betw v (lowK 1) (topK 1) then (0) else 3) else 8) else 3) := Lib.hid (by rw [chk_prog]; rfl)
  rw [HC.out]
  clear HC
  generalize hN : nameB (bys g) = N
  have HN := Lib.hid hN
  clear hN
  generalize hV : betw v (lowK 1) (topK 1) = V
  have HV := Lib.hid hV
  clear hV
  have bel := bel_alloc w (.cells #[.int .i64 1, .int .i64 t, .string g, .int .i64 v, .int .i64 0] 23)
  obtain ⟨c0, c1, c2, c3, c4⟩ := (Bx.new w (.cells #[.int .i64 1, .int .i64 t, .string g, .int .i64 v, .int .i64 0] 23)).five
  by_cases h1 : t < 0
  · rw [show betw t 0 1099511627776 = false from betw_lo (by omega)]
    go_enter Try.func12, Try.ntmps12
    go_wp2_with fail
    refine (tagged_any 1 _).mono ?_
    rintro e w' ⟨rfl, rfl⟩
    rw [show tgK 1 = true from rfl]
    go_wp2_with fail
    refine (valued_any 1 _).mono ?_
    rintro e w' ⟨rfl, rfl⟩
    rw [show vlK 1 = true from rfl]
    go_wp2_with fail
    refine (named_any 1 _).mono ?_
    rintro e w' ⟨rfl, rfl⟩
    rw [show idK 1 = false from rfl]
    go_wp2
    go_ret
    exact ⟨rfl, bel⟩
  by_cases h2 : t > 1099511627776
  · rw [show betw t 0 1099511627776 = false from betw_hi (by omega)]
    go_enter Try.func12, Try.ntmps12
    go_wp2_with fail
    refine (tagged_any 1 _).mono ?_
    rintro e w' ⟨rfl, rfl⟩
    rw [show tgK 1 = true from rfl]
    go_wp2_with fail
    refine (valued_any 1 _).mono ?_
    rintro e w' ⟨rfl, rfl⟩
    rw [show vlK 1 = true from rfl]
    go_wp2_with fail
    refine (named_any 1 _).mono ?_
    rintro e w' ⟨rfl, rfl⟩
    rw [show idK 1 = false from rfl]
    go_wp2
    go_ret
    exact ⟨rfl, bel⟩
  rw [show betw t 0 1099511627776 = true from betw_in (by omega) (by omega)]
  go_enter Try.func12, Try.ntmps12
  go_wp2_with fail
  refine (tagged_any 1 _).mono ?_
  rintro e w' ⟨rfl, rfl⟩
  rw [show tgK 1 = true from rfl]
  go_wp2_with fail
  refine (valued_any 1 _).mono ?_
  rintro e w' ⟨rfl, rfl⟩
  rw [show vlK 1 = true from rfl]
  go_wp2_with fail
  refine (named_any 1 _).mono ?_
  rintro e w' ⟨rfl, rfl⟩
  rw [show idK 1 = false from rfl]
  go_wp2_with fail
  refine (tagged_any 1 _).mono ?_
  rintro e w' ⟨rfl, rfl⟩
  rw [show tgK 1 = true from rfl]
  go_wp2_with fail
  refine (refName_any g _ hs).mono ?_
  rintro e w' ⟨rfl, hwe⟩
  rw [hwe]
  clear hwe w'
  rw [HN.out]
  cases N
  · go_wp2
    go_ret
    exact ⟨rfl, bel⟩
  go_wp2_with fail
  refine (valued_any 1 _).mono ?_
  rintro e w' ⟨rfl, rfl⟩
  rw [show vlK 1 = true from rfl]
  go_wp2_with fail
  refine (value11_any 1 v _ rfl rfl).mono ?_
  rintro e w' ⟨rfl, rfl⟩
  rw [HV.out]
  cases V
  · go_wp2
    go_ret
    exact ⟨rfl, bel⟩
  go_wp2_with fail
  refine (named_any 1 _).mono ?_
  rintro e w' ⟨rfl, rfl⟩
  rw [show idK 1 = false from rfl]
  go_wp2
  go_ret
  exact ⟨rfl, bel⟩
theorem rcs2_i (t : Int) (g : ByteArray) (v i : Int) (w : World) (hn : ¬ i = 0) : Calls Try.prog 12 #[.agg #[.int .i64 2, .int .i64 t, .string g, .int .i64 v, .int .i64 i]] w fun e w' => e = .returned (.int .i64 (chkRc ⟨2, t, g, v, i⟩)) ∧ Below w.heap.size w w' := by
  have HC : Hid (chkRc ⟨2, t, g, v, i⟩ = 23) := Lib.hid (by unfold chkRc; rw [show betw (2 : Int) 1 6 = true from rfl, strK_i ⟨2, t, g, v, i⟩ rfl hn]; rfl)
  rw [HC.out]
  have bel := bel_alloc w (.cells #[.int .i64 2, .int .i64 t, .string g, .int .i64 v, .int .i64 i] 23)
  obtain ⟨c0, c1, c2, c3, c4⟩ := (Bx.new w (.cells #[.int .i64 2, .int .i64 t, .string g, .int .i64 v, .int .i64 i] 23)).five
  have hn1 : (i == 0) = false := beq_false_of_ne hn
  have hn2 : (i != 0) = true := by simp [hn]
  go_enter Try.func12, Try.ntmps12
  go_wp2_with fail
  refine (tagged_any 2 _).mono ?_
  rintro e w' ⟨rfl, rfl⟩
  rw [show tgK 2 = true from rfl]
  go_wp2_with fail
  refine (valued_any 2 _).mono ?_
  rintro e w' ⟨rfl, rfl⟩
  rw [show vlK 2 = true from rfl]
  go_wp2_with fail
  refine (named_any 2 _).mono ?_
  rintro e w' ⟨rfl, rfl⟩
  rw [show idK 2 = false from rfl]
  go_wp2
  go_ret
  exact ⟨rfl, bel⟩
set_option maxHeartbeats 1000000 in
theorem rcr2 (t : Int) (g : ByteArray) (v i : Int) (w : World) (hs : g.size ≤ maxLen) : Calls Try.prog 12 #[.agg #[.int .i64 2, .int .i64 t, .string g, .int .i64 v, .int .i64 0]] w fun e w' => e = .returned (.int .i64 (chkRc ⟨2, t, g, v, 0⟩)) ∧ Below w.heap.size w w' := by
  have HC : Hid (chkRc ⟨2, t, g, v, 0⟩ = bif betw t 0 1099511627776 then (bif nameB (bys g) then (bif betw v (lowK 2) (topK 2) then (0) else 3) else 8) else 3) := Lib.hid (by rw [chk_prog]; rfl)
  rw [HC.out]
  clear HC
  generalize hN : nameB (bys g) = N
  have HN := Lib.hid hN
  clear hN
  generalize hV : betw v (lowK 2) (topK 2) = V
  have HV := Lib.hid hV
  clear hV
  have bel := bel_alloc w (.cells #[.int .i64 2, .int .i64 t, .string g, .int .i64 v, .int .i64 0] 23)
  obtain ⟨c0, c1, c2, c3, c4⟩ := (Bx.new w (.cells #[.int .i64 2, .int .i64 t, .string g, .int .i64 v, .int .i64 0] 23)).five
  by_cases h1 : t < 0
  · rw [show betw t 0 1099511627776 = false from betw_lo (by omega)]
    go_enter Try.func12, Try.ntmps12
    go_wp2_with fail
    refine (tagged_any 2 _).mono ?_
    rintro e w' ⟨rfl, rfl⟩
    rw [show tgK 2 = true from rfl]
    go_wp2_with fail
    refine (valued_any 2 _).mono ?_
    rintro e w' ⟨rfl, rfl⟩
    rw [show vlK 2 = true from rfl]
    go_wp2_with fail
    refine (named_any 2 _).mono ?_
    rintro e w' ⟨rfl, rfl⟩
    rw [show idK 2 = false from rfl]
    go_wp2
    go_ret
    exact ⟨rfl, bel⟩
  by_cases h2 : t > 1099511627776
  · rw [show betw t 0 1099511627776 = false from betw_hi (by omega)]
    go_enter Try.func12, Try.ntmps12
    go_wp2_with fail
    refine (tagged_any 2 _).mono ?_
    rintro e w' ⟨rfl, rfl⟩
    rw [show tgK 2 = true from rfl]
    go_wp2_with fail
    refine (valued_any 2 _).mono ?_
    rintro e w' ⟨rfl, rfl⟩
    rw [show vlK 2 = true from rfl]
    go_wp2_with fail
    refine (named_any 2 _).mono ?_
    rintro e w' ⟨rfl, rfl⟩
    rw [show idK 2 = false from rfl]
    go_wp2
    go_ret
    exact ⟨rfl, bel⟩
  rw [show betw t 0 1099511627776 = true from betw_in (by omega) (by omega)]
  go_enter Try.func12, Try.ntmps12
  go_wp2_with fail
  refine (tagged_any 2 _).mono ?_
  rintro e w' ⟨rfl, rfl⟩
  rw [show tgK 2 = true from rfl]
  go_wp2_with fail
  refine (valued_any 2 _).mono ?_
  rintro e w' ⟨rfl, rfl⟩
  rw [show vlK 2 = true from rfl]
  go_wp2_with fail
  refine (named_any 2 _).mono ?_
  rintro e w' ⟨rfl, rfl⟩
  rw [show idK 2 = false from rfl]
  go_wp2_with fail
  refine (tagged_any 2 _).mono ?_
  rintro e w' ⟨rfl, rfl⟩
  rw [show tgK 2 = true from rfl]
  go_wp2_with fail
  refine (refName_any g _ hs).mono ?_
  rintro e w' ⟨rfl, hwe⟩
  rw [hwe]
  clear hwe w'
  rw [HN.out]
  cases N
  · go_wp2
    go_ret
    exact ⟨rfl, bel⟩
  go_wp2_with fail
  refine (valued_any 2 _).mono ?_
  rintro e w' ⟨rfl, rfl⟩
  rw [show vlK 2 = true from rfl]
  go_wp2_with fail
  refine (value11_any 2 v _ rfl rfl).mono ?_
  rintro e w' ⟨rfl, rfl⟩
  rw [HV.out]
  cases V
  · go_wp2
    go_ret
    exact ⟨rfl, bel⟩
  go_wp2_with fail
  refine (named_any 2 _).mono ?_
  rintro e w' ⟨rfl, rfl⟩
  rw [show idK 2 = false from rfl]
  go_wp2
  go_ret
  exact ⟨rfl, bel⟩
theorem rcs3_g (t : Int) (g : ByteArray) (v i : Int) (w : World) (hp : 0 < g.size) : Calls Try.prog 12 #[.agg #[.int .i64 3, .int .i64 t, .string g, .int .i64 v, .int .i64 i]] w fun e w' => e = .returned (.int .i64 (chkRc ⟨3, t, g, v, i⟩)) ∧ Below w.heap.size w w' := by
  have HC : Hid (chkRc ⟨3, t, g, v, i⟩ = 23) := Lib.hid (by unfold chkRc; rw [show betw (3 : Int) 1 6 = true from rfl, strK_g ⟨3, t, g, v, i⟩ rfl hp]; rfl)
  rw [HC.out]
  have bel := bel_alloc w (.cells #[.int .i64 3, .int .i64 t, .string g, .int .i64 v, .int .i64 i] 23)
  obtain ⟨c0, c1, c2, c3, c4⟩ := (Bx.new w (.cells #[.int .i64 3, .int .i64 t, .string g, .int .i64 v, .int .i64 i] 23)).five
  have hp2 : (g.size : Int) > 0 := by omega
  go_enter Try.func12, Try.ntmps12
  go_wp2_with fail
  refine (tagged_any 3 _).mono ?_
  rintro e w' ⟨rfl, rfl⟩
  rw [show tgK 3 = false from rfl]
  go_wp2
  go_ret
  exact ⟨rfl, bel⟩
theorem rcs3_i (t : Int) (g : ByteArray) (v i : Int) (w : World) (hn : ¬ i = 0) : Calls Try.prog 12 #[.agg #[.int .i64 3, .int .i64 t, .string ⟨#[]⟩, .int .i64 v, .int .i64 i]] w fun e w' => e = .returned (.int .i64 (chkRc ⟨3, t, ⟨#[]⟩, v, i⟩)) ∧ Below w.heap.size w w' := by
  have HC : Hid (chkRc ⟨3, t, ⟨#[]⟩, v, i⟩ = 23) := Lib.hid (by unfold chkRc; rw [show betw (3 : Int) 1 6 = true from rfl, strK_i ⟨3, t, ⟨#[]⟩, v, i⟩ rfl hn]; rfl)
  rw [HC.out]
  have bel := bel_alloc w (.cells #[.int .i64 3, .int .i64 t, .string ⟨#[]⟩, .int .i64 v, .int .i64 i] 23)
  obtain ⟨c0, c1, c2, c3, c4⟩ := (Bx.new w (.cells #[.int .i64 3, .int .i64 t, .string ⟨#[]⟩, .int .i64 v, .int .i64 i] 23)).five
  have hn1 : (i == 0) = false := beq_false_of_ne hn
  have hn2 : (i != 0) = true := by simp [hn]
  go_enter Try.func12, Try.ntmps12
  go_wp2_with fail
  refine (tagged_any 3 _).mono ?_
  rintro e w' ⟨rfl, rfl⟩
  rw [show tgK 3 = false from rfl]
  go_wp2_with fail
  refine (valued_any 3 _).mono ?_
  rintro e w' ⟨rfl, rfl⟩
  rw [show vlK 3 = true from rfl]
  go_wp2_with fail
  refine (named_any 3 _).mono ?_
  rintro e w' ⟨rfl, rfl⟩
  rw [show idK 3 = false from rfl]
  go_wp2
  go_ret
  exact ⟨rfl, bel⟩
set_option maxHeartbeats 1000000 in
theorem rcr3 (t : Int) (g : ByteArray) (v i : Int) (w : World) (hs : g.size ≤ maxLen) : Calls Try.prog 12 #[.agg #[.int .i64 3, .int .i64 t, .string ⟨#[]⟩, .int .i64 v, .int .i64 0]] w fun e w' => e = .returned (.int .i64 (chkRc ⟨3, t, ⟨#[]⟩, v, 0⟩)) ∧ Below w.heap.size w w' := by
  have HC : Hid (chkRc ⟨3, t, ⟨#[]⟩, v, 0⟩ = bif betw t 0 1099511627776 then (bif betw v (lowK 3) (topK 3) then (0) else 3) else 3) := Lib.hid (by rw [chk_prog]; rfl)
  rw [HC.out]
  clear HC
  generalize hV : betw v (lowK 3) (topK 3) = V
  have HV := Lib.hid hV
  clear hV
  have bel := bel_alloc w (.cells #[.int .i64 3, .int .i64 t, .string ⟨#[]⟩, .int .i64 v, .int .i64 0] 23)
  obtain ⟨c0, c1, c2, c3, c4⟩ := (Bx.new w (.cells #[.int .i64 3, .int .i64 t, .string ⟨#[]⟩, .int .i64 v, .int .i64 0] 23)).five
  by_cases h1 : t < 0
  · rw [show betw t 0 1099511627776 = false from betw_lo (by omega)]
    go_enter Try.func12, Try.ntmps12
    go_wp2_with fail
    refine (tagged_any 3 _).mono ?_
    rintro e w' ⟨rfl, rfl⟩
    rw [show tgK 3 = false from rfl]
    go_wp2_with fail
    refine (valued_any 3 _).mono ?_
    rintro e w' ⟨rfl, rfl⟩
    rw [show vlK 3 = true from rfl]
    go_wp2_with fail
    refine (named_any 3 _).mono ?_
    rintro e w' ⟨rfl, rfl⟩
    rw [show idK 3 = false from rfl]
    go_wp2
    go_ret
    exact ⟨rfl, bel⟩
  by_cases h2 : t > 1099511627776
  · rw [show betw t 0 1099511627776 = false from betw_hi (by omega)]
    go_enter Try.func12, Try.ntmps12
    go_wp2_with fail
    refine (tagged_any 3 _).mono ?_
    rintro e w' ⟨rfl, rfl⟩
    rw [show tgK 3 = false from rfl]
    go_wp2_with fail
    refine (valued_any 3 _).mono ?_
    rintro e w' ⟨rfl, rfl⟩
    rw [show vlK 3 = true from rfl]
    go_wp2_with fail
    refine (named_any 3 _).mono ?_
    rintro e w' ⟨rfl, rfl⟩
    rw [show idK 3 = false from rfl]
    go_wp2
    go_ret
    exact ⟨rfl, bel⟩
  rw [show betw t 0 1099511627776 = true from betw_in (by omega) (by omega)]
  go_enter Try.func12, Try.ntmps12
  go_wp2_with fail
  refine (tagged_any 3 _).mono ?_
  rintro e w' ⟨rfl, rfl⟩
  rw [show tgK 3 = false from rfl]
  go_wp2_with fail
  refine (valued_any 3 _).mono ?_
  rintro e w' ⟨rfl, rfl⟩
  rw [show vlK 3 = true from rfl]
  go_wp2_with fail
  refine (named_any 3 _).mono ?_
  rintro e w' ⟨rfl, rfl⟩
  rw [show idK 3 = false from rfl]
  go_wp2_with fail
  refine (tagged_any 3 _).mono ?_
  rintro e w' ⟨rfl, rfl⟩
  rw [show tgK 3 = false from rfl]
  go_wp2_with fail
  refine (valued_any 3 _).mono ?_
  rintro e w' ⟨rfl, rfl⟩
  rw [show vlK 3 = true from rfl]
  go_wp2_with fail
  refine (value11_any 3 v _ rfl rfl).mono ?_
  rintro e w' ⟨rfl, rfl⟩
  rw [HV.out]
  cases V
  · go_wp2
    go_ret
    exact ⟨rfl, bel⟩
  go_wp2_with fail
  refine (named_any 3 _).mono ?_
  rintro e w' ⟨rfl, rfl⟩
  rw [show idK 3 = false from rfl]
  go_wp2
  go_ret
  exact ⟨rfl, bel⟩
theorem rcs4_g (t : Int) (g : ByteArray) (v i : Int) (w : World) (hp : 0 < g.size) : Calls Try.prog 12 #[.agg #[.int .i64 4, .int .i64 t, .string g, .int .i64 v, .int .i64 i]] w fun e w' => e = .returned (.int .i64 (chkRc ⟨4, t, g, v, i⟩)) ∧ Below w.heap.size w w' := by
  have HC : Hid (chkRc ⟨4, t, g, v, i⟩ = 23) := Lib.hid (by unfold chkRc; rw [show betw (4 : Int) 1 6 = true from rfl, strK_g ⟨4, t, g, v, i⟩ rfl hp]; rfl)
  rw [HC.out]
  have bel := bel_alloc w (.cells #[.int .i64 4, .int .i64 t, .string g, .int .i64 v, .int .i64 i] 23)
  obtain ⟨c0, c1, c2, c3, c4⟩ := (Bx.new w (.cells #[.int .i64 4, .int .i64 t, .string g, .int .i64 v, .int .i64 i] 23)).five
  have hp2 : (g.size : Int) > 0 := by omega
  go_enter Try.func12, Try.ntmps12
  go_wp2_with fail
  refine (tagged_any 4 _).mono ?_
  rintro e w' ⟨rfl, rfl⟩
  rw [show tgK 4 = false from rfl]
  go_wp2
  go_ret
  exact ⟨rfl, bel⟩
theorem rcs4_i (t : Int) (g : ByteArray) (v i : Int) (w : World) (hn : ¬ i = 0) : Calls Try.prog 12 #[.agg #[.int .i64 4, .int .i64 t, .string ⟨#[]⟩, .int .i64 v, .int .i64 i]] w fun e w' => e = .returned (.int .i64 (chkRc ⟨4, t, ⟨#[]⟩, v, i⟩)) ∧ Below w.heap.size w w' := by
  have HC : Hid (chkRc ⟨4, t, ⟨#[]⟩, v, i⟩ = 23) := Lib.hid (by unfold chkRc; rw [show betw (4 : Int) 1 6 = true from rfl, strK_i ⟨4, t, ⟨#[]⟩, v, i⟩ rfl hn]; rfl)
  rw [HC.out]
  have bel := bel_alloc w (.cells #[.int .i64 4, .int .i64 t, .string ⟨#[]⟩, .int .i64 v, .int .i64 i] 23)
  obtain ⟨c0, c1, c2, c3, c4⟩ := (Bx.new w (.cells #[.int .i64 4, .int .i64 t, .string ⟨#[]⟩, .int .i64 v, .int .i64 i] 23)).five
  have hn1 : (i == 0) = false := beq_false_of_ne hn
  have hn2 : (i != 0) = true := by simp [hn]
  go_enter Try.func12, Try.ntmps12
  go_wp2_with fail
  refine (tagged_any 4 _).mono ?_
  rintro e w' ⟨rfl, rfl⟩
  rw [show tgK 4 = false from rfl]
  go_wp2_with fail
  refine (valued_any 4 _).mono ?_
  rintro e w' ⟨rfl, rfl⟩
  rw [show vlK 4 = true from rfl]
  go_wp2_with fail
  refine (named_any 4 _).mono ?_
  rintro e w' ⟨rfl, rfl⟩
  rw [show idK 4 = false from rfl]
  go_wp2
  go_ret
  exact ⟨rfl, bel⟩
set_option maxHeartbeats 1000000 in
theorem rcr4 (t : Int) (g : ByteArray) (v i : Int) (w : World) (hs : g.size ≤ maxLen) : Calls Try.prog 12 #[.agg #[.int .i64 4, .int .i64 t, .string ⟨#[]⟩, .int .i64 v, .int .i64 0]] w fun e w' => e = .returned (.int .i64 (chkRc ⟨4, t, ⟨#[]⟩, v, 0⟩)) ∧ Below w.heap.size w w' := by
  have HC : Hid (chkRc ⟨4, t, ⟨#[]⟩, v, 0⟩ = bif betw t 0 1099511627776 then (bif betw v (lowK 4) (topK 4) then (0) else 3) else 3) := Lib.hid (by rw [chk_prog]; rfl)
  rw [HC.out]
  clear HC
  generalize hV : betw v (lowK 4) (topK 4) = V
  have HV := Lib.hid hV
  clear hV
  have bel := bel_alloc w (.cells #[.int .i64 4, .int .i64 t, .string ⟨#[]⟩, .int .i64 v, .int .i64 0] 23)
  obtain ⟨c0, c1, c2, c3, c4⟩ := (Bx.new w (.cells #[.int .i64 4, .int .i64 t, .string ⟨#[]⟩, .int .i64 v, .int .i64 0] 23)).five
  by_cases h1 : t < 0
  · rw [show betw t 0 1099511627776 = false from betw_lo (by omega)]
    go_enter Try.func12, Try.ntmps12
    go_wp2_with fail
    refine (tagged_any 4 _).mono ?_
    rintro e w' ⟨rfl, rfl⟩
    rw [show tgK 4 = false from rfl]
    go_wp2_with fail
    refine (valued_any 4 _).mono ?_
    rintro e w' ⟨rfl, rfl⟩
    rw [show vlK 4 = true from rfl]
    go_wp2_with fail
    refine (named_any 4 _).mono ?_
    rintro e w' ⟨rfl, rfl⟩
    rw [show idK 4 = false from rfl]
    go_wp2
    go_ret
    exact ⟨rfl, bel⟩
  by_cases h2 : t > 1099511627776
  · rw [show betw t 0 1099511627776 = false from betw_hi (by omega)]
    go_enter Try.func12, Try.ntmps12
    go_wp2_with fail
    refine (tagged_any 4 _).mono ?_
    rintro e w' ⟨rfl, rfl⟩
    rw [show tgK 4 = false from rfl]
    go_wp2_with fail
    refine (valued_any 4 _).mono ?_
    rintro e w' ⟨rfl, rfl⟩
    rw [show vlK 4 = true from rfl]
    go_wp2_with fail
    refine (named_any 4 _).mono ?_
    rintro e w' ⟨rfl, rfl⟩
    rw [show idK 4 = false from rfl]
    go_wp2
    go_ret
    exact ⟨rfl, bel⟩
  rw [show betw t 0 1099511627776 = true from betw_in (by omega) (by omega)]
  go_enter Try.func12, Try.ntmps12
  go_wp2_with fail
  refine (tagged_any 4 _).mono ?_
  rintro e w' ⟨rfl, rfl⟩
  rw [show tgK 4 = false from rfl]
  go_wp2_with fail
  refine (valued_any 4 _).mono ?_
  rintro e w' ⟨rfl, rfl⟩
  rw [show vlK 4 = true from rfl]
  go_wp2_with fail
  refine (named_any 4 _).mono ?_
  rintro e w' ⟨rfl, rfl⟩
  rw [show idK 4 = false from rfl]
  go_wp2_with fail
  refine (tagged_any 4 _).mono ?_
  rintro e w' ⟨rfl, rfl⟩
  rw [show tgK 4 = false from rfl]
  go_wp2_with fail
  refine (valued_any 4 _).mono ?_
  rintro e w' ⟨rfl, rfl⟩
  rw [show vlK 4 = true from rfl]
  go_wp2_with fail
  refine (value11_any 4 v _ rfl rfl).mono ?_
  rintro e w' ⟨rfl, rfl⟩
  rw [HV.out]
  cases V
  · go_wp2
    go_ret
    exact ⟨rfl, bel⟩
  go_wp2_with fail
  refine (named_any 4 _).mono ?_
  rintro e w' ⟨rfl, rfl⟩
  rw [show idK 4 = false from rfl]
  go_wp2
  go_ret
  exact ⟨rfl, bel⟩
theorem rcs5_g (t : Int) (g : ByteArray) (v i : Int) (w : World) (hp : 0 < g.size) : Calls Try.prog 12 #[.agg #[.int .i64 5, .int .i64 t, .string g, .int .i64 v, .int .i64 i]] w fun e w' => e = .returned (.int .i64 (chkRc ⟨5, t, g, v, i⟩)) ∧ Below w.heap.size w w' := by
  have HC : Hid (chkRc ⟨5, t, g, v, i⟩ = 23) := Lib.hid (by unfold chkRc; rw [show betw (5 : Int) 1 6 = true from rfl, strK_g ⟨5, t, g, v, i⟩ rfl hp]; rfl)
  rw [HC.out]
  have bel := bel_alloc w (.cells #[.int .i64 5, .int .i64 t, .string g, .int .i64 v, .int .i64 i] 23)
  obtain ⟨c0, c1, c2, c3, c4⟩ := (Bx.new w (.cells #[.int .i64 5, .int .i64 t, .string g, .int .i64 v, .int .i64 i] 23)).five
  have hp2 : (g.size : Int) > 0 := by omega
  go_enter Try.func12, Try.ntmps12
  go_wp2_with fail
  refine (tagged_any 5 _).mono ?_
  rintro e w' ⟨rfl, rfl⟩
  rw [show tgK 5 = false from rfl]
  go_wp2
  go_ret
  exact ⟨rfl, bel⟩
theorem rcs5_v (t : Int) (g : ByteArray) (v i : Int) (w : World) (hn : ¬ v = 0) : Calls Try.prog 12 #[.agg #[.int .i64 5, .int .i64 t, .string ⟨#[]⟩, .int .i64 v, .int .i64 i]] w fun e w' => e = .returned (.int .i64 (chkRc ⟨5, t, ⟨#[]⟩, v, i⟩)) ∧ Below w.heap.size w w' := by
  have HC : Hid (chkRc ⟨5, t, ⟨#[]⟩, v, i⟩ = 23) := Lib.hid (by unfold chkRc; rw [show betw (5 : Int) 1 6 = true from rfl, strK_v ⟨5, t, ⟨#[]⟩, v, i⟩ rfl hn]; rfl)
  rw [HC.out]
  have bel := bel_alloc w (.cells #[.int .i64 5, .int .i64 t, .string ⟨#[]⟩, .int .i64 v, .int .i64 i] 23)
  obtain ⟨c0, c1, c2, c3, c4⟩ := (Bx.new w (.cells #[.int .i64 5, .int .i64 t, .string ⟨#[]⟩, .int .i64 v, .int .i64 i] 23)).five
  have hn1 : (v == 0) = false := beq_false_of_ne hn
  have hn2 : (v != 0) = true := by simp [hn]
  go_enter Try.func12, Try.ntmps12
  go_wp2_with fail
  refine (tagged_any 5 _).mono ?_
  rintro e w' ⟨rfl, rfl⟩
  rw [show tgK 5 = false from rfl]
  go_wp2_with fail
  refine (valued_any 5 _).mono ?_
  rintro e w' ⟨rfl, rfl⟩
  rw [show vlK 5 = false from rfl]
  go_wp2
  go_ret
  exact ⟨rfl, bel⟩
set_option maxHeartbeats 1000000 in
theorem rcr5 (t : Int) (g : ByteArray) (v i : Int) (w : World) (hs : g.size ≤ maxLen) : Calls Try.prog 12 #[.agg #[.int .i64 5, .int .i64 t, .string ⟨#[]⟩, .int .i64 0, .int .i64 i]] w fun e w' => e = .returned (.int .i64 (chkRc ⟨5, t, ⟨#[]⟩, 0, i⟩)) ∧ Below w.heap.size w w' := by
  have HC : Hid (chkRc ⟨5, t, ⟨#[]⟩, 0, i⟩ = bif betw t 0 1099511627776 then (bif betw i 1 1099511627776 then 0 else 3) else 3) := Lib.hid (by rw [chk_prog]; rfl)
  rw [HC.out]
  clear HC
  have bel := bel_alloc w (.cells #[.int .i64 5, .int .i64 t, .string ⟨#[]⟩, .int .i64 0, .int .i64 i] 23)
  obtain ⟨c0, c1, c2, c3, c4⟩ := (Bx.new w (.cells #[.int .i64 5, .int .i64 t, .string ⟨#[]⟩, .int .i64 0, .int .i64 i] 23)).five
  by_cases h1 : t < 0
  · rw [show betw t 0 1099511627776 = false from betw_lo (by omega)]
    go_enter Try.func12, Try.ntmps12
    go_wp2_with fail
    refine (tagged_any 5 _).mono ?_
    rintro e w' ⟨rfl, rfl⟩
    rw [show tgK 5 = false from rfl]
    go_wp2_with fail
    refine (valued_any 5 _).mono ?_
    rintro e w' ⟨rfl, rfl⟩
    rw [show vlK 5 = false from rfl]
    go_wp2_with fail
    refine (named_any 5 _).mono ?_
    rintro e w' ⟨rfl, rfl⟩
    rw [show idK 5 = true from rfl]
    go_wp2
    go_ret
    exact ⟨rfl, bel⟩
  by_cases h2 : t > 1099511627776
  · rw [show betw t 0 1099511627776 = false from betw_hi (by omega)]
    go_enter Try.func12, Try.ntmps12
    go_wp2_with fail
    refine (tagged_any 5 _).mono ?_
    rintro e w' ⟨rfl, rfl⟩
    rw [show tgK 5 = false from rfl]
    go_wp2_with fail
    refine (valued_any 5 _).mono ?_
    rintro e w' ⟨rfl, rfl⟩
    rw [show vlK 5 = false from rfl]
    go_wp2_with fail
    refine (named_any 5 _).mono ?_
    rintro e w' ⟨rfl, rfl⟩
    rw [show idK 5 = true from rfl]
    go_wp2
    go_ret
    exact ⟨rfl, bel⟩
  rw [show betw t 0 1099511627776 = true from betw_in (by omega) (by omega)]
  have hJ : (betw i 1 1099511627776 = false ∧ i < 1) ∨ (betw i 1 1099511627776 = false ∧ ¬ i < 1 ∧ i > 1099511627776) ∨ (betw i 1 1099511627776 = true ∧ ¬ i < 1 ∧ ¬ i > 1099511627776) := by
    by_cases j1 : i < 1
    · exact .inl ⟨betw_lo (by omega), j1⟩
    · by_cases j2 : i > 1099511627776
      · exact .inr (.inl ⟨betw_hi (by omega), j1, j2⟩)
      · exact .inr (.inr ⟨betw_in (by omega) (by omega), j1, j2⟩)
  generalize betw i 1 1099511627776 = J at hJ ⊢
  go_enter Try.func12, Try.ntmps12
  go_wp2_with fail
  refine (tagged_any 5 _).mono ?_
  rintro e w' ⟨rfl, rfl⟩
  rw [show tgK 5 = false from rfl]
  go_wp2_with fail
  refine (valued_any 5 _).mono ?_
  rintro e w' ⟨rfl, rfl⟩
  rw [show vlK 5 = false from rfl]
  go_wp2_with fail
  refine (named_any 5 _).mono ?_
  rintro e w' ⟨rfl, rfl⟩
  rw [show idK 5 = true from rfl]
  go_wp2_with fail
  refine (tagged_any 5 _).mono ?_
  rintro e w' ⟨rfl, rfl⟩
  rw [show tgK 5 = false from rfl]
  go_wp2_with fail
  refine (valued_any 5 _).mono ?_
  rintro e w' ⟨rfl, rfl⟩
  rw [show vlK 5 = false from rfl]
  go_wp2_with fail
  refine (named_any 5 _).mono ?_
  rintro e w' ⟨rfl, rfl⟩
  rw [show idK 5 = true from rfl]
  rcases hJ with ⟨rfl, j1⟩ | ⟨rfl, j1, j2⟩ | ⟨rfl, j1, j2⟩
  · go_wp2
    go_ret
    exact ⟨rfl, bel⟩
  · go_wp2
    go_ret
    exact ⟨rfl, bel⟩
  · go_wp2
    go_ret
    exact ⟨rfl, bel⟩
theorem rcs6_g (t : Int) (g : ByteArray) (v i : Int) (w : World) (hp : 0 < g.size) : Calls Try.prog 12 #[.agg #[.int .i64 6, .int .i64 t, .string g, .int .i64 v, .int .i64 i]] w fun e w' => e = .returned (.int .i64 (chkRc ⟨6, t, g, v, i⟩)) ∧ Below w.heap.size w w' := by
  have HC : Hid (chkRc ⟨6, t, g, v, i⟩ = 23) := Lib.hid (by unfold chkRc; rw [show betw (6 : Int) 1 6 = true from rfl, strK_g ⟨6, t, g, v, i⟩ rfl hp]; rfl)
  rw [HC.out]
  have bel := bel_alloc w (.cells #[.int .i64 6, .int .i64 t, .string g, .int .i64 v, .int .i64 i] 23)
  obtain ⟨c0, c1, c2, c3, c4⟩ := (Bx.new w (.cells #[.int .i64 6, .int .i64 t, .string g, .int .i64 v, .int .i64 i] 23)).five
  have hp2 : (g.size : Int) > 0 := by omega
  go_enter Try.func12, Try.ntmps12
  go_wp2_with fail
  refine (tagged_any 6 _).mono ?_
  rintro e w' ⟨rfl, rfl⟩
  rw [show tgK 6 = false from rfl]
  go_wp2
  go_ret
  exact ⟨rfl, bel⟩
set_option maxHeartbeats 1000000 in
theorem rcr6 (t : Int) (g : ByteArray) (v i : Int) (w : World) (hs : g.size ≤ maxLen) : Calls Try.prog 12 #[.agg #[.int .i64 6, .int .i64 t, .string ⟨#[]⟩, .int .i64 v, .int .i64 i]] w fun e w' => e = .returned (.int .i64 (chkRc ⟨6, t, ⟨#[]⟩, v, i⟩)) ∧ Below w.heap.size w w' := by
  have HC : Hid (chkRc ⟨6, t, ⟨#[]⟩, v, i⟩ = bif betw t 0 1099511627776 then (bif betw v (lowK 6) (topK 6) then (bif betw i 1 1099511627776 then 0 else 3) else 3) else 3) := Lib.hid (by rw [chk_prog]; rfl)
  rw [HC.out]
  clear HC
  generalize hV : betw v (lowK 6) (topK 6) = V
  have HV := Lib.hid hV
  clear hV
  have bel := bel_alloc w (.cells #[.int .i64 6, .int .i64 t, .string ⟨#[]⟩, .int .i64 v, .int .i64 i] 23)
  obtain ⟨c0, c1, c2, c3, c4⟩ := (Bx.new w (.cells #[.int .i64 6, .int .i64 t, .string ⟨#[]⟩, .int .i64 v, .int .i64 i] 23)).five
  by_cases h1 : t < 0
  · rw [show betw t 0 1099511627776 = false from betw_lo (by omega)]
    go_enter Try.func12, Try.ntmps12
    go_wp2_with fail
    refine (tagged_any 6 _).mono ?_
    rintro e w' ⟨rfl, rfl⟩
    rw [show tgK 6 = false from rfl]
    go_wp2_with fail
    refine (valued_any 6 _).mono ?_
    rintro e w' ⟨rfl, rfl⟩
    rw [show vlK 6 = true from rfl]
    go_wp2_with fail
    refine (named_any 6 _).mono ?_
    rintro e w' ⟨rfl, rfl⟩
    rw [show idK 6 = true from rfl]
    go_wp2
    go_ret
    exact ⟨rfl, bel⟩
  by_cases h2 : t > 1099511627776
  · rw [show betw t 0 1099511627776 = false from betw_hi (by omega)]
    go_enter Try.func12, Try.ntmps12
    go_wp2_with fail
    refine (tagged_any 6 _).mono ?_
    rintro e w' ⟨rfl, rfl⟩
    rw [show tgK 6 = false from rfl]
    go_wp2_with fail
    refine (valued_any 6 _).mono ?_
    rintro e w' ⟨rfl, rfl⟩
    rw [show vlK 6 = true from rfl]
    go_wp2_with fail
    refine (named_any 6 _).mono ?_
    rintro e w' ⟨rfl, rfl⟩
    rw [show idK 6 = true from rfl]
    go_wp2
    go_ret
    exact ⟨rfl, bel⟩
  rw [show betw t 0 1099511627776 = true from betw_in (by omega) (by omega)]
  have hJ : (betw i 1 1099511627776 = false ∧ i < 1) ∨ (betw i 1 1099511627776 = false ∧ ¬ i < 1 ∧ i > 1099511627776) ∨ (betw i 1 1099511627776 = true ∧ ¬ i < 1 ∧ ¬ i > 1099511627776) := by
    by_cases j1 : i < 1
    · exact .inl ⟨betw_lo (by omega), j1⟩
    · by_cases j2 : i > 1099511627776
      · exact .inr (.inl ⟨betw_hi (by omega), j1, j2⟩)
      · exact .inr (.inr ⟨betw_in (by omega) (by omega), j1, j2⟩)
  generalize betw i 1 1099511627776 = J at hJ ⊢
  go_enter Try.func12, Try.ntmps12
  go_wp2_with fail
  refine (tagged_any 6 _).mono ?_
  rintro e w' ⟨rfl, rfl⟩
  rw [show tgK 6 = false from rfl]
  go_wp2_with fail
  refine (valued_any 6 _).mono ?_
  rintro e w' ⟨rfl, rfl⟩
  rw [show vlK 6 = true from rfl]
  go_wp2_with fail
  refine (named_any 6 _).mono ?_
  rintro e w' ⟨rfl, rfl⟩
  rw [show idK 6 = true from rfl]
  go_wp2_with fail
  refine (tagged_any 6 _).mono ?_
  rintro e w' ⟨rfl, rfl⟩
  rw [show tgK 6 = false from rfl]
  go_wp2_with fail
  refine (valued_any 6 _).mono ?_
  rintro e w' ⟨rfl, rfl⟩
  rw [show vlK 6 = true from rfl]
  go_wp2_with fail
  refine (value11_any 6 v _ rfl rfl).mono ?_
  rintro e w' ⟨rfl, rfl⟩
  rw [HV.out]
  cases V
  · go_wp2
    go_ret
    exact ⟨rfl, bel⟩
  go_wp2_with fail
  refine (named_any 6 _).mono ?_
  rintro e w' ⟨rfl, rfl⟩
  rw [show idK 6 = true from rfl]
  rcases hJ with ⟨rfl, j1⟩ | ⟨rfl, j1, j2⟩ | ⟨rfl, j1, j2⟩
  · go_wp2
    go_ret
    exact ⟨rfl, bel⟩
  · go_wp2
    go_ret
    exact ⟨rfl, bel⟩
  · go_wp2
    go_ret
    exact ⟨rfl, bel⟩
theorem refCheck11_any (k t : Int) (g : ByteArray) (v i : Int) (w : World) (hs : g.size ≤ maxLen) : Calls Try.prog 12 #[.agg #[.int .i64 k, .int .i64 t, .string g, .int .i64 v, .int .i64 i]] w fun e w' => e = .returned (.int .i64 (chkRc ⟨k, t, g, v, i⟩)) ∧ Below w.heap.size w w' := by
  cases hk : betw k 1 6
  · have HC : Hid (chkRc ⟨k, t, g, v, i⟩ = 28) := Lib.hid (by unfold chkRc; rw [hk]; rfl)
    rw [HC.out]
    have bel := bel_alloc w (.cells #[.int .i64 k, .int .i64 t, .string g, .int .i64 v, .int .i64 i] 23)
    obtain ⟨c0, c1, c2, c3, c4⟩ := (Bx.new w (.cells #[.int .i64 k, .int .i64 t, .string g, .int .i64 v, .int .i64 i] 23)).five
    by_cases h1 : k < 1
    · clear hk
      go_enter Try.func12, Try.ntmps12
      go_wp2
      go_ret
      exact ⟨rfl, bel⟩
    · have h2 : k > 6 := by have := betw_no.1 hk; omega
      clear hk
      go_enter Try.func12, Try.ntmps12
      go_wp2
      go_ret
      exact ⟨rfl, bel⟩
  obtain ⟨a, ha, ha2⟩ := sB_any g
  obtain ⟨b, hb, hb2⟩ := nB_any v
  obtain ⟨c, hc, hc2⟩ := nB_any i
  rcases kinds hk with rfl | rfl | rfl | rfl | rfl | rfl
  · cases c
    · exact rcs1_i t g v i w (hc2 rfl).2.2
    obtain rfl := hc rfl
    exact rcr1 t g v 0 w hs
  · cases c
    · exact rcs2_i t g v i w (hc2 rfl).2.2
    obtain rfl := hc rfl
    exact rcr2 t g v 0 w hs
  · cases a
    · exact rcs3_g t g v i w (ha2 rfl).1
    obtain rfl := ha rfl
    cases c
    · exact rcs3_i t ⟨#[]⟩ v i w (hc2 rfl).2.2
    obtain rfl := hc rfl
    exact rcr3 t ⟨#[]⟩ v 0 w hs
  · cases a
    · exact rcs4_g t g v i w (ha2 rfl).1
    obtain rfl := ha rfl
    cases c
    · exact rcs4_i t ⟨#[]⟩ v i w (hc2 rfl).2.2
    obtain rfl := hc rfl
    exact rcr4 t ⟨#[]⟩ v 0 w hs
  · cases a
    · exact rcs5_g t g v i w (ha2 rfl).1
    obtain rfl := ha rfl
    cases b
    · exact rcs5_v t ⟨#[]⟩ v i w (hb2 rfl).2.2
    obtain rfl := hb rfl
    exact rcr5 t ⟨#[]⟩ 0 i w hs
  · cases a
    · exact rcs6_g t g v i w (ha2 rfl).1
    obtain rfl := ha rfl
    exact rcr6 t ⟨#[]⟩ v i w hs
end Go.Proofs.Ytemjcgmoacnnfaa
