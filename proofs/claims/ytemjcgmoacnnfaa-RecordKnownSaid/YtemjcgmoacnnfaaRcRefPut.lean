/-
  The document's Put of layer 11.
-/
import Derived.Test.YtemjcgmoacnnfaaRcPut
import Derived.Test.YtemjcgmoacnnfaaRcRef
namespace Go.Proofs.Ytemjcgmoacnnfaa
open Go.RowKit
set_option linter.unusedVariables false

theorem be_take_step11 (n v k : Nat) (h : k < n) : (be n v).take (k + 1) = (be n v).take k ++ [((v / 256 ^ (n - 1 - k) % 256 : Nat) : Int)] := by
  rw [take_step _ _ (by rw [be_length]; exact h), be_nth n v k h]
set_option maxHeartbeats 1000000 in
theorem eight_any (b : Value) (xs : List Int) (v : Int) (w : World) (base : Nat) (hb : base ≤ w.heap.size) (hown : Own .u8 5 w base b xs) (hl : xs.length ≤ 1000) :
    Calls Try.prog 25 #[b, .int .i64 v] w fun e w' => ∃ b', e = .returned b' ∧ Own .u8 5 w' base b' (xs ++ e8 v) ∧ Below base w w' := by
  obtain ⟨u, hu⟩ : ∃ u : Nat, (v % 18446744073709551616).toNat = u := ⟨_, rfl⟩
  have hw : IntKind.u64.wrap v = (u : Int) := by rw [IntKind.wrap_u64]; omega
  have hu64 : u < 18446744073709551616 := by omega
  have HE : Hid (e8 v = be 8 u) := Lib.hid (by unfold e8; rw [hu])
  rw [HE.out]
  clear hu
  go_enter Try.func25, Try.ntmps25
  go_wp2
  go_loopw [0, 6] (fun t i wr => ∃ j : Nat, j ≤ 8 ∧ i = .int .i64 (7 - (j : Int)) ∧ Own .u8 5 wr base t (xs ++ (be 8 u).take j) ∧ Below base w wr) (fun _ i _ => (intOf i + 1).toNat)
  case atStart => exact ⟨0, by omega, by simp, by rw [List.take_zero, List.append_nil]; exact hown, Below.refl _ _⟩
  case round =>
    clear hown
    obtain ⟨j, hj, rfl, hown, hbel⟩ := hrel
    by_cases hlj : j < 8
    · obtain ⟨i, hi⟩ : ∃ i, Hid (8 = j + 1 + i) := ⟨8 - (j + 1), Lib.hid (by omega)⟩
      have hi8 : i ≤ 7 := by have := hi.out; omega
      have e : (7 : Int) - (j : Int) = (i : Int) := by have := hi.out; omega
      rw [e]
      clear e
      have HB := Lib.hid (be_take_step11 8 u j hlj)
      rw [show 8 - 1 - j = i by have := hi.out; omega] at HB
      have hq : u / 256 ^ i % 256 < 256 := Nat.mod_lt _ (by omega)
      have hpow : (2 : Int) ^ (8 * i) = ((256 ^ i : Nat) : Int) := by rw [← pow_256, Int.natCast_pow]; rfl
      have HQ : IntKind.u8.wrap ((u : Int) / 2 ^ (8 * i)) = ((u / 256 ^ i % 256 : Nat) : Int) := by
        rw [IntKind.wrap_u8, hpow]; omega
      generalize u / 256 ^ i % 256 = q at *
      have hone := Row.one .u8 wr 5 (q : Int) (wf_byte q hq)
      have hl2 : Hid ((xs ++ (be 8 u).take j).length = xs.length + j) := Lib.hid (by rw [List.length_append, List.length_take, be_length]; omega)
      have hsz := hbel.size
      clear hpow
      go_wp2_with (at_builtin; refine wpList_append_row _ rfl _ _ 24 rfl base .u8 5 1 Try.underlying24 info_u8 _ (xs ++ (be 8 u).take j) rfl (hown.alloc _) _ _ 1 1 [(q : Int)] rfl hone rfl (by rw [hl2.out]; omega) (by rw [hl2.out]; simp only [maxLen]; omega) (by simp; omega) ?_; intro v1 w1 hown1 hg1)
      have hbel1 := Below.own1 hbel (by omega) hown hg1
      rw [List.append_assoc, ← HB.out] at hown1
      clear hone hg1 hown
      go_wp2
      go_roundw
      case rel => exact ⟨j + 1, by omega, by have := hi.out; go_num, hown1, hbel1⟩
      case measure => have := hi.out; simp [intOf] <;> omega
    · obtain rfl : j = 8 := by omega
      rw [List.take_of_length_le (by rw [be_length]; exact Nat.le_refl _)] at hown
      go_wp2
      go_ret
      exact ⟨_, rfl, hown, hbel⟩

theorem refPuts_bad (k t : Int) (g : ByteArray) (v i : Int) (w : World) (hs : g.size ≤ maxLen) (h : chkRc ⟨k, t, g, v, i⟩ ≠ 0) :
    Calls Try.prog 10 #[.agg #[.int .i64 k, .int .i64 t, .string g, .int .i64 v, .int .i64 i]] w (GivesOwn w [] (chkRc ⟨k, t, g, v, i⟩)) := by
  have bx := Bx.new w (.cells #[.int .i64 k, .int .i64 t, .string g, .int .i64 v, .int .i64 i] 23)
  obtain ⟨c0, c1, c2, c3, c4⟩ := bx.five
  generalize hE : chkRc ⟨k, t, g, v, i⟩ = E at h
  have HE := Lib.hid hE
  have h2 : (E != 0) = true := by simp [h]
  clear hE h
  go_enter Try.func10, Try.ntmps10
  go_wp2_with fail
  refine (refCheck11_any k t g v i _ hs).mono ?_
  rintro e w1 ⟨rfl, b1⟩
  rw [HE.out]
  have bx1 := bx.below b1
  go_wp2
  go_ret2
  exact ⟨_, rfl, Own.nil _ _ _ _, bx1.2⟩
set_option maxHeartbeats 2000000 in
theorem refPuts_1 (t : Int) (g : ByteArray) (v i : Int) (w : World) (hs : g.size ≤ maxLen) (h : chkRc ⟨1, t, g, v, i⟩ = 0) :
    Calls Try.prog 10 #[.agg #[.int .i64 1, .int .i64 t, .string g, .int .i64 v, .int .i64 i]] w (GivesOwn w (bytRc ⟨1, t, g, v, i⟩) 0) := by
  have HE := Lib.hid h
  have hg16 : g.size ≤ 16 := (name_size (chk_name h rfl)).2
  have f1 : IntKind.u8.wrap (g.size : Int) = (g.size : Int) := by rw [IntKind.wrap_u8]; omega
  have fw : (Lit.int .u8 (g.size : Int)).wf = true := wf_byte _ (by omega)
  have HB : Hid (bytRc ⟨1, t, g, v, i⟩ = (([1] ++ e8 t ++ [(g.size : Int)] ++ bys g) ++ e8 v)) := Lib.hid (by unfold bytRc; simp [tgK, idK, vlK])
  rw [HB.out]
  clear h HB
  have bx := Bx.new w (.cells #[.int .i64 1, .int .i64 t, .string g, .int .i64 v, .int .i64 i] 23)
  obtain ⟨c0, c1, c2, c3, c4⟩ := bx.five
  go_enter Try.func10, Try.ntmps10
  go_wp2_with fail
  refine (refCheck11_any 1 t g v i _ hs).mono ?_
  rintro e w1 ⟨rfl, b1⟩
  rw [HE.out]
  have bx1 := bx.below b1
  clear c0 c1 c2 c3 c4 b1 bx
  obtain ⟨c0, c1, c2, c3, c4⟩ := bx1.five
  have hz1 := bx1.lt
  have bx1b := bx1.alloc (.cells #[.int .u8 1] 5)
  have own1 : Own .u8 5 (w1.alloc (.cells #[.int .u8 1] 5)) (w.heap.size + 1) (.slice (some ⟨w1.heap.size, 0, none⟩) 1 1) [1] := Own.laid (l := [1]) (heap_alloc_new w1 _) (by omega) rfl (by simp only [maxLen]; omega)
  go_wp2_with fail
  refine (eight_any _ [1] t _ (w.heap.size + 1) (by simp; omega) own1 (by simp)).mono ?_
  rintro e w2 ⟨v2, rfl, own2, b2⟩
  have bx2 := bx1b.below2 b2 (by omega)
  clear c0 c1 c2 c3 c4 b2 bx1b own1
  obtain ⟨c0, c1, c2, c3, c4⟩ := bx2.five
  have hz2 := bx2.lt
  clear bx1 hz1
  go_wp2_with fail
  refine (tagged_any 1 _).mono ?_
  rintro e w' ⟨rfl, rfl⟩
  rw [show tgK 1 = true from rfl]
  have hone := Row.one .u8 w2 5 (g.size : Int) fw
  have hl2 : Hid (([1] ++ e8 t).length = 9) := Lib.hid (by simp [e8_len])
  go_wp2_with (at_builtin; refine wpList_append_row _ rfl _ _ 24 rfl (w.heap.size + 1) .u8 5 1 Try.underlying24 info_u8 _ ([1] ++ e8 t) rfl (own2.alloc _) _ _ 1 1 [(g.size : Int)] rfl hone rfl (by rw [hl2.out]; omega) (by rw [hl2.out]; simp only [maxLen]; omega) (by simp; omega) ?_; intro v3 w3 own3 hg3; have bx3 := (bx2.alloc (.cells #[.int .u8 (g.size : Int)] 5)).grown hg3 (fun q e => (own2.block q e).1); obtain ⟨x0, x1, x2, x3, x4⟩ := bx3.five; have hz3 := bx3.lt)
  clear c0 c1 c2 c3 c4 x0 x1 x2 x3 x4 bx2 hone own2 hg3 hz2 hl2
  obtain ⟨Y, hY⟩ : ∃ Y, Hid (Y = [1] ++ e8 t ++ [(g.size : Int)]) := ⟨_, Lib.hid rfl⟩
  rw [← hY.out] at own3
  have hYl : Hid (Y.length = 10) := Lib.hid (by rw [hY.out]; simp [e8_len])
  have hbl := bys_len g
  go_loopw [5, 6] (fun b q wr => ∃ j : Nat, j ≤ g.size ∧ q = .int .i64 j ∧ Own .u8 5 wr (w.heap.size + 1) b (Y ++ (bys g).take j) ∧ Bx w w.heap.size (.cells #[.int .i64 1, .int .i64 t, .string g, .int .i64 v, .int .i64 i] 23) wr) (fun _ q _ => g.size - (intOf q).toNat)
  case atStart => exact ⟨0, by omega, rfl, by rw [List.take_zero, List.append_nil]; exact own3, bx3⟩
  case round =>
    clear own3 bx3 hz3
    obtain ⟨j, hj, rfl, own5, bx5⟩ := hrel
    obtain ⟨c0, c1, c2, c3, c4⟩ := bx5.five
    have hz5 := bx5.lt
    by_cases hlt : j < g.size
    · have hb := bys_get g j hlt
      have HT := Lib.hid (take_step (bys g) j (by omega))
      rw [hb] at HT
      have hqb := g[j].toNat_lt
      obtain ⟨x, hx⟩ : ∃ x : Nat, g[j].toNat = x := ⟨_, rfl⟩
      rw [hx] at HT hb hqb
      have hone := Row.one .u8 wr 5 (x : Int) (wf_byte x hqb)
      have hl5 : Hid ((Y ++ (bys g).take j).length = 10 + j) := Lib.hid (by rw [List.length_append, hYl.out, List.length_take]; omega)
      clear hb
      go_wp2_with (at_builtin; refine wpList_append_row _ rfl _ _ 24 rfl (w.heap.size + 1) .u8 5 1 Try.underlying24 info_u8 _ (Y ++ (bys g).take j) rfl (own5.alloc _) _ _ 1 1 [(x : Int)] rfl hone rfl (by rw [hl5.out]; omega) (by rw [hl5.out]; simp only [maxLen]; omega) (by simp; omega) ?_; intro v6 w6 own6 hg6; have bx6 := (bx5.alloc (.cells #[.int .u8 (x : Int)] 5)).grown hg6 (fun q e => (own5.block q e).1))
      rw [List.append_assoc, ← HT.out] at own6
      clear hone hg6 own5 bx5 c0 c1 c2 c3 c4
      go_wp2
      go_roundw
      case rel => exact ⟨j + 1, by omega, by go_num, own6, bx6⟩
      case measure => simp [intOf]; omega
    · obtain rfl : j = g.size := by omega
      rw [List.take_of_length_le (by omega), hY.out] at own5
      have own7 := own5
      have bx7 := bx5
      clear own5 bx5 hlt hj
      go_wp2_with fail
      refine (named_any 1 _).mono ?_
      rintro e w' ⟨rfl, rfl⟩
      rw [show idK 1 = false from rfl]
      go_wp2_with fail
      refine (valued_any 1 _).mono ?_
      rintro e w' ⟨rfl, rfl⟩
      rw [show vlK 1 = true from rfl]
      go_wp2_with fail
      refine (eight_any _ ([1] ++ e8 t ++ [(g.size : Int)] ++ bys g) v _ (w.heap.size + 1) (by omega) own7 (by simp [e8_len, bys_len]; omega)).mono ?_
      rintro e w9 ⟨v9, rfl, own9, b9⟩
      have bx9 := bx7.below2 b9 (by omega)
      clear c0 c1 c2 c3 c4 b9 bx7 own7
      obtain ⟨c0, c1, c2, c3, c4⟩ := bx9.five
      have hz9 := bx9.lt
      go_wp2
      go_ret2
      exact ⟨_, rfl, own9.mono (by omega), bx9.2⟩
set_option maxHeartbeats 2000000 in
theorem refPuts_2 (t : Int) (g : ByteArray) (v i : Int) (w : World) (hs : g.size ≤ maxLen) (h : chkRc ⟨2, t, g, v, i⟩ = 0) :
    Calls Try.prog 10 #[.agg #[.int .i64 2, .int .i64 t, .string g, .int .i64 v, .int .i64 i]] w (GivesOwn w (bytRc ⟨2, t, g, v, i⟩) 0) := by
  have HE := Lib.hid h
  have hg16 : g.size ≤ 16 := (name_size (chk_name h rfl)).2
  have f1 : IntKind.u8.wrap (g.size : Int) = (g.size : Int) := by rw [IntKind.wrap_u8]; omega
  have fw : (Lit.int .u8 (g.size : Int)).wf = true := wf_byte _ (by omega)
  have HB : Hid (bytRc ⟨2, t, g, v, i⟩ = (([2] ++ e8 t ++ [(g.size : Int)] ++ bys g) ++ e8 v)) := Lib.hid (by unfold bytRc; simp [tgK, idK, vlK])
  rw [HB.out]
  clear h HB
  have bx := Bx.new w (.cells #[.int .i64 2, .int .i64 t, .string g, .int .i64 v, .int .i64 i] 23)
  obtain ⟨c0, c1, c2, c3, c4⟩ := bx.five
  go_enter Try.func10, Try.ntmps10
  go_wp2_with fail
  refine (refCheck11_any 2 t g v i _ hs).mono ?_
  rintro e w1 ⟨rfl, b1⟩
  rw [HE.out]
  have bx1 := bx.below b1
  clear c0 c1 c2 c3 c4 b1 bx
  obtain ⟨c0, c1, c2, c3, c4⟩ := bx1.five
  have hz1 := bx1.lt
  have bx1b := bx1.alloc (.cells #[.int .u8 2] 5)
  have own1 : Own .u8 5 (w1.alloc (.cells #[.int .u8 2] 5)) (w.heap.size + 1) (.slice (some ⟨w1.heap.size, 0, none⟩) 1 1) [2] := Own.laid (l := [2]) (heap_alloc_new w1 _) (by omega) rfl (by simp only [maxLen]; omega)
  go_wp2_with fail
  refine (eight_any _ [2] t _ (w.heap.size + 1) (by simp; omega) own1 (by simp)).mono ?_
  rintro e w2 ⟨v2, rfl, own2, b2⟩
  have bx2 := bx1b.below2 b2 (by omega)
  clear c0 c1 c2 c3 c4 b2 bx1b own1
  obtain ⟨c0, c1, c2, c3, c4⟩ := bx2.five
  have hz2 := bx2.lt
  clear bx1 hz1
  go_wp2_with fail
  refine (tagged_any 2 _).mono ?_
  rintro e w' ⟨rfl, rfl⟩
  rw [show tgK 2 = true from rfl]
  have hone := Row.one .u8 w2 5 (g.size : Int) fw
  have hl2 : Hid (([2] ++ e8 t).length = 9) := Lib.hid (by simp [e8_len])
  go_wp2_with (at_builtin; refine wpList_append_row _ rfl _ _ 24 rfl (w.heap.size + 1) .u8 5 1 Try.underlying24 info_u8 _ ([2] ++ e8 t) rfl (own2.alloc _) _ _ 1 1 [(g.size : Int)] rfl hone rfl (by rw [hl2.out]; omega) (by rw [hl2.out]; simp only [maxLen]; omega) (by simp; omega) ?_; intro v3 w3 own3 hg3; have bx3 := (bx2.alloc (.cells #[.int .u8 (g.size : Int)] 5)).grown hg3 (fun q e => (own2.block q e).1); obtain ⟨x0, x1, x2, x3, x4⟩ := bx3.five; have hz3 := bx3.lt)
  clear c0 c1 c2 c3 c4 x0 x1 x2 x3 x4 bx2 hone own2 hg3 hz2 hl2
  obtain ⟨Y, hY⟩ : ∃ Y, Hid (Y = [2] ++ e8 t ++ [(g.size : Int)]) := ⟨_, Lib.hid rfl⟩
  rw [← hY.out] at own3
  have hYl : Hid (Y.length = 10) := Lib.hid (by rw [hY.out]; simp [e8_len])
  have hbl := bys_len g
  go_loopw [5, 6] (fun b q wr => ∃ j : Nat, j ≤ g.size ∧ q = .int .i64 j ∧ Own .u8 5 wr (w.heap.size + 1) b (Y ++ (bys g).take j) ∧ Bx w w.heap.size (.cells #[.int .i64 2, .int .i64 t, .string g, .int .i64 v, .int .i64 i] 23) wr) (fun _ q _ => g.size - (intOf q).toNat)
  case atStart => exact ⟨0, by omega, rfl, by rw [List.take_zero, List.append_nil]; exact own3, bx3⟩
  case round =>
    clear own3 bx3 hz3
    obtain ⟨j, hj, rfl, own5, bx5⟩ := hrel
    obtain ⟨c0, c1, c2, c3, c4⟩ := bx5.five
    have hz5 := bx5.lt
    by_cases hlt : j < g.size
    · have hb := bys_get g j hlt
      have HT := Lib.hid (take_step (bys g) j (by omega))
      rw [hb] at HT
      have hqb := g[j].toNat_lt
      obtain ⟨x, hx⟩ : ∃ x : Nat, g[j].toNat = x := ⟨_, rfl⟩
      rw [hx] at HT hb hqb
      have hone := Row.one .u8 wr 5 (x : Int) (wf_byte x hqb)
      have hl5 : Hid ((Y ++ (bys g).take j).length = 10 + j) := Lib.hid (by rw [List.length_append, hYl.out, List.length_take]; omega)
      clear hb
      go_wp2_with (at_builtin; refine wpList_append_row _ rfl _ _ 24 rfl (w.heap.size + 1) .u8 5 1 Try.underlying24 info_u8 _ (Y ++ (bys g).take j) rfl (own5.alloc _) _ _ 1 1 [(x : Int)] rfl hone rfl (by rw [hl5.out]; omega) (by rw [hl5.out]; simp only [maxLen]; omega) (by simp; omega) ?_; intro v6 w6 own6 hg6; have bx6 := (bx5.alloc (.cells #[.int .u8 (x : Int)] 5)).grown hg6 (fun q e => (own5.block q e).1))
      rw [List.append_assoc, ← HT.out] at own6
      clear hone hg6 own5 bx5 c0 c1 c2 c3 c4
      go_wp2
      go_roundw
      case rel => exact ⟨j + 1, by omega, by go_num, own6, bx6⟩
      case measure => simp [intOf]; omega
    · obtain rfl : j = g.size := by omega
      rw [List.take_of_length_le (by omega), hY.out] at own5
      have own7 := own5
      have bx7 := bx5
      clear own5 bx5 hlt hj
      go_wp2_with fail
      refine (named_any 2 _).mono ?_
      rintro e w' ⟨rfl, rfl⟩
      rw [show idK 2 = false from rfl]
      go_wp2_with fail
      refine (valued_any 2 _).mono ?_
      rintro e w' ⟨rfl, rfl⟩
      rw [show vlK 2 = true from rfl]
      go_wp2_with fail
      refine (eight_any _ ([2] ++ e8 t ++ [(g.size : Int)] ++ bys g) v _ (w.heap.size + 1) (by omega) own7 (by simp [e8_len, bys_len]; omega)).mono ?_
      rintro e w9 ⟨v9, rfl, own9, b9⟩
      have bx9 := bx7.below2 b9 (by omega)
      clear c0 c1 c2 c3 c4 b9 bx7 own7
      obtain ⟨c0, c1, c2, c3, c4⟩ := bx9.five
      have hz9 := bx9.lt
      go_wp2
      go_ret2
      exact ⟨_, rfl, own9.mono (by omega), bx9.2⟩
set_option maxHeartbeats 2000000 in
theorem refPuts_3 (t : Int) (g : ByteArray) (v i : Int) (w : World) (hs : g.size ≤ maxLen) (h : chkRc ⟨3, t, g, v, i⟩ = 0) :
    Calls Try.prog 10 #[.agg #[.int .i64 3, .int .i64 t, .string g, .int .i64 v, .int .i64 i]] w (GivesOwn w (bytRc ⟨3, t, g, v, i⟩) 0) := by
  have HE := Lib.hid h
  have HB : Hid (bytRc ⟨3, t, g, v, i⟩ = ([3] ++ e8 t ++ e8 v)) := Lib.hid (by unfold bytRc; simp [tgK, idK, vlK])
  rw [HB.out]
  clear h HB
  have bx := Bx.new w (.cells #[.int .i64 3, .int .i64 t, .string g, .int .i64 v, .int .i64 i] 23)
  obtain ⟨c0, c1, c2, c3, c4⟩ := bx.five
  go_enter Try.func10, Try.ntmps10
  go_wp2_with fail
  refine (refCheck11_any 3 t g v i _ hs).mono ?_
  rintro e w1 ⟨rfl, b1⟩
  rw [HE.out]
  have bx1 := bx.below b1
  clear c0 c1 c2 c3 c4 b1 bx
  obtain ⟨c0, c1, c2, c3, c4⟩ := bx1.five
  have hz1 := bx1.lt
  have bx1b := bx1.alloc (.cells #[.int .u8 3] 5)
  have own1 : Own .u8 5 (w1.alloc (.cells #[.int .u8 3] 5)) (w.heap.size + 1) (.slice (some ⟨w1.heap.size, 0, none⟩) 1 1) [3] := Own.laid (l := [3]) (heap_alloc_new w1 _) (by omega) rfl (by simp only [maxLen]; omega)
  go_wp2_with fail
  refine (eight_any _ [3] t _ (w.heap.size + 1) (by simp; omega) own1 (by simp)).mono ?_
  rintro e w2 ⟨v2, rfl, own2, b2⟩
  have bx2 := bx1b.below2 b2 (by omega)
  clear c0 c1 c2 c3 c4 b2 bx1b own1
  obtain ⟨c0, c1, c2, c3, c4⟩ := bx2.five
  have hz2 := bx2.lt
  clear bx1 hz1
  go_wp2_with fail
  refine (tagged_any 3 _).mono ?_
  rintro e w' ⟨rfl, rfl⟩
  rw [show tgK 3 = false from rfl]
  go_wp2_with fail
  refine (named_any 3 _).mono ?_
  rintro e w' ⟨rfl, rfl⟩
  rw [show idK 3 = false from rfl]
  go_wp2_with fail
  refine (valued_any 3 _).mono ?_
  rintro e w' ⟨rfl, rfl⟩
  rw [show vlK 3 = true from rfl]
  go_wp2_with fail
  refine (eight_any _ ([3] ++ e8 t) v _ (w.heap.size + 1) (by omega) own2 (by simp [e8_len])).mono ?_
  rintro e w9 ⟨v9, rfl, own9, b9⟩
  have bx9 := bx2.below2 b9 (by omega)
  clear c0 c1 c2 c3 c4 b9 bx2 own2
  obtain ⟨c0, c1, c2, c3, c4⟩ := bx9.five
  have hz9 := bx9.lt
  go_wp2
  go_ret2
  exact ⟨_, rfl, own9.mono (by omega), bx9.2⟩
set_option maxHeartbeats 2000000 in
theorem refPuts_4 (t : Int) (g : ByteArray) (v i : Int) (w : World) (hs : g.size ≤ maxLen) (h : chkRc ⟨4, t, g, v, i⟩ = 0) :
    Calls Try.prog 10 #[.agg #[.int .i64 4, .int .i64 t, .string g, .int .i64 v, .int .i64 i]] w (GivesOwn w (bytRc ⟨4, t, g, v, i⟩) 0) := by
  have HE := Lib.hid h
  have HB : Hid (bytRc ⟨4, t, g, v, i⟩ = ([4] ++ e8 t ++ e8 v)) := Lib.hid (by unfold bytRc; simp [tgK, idK, vlK])
  rw [HB.out]
  clear h HB
  have bx := Bx.new w (.cells #[.int .i64 4, .int .i64 t, .string g, .int .i64 v, .int .i64 i] 23)
  obtain ⟨c0, c1, c2, c3, c4⟩ := bx.five
  go_enter Try.func10, Try.ntmps10
  go_wp2_with fail
  refine (refCheck11_any 4 t g v i _ hs).mono ?_
  rintro e w1 ⟨rfl, b1⟩
  rw [HE.out]
  have bx1 := bx.below b1
  clear c0 c1 c2 c3 c4 b1 bx
  obtain ⟨c0, c1, c2, c3, c4⟩ := bx1.five
  have hz1 := bx1.lt
  have bx1b := bx1.alloc (.cells #[.int .u8 4] 5)
  have own1 : Own .u8 5 (w1.alloc (.cells #[.int .u8 4] 5)) (w.heap.size + 1) (.slice (some ⟨w1.heap.size, 0, none⟩) 1 1) [4] := Own.laid (l := [4]) (heap_alloc_new w1 _) (by omega) rfl (by simp only [maxLen]; omega)
  go_wp2_with fail
  refine (eight_any _ [4] t _ (w.heap.size + 1) (by simp; omega) own1 (by simp)).mono ?_
  rintro e w2 ⟨v2, rfl, own2, b2⟩
  have bx2 := bx1b.below2 b2 (by omega)
  clear c0 c1 c2 c3 c4 b2 bx1b own1
  obtain ⟨c0, c1, c2, c3, c4⟩ := bx2.five
  have hz2 := bx2.lt
  clear bx1 hz1
  go_wp2_with fail
  refine (tagged_any 4 _).mono ?_
  rintro e w' ⟨rfl, rfl⟩
  rw [show tgK 4 = false from rfl]
  go_wp2_with fail
  refine (named_any 4 _).mono ?_
  rintro e w' ⟨rfl, rfl⟩
  rw [show idK 4 = false from rfl]
  go_wp2_with fail
  refine (valued_any 4 _).mono ?_
  rintro e w' ⟨rfl, rfl⟩
  rw [show vlK 4 = true from rfl]
  go_wp2_with fail
  refine (eight_any _ ([4] ++ e8 t) v _ (w.heap.size + 1) (by omega) own2 (by simp [e8_len])).mono ?_
  rintro e w9 ⟨v9, rfl, own9, b9⟩
  have bx9 := bx2.below2 b9 (by omega)
  clear c0 c1 c2 c3 c4 b9 bx2 own2
  obtain ⟨c0, c1, c2, c3, c4⟩ := bx9.five
  have hz9 := bx9.lt
  go_wp2
  go_ret2
  exact ⟨_, rfl, own9.mono (by omega), bx9.2⟩
set_option maxHeartbeats 2000000 in
theorem refPuts_5 (t : Int) (g : ByteArray) (v i : Int) (w : World) (hs : g.size ≤ maxLen) (h : chkRc ⟨5, t, g, v, i⟩ = 0) :
    Calls Try.prog 10 #[.agg #[.int .i64 5, .int .i64 t, .string g, .int .i64 v, .int .i64 i]] w (GivesOwn w (bytRc ⟨5, t, g, v, i⟩) 0) := by
  have HE := Lib.hid h
  have HB : Hid (bytRc ⟨5, t, g, v, i⟩ = ([5] ++ e8 t ++ e8 i)) := Lib.hid (by unfold bytRc; simp [tgK, idK, vlK])
  rw [HB.out]
  clear h HB
  have bx := Bx.new w (.cells #[.int .i64 5, .int .i64 t, .string g, .int .i64 v, .int .i64 i] 23)
  obtain ⟨c0, c1, c2, c3, c4⟩ := bx.five
  go_enter Try.func10, Try.ntmps10
  go_wp2_with fail
  refine (refCheck11_any 5 t g v i _ hs).mono ?_
  rintro e w1 ⟨rfl, b1⟩
  rw [HE.out]
  have bx1 := bx.below b1
  clear c0 c1 c2 c3 c4 b1 bx
  obtain ⟨c0, c1, c2, c3, c4⟩ := bx1.five
  have hz1 := bx1.lt
  have bx1b := bx1.alloc (.cells #[.int .u8 5] 5)
  have own1 : Own .u8 5 (w1.alloc (.cells #[.int .u8 5] 5)) (w.heap.size + 1) (.slice (some ⟨w1.heap.size, 0, none⟩) 1 1) [5] := Own.laid (l := [5]) (heap_alloc_new w1 _) (by omega) rfl (by simp only [maxLen]; omega)
  go_wp2_with fail
  refine (eight_any _ [5] t _ (w.heap.size + 1) (by simp; omega) own1 (by simp)).mono ?_
  rintro e w2 ⟨v2, rfl, own2, b2⟩
  have bx2 := bx1b.below2 b2 (by omega)
  clear c0 c1 c2 c3 c4 b2 bx1b own1
  obtain ⟨c0, c1, c2, c3, c4⟩ := bx2.five
  have hz2 := bx2.lt
  clear bx1 hz1
  go_wp2_with fail
  refine (tagged_any 5 _).mono ?_
  rintro e w' ⟨rfl, rfl⟩
  rw [show tgK 5 = false from rfl]
  go_wp2_with fail
  refine (named_any 5 _).mono ?_
  rintro e w' ⟨rfl, rfl⟩
  rw [show idK 5 = true from rfl]
  go_wp2_with fail
  refine (eight_any _ ([5] ++ e8 t) i _ (w.heap.size + 1) (by omega) own2 (by simp [e8_len])).mono ?_
  rintro e w8 ⟨v8, rfl, own8, b8⟩
  have bx8 := bx2.below2 b8 (by omega)
  clear c0 c1 c2 c3 c4 b8 bx2 own2
  obtain ⟨c0, c1, c2, c3, c4⟩ := bx8.five
  have hz8 := bx8.lt
  go_wp2_with fail
  refine (valued_any 5 _).mono ?_
  rintro e w' ⟨rfl, rfl⟩
  rw [show vlK 5 = false from rfl]
  go_wp2
  go_ret2
  exact ⟨_, rfl, own8.mono (by omega), bx8.2⟩
set_option maxHeartbeats 2000000 in
theorem refPuts_6 (t : Int) (g : ByteArray) (v i : Int) (w : World) (hs : g.size ≤ maxLen) (h : chkRc ⟨6, t, g, v, i⟩ = 0) :
    Calls Try.prog 10 #[.agg #[.int .i64 6, .int .i64 t, .string g, .int .i64 v, .int .i64 i]] w (GivesOwn w (bytRc ⟨6, t, g, v, i⟩) 0) := by
  have HE := Lib.hid h
  have HB : Hid (bytRc ⟨6, t, g, v, i⟩ = (([6] ++ e8 t ++ e8 i) ++ e8 v)) := Lib.hid (by unfold bytRc; simp [tgK, idK, vlK])
  rw [HB.out]
  clear h HB
  have bx := Bx.new w (.cells #[.int .i64 6, .int .i64 t, .string g, .int .i64 v, .int .i64 i] 23)
  obtain ⟨c0, c1, c2, c3, c4⟩ := bx.five
  go_enter Try.func10, Try.ntmps10
  go_wp2_with fail
  refine (refCheck11_any 6 t g v i _ hs).mono ?_
  rintro e w1 ⟨rfl, b1⟩
  rw [HE.out]
  have bx1 := bx.below b1
  clear c0 c1 c2 c3 c4 b1 bx
  obtain ⟨c0, c1, c2, c3, c4⟩ := bx1.five
  have hz1 := bx1.lt
  have bx1b := bx1.alloc (.cells #[.int .u8 6] 5)
  have own1 : Own .u8 5 (w1.alloc (.cells #[.int .u8 6] 5)) (w.heap.size + 1) (.slice (some ⟨w1.heap.size, 0, none⟩) 1 1) [6] := Own.laid (l := [6]) (heap_alloc_new w1 _) (by omega) rfl (by simp only [maxLen]; omega)
  go_wp2_with fail
  refine (eight_any _ [6] t _ (w.heap.size + 1) (by simp; omega) own1 (by simp)).mono ?_
  rintro e w2 ⟨v2, rfl, own2, b2⟩
  have bx2 := bx1b.below2 b2 (by omega)
  clear c0 c1 c2 c3 c4 b2 bx1b own1
  obtain ⟨c0, c1, c2, c3, c4⟩ := bx2.five
  have hz2 := bx2.lt
  clear bx1 hz1
  go_wp2_with fail
  refine (tagged_any 6 _).mono ?_
  rintro e w' ⟨rfl, rfl⟩
  rw [show tgK 6 = false from rfl]
  go_wp2_with fail
  refine (named_any 6 _).mono ?_
  rintro e w' ⟨rfl, rfl⟩
  rw [show idK 6 = true from rfl]
  go_wp2_with fail
  refine (eight_any _ ([6] ++ e8 t) i _ (w.heap.size + 1) (by omega) own2 (by simp [e8_len])).mono ?_
  rintro e w8 ⟨v8, rfl, own8, b8⟩
  have bx8 := bx2.below2 b8 (by omega)
  clear c0 c1 c2 c3 c4 b8 bx2 own2
  obtain ⟨c0, c1, c2, c3, c4⟩ := bx8.five
  have hz8 := bx8.lt
  go_wp2_with fail
  refine (valued_any 6 _).mono ?_
  rintro e w' ⟨rfl, rfl⟩
  rw [show vlK 6 = true from rfl]
  go_wp2_with fail
  refine (eight_any _ (([6] ++ e8 t) ++ e8 i) v _ (w.heap.size + 1) (by omega) own8 (by simp [e8_len])).mono ?_
  rintro e w9 ⟨v9, rfl, own9, b9⟩
  have bx9 := bx8.below2 b9 (by omega)
  clear c0 c1 c2 c3 c4 b9 bx8 own8
  obtain ⟨c0, c1, c2, c3, c4⟩ := bx9.five
  have hz9 := bx9.lt
  go_wp2
  go_ret2
  exact ⟨_, rfl, own9.mono (by omega), bx9.2⟩
theorem refPut11_any (k t : Int) (g : ByteArray) (v i : Int) (w : World) (hs : g.size ≤ maxLen) : Calls Try.prog 10 #[.agg #[.int .i64 k, .int .i64 t, .string g, .int .i64 v, .int .i64 i]] w (GivesOwn w (putRc ⟨k, t, g, v, i⟩) (chkRc ⟨k, t, g, v, i⟩)) := by
  by_cases h : chkRc ⟨k, t, g, v, i⟩ = 0
  · rw [putRc, if_pos h, h]
    rcases kinds (chk_kind h) with e | e | e | e | e | e
    all_goals
      have e2 : k = _ := e
      subst e2
    · exact refPuts_1 t g v i w hs h
    · exact refPuts_2 t g v i w hs h
    · exact refPuts_3 t g v i w hs h
    · exact refPuts_4 t g v i w hs h
    · exact refPuts_5 t g v i w hs h
    · exact refPuts_6 t g v i w hs h
  · rw [putRc, if_neg h]
    exact refPuts_bad k t g v i w hs h
end Go.Proofs.Ytemjcgmoacnnfaa
