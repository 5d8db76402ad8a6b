/-
  The program's Put of layer 11.
-/
import Derived.Test.YtemjcgmoacnnfaaRcCheck2
import Derived.Test.YtemjcgmoacnnfaaPkPut
import Derived.Lib.AppendStr
namespace Go.Proofs.Ytemjcgmoacnnfaa
open Go.RowKit
set_option linter.unusedVariables false

theorem strCells_bys (s : ByteArray) : Lib.strCells s = (bys s).map (Value.int .u8) := by
  unfold Lib.strCells bys
  rw [List.map_map]
  rfl
section
variable {P : Program}
/-- 'append(v, s...)': v owned, s a string. -/
theorem wpList_append_str {ops : Array Oper} {rest : List Oper} {o : Oper} {a : Act} {Q : Exit → Act → World → Prop} (w : World) (hgd : o.guard = none) (sl x : Operand) (t u : TypeId)
    (ho : o.op = .call { callee := .builtin .append, args := #[sl, x], argTypes := #[t, u] })
    (base : Nat) (e : TypeId) (ht : P.underlying t = some (.slice e)) (hu : P.underlying u = some .string) (hi : (P.info? e).map (fun i => (i.zero, i.size, i.bytes)) = some (some (.int .u8 0), 1, 1))
    (v : Value) (xs : List Int) (hs : a.eval sl = v) (hown : Own .u8 e w base v xs) (s : ByteArray) (hx : a.eval x = .string s)
    (hbytes : xs.length + s.size ≤ 140737488355328) (hbase : base ≤ w.heap.size)
    (h : ∀ v' w', Own .u8 e w' base v' (xs ++ bys s) → w.grownBy w' v.ownBlock → wpList P ops Q rest (a.put o.dst v') w') : wpList P ops Q (o :: rest) a w := by
  obtain ⟨i, hi1, hz, hsz, hby⟩ := info_parts hi
  refine Lib.wpList_append_own_string w hgd sl x t u ho base e i ht hu hi1 hz hsz hby v _ _ hs hown s hx (by simp only [maxLen]; omega) hbytes hbase fun v' w' h1 h2 _ => h v' w' ?_ h2
  rw [strCells_bys] at h1
  unfold Own
  rw [List.length_append, bys_len, List.map_append]
  exact h1
end

/-- A number that is put behind bytes. -/
theorem putNumber_any (A : Option Addr) (m c : Nat) (xs : List Int) (v : Int) (w : World) (z B : Nat) (hz : w.heap.size = z) (hB : B ≤ z) (hr : Row .u8 w B A xs) (hm : xs.length = m) (hb : m ≤ 1000) :
    Calls Try.prog 21 #[.slice A m c, .int .i64 v] w fun e w' => e = .returned (.slice (some ⟨z, 0, none⟩) (m + 8) (m + 8)) ∧ w'.heap[z]? = some (.cells (blk .u8 (xs ++ e8 v)) 5 (0, 0)) ∧ Below z w w' := by
  subst hz
  obtain ⟨u, hu⟩ : ∃ u : Nat, (v % 18446744073709551616).toNat = u := ⟨_, rfl⟩
  have hw : IntKind.u64.wrap v = (u : Int) := by rw [IntKind.wrap_u64]; omega
  have h8 : (256 : Nat) ^ 8 = 18446744073709551616 := by decide
  have HP := Lib.hid (Put_ok2 A m c u 8 xs w (hr.more hB) hm (by omega) (by omega) (by omega) (by omega) (by omega))
  have HE : Hid (e8 v = be 8 u) := Lib.hid (by unfold e8; rw [hu])
  rw [HE.out]
  clear hu hr hm h8
  go_enter Try.func21, Try.ntmps21
  go_wp2_with fail
  refine HP.out.mono ?_
  rintro e w1 ⟨rfl, hg, b1⟩
  go_wp2
  go_ret
  exact ⟨rfl, hg, b1⟩

theorem own_put {w : World} {z m : Nat} {l : List Int} {base : Nat} (hg : w.heap[z]? = some (.cells (blk .u8 l) 5 (0, 0))) (hl : l.length = m) (hb : base ≤ z) (hm : m ≤ 2000) : Own .u8 5 w base (.slice (some ⟨z, 0, none⟩) m m) l :=
  Own.laid hg hb hl (by simp only [maxLen]; omega)
theorem puts_bad (k t : Int) (g : ByteArray) (v i : Int) (w : World) (hs : g.size ≤ maxLen) (h : chkRc ⟨k, t, g, v, i⟩ ≠ 0) :
    Calls Try.prog 9 #[.agg #[.int .i64 k, .int .i64 t, .string g, .int .i64 v, .int .i64 i]] w (GivesOwn w [] (chkRc ⟨k, t, g, v, i⟩)) := by
  have bx := Bx.new w (.cells #[.int .i64 k, .int .i64 t, .string g, .int .i64 v, .int .i64 i] 23)
  obtain ⟨c0, c1, c2, c3, c4⟩ := bx.five
  generalize hE : chkRc ⟨k, t, g, v, i⟩ = E at h
  have HE := Lib.hid hE
  have h2 : (E != 0) = true := by simp [h]
  clear hE h
  go_enter Try.func9, Try.ntmps9
  go_wp2_with fail
  refine (Check11_any k t g v i _ hs).mono ?_
  rintro e w1 ⟨rfl, b1⟩
  rw [HE.out]
  have bx1 := bx.below b1
  go_wp2
  go_ret2
  exact ⟨_, rfl, Own.nil _ _ _ _, bx1.2⟩
set_option maxHeartbeats 1000000 in
theorem puts_1 (t : Int) (g : ByteArray) (v i : Int) (w : World) (hs : g.size ≤ maxLen) (h : chkRc ⟨1, t, g, v, i⟩ = 0) :
    Calls Try.prog 9 #[.agg #[.int .i64 1, .int .i64 t, .string g, .int .i64 v, .int .i64 i]] w (GivesOwn w (bytRc ⟨1, t, g, v, i⟩) 0) := by
  have HE := Lib.hid h
  have hg16 : g.size ≤ 16 := (name_size (chk_name h rfl)).2
  have f1 : IntKind.u8.wrap (g.size : Int) = (g.size : Int) := by rw [IntKind.wrap_u8]; omega
  have fw : (Lit.int .u8 (g.size : Int)).wf = true := wf_byte _ (by omega)
  have HB : Hid (bytRc ⟨1, t, g, v, i⟩ = (([1] ++ e8 t ++ [(g.size : Int)] ++ bys g) ++ e8 v)) := Lib.hid (by unfold bytRc; simp [tgK, idK, vlK])
  rw [HB.out]
  clear h HB
  have bx := Bx.new w (.cells #[.int .i64 1, .int .i64 t, .string g, .int .i64 v, .int .i64 i] 23)
  obtain ⟨c0, c1, c2, c3, c4⟩ := bx.five
  go_enter Try.func9, Try.ntmps9
  go_wp2_with fail
  refine (Check11_any 1 t g v i _ hs).mono ?_
  rintro e w1 ⟨rfl, b1⟩
  rw [HE.out]
  have bx1 := bx.below b1
  clear c0 c1 c2 c3 c4 b1 bx
  obtain ⟨c0, c1, c2, c3, c4⟩ := bx1.five
  have hz1 := bx1.lt
  have hone := Row.one .u8 w1 5 1 (by decide)
  have hsz : (w1.alloc (.cells #[.int .u8 1] 5)).heap.size = w1.heap.size + 1 := by simp
  have bx1b := bx1.alloc (.cells #[.int .u8 1] 5)
  go_wp2_with fail
  refine (putNumber_any _ 1 1 [1] t _ _ _ hsz (Nat.le_refl _) hone rfl (by omega)).mono ?_
  rintro e w2 ⟨rfl, hg2, b2⟩
  have bx2 := bx1b.below2 b2 (by omega)
  have own2 := own_put (base := w.heap.size + 1) hg2 (m := 9) (by simp [e8_len]) (by omega) (by omega)
  have hzz2 : w.heap.size < w1.heap.size + 1 := by omega
  clear c0 c1 c2 c3 c4 b2 bx1 bx1b hone hsz hz1
  obtain ⟨c0, c1, c2, c3, c4⟩ := bx2.five
  have hz2 := bx2.lt
  generalize w1.heap.size + 1 = z2 at *
  go_wp2_with fail
  refine (hasTag_any 1 _).mono ?_
  rintro e w' ⟨rfl, rfl⟩
  rw [show tgK 1 = true from rfl]
  have hone := Row.one .u8 w2 5 (g.size : Int) fw
  have hl2 : Hid (([1] ++ e8 t).length = 9) := Lib.hid (by simp [e8_len])
  have hl3 : Hid ((([1] ++ e8 t) ++ [(g.size : Int)]).length = 10) := Lib.hid (by simp [e8_len])
  go_wp2_with (first | (at_builtin; refine wpList_append_row _ rfl _ _ 24 rfl (w.heap.size + 1) .u8 5 1 Try.underlying24 info_u8 _ ([1] ++ e8 t) rfl (own2.alloc _) _ _ 1 1 [(g.size : Int)] rfl hone rfl (by rw [hl2.out]; omega) (by rw [hl2.out]; simp only [maxLen]; omega) (by simp; omega) ?_; intro v3 w3 own3 hg3; have bx3 := (bx2.alloc (.cells #[.int .u8 (g.size : Int)] 5)).grown hg3 (fun q e => (own2.block q e).1); obtain ⟨x0, x1, x2, x3, x4⟩ := bx3.five; have hz3 := bx3.lt) | (at_builtin; refine wpList_append_str _ rfl _ _ 24 9 rfl (w.heap.size + 1) 5 Try.underlying24 Try.underlying9 info_u8 _ _ rfl own3 g rfl (by rw [hl3.out]; omega) (by omega) ?_; intro v4 w4 own4 hg4; have bx4 := bx3.grown hg4 (fun q e => (own3.block q e).1); obtain ⟨y0, y1, y2, y3, y4⟩ := bx4.five))
  clear c0 c1 c2 c3 c4 x0 x1 x2 x3 x4 y0 y1 y2 y3 y4 bx2 bx3 hone own2 own3 hg3 hg4 hz3 hl2 hl3
  obtain ⟨c0, c1, c2, c3, c4⟩ := bx4.five
  have hz4 := bx4.lt
  have hw4 : ∀ x ∈ ([1] ++ e8 t) ++ [(g.size : Int)] ++ bys g, (Lit.int .u8 x).wf = true := wf_append (wf_append (wf_append (by simp; decide) (e8_wf t)) (by simpa using fw)) (bys_wf g)
  obtain ⟨A4, q4, rfl, row4, _, _⟩ := own4.row hw4
  have R4 := Lib.hid row4
  have hl4 : (([1] ++ e8 t) ++ [(g.size : Int)] ++ bys g).length = 10 + g.size := by simp [e8_len, bys_len]; omega
  rw [hl4]
  have HL4 := Lib.hid hl4
  clear row4 hw4 own4 hl4
  go_wp2_with fail
  refine (hasId_any 1 _).mono ?_
  rintro e w' ⟨rfl, rfl⟩
  rw [show idK 1 = false from rfl]
  go_wp2_with fail
  refine (hasValue_any 1 _).mono ?_
  rintro e w' ⟨rfl, rfl⟩
  rw [show vlK 1 = true from rfl]
  obtain ⟨z6, hz6⟩ : ∃ z, w4.heap.size = z := ⟨_, rfl⟩
  go_wp2_with fail
  refine (putNumber_any A4 (10 + g.size) q4 (([1] ++ e8 t) ++ [(g.size : Int)] ++ bys g) v _ z6 _ hz6 (by omega) R4.out HL4.out (by omega)).mono ?_
  rintro e w6 ⟨rfl, hg6, b6⟩
  have bx6 := bx4.below2 b6 (by omega)
  have own6 := own_put (base := w.heap.size) hg6 (m := (10 + g.size) + 8) (by rw [List.length_append, e8_len, HL4.out]) (by omega) (by omega)
  clear c0 c1 c2 c3 c4 b6 bx4
  obtain ⟨c0, c1, c2, c3, c4⟩ := bx6.five
  go_wp2
  go_ret2
  exact ⟨_, rfl, own6, bx6.2⟩
set_option maxHeartbeats 1000000 in
theorem puts_2 (t : Int) (g : ByteArray) (v i : Int) (w : World) (hs : g.size ≤ maxLen) (h : chkRc ⟨2, t, g, v, i⟩ = 0) :
    Calls Try.prog 9 #[.agg #[.int .i64 2, .int .i64 t, .string g, .int .i64 v, .int .i64 i]] w (GivesOwn w (bytRc ⟨2, t, g, v, i⟩) 0) := by
  have HE := Lib.hid h
  have hg16 : g.size ≤ 16 := (name_size (chk_name h rfl)).2
  have f1 : IntKind.u8.wrap (g.size : Int) = (g.size : Int) := by rw [IntKind.wrap_u8]; omega
  have fw : (Lit.int .u8 (g.size : Int)).wf = true := wf_byte _ (by omega)
  have HB : Hid (bytRc ⟨2, t, g, v, i⟩ = (([2] ++ e8 t ++ [(g.size : Int)] ++ bys g) ++ e8 v)) := Lib.hid (by unfold bytRc; simp [tgK, idK, vlK])
  rw [HB.out]
  clear h HB
  have bx := Bx.new w (.cells #[.int .i64 2, .int .i64 t, .string g, .int .i64 v, .int .i64 i] 23)
  obtain ⟨c0, c1, c2, c3, c4⟩ := bx.five
  go_enter Try.func9, Try.ntmps9
  go_wp2_with fail
  refine (Check11_any 2 t g v i _ hs).mono ?_
  rintro e w1 ⟨rfl, b1⟩
  rw [HE.out]
  have bx1 := bx.below b1
  clear c0 c1 c2 c3 c4 b1 bx
  obtain ⟨c0, c1, c2, c3, c4⟩ := bx1.five
  have hz1 := bx1.lt
  have hone := Row.one .u8 w1 5 2 (by decide)
  have hsz : (w1.alloc (.cells #[.int .u8 2] 5)).heap.size = w1.heap.size + 1 := by simp
  have bx1b := bx1.alloc (.cells #[.int .u8 2] 5)
  go_wp2_with fail
  refine (putNumber_any _ 1 1 [2] t _ _ _ hsz (Nat.le_refl _) hone rfl (by omega)).mono ?_
  rintro e w2 ⟨rfl, hg2, b2⟩
  have bx2 := bx1b.below2 b2 (by omega)
  have own2 := own_put (base := w.heap.size + 1) hg2 (m := 9) (by simp [e8_len]) (by omega) (by omega)
  have hzz2 : w.heap.size < w1.heap.size + 1 := by omega
  clear c0 c1 c2 c3 c4 b2 bx1 bx1b hone hsz hz1
  obtain ⟨c0, c1, c2, c3, c4⟩ := bx2.five
  have hz2 := bx2.lt
  generalize w1.heap.size + 1 = z2 at *
  go_wp2_with fail
  refine (hasTag_any 2 _).mono ?_
  rintro e w' ⟨rfl, rfl⟩
  rw [show tgK 2 = true from rfl]
  have hone := Row.one .u8 w2 5 (g.size : Int) fw
  have hl2 : Hid (([2] ++ e8 t).length = 9) := Lib.hid (by simp [e8_len])
  have hl3 : Hid ((([2] ++ e8 t) ++ [(g.size : Int)]).length = 10) := Lib.hid (by simp [e8_len])
  go_wp2_with (first | (at_builtin; refine wpList_append_row _ rfl _ _ 24 rfl (w.heap.size + 1) .u8 5 1 Try.underlying24 info_u8 _ ([2] ++ e8 t) rfl (own2.alloc _) _ _ 1 1 [(g.size : Int)] rfl hone rfl (by rw [hl2.out]; omega) (by rw [hl2.out]; simp only [maxLen]; omega) (by simp; omega) ?_; intro v3 w3 own3 hg3; have bx3 := (bx2.alloc (.cells #[.int .u8 (g.size : Int)] 5)).grown hg3 (fun q e => (own2.block q e).1); obtain ⟨x0, x1, x2, x3, x4⟩ := bx3.five; have hz3 := bx3.lt) | (at_builtin; refine wpList_append_str _ rfl _ _ 24 9 rfl (w.heap.size + 1) 5 Try.underlying24 Try.underlying9 info_u8 _ _ rfl own3 g rfl (by rw [hl3.out]; omega) (by omega) ?_; intro v4 w4 own4 hg4; have bx4 := bx3.grown hg4 (fun q e => (own3.block q e).1); obtain ⟨y0, y1, y2, y3, y4⟩ := bx4.five))
  clear c0 c1 c2 c3 c4 x0 x1 x2 x3 x4 y0 y1 y2 y3 y4 bx2 bx3 hone own2 own3 hg3 hg4 hz3 hl2 hl3
  obtain ⟨c0, c1, c2, c3, c4⟩ := bx4.five
  have hz4 := bx4.lt
  have hw4 : ∀ x ∈ ([2] ++ e8 t) ++ [(g.size : Int)] ++ bys g, (Lit.int .u8 x).wf = true := wf_append (wf_append (wf_append (by simp; decide) (e8_wf t)) (by simpa using fw)) (bys_wf g)
  obtain ⟨A4, q4, rfl, row4, _, _⟩ := own4.row hw4
  have R4 := Lib.hid row4
  have hl4 : (([2] ++ e8 t) ++ [(g.size : Int)] ++ bys g).length = 10 + g.size := by simp [e8_len, bys_len]; omega
  rw [hl4]
  have HL4 := Lib.hid hl4
  clear row4 hw4 own4 hl4
  go_wp2_with fail
  refine (hasId_any 2 _).mono ?_
  rintro e w' ⟨rfl, rfl⟩
  rw [show idK 2 = false from rfl]
  go_wp2_with fail
  refine (hasValue_any 2 _).mono ?_
  rintro e w' ⟨rfl, rfl⟩
  rw [show vlK 2 = true from rfl]
  obtain ⟨z6, hz6⟩ : ∃ z, w4.heap.size = z := ⟨_, rfl⟩
  go_wp2_with fail
  refine (putNumber_any A4 (10 + g.size) q4 (([2] ++ e8 t) ++ [(g.size : Int)] ++ bys g) v _ z6 _ hz6 (by omega) R4.out HL4.out (by omega)).mono ?_
  rintro e w6 ⟨rfl, hg6, b6⟩
  have bx6 := bx4.below2 b6 (by omega)
  have own6 := own_put (base := w.heap.size) hg6 (m := (10 + g.size) + 8) (by rw [List.length_append, e8_len, HL4.out]) (by omega) (by omega)
  clear c0 c1 c2 c3 c4 b6 bx4
  obtain ⟨c0, c1, c2, c3, c4⟩ := bx6.five
  go_wp2
  go_ret2
  exact ⟨_, rfl, own6, bx6.2⟩
set_option maxHeartbeats 1000000 in
theorem puts_3 (t : Int) (g : ByteArray) (v i : Int) (w : World) (hs : g.size ≤ maxLen) (h : chkRc ⟨3, t, g, v, i⟩ = 0) :
    Calls Try.prog 9 #[.agg #[.int .i64 3, .int .i64 t, .string g, .int .i64 v, .int .i64 i]] w (GivesOwn w (bytRc ⟨3, t, g, v, i⟩) 0) := by
  have HE := Lib.hid h
  have HB : Hid (bytRc ⟨3, t, g, v, i⟩ = ([3] ++ e8 t ++ e8 v)) := Lib.hid (by unfold bytRc; simp [tgK, idK, vlK])
  rw [HB.out]
  clear h HB
  have bx := Bx.new w (.cells #[.int .i64 3, .int .i64 t, .string g, .int .i64 v, .int .i64 i] 23)
  obtain ⟨c0, c1, c2, c3, c4⟩ := bx.five
  go_enter Try.func9, Try.ntmps9
  go_wp2_with fail
  refine (Check11_any 3 t g v i _ hs).mono ?_
  rintro e w1 ⟨rfl, b1⟩
  rw [HE.out]
  have bx1 := bx.below b1
  clear c0 c1 c2 c3 c4 b1 bx
  obtain ⟨c0, c1, c2, c3, c4⟩ := bx1.five
  have hz1 := bx1.lt
  have hone := Row.one .u8 w1 5 3 (by decide)
  have hsz : (w1.alloc (.cells #[.int .u8 3] 5)).heap.size = w1.heap.size + 1 := by simp
  have bx1b := bx1.alloc (.cells #[.int .u8 3] 5)
  go_wp2_with fail
  refine (putNumber_any _ 1 1 [3] t _ _ _ hsz (Nat.le_refl _) hone rfl (by omega)).mono ?_
  rintro e w2 ⟨rfl, hg2, b2⟩
  have bx2 := bx1b.below2 b2 (by omega)
  have own2 := own_put (base := w.heap.size + 1) hg2 (m := 9) (by simp [e8_len]) (by omega) (by omega)
  have hzz2 : w.heap.size < w1.heap.size + 1 := by omega
  clear c0 c1 c2 c3 c4 b2 bx1 bx1b hone hsz hz1
  obtain ⟨c0, c1, c2, c3, c4⟩ := bx2.five
  have hz2 := bx2.lt
  generalize w1.heap.size + 1 = z2 at *
  go_wp2_with fail
  refine (hasTag_any 3 _).mono ?_
  rintro e w' ⟨rfl, rfl⟩
  rw [show tgK 3 = false from rfl]
  have R2 := Lib.hid ((Row.of_block hg2 ([3] ++ e8 t) (wf_append (by simp; decide) (e8_wf t)) (List.prefix_refl _)).more (Nat.succ_le_of_lt (block_lt hg2)))
  go_wp2_with fail
  refine (hasId_any 3 _).mono ?_
  rintro e w' ⟨rfl, rfl⟩
  rw [show idK 3 = false from rfl]
  go_wp2_with fail
  refine (hasValue_any 3 _).mono ?_
  rintro e w' ⟨rfl, rfl⟩
  rw [show vlK 3 = true from rfl]
  obtain ⟨z6, hz6⟩ : ∃ z, w2.heap.size = z := ⟨_, rfl⟩
  go_wp2_with fail
  refine (putNumber_any (some ⟨z2, 0, none⟩) 9 9 ([3] ++ e8 t) v _ z6 _ hz6 (by omega) R2.out (by simp [e8_len]) (by omega)).mono ?_
  rintro e w6 ⟨rfl, hg6, b6⟩
  have bx6 := bx2.below2 b6 (by omega)
  have own6 := own_put (base := w.heap.size) hg6 (m := 9 + 8) (by simp [e8_len]) (by omega) (by omega)
  clear c0 c1 c2 c3 c4 b6 bx2
  obtain ⟨c0, c1, c2, c3, c4⟩ := bx6.five
  go_wp2
  go_ret2
  exact ⟨_, rfl, own6, bx6.2⟩
set_option maxHeartbeats 1000000 in
theorem puts_4 (t : Int) (g : ByteArray) (v i : Int) (w : World) (hs : g.size ≤ maxLen) (h : chkRc ⟨4, t, g, v, i⟩ = 0) :
    Calls Try.prog 9 #[.agg #[.int .i64 4, .int .i64 t, .string g, .int .i64 v, .int .i64 i]] w (GivesOwn w (bytRc ⟨4, t, g, v, i⟩) 0) := by
  have HE := Lib.hid h
  have HB : Hid (bytRc ⟨4, t, g, v, i⟩ = ([4] ++ e8 t ++ e8 v)) := Lib.hid (by unfold bytRc; simp [tgK, idK, vlK])
  rw [HB.out]
  clear h HB
  have bx := Bx.new w (.cells #[.int .i64 4, .int .i64 t, .string g, .int .i64 v, .int .i64 i] 23)
  obtain ⟨c0, c1, c2, c3, c4⟩ := bx.five
  go_enter Try.func9, Try.ntmps9
  go_wp2_with fail
  refine (Check11_any 4 t g v i _ hs).mono ?_
  rintro e w1 ⟨rfl, b1⟩
  rw [HE.out]
  have bx1 := bx.below b1
  clear c0 c1 c2 c3 c4 b1 bx
  obtain ⟨c0, c1, c2, c3, c4⟩ := bx1.five
  have hz1 := bx1.lt
  have hone := Row.one .u8 w1 5 4 (by decide)
  have hsz : (w1.alloc (.cells #[.int .u8 4] 5)).heap.size = w1.heap.size + 1 := by simp
  have bx1b := bx1.alloc (.cells #[.int .u8 4] 5)
  go_wp2_with fail
  refine (putNumber_any _ 1 1 [4] t _ _ _ hsz (Nat.le_refl _) hone rfl (by omega)).mono ?_
  rintro e w2 ⟨rfl, hg2, b2⟩
  have bx2 := bx1b.below2 b2 (by omega)
  have own2 := own_put (base := w.heap.size + 1) hg2 (m := 9) (by simp [e8_len]) (by omega) (by omega)
  have hzz2 : w.heap.size < w1.heap.size + 1 := by omega
  clear c0 c1 c2 c3 c4 b2 bx1 bx1b hone hsz hz1
  obtain ⟨c0, c1, c2, c3, c4⟩ := bx2.five
  have hz2 := bx2.lt
  generalize w1.heap.size + 1 = z2 at *
  go_wp2_with fail
  refine (hasTag_any 4 _).mono ?_
  rintro e w' ⟨rfl, rfl⟩
  rw [show tgK 4 = false from rfl]
  have R2 := Lib.hid ((Row.of_block hg2 ([4] ++ e8 t) (wf_append (by simp; decide) (e8_wf t)) (List.prefix_refl _)).more (Nat.succ_le_of_lt (block_lt hg2)))
  go_wp2_with fail
  refine (hasId_any 4 _).mono ?_
  rintro e w' ⟨rfl, rfl⟩
  rw [show idK 4 = false from rfl]
  go_wp2_with fail
  refine (hasValue_any 4 _).mono ?_
  rintro e w' ⟨rfl, rfl⟩
  rw [show vlK 4 = true from rfl]
  obtain ⟨z6, hz6⟩ : ∃ z, w2.heap.size = z := ⟨_, rfl⟩
  go_wp2_with fail
  refine (putNumber_any (some ⟨z2, 0, none⟩) 9 9 ([4] ++ e8 t) v _ z6 _ hz6 (by omega) R2.out (by simp [e8_len]) (by omega)).mono ?_
  rintro e w6 ⟨rfl, hg6, b6⟩
  have bx6 := bx2.below2 b6 (by omega)
  have own6 := own_put (base := w.heap.size) hg6 (m := 9 + 8) (by simp [e8_len]) (by omega) (by omega)
  clear c0 c1 c2 c3 c4 b6 bx2
  obtain ⟨c0, c1, c2, c3, c4⟩ := bx6.five
  go_wp2
  go_ret2
  exact ⟨_, rfl, own6, bx6.2⟩
set_option maxHeartbeats 1000000 in
theorem puts_5 (t : Int) (g : ByteArray) (v i : Int) (w : World) (hs : g.size ≤ maxLen) (h : chkRc ⟨5, t, g, v, i⟩ = 0) :
    Calls Try.prog 9 #[.agg #[.int .i64 5, .int .i64 t, .string g, .int .i64 v, .int .i64 i]] w (GivesOwn w (bytRc ⟨5, t, g, v, i⟩) 0) := by
  have HE := Lib.hid h
  have HB : Hid (bytRc ⟨5, t, g, v, i⟩ = ([5] ++ e8 t ++ e8 i)) := Lib.hid (by unfold bytRc; simp [tgK, idK, vlK])
  rw [HB.out]
  clear h HB
  have bx := Bx.new w (.cells #[.int .i64 5, .int .i64 t, .string g, .int .i64 v, .int .i64 i] 23)
  obtain ⟨c0, c1, c2, c3, c4⟩ := bx.five
  go_enter Try.func9, Try.ntmps9
  go_wp2_with fail
  refine (Check11_any 5 t g v i _ hs).mono ?_
  rintro e w1 ⟨rfl, b1⟩
  rw [HE.out]
  have bx1 := bx.below b1
  clear c0 c1 c2 c3 c4 b1 bx
  obtain ⟨c0, c1, c2, c3, c4⟩ := bx1.five
  have hz1 := bx1.lt
  have hone := Row.one .u8 w1 5 5 (by decide)
  have hsz : (w1.alloc (.cells #[.int .u8 5] 5)).heap.size = w1.heap.size + 1 := by simp
  have bx1b := bx1.alloc (.cells #[.int .u8 5] 5)
  go_wp2_with fail
  refine (putNumber_any _ 1 1 [5] t _ _ _ hsz (Nat.le_refl _) hone rfl (by omega)).mono ?_
  rintro e w2 ⟨rfl, hg2, b2⟩
  have bx2 := bx1b.below2 b2 (by omega)
  have own2 := own_put (base := w.heap.size + 1) hg2 (m := 9) (by simp [e8_len]) (by omega) (by omega)
  have hzz2 : w.heap.size < w1.heap.size + 1 := by omega
  clear c0 c1 c2 c3 c4 b2 bx1 bx1b hone hsz hz1
  obtain ⟨c0, c1, c2, c3, c4⟩ := bx2.five
  have hz2 := bx2.lt
  generalize w1.heap.size + 1 = z2 at *
  go_wp2_with fail
  refine (hasTag_any 5 _).mono ?_
  rintro e w' ⟨rfl, rfl⟩
  rw [show tgK 5 = false from rfl]
  have R2 := Lib.hid ((Row.of_block hg2 ([5] ++ e8 t) (wf_append (by simp; decide) (e8_wf t)) (List.prefix_refl _)).more (Nat.succ_le_of_lt (block_lt hg2)))
  go_wp2_with fail
  refine (hasId_any 5 _).mono ?_
  rintro e w' ⟨rfl, rfl⟩
  rw [show idK 5 = true from rfl]
  obtain ⟨z5, hz5⟩ : ∃ z, w2.heap.size = z := ⟨_, rfl⟩
  go_wp2_with fail
  refine (putNumber_any (some ⟨z2, 0, none⟩) 9 9 ([5] ++ e8 t) i _ z5 _ hz5 (by omega) R2.out (by simp [e8_len]) (by omega)).mono ?_
  rintro e w5 ⟨rfl, hg5, b5⟩
  have bx5 := bx2.below2 b5 (by omega)
  have own5 := own_put (base := w.heap.size) hg5 (m := 9 + 8) (by simp [e8_len]) (by omega) (by omega)
  clear c0 c1 c2 c3 c4 b5 bx2
  obtain ⟨c0, c1, c2, c3, c4⟩ := bx5.five
  have R5 := Lib.hid ((Row.of_block hg5 (([5] ++ e8 t) ++ e8 i) (wf_append (wf_append (by simp; decide) (e8_wf t)) (e8_wf i)) (List.prefix_refl _)).more (Nat.succ_le_of_lt (block_lt hg5)))
  have hzz5 := block_lt hg5
  go_wp2_with fail
  refine (hasValue_any 5 _).mono ?_
  rintro e w' ⟨rfl, rfl⟩
  rw [show vlK 5 = false from rfl]
  go_wp2
  go_ret2
  exact ⟨_, rfl, own5, bx5.2⟩
set_option maxHeartbeats 1000000 in
theorem puts_6 (t : Int) (g : ByteArray) (v i : Int) (w : World) (hs : g.size ≤ maxLen) (h : chkRc ⟨6, t, g, v, i⟩ = 0) :
    Calls Try.prog 9 #[.agg #[.int .i64 6, .int .i64 t, .string g, .int .i64 v, .int .i64 i]] w (GivesOwn w (bytRc ⟨6, t, g, v, i⟩) 0) := by
  have HE := Lib.hid h
  have HB : Hid (bytRc ⟨6, t, g, v, i⟩ = (([6] ++ e8 t ++ e8 i) ++ e8 v)) := Lib.hid (by unfold bytRc; simp [tgK, idK, vlK])
  rw [HB.out]
  clear h HB
  have bx := Bx.new w (.cells #[.int .i64 6, .int .i64 t, .string g, .int .i64 v, .int .i64 i] 23)
  obtain ⟨c0, c1, c2, c3, c4⟩ := bx.five
  go_enter Try.func9, Try.ntmps9
  go_wp2_with fail
  refine (Check11_any 6 t g v i _ hs).mono ?_
  rintro e w1 ⟨rfl, b1⟩
  rw [HE.out]
  have bx1 := bx.below b1
  clear c0 c1 c2 c3 c4 b1 bx
  obtain ⟨c0, c1, c2, c3, c4⟩ := bx1.five
  have hz1 := bx1.lt
  have hone := Row.one .u8 w1 5 6 (by decide)
  have hsz : (w1.alloc (.cells #[.int .u8 6] 5)).heap.size = w1.heap.size + 1 := by simp
  have bx1b := bx1.alloc (.cells #[.int .u8 6] 5)
  go_wp2_with fail
  refine (putNumber_any _ 1 1 [6] t _ _ _ hsz (Nat.le_refl _) hone rfl (by omega)).mono ?_
  rintro e w2 ⟨rfl, hg2, b2⟩
  have bx2 := bx1b.below2 b2 (by omega)
  have own2 := own_put (base := w.heap.size + 1) hg2 (m := 9) (by simp [e8_len]) (by omega) (by omega)
  have hzz2 : w.heap.size < w1.heap.size + 1 := by omega
  clear c0 c1 c2 c3 c4 b2 bx1 bx1b hone hsz hz1
  obtain ⟨c0, c1, c2, c3, c4⟩ := bx2.five
  have hz2 := bx2.lt
  generalize w1.heap.size + 1 = z2 at *
  go_wp2_with fail
  refine (hasTag_any 6 _).mono ?_
  rintro e w' ⟨rfl, rfl⟩
  rw [show tgK 6 = false from rfl]
  have R2 := Lib.hid ((Row.of_block hg2 ([6] ++ e8 t) (wf_append (by simp; decide) (e8_wf t)) (List.prefix_refl _)).more (Nat.succ_le_of_lt (block_lt hg2)))
  go_wp2_with fail
  refine (hasId_any 6 _).mono ?_
  rintro e w' ⟨rfl, rfl⟩
  rw [show idK 6 = true from rfl]
  obtain ⟨z5, hz5⟩ : ∃ z, w2.heap.size = z := ⟨_, rfl⟩
  go_wp2_with fail
  refine (putNumber_any (some ⟨z2, 0, none⟩) 9 9 ([6] ++ e8 t) i _ z5 _ hz5 (by omega) R2.out (by simp [e8_len]) (by omega)).mono ?_
  rintro e w5 ⟨rfl, hg5, b5⟩
  have bx5 := bx2.below2 b5 (by omega)
  have own5 := own_put (base := w.heap.size) hg5 (m := 9 + 8) (by simp [e8_len]) (by omega) (by omega)
  clear c0 c1 c2 c3 c4 b5 bx2
  obtain ⟨c0, c1, c2, c3, c4⟩ := bx5.five
  have R5 := Lib.hid ((Row.of_block hg5 (([6] ++ e8 t) ++ e8 i) (wf_append (wf_append (by simp; decide) (e8_wf t)) (e8_wf i)) (List.prefix_refl _)).more (Nat.succ_le_of_lt (block_lt hg5)))
  have hzz5 := block_lt hg5
  go_wp2_with fail
  refine (hasValue_any 6 _).mono ?_
  rintro e w' ⟨rfl, rfl⟩
  rw [show vlK 6 = true from rfl]
  obtain ⟨z6, hz6⟩ : ∃ z, w5.heap.size = z := ⟨_, rfl⟩
  go_wp2_with fail
  refine (putNumber_any (some ⟨z5, 0, none⟩) 17 17 (([6] ++ e8 t) ++ e8 i) v _ z6 _ hz6 (by omega) R5.out (by simp [e8_len]) (by omega)).mono ?_
  rintro e w6 ⟨rfl, hg6, b6⟩
  have bx6 := bx5.below2 b6 (by omega)
  have own6 := own_put (base := w.heap.size) hg6 (m := 17 + 8) (by simp [e8_len]) (by omega) (by omega)
  clear c0 c1 c2 c3 c4 b6 bx5
  obtain ⟨c0, c1, c2, c3, c4⟩ := bx6.five
  go_wp2
  go_ret2
  exact ⟨_, rfl, own6, bx6.2⟩
def putRc (r : Rc) : List Int := if chkRc r = 0 then bytRc r else []
theorem Put11_any (k t : Int) (g : ByteArray) (v i : Int) (w : World) (hs : g.size ≤ maxLen) : Calls Try.prog 9 #[.agg #[.int .i64 k, .int .i64 t, .string g, .int .i64 v, .int .i64 i]] w (GivesOwn w (putRc ⟨k, t, g, v, i⟩) (chkRc ⟨k, t, g, v, i⟩)) := by
  by_cases h : chkRc ⟨k, t, g, v, i⟩ = 0
  · rw [putRc, if_pos h, h]
    rcases kinds (chk_kind h) with e | e | e | e | e | e
    all_goals
      have e2 : k = _ := e
      subst e2
    · exact puts_1 t g v i w hs h
    · exact puts_2 t g v i w hs h
    · exact puts_3 t g v i w hs h
    · exact puts_4 t g v i w hs h
    · exact puts_5 t g v i w hs h
    · exact puts_6 t g v i w hs h
  · rw [putRc, if_neg h]
    exact puts_bad k t g v i w hs h
end Go.Proofs.Ytemjcgmoacnnfaa
