/-
  Texts of the proof of ReplyKnown, joined.
-/
import Derived.Test.YtobhllcnljggiaaGreatJReplyKnownE
import Derived.Test.YtobhllcnljggiaaGreatJReplyKnownA
import Derived.Test.YtobhllcnljggiaaGreatJReplyKnownD
namespace Go.Proofs.YtobhllcnljggiaaGreat
open Go.RowKit
set_option linter.unusedVariables false

theorem info_words : (Tryz.prog.info? 23).map (fun i => (i.zero, i.size, i.bytes)) = some (some (.slice none 0 0), 1, 24) := by kernel_rfl

/-- The slice v owns the lists fs, each of which is a slice of the call's own. -/
def WOwn (w : World) (base : Nat) (v : Value) (fs : List (List Int)) : Prop :=
  ∃ L : List (List Int × Value), L.map Prod.fst = fs ∧ w.ownsRow base 23 1 v L.length (L.map Prod.snd) ∧ ∀ p ∈ L, Own .u16 32 w base p.2 p.1
theorem WOwn.nil (w : World) (base : Nat) : WOwn w base (.slice none 0 0) [] := ⟨[], rfl, World.ownsRow_nil _ _ _ _, fun p hp => by cases hp⟩
theorem Own.keep {k : IntKind} {e : TypeId} {w w' : World} {base : Nat} {v : Value} {xs : List Int} {row : Option Nat} (h : Own k e w base v xs) (hg : w.grownBy w' row) (hr : v.ownBlock = none ∨ v.ownBlock ≠ row) : Own k e w' base v xs := World.ownsRow.kept h hg hr
theorem rowW_below {w w' : World} {base B n : Nat} {v : Value} {xs : List Value} (h : w.ownsRow base 23 1 v n xs) (hb : Below B w w') (hB : w.heap.size ≤ B) : w'.ownsRow base 23 1 v n xs := by
  refine h.kept (row := none) ⟨hb.os, hb.tape, hb.output, hb.size, fun i hi _ => hb.block i (by omega)⟩ ?_
  cases hv : v.ownBlock with
  | none => exact .inl rfl
  | some g => exact .inr (by simp)
theorem WOwn.below {w w' : World} {base B : Nat} {v : Value} {fs : List (List Int)} (h : WOwn w base v fs) (hb : Below B w w') (hB : w.heap.size ≤ B) : WOwn w' base v fs := by
  obtain ⟨L, h1, h2, h3⟩ := h
  exact ⟨L, h1, rowW_below h2 hb hB, fun p hp => (h3 p hp).below hb hB⟩
theorem WOwn.block {w : World} {base : Nat} {v : Value} {fs : List (List Int)} (h : WOwn w base v fs) : ∀ g, v.ownBlock = some g → base ≤ g ∧ g < w.heap.size := by
  obtain ⟨L, h1, h2, h3⟩ := h
  exact World.ownsRow.lt h2
theorem WOwn.set {w : World} {base : Nat} {v : Value} {fs : List (List Int)} (h : WOwn w base v fs) {g : Nat} (hg : g < base) (i : Nat) (u : Value) : WOwn (w.setCell ⟨g, i, none⟩ u) base v fs := by
  obtain ⟨L, h1, h2, h3⟩ := h
  exact ⟨L, h1, h2.kept (grown_setCell (World.grownBy.refl _ _) i u) (.inr fun hv => by have := (World.ownsRow.lt h2 g hv).1; omega), fun p hp => (h3 p hp).set hg i u⟩
/-- The block of a list of lists is none of its lists' own. -/
theorem words_far {w : World} {base base' : Nat} {v u : Value} {n : Nat} {xs : List Value} {ys : List Int} (h : w.ownsRow base 23 1 v n xs) (k : Own .u16 32 w base' u ys) : u.ownBlock = none ∨ u.ownBlock ≠ v.ownBlock := by
  rcases k.2 with ⟨rfl, _⟩ | ⟨g, cap, cur0, rfl, _, hg, _⟩
  · exact .inl rfl
  · refine .inr fun e => ?_
    rcases h.2 with ⟨rfl, _⟩ | ⟨g', cap', cur, rfl, _, hg', _⟩
    · cases e
    · have e : some g = some g' := e
      injection e with e
      subst e
      rw [hg] at hg'
      injection hg' with hg'
      injection hg' with _ ht
      exact absurd ht (by decide)
theorem WOwn.len {w : World} {base : Nat} {v : Value} {fs : List (List Int)} (h : WOwn w base v fs) : ∃ A c, v = .slice A fs.length c ∧ fs.length ≤ c := by
  obtain ⟨L, rfl, h2, h3⟩ := h
  rw [List.length_map]
  rcases h2.2 with ⟨rfl, h0⟩ | ⟨g, cap, cur, rfl, _, _, h4, _⟩
  · rw [h0]; exact ⟨none, 0, rfl, Nat.le_refl _⟩
  · exact ⟨_, cap, rfl, h4⟩
/-- As a list of lists that is read. -/
theorem WOwn.frow {w : World} {base : Nat} {A : Option Addr} {n c : Nat} {fs : List (List Int)} (h : WOwn w base (.slice A n c) fs) (hw : ∀ xs ∈ fs, ∀ x ∈ xs, (Lit.int .u16 x).wf = true) : FRow w w.heap.size A fs := by
  obtain ⟨L, rfl, h2, h3⟩ := h
  intro h0
  rw [List.length_map] at h0
  rcases h2.2 with ⟨e, h9⟩ | ⟨g, cap, cur, e, hb, hg, h4, h5, h6, h7⟩
  · omega
  · injection e with e1 e2 e3
    subst e1 e2 e3
    refine ⟨g, 0, rfl, block_lt hg, fun i hi => ?_⟩
    rw [List.length_map] at hi
    have hown := h3 _ (List.getElem_mem hi)
    have hfst : nthF (L.map Prod.fst) i = (L[i]).1 := by simp [nthF, List.getD_eq_getElem?_getD, List.getElem?_eq_getElem hi]
    obtain ⟨Ai, ci, hv, hrow, hle, _⟩ := hown.row (hw _ (List.mem_map.2 ⟨_, List.getElem_mem hi, rfl⟩))
    refine ⟨Ai, ci, ?_, by rw [hfst]; exact hrow, by rw [hfst]; exact hle⟩
    rw [Nat.zero_add, cell_of_row w g i cur _ _ hg, hfst, ← hv, ← Array.getElem?_toList]
    have : (cur.toList.take (L.length * 1))[i]? = (L.map Prod.snd)[i]? := by rw [h7]
    rw [List.getElem?_take_of_lt (by omega)] at this
    rw [this, List.getElem?_map, List.getElem?_eq_getElem hi]
    rfl

section
variable {P : Program}
/-- 'append(v, xs)' of a list of words in a box. -/
theorem wpList_append_words {ops : Array Oper} {rest : List Oper} {o : Oper} {a : Act} {Q : Exit → Act → World → Prop} (w : World) (hgd : o.guard = none) (s x : Operand) (t : TypeId)
    (ho : o.op = .call { callee := .builtin .append, args := #[s, x], argTypes := #[t, t] }) (base : Nat) (ht : P.underlying t = some (.slice 23)) (hi : (P.info? 23).map (fun i => (i.zero, i.size, i.bytes)) = some (some (.slice none 0 0), 1, 24))
    (v : Value) (fs : List (List Int)) (hs : a.eval s = v) (hown : WOwn w base v fs) (ad : Addr) (c : Nat) (xs : List Int) (A : Option Addr) (m cc : Nat) (hx : a.eval x = .slice (some ad) 1 c)
    (hk : Own .u16 32 w base (.slice A m cc) xs) (hnews : ∀ j u, [Value.slice A m cc][j]? = some u → w.cell? (ad.add j) = some u) (hb : fs.length ≤ 1000000) (hbase : base ≤ w.heap.size)
    (h : ∀ v' w', WOwn w' base v' (fs ++ [xs]) → w.grownBy w' v.ownBlock → wpList P ops Q rest (a.put o.dst v') w') : wpList P ops Q (o :: rest) a w := by
  obtain ⟨i, hi1, hz, hsz, hby⟩ := info_parts hi
  obtain ⟨L, rfl, h2, h3⟩ := hown
  rw [List.length_map] at hb
  refine wpList_append_own w hgd s x t ho base 23 i _ 1 24 ht hi1 hz hsz hby rfl (by omega) v L.length (L.map Prod.snd) hs h2 ad 1 c [.slice A m cc] hx rfl hnews (by simp [Value.oneCell']) (by simp only [maxLen]; omega) (by omega) hbase fun v' w' h4 h5 _ => h v' w' ?_ h5
  refine ⟨L ++ [(xs, .slice A m cc)], by simp, ?_, fun p hp => ?_⟩
  · rw [List.map_append, List.length_append]
    exact h4
  · rcases List.mem_append.1 hp with hp | hp
    · exact (h3 p hp).keep h5 (words_far h2 (h3 p hp))
    · simp only [List.mem_singleton] at hp
      subst hp
      exact hk.keep h5 (words_far h2 hk)
end
/-- The cell of a list in a new box. -/
theorem box_words (w : World) (t : TypeId) (x : Value) : ∀ j u, [x][j]? = some u → (w.alloc (.cells #[x] t)).cell? ((⟨w.heap.size, 0, none⟩ : Addr).add j) = some u := by
  intro j u hu
  rw [Go.WideShapes.add_plain, Nat.zero_add, World.cell?_alloc_at _ _ _ _ rfl]
  simpa using hu
theorem TB.set1 {w0 w : World} {B : Nat} {o2 : Obj} {cs : Array Value} {t : TypeId} (h : TB w0 B (.cells cs t (0, 0)) o2 w) (i : Nat) (v : Value) : TB w0 B (.cells (cs.setIfInBounds i v) t (0, 0)) o2 (w.setCell ⟨B, i, none⟩ v) :=
  ⟨box_set h.ret i v, (Below.heap_setCell w ⟨B, i, none⟩ v (B + 1) (by simp)).trans h.box, below_setCell h.bel (Nat.le_refl _) i v⟩
theorem TB.r4 {w0 w : World} {B : Nat} {o2 : Obj} {t : TypeId} {v0 v1 v2 v3 : Value} (h : TB w0 B (.cells #[v0, v1, v2, v3] t (0, 0)) o2 w) :
    w.cell? ⟨B, 0, none⟩ = some v0 ∧ w.cell? ⟨B, 1, none⟩ = some v1 ∧ w.cell? ⟨B, 2, none⟩ = some v2 ∧ w.cell? ⟨B, 3, none⟩ = some v3 ∧ ∀ i, w.frozen? ⟨B, i, none⟩ = false :=
  ⟨cell_of_row w B 0 _ _ _ h.ret, cell_of_row w B 1 _ _ _ h.ret, cell_of_row w B 2 _ _ _ h.ret, cell_of_row w B 3 _ _ _ h.ret, fun i => block_frozen w B i _ _ h.ret⟩
theorem Own.put4 {k : IntKind} {e : TypeId} {w : World} {base : Nat} {v : Value} {xs : List Int} (h : Own k e w base v xs) {g : Nat} (hg : g < base) (v0 v1 v2 v3 : Value) : Own k e (put4 w g v0 v1 v2 v3) base v xs :=
  (((h.set hg 0 v0).set hg 1 v1).set hg 2 v2).set hg 3 v3
theorem L.Own.put4 {k : Unit} {e : TypeId} {w : World} {base : Nat} {v : Value} {xs : List Bool} (h : L.Own k e w base v xs) {g : Nat} (hg : g < base) (v0 v1 v2 v3 : Value) : L.Own k e (put4 w g v0 v1 v2 v3) base v xs :=
  (((h.set hg 0 v0).set hg 1 v1).set hg 2 v2).set hg 3 v3
theorem WOwn.put4 {w : World} {base : Nat} {v : Value} {fs : List (List Int)} (h : WOwn w base v fs) {g : Nat} (hg : g < base) (v0 v1 v2 v3 : Value) : WOwn (put4 w g v0 v1 v2 v3) base v fs :=
  (((h.set hg 0 v0).set hg 1 v1).set hg 2 v2).set hg 3 v3
theorem takeF_step (fs : List (List Int)) (k : Nat) (h : k < fs.length) : fs.take (k + 1) = fs.take k ++ [nthF fs k] := by
  rw [List.take_succ_eq_append_getElem h]
  simp [nthF, List.getD_eq_getElem?_getD, List.getElem?_eq_getElem h]
/-- The words of an answer's files are words. -/
theorem FRow.wf {w : World} {B : Nat} {A : Option Addr} {fs : List (List Int)} (h : FRow w B A fs) : ∀ xs ∈ fs, ∀ x ∈ xs, (Lit.int .u16 x).wf = true := by
  intro xs hxs
  obtain ⟨i, hi, rfl⟩ := List.mem_iff_getElem.1 hxs
  obtain ⟨b, o, _, _, hc⟩ := h (by omega)
  obtain ⟨Ai, ci, _, h2, _⟩ := hc i hi
  have : nthF fs i = fs[i] := by simp [nthF, List.getD_eq_getElem?_getD, List.getElem?_eq_getElem hi]
  rw [this] at h2
  exact h2.1

theorem farW {w : World} {base base' : Nat} {v u : Value} {fs : List (List Int)} {ys : List Int} (k : Own .u16 32 w base' u ys) (h : WOwn w base v fs) : u.ownBlock = none ∨ u.ownBlock ≠ v.ownBlock := by
  obtain ⟨L, _, h2, _⟩ := h
  exact words_far h2 k
theorem farB {w : World} {base base' : Nat} {v u : Value} {fs : List (List Int)} {ys : List Bool} (k : L.Own () 4 w base' u ys) (h : WOwn w base v fs) : u.ownBlock = none ∨ u.ownBlock ≠ v.ownBlock := by
  obtain ⟨L, _, h2, _⟩ := h
  rcases k.2 with ⟨rfl, _⟩ | ⟨g, cap, cur0, rfl, _, hg, _⟩
  · exact .inl rfl
  · refine .inr fun e => ?_
    rcases h2.2 with ⟨rfl, _⟩ | ⟨g', cap', cur, rfl, _, hg', _⟩
    · cases e
    · have e : some g = some g' := e
      injection e with e
      subst e
      rw [hg] at hg'
      injection hg' with hg'
      injection hg' with _ ht
      exact absurd ht (by decide)
theorem L.Own.view3 {k : Unit} {e : TypeId} {w : World} {base : Nat} {v : Value} {xs : List Bool} (h : L.Own k e w base v xs) : ∃ A n c, v = .slice A n c ∧ L.Row k w w.heap.size A xs ∧ xs.length = n := by
  obtain ⟨A, c, e, hr, _⟩ := h.row (fun _ _ => rfl)
  exact ⟨A, _, c, e, hr, rfl⟩
theorem Own.view3 {k : IntKind} {e : TypeId} {w : World} {base : Nat} {v : Value} {xs : List Int} (h : Own k e w base v xs) (hw : ∀ x ∈ xs, (Lit.int k x).wf = true) : ∃ A n c, v = .slice A n c ∧ Row k w w.heap.size A xs ∧ xs.length = n := by
  obtain ⟨A, c, e, hr, _⟩ := h.row hw
  exact ⟨A, _, c, e, hr, rfl⟩
set_option maxHeartbeats 4000000 in
set_option maxRecDepth 100000 in
theorem CopyReply_any (r : Rep) (Bo Bs Bf : Option Addr) (mo ms mf eo es ef : Nat) (w : World) (hr : Repd w w.heap.size r Bo Bs Bf mo ms mf) (b1 : mo ≤ 70000) (b2 : ms ≤ 70000) (b3 : mf ≤ 1000) (b4 : ∀ i, i < mf → (nthF r.fs i).length ≤ 70368744175616) :
    Calls Tryz.prog 18 #[.agg #[.int .i64 r.x, .slice Bo mo eo, .slice Bs ms es, .slice Bf mf ef]] w
      fun e w' => ∃ Co Cs Cf ko ks kf, e = .returned (.agg #[.int .i64 r.x, .slice Co mo ko, .slice Cs ms ks, .slice Cf mf kf]) ∧ Repd w' w'.heap.size r Co Cs Cf mo ms mf ∧ Below w.heap.size w w' := by
  have HR := Lib.hid hr
  have HWF := Lib.hid hr.fs.wf
  have HMF := Lib.hid hr.mf
  have HL4 := Lib.hid b4
  have t0 := TB.new w #[.int .i64 r.x, .slice Bo mo eo, .slice Bs ms es, .slice Bf mf ef] #[.int .i64 0, .slice none 0 0, .slice none 0 0, .slice none 0 0] 29
  clear hr b4
  go_enter Tryz.func18, Tryz.ntmps18
  go_wp2_with fail
  refine (L.copy_bool _ _ _ r.on _ ((HR.out.on.below t0.bel).more t0.bel.size) HR.out.mo (by omega)).mono ?_
  rintro e w1 ⟨vo, rfl, own1, b⟩
  obtain ⟨A1, c1, rfl, _, _, _⟩ := own1.row (fun _ _ => rfl)
  rw [HR.out.mo] at own1 ⊢
  have t1 := t0.below b
  have own1 := own1.mono (base' := w.heap.size + 2) (by have := t0.lt; omega)
  clear t0 b
  obtain ⟨d0, d1, d2, d3, d4⟩ := t1.r4
  have t2 := t1.set1 1 (.slice A1 mo c1)
  have own2 := Lib.hid (own1.set (g := w.heap.size) (by omega) 1 (.slice A1 mo c1))
  clear own1 t1
  go_wp2_with fail
  clear d0 d1 d2 d3 d4
  generalize w1.setCell ⟨w.heap.size, 1, none⟩ (.slice A1 mo c1) = w2 at *
  refine (W.copy_u16 _ _ _ r.set _ ((HR.out.set.below t2.bel).more t2.bel.size) HR.out.ms (by omega)).mono ?_
  rintro e w3 ⟨vs, rfl, own3, b⟩
  obtain ⟨A3, c3, rfl, _, _, _⟩ := own3.row HR.out.set.1
  rw [HR.out.ms] at own3 ⊢
  have t3 := t2.below b
  have own4 := own2.out.below b (Nat.le_refl _)
  have own3 := own3.mono (base' := w.heap.size + 2) (by have := t2.lt; omega)
  clear own2 t2 b
  obtain ⟨d0, d1, d2, d3, d4⟩ := t3.r4
  have t4 := t3.set1 2 (.slice A3 ms c3)
  have own5 := own3.set (g := w.heap.size) (by omega) 2 (.slice A3 ms c3)
  have own6 := own4.set (g := w.heap.size) (by omega) 2 (.slice A3 ms c3)
  clear own3 own4 t3
  go_wp2_with fail
  clear d0 d1 d2 d3 d4
  generalize w3.setCell ⟨w.heap.size, 2, none⟩ (.slice A3 ms c3) = w4 at *
  go_loopw [3, 4] (fun v i wr => ∃ k : Nat, k ≤ mf ∧ i = .int .i64 k ∧ WOwn wr (w.heap.size + 2) v (r.fs.take k) ∧ Hid (L.Own () 4 wr (w.heap.size + 2) (.slice A1 mo c1) r.on ∧ Own .u16 32 wr (w.heap.size + 2) (.slice A3 ms c3) r.set) ∧ TB w w.heap.size (.cells #[.int .i64 r.x, .slice A1 mo c1, .slice A3 ms c3, .slice Bf mf ef] 29 (0, 0)) (.cells #[.int .i64 0, .slice none 0 0, .slice none 0 0, .slice none 0 0] 29 (0, 0)) wr) (fun _ i _ => mf - (intOf i).toNat)
  case atStart => exact ⟨0, by omega, rfl, WOwn.nil _ _, Lib.hid ⟨own6, own5⟩, t4⟩
  case round =>
    clear own5 own6 t4
    obtain ⟨k, hk, rfl, fown, two, t5⟩ := hrel
    obtain ⟨d0, d1, d2, d3, d4⟩ := t5.r4
    have hlt5 := t5.lt
    by_cases hlt : k < mf
    · obtain ⟨b, o, Ai, ci, rfl, hb1, hc0, rw0, hle⟩ := HR.out.fs.at_ (i := k) (by rw [HMF.out]; exact hlt)
      have hc1 := (t5.bel.cell (p := ⟨b, o + k, none⟩) hb1).trans hc0
      have hlen := HL4.out k hlt
      have HT := Lib.hid (takeF_step r.fs k (by rw [HMF.out]; exact hlt))
      have HTL : Hid ((r.fs.take k).length = k) := Lib.hid (by rw [List.length_take, HMF.out]; omega)
      have hwx := Lib.hid rw0.1
      generalize nthF r.fs k = xs at *
      obtain ⟨z, hz⟩ : ∃ z, Hid (xs.length = z) := ⟨_, Lib.hid rfl⟩
      rw [hz.out] at hc1 hlen hle
      have R0 := Lib.hid ((rw0.below t5.bel).more t5.bel.size)
      have hklt : (k : Int) < (mf : Int) := by omega
      clear hc0 rw0
      go_wp2_with fail
      refine (W.copy_u16 _ _ _ xs _ R0.out hz.out (by omega)).mono ?_
      rintro e w5 ⟨vx, rfl, ownx, b5⟩
      obtain ⟨Ax, cx, rfl, _, _, _⟩ := ownx.row hwx.out
      rw [hz.out] at ownx ⊢
      have t6 := t5.below b5
      have fown6 := fown.below b5 (Nat.le_refl _)
      have o1 := two.out.1.below b5 (Nat.le_refl _)
      have o2 := two.out.2.below b5 (Nat.le_refl _)
      have ownx := ownx.mono (base' := w.heap.size + 2) (by omega)
      have hlt6 := t6.lt
      clear t5 b5 fown two d0 d1 d2 d3 d4 hc1
      have bA := bel_alloc w5 (.cells #[.slice Ax z cx] 23)
      have t7 := t6.below bA
      have fown7 := fown6.below bA (Nat.le_refl _)
      have ownx7 := ownx.below bA (Nat.le_refl _)
      have o17 := Lib.hid (o1.below bA (Nat.le_refl _))
      have o27 := Lib.hid (o2.below bA (Nat.le_refl _))
      obtain ⟨Av, cv, hv, _⟩ := fown7.len
      rw [HTL.out] at hv
      subst hv
      have HNEWS := Lib.hid (box_words w5 23 (.slice Ax z cx))
      clear t6 fown6 ownx o1 o2 bA
      go_wp2_with (at_builtin; refine wpList_append_words _ rfl (.tmp 20) (.tmp 27) 27 rfl (w.heap.size + 2) Tryz.underlying27 info_words (.slice Av k cv) (r.fs.take k) rfl fown7 ⟨w5.heap.size, 0, none⟩ 1 xs Ax z cx rfl ownx7 HNEWS.out (by rw [HTL.out]; omega) (by simp; omega) ?_; intro v8 w8 fown8 hg8)
      have t8 := t7.grown hg8 (fun g e => (fown7.block g e).1)
      have far1 : L.Own () 4 w8 (w.heap.size + 2) (.slice A1 mo c1) r.on := o17.out.kept hg8 (farB o17.out fown7)
      have far2 : Own .u16 32 w8 (w.heap.size + 2) (.slice A3 ms c3) r.set := o27.out.keep hg8 (farW o27.out fown7)
      have two8 := Lib.hid (And.intro far1 far2)
      rw [← HT.out] at fown8
      clear t7 fown7 ownx7 o17 o27 far1 far2 hg8
      go_wp2
      go_roundw
      case rel => exact ⟨k + 1, by omega, by go_num, fown8, two8, t8⟩
      case measure => simp [intOf]; omega
    · obtain rfl : k = mf := by omega
      have hx : r.fs.take k = r.fs := List.take_of_length_le (by rw [HMF.out]; omega)
      rw [hx] at fown
      clear hx
      obtain ⟨Av, cv, hv, _⟩ := fown.len
      rw [HMF.out] at hv
      subst hv
      have t6 := t5.set1 3 (.slice Av k cv)
      have fown6 := fown.set (g := w.heap.size) (by omega) 3 (.slice Av k cv)
      have o1 := two.out.1.set (g := w.heap.size) (by omega) 3 (.slice Av k cv)
      have o2 := two.out.2.set (g := w.heap.size) (by omega) 3 (.slice Av k cv)
      obtain ⟨k0, k1, k2, k3, k4⟩ := t5.c4
      have P5 := Lib.hid (t6.put4 (.int .i64 r.x) (.slice A1 mo c1) (.slice A3 ms c3) (.slice Av k cv))
      have F5 := Lib.hid (fown6.put4 (g := w.heap.size + 1) (by omega) (.int .i64 r.x) (.slice A1 mo c1) (.slice A3 ms c3) (.slice Av k cv))
      have F1 := Lib.hid (o1.put4 (g := w.heap.size + 1) (by omega) (.int .i64 r.x) (.slice A1 mo c1) (.slice A3 ms c3) (.slice Av k cv))
      have F2 := Lib.hid (o2.put4 (g := w.heap.size + 1) (by omega) (.int .i64 r.x) (.slice A1 mo c1) (.slice A3 ms c3) (.slice Av k cv))
      clear t5 t6 fown fown6 two o1 o2
      go_wp2

      (try simp only [Exit.inBlock, Exit.then])
      show bodyPost _ _ _ _ _ (put4 (wr.setCell ⟨w.heap.size, 3, none⟩ (.slice Av k cv)) (w.heap.size + 1) (.int .i64 r.x) (.slice A1 mo c1) (.slice A3 ms c3) (.slice Av k cv))
      generalize put4 (wr.setCell ⟨w.heap.size, 3, none⟩ (.slice Av k cv)) (w.heap.size + 1) (.int .i64 r.x) (.slice A1 mo c1) (.slice A3 ms c3) (.slice Av k cv) = w6 at *
      clear d0 d1 d2 d3 d4 k0 k1 k2 k3 k4
      have c0 := cell_of_row w6 (w.heap.size + 1) 0 _ _ _ P5.out.1
      have c1' := cell_of_row w6 (w.heap.size + 1) 1 _ _ _ P5.out.1
      have c2 := cell_of_row w6 (w.heap.size + 1) 2 _ _ _ P5.out.1
      have c3' := cell_of_row w6 (w.heap.size + 1) 3 _ _ _ P5.out.1
      refine bodyPost_ret (v := .agg #[.int .i64 r.x, .slice A1 mo c1, .slice A3 ms c3, .slice Av k cv]) (by simp [results, Tryz.results18, go_sem, *]) rfl ?_
      refine ⟨A1, A3, Av, c1, c3, cv, rfl, ⟨?_, ?_, F5.out.frow HWF.out, HR.out.mo, HR.out.ms, HMF.out⟩, P5.out.2⟩
      · obtain ⟨A, n, c, e, hrow, _⟩ := F1.out.view3
        injection e with e1 e2 e3
        subst e1
        exact hrow
      · obtain ⟨A, n, c, e, hrow, _⟩ := F2.out.view3 HR.out.set.1
        injection e with e1 e2 e3
        subst e1
        exact hrow
end Go.Proofs.YtobhllcnljggiaaGreat
namespace Go.Proofs.YtobhllcnljggiaaGreat
open Go.RowKit
set_option linter.unusedVariables false

theorem make_files (n : Nat) (hn : n ≤ 1000000) (W : World) :
    (Instr.makeSlice 27 (.int .i64 (n : Int)) (.int .i64 (n : Int))).run Tryz.prog W = .ok (.slice (some ⟨W.heap.size, 0, none⟩) n n) (W.alloc (.cells (Array.replicate n (Value.slice none 0 0)) 23)) := by
  obtain ⟨i, hi, hz, hs, hb⟩ := info_parts info_words
  have h := run_make (P := Tryz.prog) W 27 23 i (.slice none 0 0) Tryz.underlying27 hi hz .i64 .i64 n n (by omega) (by omega) (by rw [hb]; omega) (by omega)
  have e : madeCells (Value.slice none 0 0).cells (n * 1) = Array.replicate n (Value.slice none 0 0) := by
    apply Array.toList_inj.1
    rw [show (Value.slice none 0 0).cells = #[Value.slice none 0 0] from rfl, toList_madeCells_one, Nat.mul_one, Array.toList_replicate]
  rw [h, hs, Int.toNat_natCast, e]

/-- A block of n lists, the first k of which are the files that bytes say. -/
def FillK (w : World) (g2 n k : Nat) (fl ys : List Int) : Prop :=
  ∃ L : List Value, L.length = k ∧ w.heap[g2]? = some (.cells (L ++ List.replicate (n - k) (Value.slice none 0 0)).toArray 23 (0, 0)) ∧ ∀ i, i < k → ∃ gi, L[i]? = some (.slice (some ⟨gi, 0, none⟩) (fileAt fl ys i).length (fileAt fl ys i).length) ∧ g2 < gi ∧ W.Bk w gi (fileAt fl ys i)
theorem FillK.zero (w : World) (n : Nat) (fl ys : List Int) : FillK (w.alloc (.cells (Array.replicate n (Value.slice none 0 0)) 23)) w.heap.size n 0 fl ys :=
  ⟨[], rfl, by simpa using heap_alloc_new w (.cells (Array.replicate n (Value.slice none 0 0)) 23), fun i hi => absurd hi (by omega)⟩
theorem FillK.keep {w w' : World} {g2 n k : Nat} {fl ys : List Int} (h : FillK w g2 n k fl ys) (hk : ∀ g o, g2 ≤ g → w.heap[g]? = some o → w'.heap[g]? = some o) : FillK w' g2 n k fl ys := by
  obtain ⟨L, h1, h2, h3⟩ := h
  refine ⟨L, h1, hk _ _ (Nat.le_refl _) h2, fun i hi => ?_⟩
  obtain ⟨gi, g1, g2', g3⟩ := h3 i hi
  exact ⟨gi, g1, g2', hk _ _ (by omega) g3⟩
theorem FillK.below {w w' : World} {g2 n k : Nat} {fl ys : List Int} (h : FillK w g2 n k fl ys) (hb : Below w.heap.size w w') : FillK w' g2 n k fl ys :=
  h.keep fun g o _ ho => (hb.block g (block_lt ho)).trans ho
theorem FillK.far {w : World} {g2 n k : Nat} {fl ys : List Int} (h : FillK w g2 n k fl ys) {g : Nat} (hg : g < g2) (i : Nat) (v : Value) : FillK (w.setCell ⟨g, i, none⟩ v) g2 n k fl ys :=
  h.keep fun j o hj ho => (Below.heap_setCell w ⟨g, i, none⟩ v j (by simp; omega)).trans ho
theorem FillK.lt {w : World} {g2 n k : Nat} {fl ys : List Int} (h : FillK w g2 n k fl ys) : g2 < w.heap.size := by
  obtain ⟨L, h1, h2, h3⟩ := h
  exact block_lt h2
theorem FillK.cell {w : World} {g2 n k : Nat} {fl ys : List Int} (h : FillK w g2 n k fl ys) (hk : k < n) : w.cell? ⟨g2, k, none⟩ = some (.slice none 0 0) ∧ w.frozen? ⟨g2, k, none⟩ = false := by
  obtain ⟨L, h1, h2, h3⟩ := h
  refine ⟨?_, block_frozen w g2 k _ _ h2⟩
  rw [cell_of_row w g2 k _ _ _ h2]
  simp only [List.getElem?_toArray]
  rw [List.getElem?_append_right (by omega), List.getElem?_replicate]
  rw [if_pos (by omega)]
theorem FillK.step {w : World} {g2 n k : Nat} {fl ys : List Int} (h : FillK w g2 n k fl ys) (hk : k < n) {gn l : Nat} (hg : g2 < gn) (hl : (fileAt fl ys k).length = l) (hb : W.Bk w gn (fileAt fl ys k)) : FillK (w.setCell ⟨g2, k, none⟩ (.slice (some ⟨gn, 0, none⟩) l l)) g2 n (k + 1) fl ys := by
  obtain ⟨L, h1, h2, h3⟩ := h
  have other : ∀ j o, j ≠ g2 → w.heap[j]? = some o → (w.setCell ⟨g2, k, none⟩ (.slice (some ⟨gn, 0, none⟩) l l)).heap[j]? = some o := fun j o hj ho => (Below.heap_setCell w ⟨g2, k, none⟩ _ j (by simpa using hj)).trans ho
  refine ⟨L ++ [.slice (some ⟨gn, 0, none⟩) l l], by simp [h1], ?_, fun i hi => ?_⟩
  · rw [box_set h2 k _]
    congr 2
    apply Array.toList_inj.1
    rw [Array.toList_setIfInBounds]
    show (L ++ List.replicate (n - k) (Value.slice none 0 0)).set k _ = _
    rw [List.set_append_right _ _ (by omega), h1, Nat.sub_self, show n - k = (n - (k + 1)) + 1 by omega, List.replicate_succ, List.set_cons_zero]
    simp
  · by_cases e : i = k
    · subst e
      exact ⟨gn, by rw [List.getElem?_append_right (by omega), h1, Nat.sub_self, hl]; rfl, hg, other _ _ (by omega) hb⟩
    · obtain ⟨gi, g1, g3, g4⟩ := h3 i (by omega)
      exact ⟨gi, by rw [List.getElem?_append_left (by omega)]; exact g1, g3, other _ _ (by omega) g4⟩
theorem FillK.full {w : World} {g2 n base : Nat} {fl ys : List Int} (h : FillK w g2 n n fl ys) (hb : base ≤ g2) : FileK w base (some ⟨g2, 0, none⟩) n n (filesR fl ys n) := by
  obtain ⟨L, h1, h2, h3⟩ := h
  rw [Nat.sub_self, List.replicate_zero, List.append_nil] at h2
  refine .inr ⟨g2, L, rfl, rfl, hb, filesR_length _ _ _, h1, h2, fun i hi => ?_⟩
  obtain ⟨gi, g1, g3, g4⟩ := h3 i hi
  rw [filesR_nth _ _ _ _ hi]
  exact ⟨gi, g1, by omega, g4⟩

/-- Files, if there are any. -/
def whenF (u : Bool) (fs : List (List Int)) : List (List Int) := if u = true then fs else []
set_option maxHeartbeats 4000000 in
set_option maxRecDepth 100000 in
theorem readFiles_any (fl ys : List Int) (Ap : Option Addr) (lp cp b o m cap g B : Nat) (w : World) (hp : Row .i64 w B Ap fl) (hl : fl.length = 3 * lp) (h1 : ∀ i, i < lp → 1 ≤ nth fl (3 * i + 2)) (hm : posF fl lp = m) (hm2 : m ≤ 247) (hr : Row .u8 w B (some ⟨b, o, none⟩) ys) (hy : ys.length = m) (hcap : m ≤ cap) (hcb : cap ≤ 9223372036854775807)
    (hg : w.heap[g]? = some (.cells #[.slice (some ⟨b, o + 2, none⟩) (m - 2) (cap - 2)] 34 (0, 0))) (hB : B ≤ g) (hlp : lp ≤ 35) (hlp1 : 1 ≤ lp) :
    Calls Tryz.prog 96 #[.slice Ap lp cp, .func (.func 102) #[] #[.pointer (some ⟨g, 0, none⟩)]] w fun e w' => ∃ A n c, e = .returned (.tuple #[.slice A n c, .bool (headsR fl ys lp)]) ∧ FileK w' w.heap.size A n c (whenF (headsR fl ys lp) (filesR fl ys lp)) ∧ Below B w w' := by
  obtain ⟨u, hu⟩ : ∃ u, Hid (headsR fl ys lp = u) := ⟨_, Lib.hid rfl⟩
  rw [hu.out]
  have HP := Lib.hid hp
  have HL := Lib.hid hl
  have H1 := Lib.hid h1
  have HM := Lib.hid hm
  have HR := Lib.hid hr
  have HY := Lib.hid hy
  have hgw := block_lt hg
  have HBw : Hid (B ≤ w.heap.size) := Lib.hid (by omega)
  have hmk := make_files lp (by omega)
  have fill0 := Lib.hid (FillK.zero w lp fl ys)
  have bel0 : Below B w (w.alloc (.cells (Array.replicate lp (Value.slice none 0 0)) 23)) := (Below.refl _ _).alloc HBw.out _
  have hg0 := Lib.hid ((heap_alloc_old w (.cells (Array.replicate lp (Value.slice none 0 0)) 23) hgw).trans hg)
  clear hp hl h1 hm hr hy hg
  go_enter Tryz.func96, Tryz.ntmps96
  go_wp2
  clear hmk
  obtain ⟨g2, hg2⟩ : ∃ g2, w.heap.size = g2 := ⟨_, rfl⟩
  rw [hg2] at fill0 hgw
  rw [hg2]
  generalize w.alloc (.cells (Array.replicate lp (Value.slice none 0 0)) 23) = w1 at *
  go_loopw [7, 8, 9, 15] (fun _ _ _ i wr => ∃ (k : Nat) (A' : Option Addr), k ≤ lp ∧ i = .int .i64 k ∧ Hid (wr.heap[g]? = some (.cells #[.slice A' (m - posF fl k) (cap - posF fl k)] 34 (0, 0))) ∧ Hid (posF fl k < cap → A' = some ⟨b, o + posF fl k, none⟩) ∧ Hid (FillK wr g2 lp k fl ys) ∧ Hid (headsR fl ys k = true) ∧ Below B w wr) (fun _ _ _ i _ => lp - (intOf i).toNat)
  case atStart => exact ⟨0, _, by omega, rfl, hg0, Lib.hid (fun _ => rfl), fill0, Lib.hid rfl, bel0⟩
  case round =>
    clear bel0 hg0 fill0
    obtain ⟨k, A', hk, rfl, hgk, hA', fill, heads, bel⟩ := hrel
    by_cases hlt : k < lp
    · have hpl := posF_lt fl hlt
      have hmm := HM.out
      have hnn := H1.out k hlt
      have e0 : nth fl (3 * k + 2) = ((lenF fl k : Nat) : Int) := by rw [lenF]; omega
      have hl1 : 1 ≤ lenF fl k := by rw [lenF]; omega
      have HFL : Hid ((fileAt fl ys k).length = lenF fl k) := Lib.hid (fileAt_length _ _ _ (by rw [HY.out]; omega))
      have HFA : Hid (fileAt fl ys k = wwords ((ys.drop (posF fl k + 2)).take (2 * lenF fl k))) := Lib.hid rfl
      have HHA : Hid (headAt fl ys k = true ↔ nth ys (posF fl k) = ((1 + 2 * lenF fl k : Nat) : Int) ∧ nth ys (posF fl k + 1) = 6) := Lib.hid headAt_iff
      have HPS : Hid (posF fl (k + 1) = posF fl k + (2 + 2 * lenF fl k)) := Lib.hid rfl
      obtain ⟨b3, o3, hAp, hb3, hc1, hc2, hc3⟩ := (HP.out.below bel).three (k := k) (by have := HL.out; omega)
      subst hAp
      rw [e0] at hc3
      obtain rfl := hA'.out (by omega)
      clear e0 hnn hA'
      generalize lenF fl k = l at *
      generalize posF fl k = p at *
      generalize nth fl (3 * k) = y0 at *
      generalize nth fl (3 * k + 1) = y1 at *
      have hpm : p + (2 + 2 * l) ≤ m := by omega
      obtain ⟨b', o', hA, hbB, hd0⟩ := HR.out.at_ (i := p) (by have := HY.out; omega)
      injection hA with hA
      injection hA with hA1 hA2
      subst hA1 hA2
      obtain ⟨b', o', hA, _, hd1⟩ := HR.out.at_ (i := p + 1) (by have := HY.out; omega)
      injection hA with hA
      injection hA with hA1 hA2
      subst hA1 hA2
      rw [← Nat.add_assoc] at hd1
      have e1 : IntKind.i64.wrap (2 * (l : Int)) = 2 * (l : Int) := IntWalk.i64_in _ (by omega)
      have bA := bel_alloc wr (.cells #[.int .i64 y0, .int .i64 y1, .int .i64 l] 47)
      have fill1 := Lib.hid (fill.out.below bA)
      have hgk1 := Lib.hid ((bA.block g (by have := bel.size; omega)).trans hgk.out)
      have hpb := Lib.hid (heap_alloc_new wr (.cells #[.int .i64 y0, .int .i64 y1, .int .i64 l] 47))
      have bel1 : Below B w (wr.alloc (.cells #[.int .i64 y0, .int .i64 y1, .int .i64 l] 47)) := bel.alloc (by have := bel.size; have := HBw.out; omega) _
      have hfl := fill.out.lt
      clear hgk fill bA hpl hmm
      go_wp2_with fail
      generalize wr.alloc (.cells #[.int .i64 y0, .int .i64 y1, .int .i64 l] 47) = wa at *
      obtain ⟨gp, hgp⟩ : ∃ gp, wr.heap.size = gp := ⟨_, rfl⟩
      rw [hgp] at hpb hfl
      rw [hgp]
      clear hgp hc1 hc2 hc3
      refine (take_any b (o + p) (m - p) (cap - p) 2 g _ hgk1.out (by omega) (by omega) (by omega)).mono ?_
      rintro e w2' ⟨rfl, A2, hA2, rfl⟩
      obtain rfl := hA2 (by omega)
      have bel2 := below_setCell bel1 hB 0 (.slice (some ⟨b, o + p + 2, none⟩) (m - p - 2) (cap - p - 2))
      have fill2 := Lib.hid (fill1.out.far hgw 0 (.slice (some ⟨b, o + p + 2, none⟩) (m - p - 2) (cap - p - 2)))
      have hgk2 : Hid ((wa.setCell ⟨g, 0, none⟩ (.slice (some ⟨b, o + p + 2, none⟩) (m - p - 2) (cap - p - 2))).heap[g]? = some (.cells #[.slice (some ⟨b, o + p + 2, none⟩) (m - p - 2) (cap - p - 2)] 34 (0, 0))) := Lib.hid (box_set hgk1.out 0 _)
      have hpb2 : (wa.setCell ⟨g, 0, none⟩ (.slice (some ⟨b, o + p + 2, none⟩) (m - p - 2) (cap - p - 2))).heap[gp]? = some (.cells #[.int .i64 y0, .int .i64 y1, .int .i64 l] 47 (0, 0)) := (Below.heap_setCell wa ⟨g, 0, none⟩ _ gp (by simp; omega)).trans hpb.out
      clear hA2 bel1 fill1 hgk1 hpb
      generalize wa.setCell ⟨g, 0, none⟩ (.slice (some ⟨b, o + p + 2, none⟩) (m - p - 2) (cap - p - 2)) = w2 at *
      have hp2 := cell_of_row w2 gp 2 _ _ _ hpb2
      have hp2' : w2.cell? ⟨gp, 2, none⟩ = some (.int .i64 l) := hp2
      have HPB := Lib.hid hpb2
      have hd0' := (bel2.cell (p := ⟨b, o + p, none⟩) hbB).trans hd0
      have hd1' := (bel2.cell (p := ⟨b, o + p + 1, none⟩) hbB).trans hd1
      clear hp2 hpb2 hd0 hd1
      obtain ⟨x0, hx0⟩ : ∃ x, nth ys p = x := ⟨_, rfl⟩
      obtain ⟨x1, hx1⟩ : ∃ x, nth ys (p + 1) = x := ⟨_, rfl⟩
      rw [hx0] at HHA hd0'
      rw [hx1] at HHA hd1'
      clear hx0 hx1
      obtain ⟨s, hs⟩ : ∃ s : Int, ((1 + 2 * l : Nat) : Int) = s := ⟨_, rfl⟩
      have HSAY : Hid (∀ W, Calls Tryz.prog 100 #[.int .i64 l] W fun e w' => e = .returned (.int .u8 s) ∧ w' = W) := Lib.hid (fun W => by rw [← hs]; exact partSays_any l W (by omega))
      rw [hs] at HHA
      clear hs
      by_cases f0 : x0 = s
      · have u0 : (x0 != s) = false := by simp [f0]
        have u0' : (x0 == s) = true := by simp [f0]
        by_cases f1 : x1 = 6
        · have u1 : (x1 != 6) = false := by simp [f1]
          have u1' : (x1 == 6) = true := by simp [f1]
          have HEADS : Hid (headsR fl ys (k + 1) = true) := Lib.hid (by rw [headsR, heads.out, HHA.out.2 ⟨f0, f1⟩]; rfl)
          clear f0 f1 HHA
          go_wp2_with fail
          go_quiet ((go_at_call 100; refine Calls.quiet_of_same (HSAY.out _)))
          have bel3 := below_drewN bel2 nq
          have fill3 : Hid (FillK (w2.drewN nq) g2 lp k fl ys) := fill2
          have hgk3 : Hid ((w2.drewN nq).heap[g]? = some (.cells #[.slice (some ⟨b, o + p + 2, none⟩) (m - p - 2) (cap - p - 2)] 34 (0, 0))) := hgk2
          have hp3 : (w2.drewN nq).cell? ⟨gp, 2, none⟩ = some (.int .i64 l) := hp2'
          clear bel2 fill2 hgk2 hp2' hd0' hd1' HPB
          generalize w2.drewN nq = w3 at *
          go_wp2_with fail
          refine (take_at b (o + p + 2) (m - p - 2) (cap - p - 2) (2 * l) g _ (by omega) _ hgk3.out (by omega) (by omega) (by omega)).mono ?_
          rintro e w4' ⟨rfl, A4, hA4, rfl⟩
          have bel4 := below_setCell bel3 hB 0 (.slice A4 (m - p - 2 - 2 * l) (cap - p - 2 - 2 * l))
          have fill4 := Lib.hid (fill3.out.far hgw 0 (.slice A4 (m - p - 2 - 2 * l) (cap - p - 2 - 2 * l)))
          have hgk4 : Hid ((w3.setCell ⟨g, 0, none⟩ (.slice A4 (m - p - 2 - 2 * l) (cap - p - 2 - 2 * l))).heap[g]? = some (.cells #[.slice A4 (m - p - 2 - 2 * l) (cap - p - 2 - 2 * l)] 34 (0, 0))) := Lib.hid (box_set hgk3.out 0 _)
          have HA4 : Hid (posF fl (k + 1) < cap → A4 = some ⟨b, o + posF fl (k + 1), none⟩) := Lib.hid (fun h => by
            rw [HPS.out] at h ⊢
            rw [hA4 (by omega)]
            congr 2; omega)
          clear hA4 bel3 fill3 hgk3 hp3
          generalize w3.setCell ⟨g, 0, none⟩ (.slice A4 (m - p - 2 - 2 * l) (cap - p - 2 - 2 * l)) = w4 at *
          have HRX := Lib.hid ((((HR.out.below bel4).drop (p + 2)).front (2 * l)).more (show B ≤ w4.heap.size by have := bel4.size; have := HBw.out; omega))
          rw [← Nat.add_assoc] at HRX
          have HRL : Hid (((ys.drop (p + 2)).take (2 * l)).length = 2 * l) := Lib.hid (by rw [List.length_take, List.length_drop, HY.out]; omega)
          go_wp2_with fail
          refine (Words_ok _ (2 * l) (cap - p - 2) l ((ys.drop (p + 2)).take (2 * l)) _ HRX.out HRL.out (by omega) (by omega) rfl).mono ?_
          rintro e w5' ⟨rfl, rfl⟩
          rw [← HFA.out]
          have bA := bel_alloc w4 (.cells (blk .u16 (fileAt fl ys k)) 32)
          have fill5 := Lib.hid (fill4.out.below bA)
          have hn5 : Hid (W.Bk (w4.alloc (.cells (blk .u16 (fileAt fl ys k)) 32)) w4.heap.size (fileAt fl ys k)) := Lib.hid (heap_alloc_new w4 (.cells (blk .u16 (fileAt fl ys k)) 32))
          have hgk5 := Lib.hid ((bA.block g (block_lt hgk4.out)).trans hgk4.out)
          have bel5 : Below B w (w4.alloc (.cells (blk .u16 (fileAt fl ys k)) 32)) := bel4.alloc (by have := bel4.size; have := HBw.out; omega) _
          have hlt4 := fill4.out.lt
          clear fill4 hgk4 bel4 bA HRX HRL
          generalize w4.heap.size = g5 at *
          generalize w4.alloc (.cells (blk .u16 (fileAt fl ys k)) 32) = w5 at *
          obtain ⟨hcell, hfz⟩ := fill5.out.cell hlt
          have hkl : (k : Int) < (lp : Int) := by omega
          have fill6 := Lib.hid (fill5.out.step hlt hlt4 HFL.out hn5.out)
          have bel6 := below_setCell bel5 (show B ≤ g2 by omega) k (.slice (some ⟨g5, 0, none⟩) l l)
          have hgk6 : Hid ((w5.setCell ⟨g2, k, none⟩ (.slice (some ⟨g5, 0, none⟩) l l)).heap[g]? = some (.cells #[.slice A4 (m - posF fl (k + 1)) (cap - posF fl (k + 1))] 34 (0, 0))) := Lib.hid (by
            refine ((Below.heap_setCell w5 ⟨g2, k, none⟩ _ g (by simp; omega)).trans hgk5.out).trans ?_
            rw [HPS.out, show m - p - 2 - 2 * l = m - (p + (2 + 2 * l)) by omega, show cap - p - 2 - 2 * l = cap - (p + (2 + 2 * l)) by omega])
          clear fill5 hgk5 bel5
          go_wp2
          go_roundw
          case rel => exact ⟨k + 1, A4, by omega, by go_num, hgk6, HA4, fill6, HEADS, bel6⟩
          case measure => simp [intOf]; omega
        · have u1 : (x1 != 6) = true := by simpa using f1
          have u1' : (x1 == 6) = false := beq_false_of_ne f1
          have HU : Hid (u = false) := Lib.hid (by
            rw [← hu.out]
            refine headsR_no hlt ?_
            cases hh : headAt fl ys k with
            | false => rfl
            | true => exact absurd (HHA.out.1 hh).2 f1)
          clear f0 f1 HHA
          go_wp2_with fail
          go_quiet ((go_at_call 100; refine Calls.quiet_of_same (HSAY.out _)))
          have bel3 := below_drewN bel2 nq
          go_wp2
          go_ret2
          refine ⟨none, 0, 0, by rw [HU.out]; rfl, ?_, bel3⟩
          rw [HU.out]
          exact FileK.nil _ _
      · have u0 : (x0 != s) = true := by simpa using f0
        have u0' : (x0 == s) = false := beq_false_of_ne f0
        have HU : Hid (u = false) := Lib.hid (by
          rw [← hu.out]
          refine headsR_no hlt ?_
          cases hh : headAt fl ys k with
          | false => rfl
          | true => exact absurd (HHA.out.1 hh).1 f0)
        clear f0 HHA
        go_wp2_with fail
        go_quiet ((go_at_call 100; refine Calls.quiet_of_same (HSAY.out _)))
        have bel3 := below_drewN bel2 nq
        go_wp2
        go_ret2
        refine ⟨none, 0, 0, by rw [HU.out]; rfl, ?_, bel3⟩
        rw [HU.out]
        exact FileK.nil _ _
    · obtain rfl : k = lp := by omega
      have HU : Hid (u = true) := Lib.hid (by rw [← hu.out]; exact heads.out)
      have hfull := Lib.hid (fill.out.full (base := g2) (Nat.le_refl _))
      go_wp2
      go_ret2
      refine ⟨_, _, _, by rw [HU.out]; rfl, ?_, bel⟩
      rw [HU.out, hg2]
      exact hfull.out
end Go.Proofs.YtobhllcnljggiaaGreat
namespace Go.Proofs.YtobhllcnljggiaaGreat
open Go.RowKit
set_option linter.unusedVariables false

theorem TB.below3 {w0 w w' : World} {B : Nat} {o1 o2 : Obj} (h : TB w0 B o1 o2 w) (hb : Below (B + 2) w w') : TB w0 B o1 o2 w' := h.below2 hb (by omega)
set_option maxHeartbeats 2000000 in
set_option maxRecDepth 100000 in
theorem rpRead_file (a n : Int) (fl : List Int) (Ao As Ap : Option Addr) (lo co ls cs lp cp : Nat) (b o m cap : Nat) (ys : List Int) (w : World) (hr : Row .u8 w w.heap.size (some ⟨b, o, none⟩) ys) (hy : ys.length = m) (hcap : m ≤ cap) (hcb : cap ≤ 9223372036854775807) (hp : Row .i64 w w.heap.size Ap fl) (hl : fl.length = 3 * lp) (h2 : ∀ i, i < lp → 1 ≤ nth fl (3 * i + 2)) (hm : posF fl lp = m) (hm2 : m ≤ 247) (hlp : lp ≤ 35) (hlp1 : 1 ≤ lp) (h1 : nth ys 1 = ((m - 2 : Nat) : Int)) :
    Calls Tryz.prog 71 #[.agg #[.int .i64 20, .int .i64 a, .int .i64 n, .slice Ao lo co, .slice As ls cs, .slice Ap lp cp], .slice (some ⟨b, o, none⟩) m cap] w (RdK w ⟨0, [], [], whenF (headsR fl ys lp) (filesR fl ys lp)⟩ (.bool (headsR fl ys lp))) := by
  have HR := Lib.hid hr
  have HY := Lib.hid hy
  have HMF := Lib.hid hm
  have HM : Hid (2 < m) := Lib.hid (by have := posF_lt fl (show 0 < lp by omega); have h0 : posF fl 0 = 2 := rfl; omega)
  have HP := Lib.hid hp
  have HL := Lib.hid hl
  have H2 := Lib.hid h2
  have HW : Hid (wrB 20 = false) := Lib.hid (by decide)
  have hmm := HM.out
  obtain ⟨b', o', hA, hbB, hcell⟩ := hr.at_ (i := 1) (by omega)
  injection hA with hA
  injection hA with hA1 hA2
  subst hA1 hA2
  rw [h1] at hcell
  have t0 := TB.new2 w #[.int .i64 20, .int .i64 a, .int .i64 n, .slice Ao lo co, .slice As ls cs, .slice Ap lp cp] #[.int .i64 0, .slice none 0 0, .slice none 0 0, .slice none 0 0] 26 29
  obtain ⟨d, hd⟩ : ∃ d, m - 2 = d := ⟨_, rfl⟩
  rw [hd] at hcell
  have e0 : IntKind.i64.wrap (d : Int) = (d : Int) := IntWalk.i64_in _ (by omega)
  have em1 : IntKind.i64.wrap ((m : Int) - 2) = (d : Int) := by rw [IntWalk.i64_in _ (by omega)]; omega
  have tn : ((d : Int) != (d : Int)) = false := by simp
  have HC1 := Lib.hid hcell
  obtain ⟨u, hu⟩ : ∃ u, Hid (headsR fl ys lp = u) := ⟨_, Lib.hid rfl⟩
  obtain ⟨F, hF⟩ : ∃ F, Hid (whenF u (filesR fl ys lp) = F) := ⟨_, Lib.hid rfl⟩
  rw [hu.out, hF.out]
  clear hr hy hm h1 hcell hp hl h2 hmm
  go_enter Tryz.func71, Tryz.ntmps71
  go_wp2_with fail
  refine (Writes_any _ a n Ao As Ap lo co ls cs lp cp _).mono ?_
  rintro e w1 ⟨rfl, b1⟩
  rw [HW.out]
  have t1 := t0.below b1
  clear t0 b1
  go_wp2_with fail
  refine (taker_any (some ⟨b, o, none⟩) m cap _).mono ?_
  rintro e w2' ⟨rfl, rfl⟩
  have t2 := t1.alloc (.cells #[.slice (some ⟨b, o, none⟩) m cap] 34)
  have hg2 := Lib.hid (heap_alloc_new w1 (.cells #[.slice (some ⟨b, o, none⟩) m cap] 34))
  have hz := t1.lt
  generalize w1.heap.size = g at *
  clear t1
  generalize w1.alloc (.cells #[.slice (some ⟨b, o, none⟩) m cap] 34) = w2 at *
  go_wp2_with fail
  refine (take_any b o m cap 2 g _ hg2.out hcap (by have := HM.out; omega) hcb).mono ?_
  rintro e w3' ⟨rfl, A', hA', rfl⟩
  obtain rfl := hA' (by have := HM.out; omega)
  clear hA'
  have t3 := t2.far hz 0 (.slice (some ⟨b, o + 2, none⟩) (m - 2) (cap - 2))
  have hg3 : (w2.setCell ⟨g, 0, none⟩ (.slice (some ⟨b, o + 2, none⟩) (m - 2) (cap - 2))).heap[g]? = some (.cells #[.slice (some ⟨b, o + 2, none⟩) (m - 2) (cap - 2)] 34 (0, 0)) := box_set hg2.out 0 _
  have hc3 := (t3.bel.cell (p := ⟨b, o + 1, none⟩) hbB).trans HC1.out
  clear t2 hg2
  generalize w2.setCell ⟨g, 0, none⟩ (.slice (some ⟨b, o + 2, none⟩) (m - 2) (cap - 2)) = w3 at *
  have HG3 := Lib.hid hg3
  clear hg3
  obtain ⟨r0, r1, r2, r3, r4, r5, r6⟩ := t3.r6
  go_wp2_with fail
  clear r0 r1 r2 r3 r4 r5 r6
  refine (readFiles_any fl ys Ap lp cp b o m cap g (w.heap.size + 2) w3 ((HP.out.below t3.bel).more (by omega)) HL.out H2.out HMF.out hm2 ((HR.out.below t3.bel).more (by omega)) HY.out hcap hcb HG3.out (by omega) hlp hlp1).mono ?_
  rw [hu.out]
  rintro e w4 ⟨A4, n4, c4, rfl, fk, b4⟩
  rw [hF.out] at fk
  have t4 := t3.below3 b4
  have hz3 := t3.lt
  have FK := Lib.hid fk
  have P5 := Lib.hid (t4.put4 (.int .i64 0) (.slice none 0 0) (.slice none 0 0) (.slice A4 n4 c4))
  have P6 := Lib.hid (FK.out.keep (w' := put4 w4 (w.heap.size + 1) (.int .i64 0) (.slice none 0 0) (.slice none 0 0) (.slice A4 n4 c4)) (base' := w.heap.size) (by omega) (fun j o hj ho => (put4_other (by omega) (.int .i64 0) (.slice none 0 0) (.slice none 0 0) (.slice A4 n4 c4)).trans ho))
  obtain ⟨d0, d1, d2, d3, d4⟩ := t4.c4
  clear fk b4 t3 HG3 FK
  go_wp2
  (try simp only [Exit.inBlock, Exit.then])
  show bodyPost _ _ _ _ _ (put4 (w4) (w.heap.size + 1) (.int .i64 0) (.slice none 0 0) (.slice none 0 0) (.slice A4 n4 c4))
  generalize put4 (w4) (w.heap.size + 1) (.int .i64 0) (.slice none 0 0) (.slice none 0 0) (.slice A4 n4 c4) = w6 at *
  obtain ⟨x0, x1, x2, x3⟩ := cells4 P5.out.1
  refine bodyPost_ret (v := .tuple #[.agg #[.int .i64 0, .slice none 0 0, .slice none 0 0, .slice A4 n4 c4], .bool u]) (by simp [results, Tryz.results71, go_sem, x0, x1, x2, x3]) rfl ?_
  exact ⟨_, _, _, 0, 0, n4, 0, 0, c4, rfl, ⟨BitK.nil _ _, WordK.nil _ _, P6.out⟩, P5.out.2⟩

/-- An answer, if there is one. -/
def whenR (u : Bool) (r : Rep) : Rep := if u = true then r else Rep.zero
/-- read, of any bytes of the right size. -/
theorem rpRead_any (q : Req) (Ao As Ap : Option Addr) (lo ls lp co cs cp : Nat) (A : Option Addr) (m cap : Nat) (ys : List Int) (w : World) (h : Asked w w.heap.size q Ao As Ap lo ls lp) (hk : chkQ q = 0) (hr : Row .u8 w w.heap.size A ys) (hy : ys.length = m) (hm : m = sizeR q) (hcap : m ≤ cap) (hcb : cap ≤ 9223372036854775807) :
    Calls Tryz.prog 71 #[.agg #[.int .i64 q.c, .int .i64 q.a, .int .i64 q.n, .slice Ao lo co, .slice As ls cs, .slice Ap lp cp], .slice A m cap] w (RdK w (whenR (rdOkR q ys) (rdR q ys)) (.bool (rdOkR q ys))) := by
  have hcs := mm_pos (chk_code hk)
  have h3 : q.fl.length / 3 = lp := by have := h.lp; omega
  have count : wrB q.c = false → 2 ≤ m → m ≤ 1000000 → nth ys 1 ≠ ((m - 2 : Nat) : Int) → Calls Tryz.prog 71 #[.agg #[.int .i64 q.c, .int .i64 q.a, .int .i64 q.n, .slice Ao lo co, .slice As ls cs, .slice Ap lp cp], .slice A m cap] w (RdK w Rep.zero (.bool false)) := by
    intro g1 g2 g3 g4
    obtain ⟨b, o, rfl, _, _⟩ := hr.at_ (i := 0) (by omega)
    exact rpRead_count q.c q.a q.n Ao As Ap lo co ls cs lp cp b o m cap ys w g1 hr hy hcap hcb g2 g3 g4
  by_cases h1 : q.c = 1 ∨ q.c = 2
  · have hn := right_bits hk h1
    have hwr : wrB q.c = false := decide_eq_false (by omega)
    have hm2 : m = 2 + need q.n.toNat := by rw [hm, sizeR, if_pos h1]
    have hnd : 1 ≤ need q.n.toNat ∧ need q.n.toNat ≤ 255 := by unfold need; omega
    have eOk : rdOkR q ys = (decide (nth ys 1 = ((need q.n.toNat : Nat) : Int)) && !spareB (ys.drop 2) q.n.toNat) := by rw [rdOkR, if_pos h1]
    have eR : rdR q ys = ⟨0, unpk (ys.drop 2) q.n.toNat, [], []⟩ := by rw [rdR, if_pos h1]
    by_cases hc : nth ys 1 = ((need q.n.toNat : Nat) : Int)
    · obtain ⟨b, o, rfl, _, _⟩ := hr.at_ (i := 0) (by omega)
      have e : q.n = ((q.n.toNat : Nat) : Int) := by omega
      cases hs : spareB (ys.drop 2) q.n.toNat with
      | false =>
        rw [show rdOkR q ys = true by rw [eOk, decide_eq_true hc, hs]; rfl, eR]
        have hh := rpRead_bits_ok q.c q.a q.n.toNat (need q.n.toNat) Ao As Ap lo co ls cs lp cp b o m cap ys w h1 hr hy hcap hcb rfl hm2 hnd hc hs
        rw [← e] at hh
        exact hh
      | true =>
        rw [show rdOkR q ys = false by rw [eOk, hs]; simp]
        have hh := rpRead_bits_no q.c q.a q.n.toNat (need q.n.toNat) Ao As Ap lo co ls cs lp cp b o m cap ys w h1 hr hy hcap hcb rfl hm2 hnd hc hs
        rw [← e] at hh
        exact hh
    · rw [show rdOkR q ys = false by rw [eOk, decide_eq_false hc]; rfl]
      exact count hwr (by omega) (by omega) (by rw [show m - 2 = need q.n.toNat by omega]; exact hc)
  · by_cases h2 : q.c = 3 ∨ q.c = 4
    · have hn := right_words hk h2
      have hwr : wrB q.c = false := decide_eq_false (by omega)
      have hm2 : m = 2 + 2 * q.n.toNat := by rw [hm, sizeR, if_neg h1, if_pos h2]
      have eOk : rdOkR q ys = decide (nth ys 1 = ((2 * q.n.toNat : Nat) : Int)) := by rw [rdOkR, if_neg h1, if_pos h2]
      have eR : rdR q ys = ⟨0, [], wwords (ys.drop 2), []⟩ := by rw [rdR, if_neg h1, if_pos h2]
      by_cases hc : nth ys 1 = ((2 * q.n.toNat : Nat) : Int)
      · obtain ⟨b, o, rfl, _, _⟩ := hr.at_ (i := 0) (by omega)
        have e : q.n = ((q.n.toNat : Nat) : Int) := by omega
        rw [show rdOkR q ys = true by rw [eOk, decide_eq_true hc], eR]
        have hh := rpRead_words q.c q.a q.n.toNat Ao As Ap lo co ls cs lp cp b o m cap ys w h2 hr hy hm2 (by omega) hcap hcb (by rw [hc]; omega)
        rw [← e] at hh
        refine hh.mono ?_
        rintro e w' ⟨g, hg, he, hb, hbl⟩
        exact ⟨_, _, _, _, _, _, _, _, _, he, ⟨BitK.nil _ _, .inr ⟨g, rfl, rfl, hg, by show (wwords (ys.drop 2)).length = _; rw [wwords_length, List.length_drop]; omega, hb⟩, FileK.nil _ _⟩, hbl⟩
      · rw [show rdOkR q ys = false by rw [eOk, decide_eq_false hc]]
        exact count hwr (by omega) (by omega) (by rw [show m - 2 = 2 * q.n.toNat by omega]; exact hc)
    · by_cases h20 : q.c = 20
      · obtain ⟨f1, f2, f3⟩ := right_files hk h20
        rw [h3] at f1 f2 f3
        have hm2 : posF q.fl lp = m := by rw [hm, sizeR, if_neg h1, if_neg h2, if_pos h20, h3]
        have h02 := posF_two q.fl lp
        have eOk : rdOkR q ys = (decide (nth ys 1 = ((m - 2 : Nat) : Int)) && headsR q.fl ys lp) := by rw [rdOkR, if_neg h1, if_neg h2, if_pos h20, h3, hy]
        have eR : rdR q ys = ⟨0, [], [], filesR q.fl ys lp⟩ := by rw [rdR, if_neg h1, if_neg h2, if_pos h20, h3]
        by_cases hc : nth ys 1 = ((m - 2 : Nat) : Int)
        · obtain ⟨b, o, rfl, _, _⟩ := hr.at_ (i := 0) (by omega)
          have hh := rpRead_file q.a q.n q.fl Ao As Ap lo co ls cs lp cp b o m cap ys w hr hy hcap hcb h.fl h.lp f2 hm2 (by omega) (by omega) (by omega) hc
          rw [← h20] at hh
          rw [show rdOkR q ys = headsR q.fl ys lp by rw [eOk, decide_eq_true hc]; rfl, eR]
          have e2 : whenR (headsR q.fl ys lp) ⟨0, [], [], filesR q.fl ys lp⟩ = ⟨0, [], [], whenF (headsR q.fl ys lp) (filesR q.fl ys lp)⟩ := by
            cases headsR q.fl ys lp <;> rfl
          rw [e2]
          exact hh
        · rw [show rdOkR q ys = false by rw [eOk, decide_eq_false hc]; rfl]
          exact count (decide_eq_false (by omega)) (by omega) (by omega) hc
      · have hwr : wrB q.c = true := decide_eq_true (by rcases hcs with h | h | h | h | h | h | h | h | h <;> omega)
        have eOk : rdOkR q ys = decide (ys = (putL q).take 5) := by rw [rdOkR, if_neg h1, if_neg h2, if_neg h20]
        have eR : rdR q ys = Rep.zero := by rw [rdR, if_neg h1, if_neg h2, if_neg h20]
        have e2 : whenR (rdOkR q ys) (rdR q ys) = Rep.zero := by rw [eR]; cases rdOkR q ys <;> rfl
        rw [e2, eOk]
        exact rpRead_echo q Ao As Ap lo co ls cs lp cp 0 0 m cap ys w h hk hwr h20 A hr hy
end Go.Proofs.YtobhllcnljggiaaGreat
namespace Go.Proofs.YtobhllcnljggiaaGreat
open Go.RowKit
set_option linter.unusedVariables false

/-- What is wrong with bytes that have the request's code; that have an exception's; and what they say. -/
def ansE (q : Req) (ys : List Int) : Int := if ys.length < sizeR q then 1 else if sizeR q < ys.length then 2 else if rdOkR q ys = true then 0 else 4
def ansR (q : Req) (ys : List Int) : Rep := if ansE q ys = 0 then rdR q ys else Rep.zero
def excE (ys : List Int) : Int := if ys.length < 2 then 1 else if 2 < ys.length then 2 else if 1 ≤ nth ys 1 ∧ nth ys 1 ≤ 127 then 0 else 3
def excR (ys : List Int) : Rep := if excE ys = 0 then ⟨nth ys 1, [], [], []⟩ else Rep.zero

set_option maxHeartbeats 2000000 in
set_option maxRecDepth 100000 in
theorem getExcK_any (A : Option Addr) (m c : Nat) (ys : List Int) (w : World) (B : Nat) (hr : Row .u8 w B A ys) (hy : ys.length = m) :
    Calls Tryz.prog 32 #[.slice A m c] w (RdK w (excR ys) (.int .i64 (excE ys))) := by
  obtain ⟨K, hK⟩ : ∃ K : Int, Hid ((if (m : Int) < 2 then 1 else if 2 < (m : Int) then 2 else 0) = K) := ⟨_, Lib.hid rfl⟩
  have HS : Hid (∀ W, Calls Tryz.prog 68 #[.slice A m c, .int .i64 2] W fun e w' => e = .returned (.int .i64 K) ∧ w' = W) := Lib.hid (fun W => (checkSize_any A m c 2 W).mono fun e w' h => ⟨h.1.trans (by rw [hK.out]), h.2⟩)
  have t0 := Bx.new w (.cells #[.int .i64 0, .slice none 0 0, .slice none 0 0, .slice none 0 0] 29)
  by_cases h2 : m = 2
  · have hK0 : K = 0 := by rw [← hK.out, if_neg (by omega), if_neg (by omega)]
    subst hK0
    obtain ⟨b, o, rfl, hb, hc⟩ := hr.at_ (i := 1) (by omega)
    have hwf := wf_u8 (hr.wf_at (i := 1) (by omega))
    have hbw : b < w.heap.size := World.block_lt_of_cell? w ⟨b, o + 1, none⟩ hc
    obtain ⟨x, hx⟩ : ∃ x, nth ys 1 = x := ⟨_, rfl⟩
    rw [hx] at hc hwf
    have e0 : IntKind.i64.wrap x = x := IntWalk.i64_in _ (by omega)
    obtain ⟨u, hu⟩ : ∃ u, Hid (decide (1 ≤ x ∧ x ≤ 127) = u) := ⟨_, Lib.hid rfl⟩
    have bel := bel_alloc w (.cells #[.int .i64 x, .slice none 0 0, .slice none 0 0, .slice none 0 0] 29)
    have bel0 := bel_alloc w (.cells #[.int .i64 0, .slice none 0 0, .slice none 0 0, .slice none 0 0] 29)
    cases u with
    | true =>
      have hE : excE ys = 0 := by rw [excE, if_neg (by omega), if_neg (by omega), hx, if_pos (of_decide_eq_true hu.out)]
      have hR : excR ys = ⟨x, [], [], []⟩ := by rw [excR, if_pos hE, hx]
      rw [hE, hR]
      subst h2
      clear hr hy hx hE hR t0
      go_enter Tryz.func32, Tryz.ntmps32
      go_wp2_with fail
      refine (HS.out _).mono ?_
      rintro e w1 ⟨rfl, rfl⟩
      go_wp2_with fail
      refine (isExc_any x _).mono ?_
      rintro e w1 ⟨rfl, rfl⟩
      rw [hu.out]
      go_wp2
      (try simp only [Exit.inBlock, Exit.then])
      refine bodyPost_ret (v := .tuple #[.agg #[.int .i64 x, .slice none 0 0, .slice none 0 0, .slice none 0 0], .int .i64 0]) (by simp [results, Tryz.results32, go_sem]) rfl ?_
      exact RdK.exc rfl bel
    | false =>
      have hE : excE ys = 3 := by rw [excE, if_neg (by omega), if_neg (by omega), hx, if_neg (of_decide_eq_false hu.out)]
      have hR : excR ys = ⟨0, [], [], []⟩ := by rw [excR, if_neg (by rw [hE]; simp)]; rfl
      rw [hE, hR]
      subst h2
      clear hr hy hx hE hR t0
      go_enter Tryz.func32, Tryz.ntmps32
      go_wp2_with fail
      refine (HS.out _).mono ?_
      rintro e w1 ⟨rfl, rfl⟩
      go_wp2_with fail
      refine (isExc_any x _).mono ?_
      rintro e w1 ⟨rfl, rfl⟩
      rw [hu.out]
      go_wp2
      (try simp only [Exit.inBlock, Exit.then])
      refine bodyPost_ret (v := .tuple #[.agg #[.int .i64 0, .slice none 0 0, .slice none 0 0, .slice none 0 0], .int .i64 3]) (by simp [results, Tryz.results32, go_sem]) rfl ?_
      exact RdK.exc rfl bel0
  · have hE : excE ys = K := by
      rw [← hK.out, excE, hy]
      by_cases h : m < 2
      · rw [if_pos h, if_pos (show (m : Int) < 2 by omega)]
      · rw [if_neg h, if_pos (show 2 < m by omega), if_neg (show ¬ (m : Int) < 2 by omega), if_pos (show 2 < (m : Int) by omega)]
    have hK1 : K ≠ 0 := by
      rw [← hK.out]
      by_cases h : m < 2
      · rw [if_pos (by omega)]; simp
      · rw [if_neg (by omega), if_pos (by omega)]; simp
    have hR : excR ys = ⟨0, [], [], []⟩ := by rw [excR, if_neg (by rw [hE]; exact hK1)]; rfl
    have bel0 := bel_alloc w (.cells #[.int .i64 0, .slice none 0 0, .slice none 0 0, .slice none 0 0] 29)
    have u1 : (K != 0) = true := by simpa using hK1
    have u2 : (K == 0) = false := beq_false_of_ne hK1
    rw [hE, hR]
    clear hr hy hE hR t0 h2 hK1
    go_enter Tryz.func32, Tryz.ntmps32
    go_wp2_with fail
    refine (HS.out _).mono ?_
    rintro e w1 ⟨rfl, rfl⟩
    go_wp2
    (try simp only [Exit.inBlock, Exit.then])
    refine bodyPost_ret (v := .tuple #[.agg #[.int .i64 0, .slice none 0 0, .slice none 0 0, .slice none 0 0], .int .i64 K]) (by simp [results, Tryz.results32, go_sem]) rfl ?_
    exact RdK.exc rfl bel0

set_option maxHeartbeats 2000000 in
set_option maxRecDepth 100000 in
theorem rpAnswer_any (q : Req) (Ao As Ap : Option Addr) (lo ls lp co cs cp : Nat) (A : Option Addr) (m cap : Nat) (ys : List Int) (w : World) (h : Asked w w.heap.size q Ao As Ap lo ls lp) (hk : chkQ q = 0) (hr : Row .u8 w w.heap.size A ys) (hy : ys.length = m) (hcap : m ≤ cap) (hcb : cap ≤ 9223372036854775807) :
    Calls Tryz.prog 33 #[.agg #[.int .i64 q.c, .int .i64 q.a, .int .i64 q.n, .slice Ao lo co, .slice As ls cs, .slice Ap lp cp], .slice A m cap] w (RdK w (ansR q ys) (.int .i64 (ansE q ys))) := by
  have HR := Lib.hid hr
  have t0 := TB.new2 w #[.int .i64 q.c, .int .i64 q.a, .int .i64 q.n, .slice Ao lo co, .slice As ls cs, .slice Ap lp cp] #[.int .i64 0, .slice none 0 0, .slice none 0 0, .slice none 0 0] 26 29
  have H := Lib.hid h
  have HK := Lib.hid hk
  have HY := Lib.hid hy
  obtain ⟨S, hS⟩ : ∃ S, Hid (sizeR q = S) := ⟨_, Lib.hid rfl⟩
  obtain ⟨K, hK⟩ : ∃ K : Int, Hid ((if (m : Int) < ((S : Nat) : Int) then 1 else if ((S : Nat) : Int) < (m : Int) then 2 else 0) = K) := ⟨_, Lib.hid rfl⟩
  have HS : Hid (∀ W, Calls Tryz.prog 68 #[.slice A m cap, .int .i64 ((S : Nat) : Int)] W fun e w' => e = .returned (.int .i64 K) ∧ w' = W) := Lib.hid (fun W => (checkSize_any A m cap ((S : Nat) : Int) W).mono fun e w' h => ⟨h.1.trans (by rw [hK.out]), h.2⟩)
  have HZ := Lib.hid (rpSize_any q Ao As Ap lo ls lp co cs cp _ ((h.below t0.bel).more t0.bel.size) hk)
  rw [hS.out] at HZ
  clear hr h hk hy
  by_cases hm : m = S
  · have hK0 : K = 0 := by rw [← hK.out, if_neg (by omega), if_neg (by omega)]
    have HMS : Hid (m = sizeR q) := Lib.hid (by rw [hS.out]; exact hm)
    obtain ⟨u, hu⟩ : ∃ u, Hid (rdOkR q ys = u) := ⟨_, Lib.hid rfl⟩
    obtain ⟨R, hR⟩ : ∃ R, Hid (whenR u (rdR q ys) = R) := ⟨_, Lib.hid rfl⟩
    subst hK0
    clear hm
    cases u with
    | true =>
      have hE : ansE q ys = 0 := by have := HMS.out; have := HY.out; rw [ansE, if_neg (by omega), if_neg (by omega), if_pos hu.out]
      have hR2 : ansR q ys = R := by rw [ansR, if_pos hE, ← hR.out]; rfl
      rw [hE, hR2]
      clear hE hR2
      go_enter Tryz.func33, Tryz.ntmps33
      go_wp2_with fail
      refine HZ.out.mono ?_
      rintro e w1 ⟨rfl, b1⟩
      have t1 := t0.below b1
      clear t0 b1 HZ
      obtain ⟨d0, d1, d2, d3, d4⟩ := t1.c4
      obtain ⟨r0, r1, r2, r3, r4, r5, r6⟩ := t1.r6
      go_wp2_with fail
      refine (HS.out _).mono ?_
      rintro e w1' ⟨rfl, hw1⟩
      rw [hw1]
      clear hw1
      have HRD := Lib.hid (rpRead_any q Ao As Ap lo ls lp co cs cp A m cap ys w1 ((H.out.below t1.bel).more t1.bel.size) HK.out ((HR.out.below t1.bel).more t1.bel.size) HY.out HMS.out hcap hcb)
      rw [hu.out, hR.out] at HRD
      go_wp2_with fail
      clear d0 d1 d2 d3 d4 r0 r1 r2 r3 r4 r5 r6
      refine HRD.out.mono ?_
      rintro e w2 ⟨Bo, Bs, Bf, mo, ms, mf, eo, es, ef, rfl, rk, b2⟩
      have t2 := t1.below b2
      have hz1 := t1.lt
      have t3 := t2.alloc (.cells #[.int .i64 R.x, .slice Bo mo eo, .slice Bs ms es, .slice Bf mf ef] 29)
      have RK := Lib.hid ((rk.below (bel_alloc w2 (.cells #[.int .i64 R.x, .slice Bo mo eo, .slice Bs ms es, .slice Bf mf ef] 29))).put4 (g := w.heap.size + 1) (by omega) (.int .i64 R.x) (.slice Bo mo eo) (.slice Bs ms es) (.slice Bf mf ef))
      have hx3 := heap_alloc_new w2 (.cells #[.int .i64 R.x, .slice Bo mo eo, .slice Bs ms es, .slice Bf mf ef] 29)
      clear t1 b2 t2 rk HRD
      have P5 := Lib.hid (t3.put4 (.int .i64 R.x) (.slice Bo mo eo) (.slice Bs ms es) (.slice Bf mf ef))
      obtain ⟨y0, y1, y2, y3⟩ := cells4 hx3
      obtain ⟨d0, d1, d2, d3, d4⟩ := t3.c4
      clear hx3
      go_wp2
      (try simp only [Exit.inBlock, Exit.then])
      show bodyPost _ _ _ _ _ (put4 (w2.alloc (.cells #[.int .i64 R.x, .slice Bo mo eo, .slice Bs ms es, .slice Bf mf ef] 29)) (w.heap.size + 1) (.int .i64 R.x) (.slice Bo mo eo) (.slice Bs ms es) (.slice Bf mf ef))
      generalize put4 (w2.alloc (.cells #[.int .i64 R.x, .slice Bo mo eo, .slice Bs ms es, .slice Bf mf ef] 29)) (w.heap.size + 1) (.int .i64 R.x) (.slice Bo mo eo) (.slice Bs ms es) (.slice Bf mf ef) = w6 at *
      obtain ⟨x0, x1, x2, x3⟩ := cells4 P5.out.1
      refine bodyPost_ret (v := .tuple #[.agg #[.int .i64 R.x, .slice Bo mo eo, .slice Bs ms es, .slice Bf mf ef], .int .i64 0]) (by simp [results, Tryz.results33, go_sem, x0, x1, x2, x3]) rfl ?_
      exact ⟨Bo, Bs, Bf, mo, ms, mf, eo, es, ef, rfl, RK.out.mono (by omega), P5.out.2⟩
    | false =>
      have hE : ansE q ys = 4 := by have := HMS.out; have := HY.out; rw [ansE, if_neg (by omega), if_neg (by omega), if_neg (by rw [hu.out]; simp)]
      have hR2 : ansR q ys = ⟨0, [], [], []⟩ := by rw [ansR, if_neg (by rw [hE]; simp)]; rfl
      rw [hE, hR2]
      clear hE hR2
      go_enter Tryz.func33, Tryz.ntmps33
      go_wp2_with fail
      refine HZ.out.mono ?_
      rintro e w1 ⟨rfl, b1⟩
      have t1 := t0.below b1
      clear t0 b1 HZ
      obtain ⟨d0, d1, d2, d3, d4⟩ := t1.c4
      obtain ⟨r0, r1, r2, r3, r4, r5, r6⟩ := t1.r6
      go_wp2_with fail
      refine (HS.out _).mono ?_
      rintro e w1' ⟨rfl, hw1⟩
      rw [hw1]
      clear hw1
      have HRD := Lib.hid (rpRead_any q Ao As Ap lo ls lp co cs cp A m cap ys w1 ((H.out.below t1.bel).more t1.bel.size) HK.out ((HR.out.below t1.bel).more t1.bel.size) HY.out HMS.out hcap hcb)
      rw [hu.out, hR.out] at HRD
      go_wp2_with fail
      clear d0 d1 d2 d3 d4 r0 r1 r2 r3 r4 r5 r6
      refine HRD.out.mono ?_
      rintro e w2 ⟨Bo, Bs, Bf, mo, ms, mf, eo, es, ef, rfl, rk, b2⟩
      have t2 := t1.below b2
      have t3 := t2.alloc (.cells #[.int .i64 R.x, .slice Bo mo eo, .slice Bs ms es, .slice Bf mf ef] 29)
      clear t1 b2 t2 rk HRD
      have P5 := Lib.hid (t3.put4 (.int .i64 0) (.slice none 0 0) (.slice none 0 0) (.slice none 0 0))
      obtain ⟨d0, d1, d2, d3, d4⟩ := t3.c4
      go_wp2
      (try simp only [Exit.inBlock, Exit.then])
      show bodyPost _ _ _ _ _ (put4 (w2.alloc (.cells #[.int .i64 R.x, .slice Bo mo eo, .slice Bs ms es, .slice Bf mf ef] 29)) (w.heap.size + 1) (.int .i64 0) (.slice none 0 0) (.slice none 0 0) (.slice none 0 0))
      generalize put4 (w2.alloc (.cells #[.int .i64 R.x, .slice Bo mo eo, .slice Bs ms es, .slice Bf mf ef] 29)) (w.heap.size + 1) (.int .i64 0) (.slice none 0 0) (.slice none 0 0) (.slice none 0 0) = w6 at *
      obtain ⟨x0, x1, x2, x3⟩ := cells4 P5.out.1
      refine bodyPost_ret (v := .tuple #[.agg #[.int .i64 0, .slice none 0 0, .slice none 0 0, .slice none 0 0], .int .i64 4]) (by simp [results, Tryz.results33, go_sem, x0, x1, x2, x3]) rfl ?_
      exact RdK.exc rfl P5.out.2
  · have hE : ansE q ys = K := by
      have := HY.out
      rw [← hK.out, ansE, hS.out, this]
      by_cases h : m < S
      · rw [if_pos h, if_pos (show (m : Int) < (S : Int) by omega)]
      · rw [if_neg h, if_pos (show S < m by omega), if_neg (show ¬ (m : Int) < (S : Int) by omega), if_pos (show (S : Int) < (m : Int) by omega)]
    have hK1 : K ≠ 0 := by
      rw [← hK.out]
      by_cases h : m < S
      · rw [if_pos (by omega)]; simp
      · rw [if_neg (by omega), if_pos (by omega)]; simp
    have hR2 : ansR q ys = ⟨0, [], [], []⟩ := by rw [ansR, if_neg (by rw [hE]; exact hK1)]; rfl
    have u1 : (K != 0) = true := by simpa using hK1
    have u2 : (K == 0) = false := beq_false_of_ne hK1
    rw [hE, hR2]
    clear hE hR2 hm hK1
    go_enter Tryz.func33, Tryz.ntmps33
    go_wp2_with fail
    refine HZ.out.mono ?_
    rintro e w1 ⟨rfl, b1⟩
    have t1 := t0.below b1
    clear t0 b1 HZ
    obtain ⟨d0, d1, d2, d3, d4⟩ := t1.c4
    have P5 := Lib.hid (t1.put4 (.int .i64 0) (.slice none 0 0) (.slice none 0 0) (.slice none 0 0))
    go_wp2_with fail
    refine (HS.out _).mono ?_
    rintro e w1' ⟨rfl, hw1⟩
    rw [hw1]
    clear hw1
    go_wp2
    (try simp only [Exit.inBlock, Exit.then])
    show bodyPost _ _ _ _ _ (put4 (w1) (w.heap.size + 1) (.int .i64 0) (.slice none 0 0) (.slice none 0 0) (.slice none 0 0))
    generalize put4 (w1) (w.heap.size + 1) (.int .i64 0) (.slice none 0 0) (.slice none 0 0) (.slice none 0 0) = w6 at *
    obtain ⟨x0, x1, x2, x3⟩ := cells4 P5.out.1
    refine bodyPost_ret (v := .tuple #[.agg #[.int .i64 0, .slice none 0 0, .slice none 0 0, .slice none 0 0], .int .i64 K]) (by simp [results, Tryz.results33, go_sem, x0, x1, x2, x3]) rfl ?_
    exact RdK.exc rfl P5.out.2

set_option maxHeartbeats 1000000 in
set_option maxRecDepth 100000 in
theorem rpGetK_bad (q : Req) (Ao As Ap : Option Addr) (lo ls lp co cs cp : Nat) (A : Option Addr) (n c : Nat) (w : World) (h : Asked w w.heap.size q Ao As Ap lo ls lp) (hk : chkQ q ≠ 0) :
    Calls Tryz.prog 12 #[.agg #[.int .i64 q.c, .int .i64 q.a, .int .i64 q.n, .slice Ao lo co, .slice As ls cs, .slice Ap lp cp], .slice A n c] w (RdK w Rep.zero (.int .i64 (chkQ q))) := by
  have t0 := TB.new2 w #[.int .i64 q.c, .int .i64 q.a, .int .i64 q.n, .slice Ao lo co, .slice As ls cs, .slice Ap lp cp] #[.int .i64 0, .slice none 0 0, .slice none 0 0, .slice none 0 0] 26 29
  have hsz : w.heap.size ≤ ((w.alloc (.cells #[.int .i64 q.c, .int .i64 q.a, .int .i64 q.n, .slice Ao lo co, .slice As ls cs, .slice Ap lp cp] 26)).alloc (.cells #[.int .i64 0, .slice none 0 0, .slice none 0 0, .slice none 0 0] 29)).heap.size := t0.bel.size
  have HC := Lib.hid (Check_Q q Ao As Ap lo ls lp co cs cp _ ((h.below t0.bel).more hsz))
  obtain ⟨k, hk2⟩ : ∃ k, chkQ q = k := ⟨_, rfl⟩
  rw [hk2] at HC hk ⊢
  have u1 : (k != 0) = true := by simpa using hk
  have u2 : (k == 0) = false := beq_false_of_ne hk
  clear h hk hk2
  go_enter Tryz.func12, Tryz.ntmps12
  go_wp2_with fail
  refine HC.out.mono ?_
  rintro e w1 ⟨rfl, b1⟩
  have t1 := t0.below b1
  clear b1 t0 HC hsz
  obtain ⟨d0, d1, d2, d3, d4⟩ := t1.c4
  obtain ⟨r0, r1, r2, r3, r4, r5, r6⟩ := t1.r6
  have P5 := Lib.hid (t1.put4 (.int .i64 0) (.slice none 0 0) (.slice none 0 0) (.slice none 0 0))
  go_wp2
  (try simp only [Exit.inBlock, Exit.then])
  show bodyPost _ _ _ _ _ (put4 (w1) (w.heap.size + 1) (.int .i64 0) (.slice none 0 0) (.slice none 0 0) (.slice none 0 0))
  generalize put4 (w1) (w.heap.size + 1) (.int .i64 0) (.slice none 0 0) (.slice none 0 0) (.slice none 0 0) = w6 at *
  obtain ⟨x0, x1, x2, x3⟩ := cells4 P5.out.1
  refine bodyPost_ret (v := .tuple #[.agg #[.int .i64 0, .slice none 0 0, .slice none 0 0, .slice none 0 0], .int .i64 k]) (by simp [results, Tryz.results12, go_sem, x0, x1, x2, x3]) rfl ?_
  exact RdK.exc rfl P5.out.2

set_option maxHeartbeats 1000000 in
set_option maxRecDepth 100000 in
theorem rpGetK_none (q : Req) (Ao As Ap : Option Addr) (lo ls lp co cs cp : Nat) (A : Option Addr) (c : Nat) (w : World) (h : Asked w w.heap.size q Ao As Ap lo ls lp) (hk : chkQ q = 0) :
    Calls Tryz.prog 12 #[.agg #[.int .i64 q.c, .int .i64 q.a, .int .i64 q.n, .slice Ao lo co, .slice As ls cs, .slice Ap lp cp], .slice A 0 c] w (RdK w Rep.zero (.int .i64 1)) := by
  have t0 := TB.new2 w #[.int .i64 q.c, .int .i64 q.a, .int .i64 q.n, .slice Ao lo co, .slice As ls cs, .slice Ap lp cp] #[.int .i64 0, .slice none 0 0, .slice none 0 0, .slice none 0 0] 26 29
  have hsz : w.heap.size ≤ ((w.alloc (.cells #[.int .i64 q.c, .int .i64 q.a, .int .i64 q.n, .slice Ao lo co, .slice As ls cs, .slice Ap lp cp] 26)).alloc (.cells #[.int .i64 0, .slice none 0 0, .slice none 0 0, .slice none 0 0] 29)).heap.size := t0.bel.size
  have HC := Lib.hid (Check_Q q Ao As Ap lo ls lp co cs cp _ ((h.below t0.bel).more hsz))
  rw [hk] at HC
  clear h hk
  go_enter Tryz.func12, Tryz.ntmps12
  go_wp2_with fail
  refine HC.out.mono ?_
  rintro e w1 ⟨rfl, b1⟩
  have t1 := t0.below b1
  clear b1 t0 HC hsz
  obtain ⟨d0, d1, d2, d3, d4⟩ := t1.c4
  obtain ⟨r0, r1, r2, r3, r4, r5, r6⟩ := t1.r6
  have P5 := Lib.hid (t1.put4 (.int .i64 0) (.slice none 0 0) (.slice none 0 0) (.slice none 0 0))
  go_wp2
  (try simp only [Exit.inBlock, Exit.then])
  show bodyPost _ _ _ _ _ (put4 (w1) (w.heap.size + 1) (.int .i64 0) (.slice none 0 0) (.slice none 0 0) (.slice none 0 0))
  generalize put4 (w1) (w.heap.size + 1) (.int .i64 0) (.slice none 0 0) (.slice none 0 0) (.slice none 0 0) = w6 at *
  obtain ⟨x0, x1, x2, x3⟩ := cells4 P5.out.1
  refine bodyPost_ret (v := .tuple #[.agg #[.int .i64 0, .slice none 0 0, .slice none 0 0, .slice none 0 0], .int .i64 1]) (by simp [results, Tryz.results12, go_sem, x0, x1, x2, x3]) rfl ?_
  exact RdK.exc rfl P5.out.2

/-- What Get of bytes says, by their first one. -/
theorem getRE_exc {q : Req} {ys : List Int} (hk : chkQ q = 0) (h0 : ys.length ≠ 0) (h : nth ys 0 = q.c + 128) : getRE q ys = excE ys ∧ getR q ys = excR ys := by
  have e : getRE q ys = excE ys := by rw [getRE, if_neg (by rw [hk]; simp), if_neg h0, if_pos h]; rfl
  refine ⟨e, ?_⟩
  rw [getR, e, excR]
  by_cases hz : excE ys = 0
  · rw [if_neg (by rw [hz]; simp), if_pos h, if_pos hz]
  · rw [if_pos hz, if_neg hz]
theorem getRE_ans {q : Req} {ys : List Int} (hk : chkQ q = 0) (h0 : ys.length ≠ 0) (h : nth ys 0 = q.c) : getRE q ys = ansE q ys ∧ getR q ys = ansR q ys := by
  have e : getRE q ys = ansE q ys := by rw [getRE, if_neg (by rw [hk]; simp), if_neg h0, if_neg (by omega), if_pos h]; rfl
  refine ⟨e, ?_⟩
  rw [getR, e, ansR]
  by_cases hz : ansE q ys = 0
  · rw [if_neg (by rw [hz]; simp), if_neg (by omega), if_pos hz]
  · rw [if_pos hz, if_neg hz]
set_option maxHeartbeats 4000000 in
set_option maxRecDepth 100000 in
theorem rpGet_any (q : Req) (Ao As Ap : Option Addr) (lo ls lp co cs cp : Nat) (A : Option Addr) (m cap : Nat) (ys : List Int) (w : World) (h : Asked w w.heap.size q Ao As Ap lo ls lp) (hr : Row .u8 w w.heap.size A ys) (hy : ys.length = m) (hcap : m ≤ cap) (hcb : cap ≤ 9223372036854775807) :
    Calls Tryz.prog 12 #[.agg #[.int .i64 q.c, .int .i64 q.a, .int .i64 q.n, .slice Ao lo co, .slice As ls cs, .slice Ap lp cp], .slice A m cap] w (RdK w (getR q ys) (.int .i64 (getRE q ys))) := by
  by_cases hk : chkQ q = 0
  · by_cases hm0 : m = 0
    · subst hm0
      have e : getRE q ys = 1 := by rw [getRE, if_neg (by rw [hk]; simp), if_pos hy]
      rw [e, getR, if_pos (by rw [e]; simp)]
      exact rpGetK_none q Ao As Ap lo ls lp co cs cp A cap w h hk
    · have t0 := TB.new2 w #[.int .i64 q.c, .int .i64 q.a, .int .i64 q.n, .slice Ao lo co, .slice As ls cs, .slice Ap lp cp] #[.int .i64 0, .slice none 0 0, .slice none 0 0, .slice none 0 0] 26 29
      have HC := Lib.hid (Check_Q q Ao As Ap lo ls lp co cs cp _ ((h.below t0.bel).more t0.bel.size))
      rw [hk] at HC
      have hcr := mm_le _ (chk_code hk)
      have H := Lib.hid h
      have HK := Lib.hid hk
      have HR := Lib.hid hr
      have HY := Lib.hid hy
      have hmp : 0 < m := by omega
      have hmi : ((m : Int) == 0) = false := beq_false_of_ne (by omega)
      obtain ⟨b, o, rfl, hb, hc⟩ := hr.at_ (i := 0) (by omega)
      have hwf := wf_u8 (hr.wf_at (i := 0) (by omega))
      have hA1 := getRE_exc (ys := ys) hk (by omega)
      have hA2 := getRE_ans (ys := ys) hk (by omega)
      have hA3 : nth ys 0 ≠ q.c + 128 → nth ys 0 ≠ q.c → getRE q ys = 20 ∧ getR q ys = ⟨0, [], [], []⟩ := by
        intro g1 g2
        have e : getRE q ys = 20 := by rw [getRE, if_neg (by rw [hk]; simp), if_neg (by omega), if_neg g1, if_neg g2]
        exact ⟨e, by rw [getR, if_pos (by rw [e]; simp)]; rfl⟩
      obtain ⟨y, hy0⟩ : ∃ y, nth ys 0 = y := ⟨_, rfl⟩
      rw [hy0] at hc hwf hA1 hA2 hA3
      rw [Nat.add_zero] at hc
      have e0 : IntKind.i64.wrap y = y := IntWalk.i64_in _ (by omega)
      have e1 : IntKind.i64.wrap (q.c + 128) = q.c + 128 := IntWalk.i64_in _ (by omega)
      clear h hk hr hy hm0 hy0
      by_cases f1 : y = q.c + 128
      · obtain ⟨g1, g2⟩ := hA1 f1
        rw [g1, g2]
        have e2 : (y == q.c + 128) = true := by simp [f1]
        obtain ⟨E, hE⟩ : ∃ E, Hid (excE ys = E) := ⟨_, Lib.hid rfl⟩
        obtain ⟨R, hR⟩ : ∃ R, Hid (excR ys = R) := ⟨_, Lib.hid rfl⟩
        rw [hE.out, hR.out]
        clear f1 hA1 hA2 hA3 g1 g2
        go_enter Tryz.func12, Tryz.ntmps12
        go_wp2_with fail
        refine HC.out.mono ?_
        rintro e w1 ⟨rfl, b1⟩
        have t1 := t0.below b1
        clear b1 t0 HC
        obtain ⟨d0, d1, d2, d3, d4⟩ := t1.c4
        obtain ⟨r0, r1, r2, r3, r4, r5, r6⟩ := t1.r6
        have hc1 : w1.cell? ⟨b, o, none⟩ = some (.int .u8 y) := (t1.bel.cell (p := ⟨b, o, none⟩) hb).trans hc
        have HX := Lib.hid (getExcK_any _ m cap ys w1 _ (HR.out.tb t1) HY.out)
        rw [hE.out, hR.out] at HX
        go_wp2_with fail
        refine HX.out.mono ?_
        clear d0 d1 d2 d3 d4 r0 r1 r2 r3 r4 r5 r6 hc1
        rintro e w2 ⟨Bo, Bs, Bf, mo, ms, mf, eo, es, ef, rfl, rk, b2⟩
        have t2 := t1.below b2
        have hz1 := t1.lt
        have RK := Lib.hid (rk.put4 (g := w.heap.size + 1) (by omega) (.int .i64 R.x) (.slice Bo mo eo) (.slice Bs ms es) (.slice Bf mf ef))
        have P5 := Lib.hid (t2.put4 (.int .i64 R.x) (.slice Bo mo eo) (.slice Bs ms es) (.slice Bf mf ef))
        clear rk b2 HX
        obtain ⟨d0, d1, d2, d3, d4⟩ := t2.c4
        go_wp2
        (try simp only [Exit.inBlock, Exit.then])
        show bodyPost _ _ _ _ _ (put4 (w2) (w.heap.size + 1) (.int .i64 R.x) (.slice Bo mo eo) (.slice Bs ms es) (.slice Bf mf ef))
        generalize put4 (w2) (w.heap.size + 1) (.int .i64 R.x) (.slice Bo mo eo) (.slice Bs ms es) (.slice Bf mf ef) = w6 at *
        obtain ⟨x0, x1, x2, x3⟩ := cells4 P5.out.1
        refine bodyPost_ret (v := .tuple #[.agg #[.int .i64 R.x, .slice Bo mo eo, .slice Bs ms es, .slice Bf mf ef], .int .i64 E]) (by simp [results, Tryz.results12, go_sem, x0, x1, x2, x3]) rfl ?_
        exact ⟨Bo, Bs, Bf, mo, ms, mf, eo, es, ef, rfl, RK.out.mono (by omega), P5.out.2⟩
      · have e2 : (y == q.c + 128) = false := beq_false_of_ne f1
        by_cases f2 : y = q.c
        · obtain ⟨g1, g2⟩ := hA2 f2
          rw [g1, g2]
          have e3 : (y == q.c) = true := by simp [f2]
          obtain ⟨E, hE⟩ : ∃ E, Hid (ansE q ys = E) := ⟨_, Lib.hid rfl⟩
          obtain ⟨R, hR⟩ : ∃ R, Hid (ansR q ys = R) := ⟨_, Lib.hid rfl⟩
          rw [hE.out, hR.out]
          clear f1 f2 hA1 hA2 hA3 g1 g2
          go_enter Tryz.func12, Tryz.ntmps12
          go_wp2_with fail
          refine HC.out.mono ?_
          rintro e w1 ⟨rfl, b1⟩
          have t1 := t0.below b1
          clear b1 t0 HC
          obtain ⟨d0, d1, d2, d3, d4⟩ := t1.c4
          obtain ⟨r0, r1, r2, r3, r4, r5, r6⟩ := t1.r6
          have hc1 : w1.cell? ⟨b, o, none⟩ = some (.int .u8 y) := (t1.bel.cell (p := ⟨b, o, none⟩) hb).trans hc
          have HX := Lib.hid (rpAnswer_any q Ao As Ap lo ls lp co cs cp _ m cap ys w1 ((H.out.below t1.bel).more t1.bel.size) HK.out ((HR.out.below t1.bel).more t1.bel.size) HY.out hcap hcb)
          rw [hE.out, hR.out] at HX
          go_wp2_with fail
          refine HX.out.mono ?_
          clear d0 d1 d2 d3 d4 r0 r1 r2 r3 r4 r5 r6 hc1
          rintro e w2 ⟨Bo, Bs, Bf, mo, ms, mf, eo, es, ef, rfl, rk, b2⟩
          have t2 := t1.below b2
          have hz1 := t1.lt
          have RK := Lib.hid (rk.put4 (g := w.heap.size + 1) (by omega) (.int .i64 R.x) (.slice Bo mo eo) (.slice Bs ms es) (.slice Bf mf ef))
          have P5 := Lib.hid (t2.put4 (.int .i64 R.x) (.slice Bo mo eo) (.slice Bs ms es) (.slice Bf mf ef))
          clear rk b2 HX
          obtain ⟨d0, d1, d2, d3, d4⟩ := t2.c4
          go_wp2
          (try simp only [Exit.inBlock, Exit.then])
          show bodyPost _ _ _ _ _ (put4 (w2) (w.heap.size + 1) (.int .i64 R.x) (.slice Bo mo eo) (.slice Bs ms es) (.slice Bf mf ef))
          generalize put4 (w2) (w.heap.size + 1) (.int .i64 R.x) (.slice Bo mo eo) (.slice Bs ms es) (.slice Bf mf ef) = w6 at *
          obtain ⟨x0, x1, x2, x3⟩ := cells4 P5.out.1
          refine bodyPost_ret (v := .tuple #[.agg #[.int .i64 R.x, .slice Bo mo eo, .slice Bs ms es, .slice Bf mf ef], .int .i64 E]) (by simp [results, Tryz.results12, go_sem, x0, x1, x2, x3]) rfl ?_
          exact ⟨Bo, Bs, Bf, mo, ms, mf, eo, es, ef, rfl, RK.out.mono (by omega), P5.out.2⟩
        · obtain ⟨g1, g2⟩ := hA3 f1 f2
          rw [g1, g2]
          have e3 : (y == q.c) = false := beq_false_of_ne f2
          clear f1 f2 hA1 hA2 hA3 g1 g2
          go_enter Tryz.func12, Tryz.ntmps12
          go_wp2_with fail
          refine HC.out.mono ?_
          rintro e w1 ⟨rfl, b1⟩
          have t1 := t0.below b1
          clear b1 t0 HC
          obtain ⟨d0, d1, d2, d3, d4⟩ := t1.c4
          obtain ⟨r0, r1, r2, r3, r4, r5, r6⟩ := t1.r6
          have hc1 : w1.cell? ⟨b, o, none⟩ = some (.int .u8 y) := (t1.bel.cell (p := ⟨b, o, none⟩) hb).trans hc
          have P5 := Lib.hid (t1.put4 (.int .i64 0) (.slice none 0 0) (.slice none 0 0) (.slice none 0 0))
          go_wp2
          (try simp only [Exit.inBlock, Exit.then])
          show bodyPost _ _ _ _ _ (put4 (w1) (w.heap.size + 1) (.int .i64 0) (.slice none 0 0) (.slice none 0 0) (.slice none 0 0))
          generalize put4 (w1) (w.heap.size + 1) (.int .i64 0) (.slice none 0 0) (.slice none 0 0) (.slice none 0 0) = w6 at *
          obtain ⟨x0, x1, x2, x3⟩ := cells4 P5.out.1
          refine bodyPost_ret (v := .tuple #[.agg #[.int .i64 0, .slice none 0 0, .slice none 0 0, .slice none 0 0], .int .i64 20]) (by simp [results, Tryz.results12, go_sem, x0, x1, x2, x3]) rfl ?_
          exact RdK.exc rfl P5.out.2
  · have e : getRE q ys = chkQ q := by rw [getRE, if_pos hk]
    rw [e, getR, if_pos (by rw [e]; exact hk)]
    exact rpGetK_bad q Ao As Ap lo ls lp co cs cp A m cap w h hk
end Go.Proofs.YtobhllcnljggiaaGreat
namespace Go.Proofs.YtobhllcnljggiaaGreat
open Go.RowKit
set_option linter.unusedVariables false

def moreL : List Rep := [⟨0, [], [1, 512], []⟩, ⟨0, [], [], []⟩, ⟨2, [], [], []⟩, ⟨128, [], [], []⟩, ⟨-1, [], [], []⟩, ⟨2, [], [1, 512], []⟩, ⟨0, [true], [], []⟩, ⟨0, List.replicate 10 false, [], []⟩, ⟨0, List.replicate 8 false, [], []⟩, ⟨0, [], [1], []⟩, ⟨0, [true], [1, 512], []⟩, ⟨0, [], [], [[5]]⟩, ⟨0, [], [], [[5], [6, 7]]⟩, ⟨0, [], [], [[5], [6]]⟩, ⟨0, [], [], [[]]⟩, ⟨1, [], [], [[]]⟩]
def moreR (k : Nat) : Rep := moreL.getD k Rep.zero
/-- What a value is that has come up. -/
inductive Kd where
  | rep (r : Rep) | bits (l : List Bool) | words (l : List Int) | files (fs : List (List Int)) | is (v : Value) | all | no
/-- All sixteen answers in a block. -/
def AllAt (w : World) (g : Nat) : Prop := ∃ cs : Array Value, w.heap[g]? = some (.cells cs 29 (0, 0)) ∧ ∀ k, k < 16 → ∃ (Bo Bs Bf : Option Addr) (mo ms mf eo es ef : Nat), cs[4 * k]? = some (.int .i64 (moreR k).x) ∧ cs[4 * k + 1]? = some (.slice Bo mo eo) ∧ cs[4 * k + 2]? = some (.slice Bs ms es) ∧ cs[4 * k + 3]? = some (.slice Bf mf ef) ∧ Repd w w.heap.size (moreR k) Bo Bs Bf mo ms mf
def Kd.ok : Kd → Value → World → Prop
  | .rep r, v, w => ∃ (Bo Bs Bf : Option Addr) (mo ms mf eo es ef : Nat), v = .agg #[.int .i64 r.x, .slice Bo mo eo, .slice Bs ms es, .slice Bf mf ef] ∧ Repd w w.heap.size r Bo Bs Bf mo ms mf
  | .bits l, v, w => ∃ g, v = .slice (some ⟨g, 0, none⟩) l.length l.length ∧ L.Bk w g l
  | .words l, v, w => ∃ g, v = .slice (some ⟨g, 0, none⟩) l.length l.length ∧ W.Bk w g l
  | .files fs, v, w => ∃ g, v = .slice (some ⟨g, 0, none⟩) fs.length fs.length ∧ FRow w w.heap.size (some ⟨g, 0, none⟩) fs
  | .is u, v, _ => v = u
  | .all, v, w => ∃ g, v = .slice (some ⟨g, 0, none⟩) 16 16 ∧ AllAt w g
  | .no, _, _ => True
theorem AllAt.below {w w' : World} {g : Nat} (h : AllAt w g) (hb : Below w.heap.size w w') : AllAt w' g := by
  obtain ⟨cs, h1, h2⟩ := h
  refine ⟨cs, (hb.block g (block_lt h1)).trans h1, fun k hk => ?_⟩
  obtain ⟨Bo, Bs, Bf, mo, ms, mf, eo, es, ef, a, b, c, d, e⟩ := h2 k hk
  exact ⟨Bo, Bs, Bf, mo, ms, mf, eo, es, ef, a, b, c, d, e.up hb⟩
theorem Kd.ok.below {k : Kd} {v : Value} {w w' : World} (h : k.ok v w) (hb : Below w.heap.size w w') : k.ok v w' := by
  cases k with
  | rep r => obtain ⟨Bo, Bs, Bf, mo, ms, mf, eo, es, ef, a, b⟩ := h; exact ⟨Bo, Bs, Bf, mo, ms, mf, eo, es, ef, a, b.up hb⟩
  | bits l => obtain ⟨g, a, b⟩ := h; exact ⟨g, a, b.below hb⟩
  | words l => obtain ⟨g, a, b⟩ := h; exact ⟨g, a, b.below hb⟩
  | files fs => obtain ⟨g, a, b⟩ := h; exact ⟨g, a, (b.below hb).more hb.size⟩
  | is u => exact h
  | all => obtain ⟨g, a, b⟩ := h; exact ⟨g, a, b.below hb⟩
  | no => trivial
/-- What each operation of the region yields. -/
def tabK (gR gS : Nat) : List Kd := [.rep (moreR 0), .rep (moreR 1), .rep (moreR 2), .rep (moreR 3), .rep (moreR 4), .is (.pointer (some ⟨gR, 2, none⟩)), .is (.slice (some ⟨gS, 0, none⟩) 2 2), .rep (moreR 5), .bits [true], .rep (moreR 6), .bits (List.replicate 10 false), .rep (moreR 7), .bits (List.replicate 8 false), .rep (moreR 8), .is (.pointer (some ⟨gR, 2, none⟩)), .is (.slice (some ⟨gS, 0, none⟩) 2 2), .is (.slice (some ⟨gS, 0, none⟩) 1 2), .rep (moreR 9), .is (.pointer (some ⟨gR, 2, none⟩)), .is (.slice (some ⟨gS, 0, none⟩) 2 2), .bits [true], .rep (moreR 10), .words [5], .files [[5]], .rep (moreR 11), .words [5], .words [6, 7], .files [[5], [6, 7]], .rep (moreR 12), .words [5], .words [6], .files [[5], [6]], .rep (moreR 13), .files [[]], .rep (moreR 14), .files [[]], .rep (moreR 15), .all, .all]
def tabD : List (List Nat) := [[], [], [], [], [], [], [5], [6], [], [8], [], [10], [], [12], [], [14], [15], [16], [], [18], [], [19, 20], [], [22], [23], [], [], [25, 26], [27], [], [], [29, 30], [31], [], [33], [], [35], [0, 1, 2, 3, 4, 7, 9, 11, 13, 17, 21, 24, 28, 32, 34, 36], [37, 0, 1, 2, 3, 4, 5, 6, 7, 8, 9, 10, 11, 12, 13, 14, 15, 16, 17, 18, 19, 20, 21, 22, 23, 24, 25, 26, 27, 28, 29, 30, 31, 32, 33, 34, 35, 36, 37]]
/-- The slots: what was there, and what the operations have yielded. -/
def lit (c f : Nat → Value) : Array Value := ([c 0, c 1, c 2, f 38, c 4, c 5, c 6, c 7, c 8, c 9, c 10, c 11, c 12, c 13, c 14] ++ ((List.range 38).map f ++ List.replicate 148 undef)).toArray
def slotK (i : Nat) : Nat := if i = 38 then 3 else 15 + i
def updK (f : Nat → Value) (i : Nat) (v : Value) : Nat → Value := fun j => if j = i then v else f j
theorem lit_get (c f : Nat → Value) (k : Nat) (h : k < 38) : (lit c f).getD (15 + k) undef = f k := by
  have : (lit c f)[15 + k]? = some (f k) := by
    unfold lit
    rw [List.getElem?_toArray, List.getElem?_append_right (by simp), List.getElem?_append_left (by simp; omega)]
    simp [h]
  simp only [Array.getD_eq_getD_getElem?, this, Option.getD_some]
theorem lit_put (c f : Nat → Value) (i : Nat) (h : i < 39) (v : Value) : (lit c f).setIfInBounds (slotK i) v = lit c (updK f i v) := by
  apply Array.toList_inj.1
  rw [Array.toList_setIfInBounds]
  unfold lit slotK
  by_cases e : i = 38
  · subst e
    rw [if_pos rfl]
    have : (List.range 38).map (updK f 38 v) = (List.range 38).map f := List.map_congr_left fun j hj => by
      have := List.mem_range.1 hj
      unfold updK; rw [if_neg (by omega)]
    show ([c 0, c 1, c 2, f 38, c 4, c 5, c 6, c 7, c 8, c 9, c 10, c 11, c 12, c 13, c 14] ++ ((List.range 38).map f ++ List.replicate 148 undef)).set 3 v = [c 0, c 1, c 2, updK f 38 v 38, c 4, c 5, c 6, c 7, c 8, c 9, c 10, c 11, c 12, c 13, c 14] ++ ((List.range 38).map (updK f 38 v) ++ List.replicate 148 undef)
    rw [this, List.set_append_left _ _ (by simp)]
    rfl
  · rw [if_neg e]
    have h38 : updK f i v 38 = f 38 := by unfold updK; rw [if_neg (fun h => e h.symm)]
    have hm : ((List.range 38).map f).set i v = (List.range 38).map (updK f i v) := by
      refine List.ext_getElem (by simp) fun j h1 h2 => ?_
      rw [List.getElem_set]
      simp only [List.getElem_map, List.getElem_range, updK]
      by_cases hj : i = j
      · rw [if_pos hj, if_pos hj.symm]
      · rw [if_neg hj, if_neg (fun h => hj h.symm)]
    show ([c 0, c 1, c 2, f 38, c 4, c 5, c 6, c 7, c 8, c 9, c 10, c 11, c 12, c 13, c 14] ++ ((List.range 38).map f ++ List.replicate 148 undef)).set (15 + i) v = [c 0, c 1, c 2, updK f i v 38, c 4, c 5, c 6, c 7, c 8, c 9, c 10, c 11, c 12, c 13, c 14] ++ ((List.range 38).map (updK f i v) ++ List.replicate 148 undef)
    rw [List.set_append_right _ _ (by simp), h38, ← hm]
    show _ ++ (((List.range 38).map f ++ List.replicate 148 undef)).set (15 + i - 15) v = _
    rw [show 15 + i - 15 = i by omega, List.set_append_left _ _ (by simp; omega)]
/-- The boxes of the request and of the first answer, and its words. -/
structure Bs0 (w0 : World) (gA gR gS : Nat) (w : World) : Prop where
  bel : Below w0.heap.size w0 w
  a : w.heap[gA]? = some (.cells #[.int .i64 3, .int .i64 0, .int .i64 2, .slice none 0 0, .slice none 0 0, .slice none 0 0] 26 (0, 0))
  r : w.heap[gR]? = some (.cells #[.int .i64 0, .slice none 0 0, .slice (some ⟨gS, 0, none⟩) 2 2, .slice none 0 0] 29 (0, 0))
  s : W.Bk w gS [1, 512]
theorem Bs0.below {w0 w w' : World} {gA gR gS : Nat} (h : Bs0 w0 gA gR gS w) (hb : Below w.heap.size w w') : Bs0 w0 gA gR gS w' :=
  ⟨h.bel.trans (hb.mono h.bel.size), (hb.block gA (block_lt h.a)).trans h.a, (hb.block gR (block_lt h.r)).trans h.r, h.s.below hb⟩
/-- What holds within the region. -/
def InvK (w0 : World) (gA gR gS : Nat) (listed : Array Bool) (a : Act) (w : World) : Prop :=
  Bs0 w0 gA gR gS w ∧ ∃ c f : Nat → Value, a = ⟨lit c f, []⟩ ∧ (c 0 = .bool false ∧ c 1 = .pointer (some ⟨gA, 0, none⟩) ∧ c 2 = .pointer (some ⟨gR, 0, none⟩)) ∧ ∀ i, i < 39 → listed.getD i false = true → ((tabK gR gS).getD i .no).ok (f i) w
theorem lst_ne {listed : Array Bool} {i j : Nat} (h : i ≠ j) : (listed.setIfInBounds i true).getD j false = listed.getD j false := by
  simp [Array.getD_eq_getD_getElem?, Array.getElem?_setIfInBounds_ne h]
theorem InvK.step {w0 w w' : World} {gA gR gS : Nat} {listed : Array Bool} {c f : Nat → Value} {o : Oper} (b : Bs0 w0 gA gR gS w) (hc : c 0 = .bool false ∧ c 1 = .pointer (some ⟨gA, 0, none⟩) ∧ c 2 = .pointer (some ⟨gR, 0, none⟩)) (hf : ∀ i, i < 39 → listed.getD i false = true → ((tabK gR gS).getD i .no).ok (f i) w)
    (i : Nat) (hi : i < 39) (ho : o.dst = some (slotK i)) (v : Value) (hb : Below w.heap.size w w') (hv : ((tabK gR gS).getD i .no).ok v w') : InvK w0 gA gR gS (listed.setIfInBounds i true) ((⟨lit c f, []⟩ : Act).put o.dst v) w' := by
  refine ⟨b.below hb, c, updK f i v, ?_, hc, fun j hj hl => ?_⟩
  · rw [ho]
    show (⟨(lit c f).setIfInBounds (slotK i) v, []⟩ : Act) = _
    rw [lit_put c f i hi v]
  · by_cases e : j = i
    · subst e
      unfold updK; rw [if_pos rfl]; exact hv
    · have h1 := hf j hj (by rw [← lst_ne (i := i) (fun h => e h.symm)]; exact hl)
      have h2 := h1.below hb
      unfold updK; rw [if_neg e]; exact h2
theorem ev_k (c f : Nat → Value) (k n : Nat) (h : k < 38) (hn : 15 + k = n) : (⟨lit c f, []⟩ : Act).eval (.tmp n) = f k := by subst hn; exact lit_get c f k h
theorem ev_2 (c f : Nat → Value) : (⟨lit c f, []⟩ : Act).eval (.tmp 2) = c 2 := rfl
end Go.Proofs.YtobhllcnljggiaaGreat
namespace Go.Proofs.YtobhllcnljggiaaGreat
open Go.RowKit
set_option linter.unusedVariables false

section
variable (ρ : Operand → Value) (w : World) (o : Oper)
theorem b_zero (ho : o.op = .build 29 #[]) : (execOp ρ o).run Tryz.prog w = .ok (.value (.agg #[.int .i64 0, .slice none 0 0, .slice none 0 0, .slice none 0 0])) w := by
  unfold execOp; rw [ho]; kernel_rfl
theorem b_exc (x : Int) (ho : o.op = .build 29 #[(0, .const (.int .i64 x))]) (hx : ρ (.const (.int .i64 x)) = .int .i64 x) : (execOp ρ o).run Tryz.prog w = .ok (.value (.agg #[.int .i64 x, .slice none 0 0, .slice none 0 0, .slice none 0 0])) w := by
  unfold execOp; rw [ho]; simp only [List.map_toArray, List.map_cons, List.map_nil, hx]; kernel_rfl
theorem b_excset (x : Int) (n : Nat) (A : Option Addr) (m e : Nat) (ho : o.op = .build 29 #[(0, .const (.int .i64 x)), (2, .tmp n)]) (hx : ρ (.const (.int .i64 x)) = .int .i64 x) (h : ρ (.tmp n) = .slice A m e) : (execOp ρ o).run Tryz.prog w = .ok (.value (.agg #[.int .i64 x, .slice none 0 0, .slice A m e, .slice none 0 0])) w := by
  unfold execOp; rw [ho]; simp only [List.map_toArray, List.map_cons, List.map_nil, hx, h]; kernel_rfl
theorem b_excfiles (x : Int) (n : Nat) (A : Option Addr) (m e : Nat) (ho : o.op = .build 29 #[(0, .const (.int .i64 x)), (3, .tmp n)]) (hx : ρ (.const (.int .i64 x)) = .int .i64 x) (h : ρ (.tmp n) = .slice A m e) : (execOp ρ o).run Tryz.prog w = .ok (.value (.agg #[.int .i64 x, .slice none 0 0, .slice none 0 0, .slice A m e])) w := by
  unfold execOp; rw [ho]; simp only [List.map_toArray, List.map_cons, List.map_nil, hx, h]; kernel_rfl
theorem b_on (n : Nat) (A : Option Addr) (m e : Nat) (ho : o.op = .build 29 #[(1, .tmp n)]) (h : ρ (.tmp n) = .slice A m e) : (execOp ρ o).run Tryz.prog w = .ok (.value (.agg #[.int .i64 0, .slice A m e, .slice none 0 0, .slice none 0 0])) w := by
  unfold execOp; rw [ho]; simp only [List.map_toArray, List.map_cons, List.map_nil, h]; kernel_rfl
theorem b_set (n : Nat) (A : Option Addr) (m e : Nat) (ho : o.op = .build 29 #[(2, .tmp n)]) (h : ρ (.tmp n) = .slice A m e) : (execOp ρ o).run Tryz.prog w = .ok (.value (.agg #[.int .i64 0, .slice none 0 0, .slice A m e, .slice none 0 0])) w := by
  unfold execOp; rw [ho]; simp only [List.map_toArray, List.map_cons, List.map_nil, h]; kernel_rfl
theorem b_seton (n n' : Nat) (A A' : Option Addr) (m e m' e' : Nat) (ho : o.op = .build 29 #[(2, .tmp n), (1, .tmp n')]) (h : ρ (.tmp n) = .slice A m e) (h' : ρ (.tmp n') = .slice A' m' e') : (execOp ρ o).run Tryz.prog w = .ok (.value (.agg #[.int .i64 0, .slice A' m' e', .slice A m e, .slice none 0 0])) w := by
  unfold execOp; rw [ho]; simp only [List.map_toArray, List.map_cons, List.map_nil, h, h']; kernel_rfl
theorem b_files (n : Nat) (A : Option Addr) (m e : Nat) (ho : o.op = .build 29 #[(3, .tmp n)]) (h : ρ (.tmp n) = .slice A m e) : (execOp ρ o).run Tryz.prog w = .ok (.value (.agg #[.int .i64 0, .slice none 0 0, .slice none 0 0, .slice A m e])) w := by
  unfold execOp; rw [ho]; simp only [List.map_toArray, List.map_cons, List.map_nil, h]; kernel_rfl
theorem m_bool (x : Bool) (ho : o.op = .buildSlice 22 1 #[(0, .const (.bool x))]) (hx : ρ (.const (.bool x)) = .bool x) : (execOp ρ o).run Tryz.prog w = .ok (.value (.slice (some ⟨w.heap.size, 0, none⟩) 1 1)) (w.alloc (.cells #[.bool x] 4)) := by
  unfold execOp; rw [ho]; simp only [List.map_toArray, List.map_cons, List.map_nil, hx]; kernel_rfl
theorem m_word (x : Int) (ho : o.op = .buildSlice 23 1 #[(0, .const (.int .u16 x))]) (hx : ρ (.const (.int .u16 x)) = .int .u16 x) : (execOp ρ o).run Tryz.prog w = .ok (.value (.slice (some ⟨w.heap.size, 0, none⟩) 1 1)) (w.alloc (.cells #[.int .u16 x] 32)) := by
  unfold execOp; rw [ho]; simp only [List.map_toArray, List.map_cons, List.map_nil, hx]; kernel_rfl
theorem m_words (x y : Int) (ho : o.op = .buildSlice 23 2 #[(0, .const (.int .u16 x)), (1, .const (.int .u16 y))]) (hx : ρ (.const (.int .u16 x)) = .int .u16 x) (hy : ρ (.const (.int .u16 y)) = .int .u16 y) : (execOp ρ o).run Tryz.prog w = .ok (.value (.slice (some ⟨w.heap.size, 0, none⟩) 2 2)) (w.alloc (.cells #[.int .u16 x, .int .u16 y] 32)) := by
  unfold execOp; rw [ho]; simp only [List.map_toArray, List.map_cons, List.map_nil, hx, hy]; kernel_rfl
theorem m_file (n : Nat) (A : Option Addr) (m e : Nat) (ho : o.op = .buildSlice 27 1 #[(0, .tmp n)]) (h : ρ (.tmp n) = .slice A m e) : (execOp ρ o).run Tryz.prog w = .ok (.value (.slice (some ⟨w.heap.size, 0, none⟩) 1 1)) (w.alloc (.cells #[.slice A m e] 23)) := by
  unfold execOp; rw [ho]; simp only [List.map_toArray, List.map_cons, List.map_nil, h]; kernel_rfl
theorem m_nil (ho : o.op = .buildSlice 27 1 #[(0, .const (.slice none 0 0))]) (hx : ρ (.const (.slice none 0 0)) = .slice none 0 0) : (execOp ρ o).run Tryz.prog w = .ok (.value (.slice (some ⟨w.heap.size, 0, none⟩) 1 1)) (w.alloc (.cells #[.slice none 0 0] 23)) := by
  unfold execOp; rw [ho]; simp only [List.map_toArray, List.map_cons, List.map_nil, hx]; kernel_rfl
theorem m_files (n n' : Nat) (A A' : Option Addr) (m e m' e' : Nat) (ho : o.op = .buildSlice 27 2 #[(0, .tmp n), (1, .tmp n')]) (h : ρ (.tmp n) = .slice A m e) (h' : ρ (.tmp n') = .slice A' m' e') : (execOp ρ o).run Tryz.prog w = .ok (.value (.slice (some ⟨w.heap.size, 0, none⟩) 2 2)) (w.alloc (.cells #[.slice A m e, .slice A' m' e'] 23)) := by
  unfold execOp; rw [ho]; simp only [List.map_toArray, List.map_cons, List.map_nil, h, h']; kernel_rfl
theorem m_make (n : Nat) (hn : n ≤ 1000) (ho : o.op = .makeSlice 22 (.const (.int .i64 n)) (.const (.int .i64 n))) (hx : ρ (.const (.int .i64 n)) = .int .i64 n) : (execOp ρ o).run Tryz.prog w = .ok (.value (.slice (some ⟨w.heap.size, 0, none⟩) n n)) (w.alloc (.cells (L.blk () (List.replicate n false)) 4)) := by
  have h := L.make_bool n (by omega) w
  unfold execOp; rw [ho]
  simp only [hx, Sem.run_bind, h, Result.andThen_ok, Sem.run_pure]
theorem f_addr (g : Nat) (ho : o.op = .fieldAddr 29 (.tmp 2) 2) (h : ρ (.tmp 2) = .pointer (some ⟨g, 0, none⟩)) : (execOp ρ o).run Tryz.prog w = .ok (.value (.pointer (some ⟨g, 2, none⟩))) w := by
  unfold execOp; rw [ho]; simp only [h]; kernel_rfl
theorem s_cut (n g : Nat) (ho : o.op = .slice 23 (.tmp n) none (some (.const (.int .i64 1))) none) (h : ρ (.tmp n) = .slice (some ⟨g, 0, none⟩) 2 2) (hx : ρ (.const (.int .i64 1)) = .int .i64 1) : (execOp ρ o).run Tryz.prog w = .ok (.value (.slice (some ⟨g, 0, none⟩) 1 2)) w := by
  unfold execOp; rw [ho]; simp only [h, hx, Option.map]; kernel_rfl
theorem l_slice (n g : Nat) (v : Value) (ho : o.op = .load 23 (.tmp n)) (h : ρ (.tmp n) = .pointer (some ⟨g, 2, none⟩)) (hv : w.cell? ⟨g, 2, none⟩ = some v) : (execOp ρ o).run Tryz.prog w = .ok (.value v) w := by
  unfold execOp; rw [ho]; simp only [h]
  go_simp
theorem l_reply (g : Nat) (v0 v1 v2 v3 : Value) (ho : o.op = .load 29 (.tmp 2)) (h : ρ (.tmp 2) = .pointer (some ⟨g, 0, none⟩)) (h0 : w.cell? ⟨g, 0, none⟩ = some v0) (h1 : w.cell? ⟨g, 1, none⟩ = some v1) (h2 : w.cell? ⟨g, 2, none⟩ = some v2) (h3 : w.cell? ⟨g, 3, none⟩ = some v3) : (execOp ρ o).run Tryz.prog w = .ok (.value (.agg #[v0, v1, v2, v3])) w := by
  unfold execOp; rw [ho]; simp only [h]
  go_simp
theorem a_tmp (n : Nat) (v : Value) (ho : o.op = .assign (.tmp n)) (h : ρ (.tmp n) = v) : (execOp ρ o).run Tryz.prog w = .ok (.value v) w := by
  unfold execOp; rw [ho]; simp only [h]; rfl
end
end Go.Proofs.YtobhllcnljggiaaGreat
namespace Go.Proofs.YtobhllcnljggiaaGreat
open Go.RowKit
set_option linter.unusedVariables false

theorem files1 (w : World) {A : Option Addr} {m e : Nat} {xs : List Int} (hr : Row .u16 w w.heap.size A xs) (hm : xs.length = m) (he : m ≤ e) : FRow (w.alloc (.cells #[.slice A m e] 23)) (w.alloc (.cells #[.slice A m e] 23)).heap.size (some ⟨w.heap.size, 0, none⟩) [xs] := fun _ => by
  refine ⟨w.heap.size, 0, rfl, by simp, fun i hi => ?_⟩
  obtain rfl : i = 0 := by simpa using hi
  refine ⟨A, e, ?_, (hr.below (bel_alloc w _)).more (by simp), by show xs.length ≤ e; omega⟩
  rw [cell_of_row _ _ _ _ _ _ (heap_alloc_new w _)]
  show some (Value.slice A m e) = some (.slice A xs.length e)
  rw [hm]
theorem files2 (w : World) {A A' : Option Addr} {m e m' e' : Nat} {xs xs' : List Int} (hr : Row .u16 w w.heap.size A xs) (hr' : Row .u16 w w.heap.size A' xs') (hm : xs.length = m) (he : m ≤ e) (hm' : xs'.length = m') (he' : m' ≤ e') : FRow (w.alloc (.cells #[.slice A m e, .slice A' m' e'] 23)) (w.alloc (.cells #[.slice A m e, .slice A' m' e'] 23)).heap.size (some ⟨w.heap.size, 0, none⟩) [xs, xs'] := fun _ => by
  refine ⟨w.heap.size, 0, rfl, by simp, fun i hi => ?_⟩
  have hi2 : i = 0 ∨ i = 1 := by have : i < 2 := hi; omega
  rcases hi2 with rfl | rfl
  · refine ⟨A, e, ?_, (hr.below (bel_alloc w _)).more (by simp), by show xs.length ≤ e; omega⟩
    rw [cell_of_row _ _ _ _ _ _ (heap_alloc_new w _)]
    show some (Value.slice A m e) = some (.slice A xs.length e)
    rw [hm]
  · refine ⟨A', e', ?_, (hr'.below (bel_alloc w _)).more (by simp), by show xs'.length ≤ e'; omega⟩
    rw [cell_of_row _ _ _ _ _ _ (heap_alloc_new w _)]
    show some (Value.slice A' m' e') = some (.slice A' xs'.length e')
    rw [hm']
set_option maxHeartbeats 2000000 in
set_option maxRecDepth 100000 in
theorem m_all (ρ : Operand → Value) (w : World) (o : Oper) (x0 x1 x2 x3 x4 x5 x6 x7 x8 x9 x10 x11 x12 x13 x14 x15 : Int) (A0 B0 C0 : Option Addr) (a0 b0 c0 d0 e0 f0 : Nat) (A1 B1 C1 : Option Addr) (a1 b1 c1 d1 e1 f1 : Nat) (A2 B2 C2 : Option Addr) (a2 b2 c2 d2 e2 f2 : Nat) (A3 B3 C3 : Option Addr) (a3 b3 c3 d3 e3 f3 : Nat) (A4 B4 C4 : Option Addr) (a4 b4 c4 d4 e4 f4 : Nat) (A5 B5 C5 : Option Addr) (a5 b5 c5 d5 e5 f5 : Nat) (A6 B6 C6 : Option Addr) (a6 b6 c6 d6 e6 f6 : Nat) (A7 B7 C7 : Option Addr) (a7 b7 c7 d7 e7 f7 : Nat) (A8 B8 C8 : Option Addr) (a8 b8 c8 d8 e8 f8 : Nat) (A9 B9 C9 : Option Addr) (a9 b9 c9 d9 e9 f9 : Nat) (A10 B10 C10 : Option Addr) (a10 b10 c10 d10 e10 f10 : Nat) (A11 B11 C11 : Option Addr) (a11 b11 c11 d11 e11 f11 : Nat) (A12 B12 C12 : Option Addr) (a12 b12 c12 d12 e12 f12 : Nat) (A13 B13 C13 : Option Addr) (a13 b13 c13 d13 e13 f13 : Nat) (A14 B14 C14 : Option Addr) (a14 b14 c14 d14 e14 f14 : Nat) (A15 B15 C15 : Option Addr) (a15 b15 c15 d15 e15 f15 : Nat) (ho : o.op = .buildSlice 33 16 #[(0, .tmp 15), (1, .tmp 16), (2, .tmp 17), (3, .tmp 18), (4, .tmp 19), (5, .tmp 22), (6, .tmp 24), (7, .tmp 26), (8, .tmp 28), (9, .tmp 32), (10, .tmp 36), (11, .tmp 39), (12, .tmp 43), (13, .tmp 47), (14, .tmp 49), (15, .tmp 51)]) (h0 : ρ (.tmp 15) = .agg #[.int .i64 x0, .slice A0 a0 d0, .slice B0 b0 e0, .slice C0 c0 f0]) (h1 : ρ (.tmp 16) = .agg #[.int .i64 x1, .slice A1 a1 d1, .slice B1 b1 e1, .slice C1 c1 f1]) (h2 : ρ (.tmp 17) = .agg #[.int .i64 x2, .slice A2 a2 d2, .slice B2 b2 e2, .slice C2 c2 f2]) (h3 : ρ (.tmp 18) = .agg #[.int .i64 x3, .slice A3 a3 d3, .slice B3 b3 e3, .slice C3 c3 f3]) (h4 : ρ (.tmp 19) = .agg #[.int .i64 x4, .slice A4 a4 d4, .slice B4 b4 e4, .slice C4 c4 f4]) (h5 : ρ (.tmp 22) = .agg #[.int .i64 x5, .slice A5 a5 d5, .slice B5 b5 e5, .slice C5 c5 f5]) (h6 : ρ (.tmp 24) = .agg #[.int .i64 x6, .slice A6 a6 d6, .slice B6 b6 e6, .slice C6 c6 f6]) (h7 : ρ (.tmp 26) = .agg #[.int .i64 x7, .slice A7 a7 d7, .slice B7 b7 e7, .slice C7 c7 f7]) (h8 : ρ (.tmp 28) = .agg #[.int .i64 x8, .slice A8 a8 d8, .slice B8 b8 e8, .slice C8 c8 f8]) (h9 : ρ (.tmp 32) = .agg #[.int .i64 x9, .slice A9 a9 d9, .slice B9 b9 e9, .slice C9 c9 f9]) (h10 : ρ (.tmp 36) = .agg #[.int .i64 x10, .slice A10 a10 d10, .slice B10 b10 e10, .slice C10 c10 f10]) (h11 : ρ (.tmp 39) = .agg #[.int .i64 x11, .slice A11 a11 d11, .slice B11 b11 e11, .slice C11 c11 f11]) (h12 : ρ (.tmp 43) = .agg #[.int .i64 x12, .slice A12 a12 d12, .slice B12 b12 e12, .slice C12 c12 f12]) (h13 : ρ (.tmp 47) = .agg #[.int .i64 x13, .slice A13 a13 d13, .slice B13 b13 e13, .slice C13 c13 f13]) (h14 : ρ (.tmp 49) = .agg #[.int .i64 x14, .slice A14 a14 d14, .slice B14 b14 e14, .slice C14 c14 f14]) (h15 : ρ (.tmp 51) = .agg #[.int .i64 x15, .slice A15 a15 d15, .slice B15 b15 e15, .slice C15 c15 f15]) : (execOp ρ o).run Tryz.prog w = .ok (.value (.slice (some ⟨w.heap.size, 0, none⟩) 16 16)) (w.alloc (.cells #[.int .i64 x0, .slice A0 a0 d0, .slice B0 b0 e0, .slice C0 c0 f0, .int .i64 x1, .slice A1 a1 d1, .slice B1 b1 e1, .slice C1 c1 f1, .int .i64 x2, .slice A2 a2 d2, .slice B2 b2 e2, .slice C2 c2 f2, .int .i64 x3, .slice A3 a3 d3, .slice B3 b3 e3, .slice C3 c3 f3, .int .i64 x4, .slice A4 a4 d4, .slice B4 b4 e4, .slice C4 c4 f4, .int .i64 x5, .slice A5 a5 d5, .slice B5 b5 e5, .slice C5 c5 f5, .int .i64 x6, .slice A6 a6 d6, .slice B6 b6 e6, .slice C6 c6 f6, .int .i64 x7, .slice A7 a7 d7, .slice B7 b7 e7, .slice C7 c7 f7, .int .i64 x8, .slice A8 a8 d8, .slice B8 b8 e8, .slice C8 c8 f8, .int .i64 x9, .slice A9 a9 d9, .slice B9 b9 e9, .slice C9 c9 f9, .int .i64 x10, .slice A10 a10 d10, .slice B10 b10 e10, .slice C10 c10 f10, .int .i64 x11, .slice A11 a11 d11, .slice B11 b11 e11, .slice C11 c11 f11, .int .i64 x12, .slice A12 a12 d12, .slice B12 b12 e12, .slice C12 c12 f12, .int .i64 x13, .slice A13 a13 d13, .slice B13 b13 e13, .slice C13 c13 f13, .int .i64 x14, .slice A14 a14 d14, .slice B14 b14 e14, .slice C14 c14 f14, .int .i64 x15, .slice A15 a15 d15, .slice B15 b15 e15, .slice C15 c15 f15] 29)) := by
  unfold execOp; rw [ho]; simp only [List.map_toArray, List.map_cons, List.map_nil, h0, h1, h2, h3, h4, h5, h6, h7, h8, h9, h10, h11, h12, h13, h14, h15]; kernel_rfl

/-- An operation does what is told of it, whatever stands in the slots. -/
def OpOk (w0 : World) (gA gR gS : Nat) (listed : Array Bool) (i : Nat) (o : Oper) : Prop :=
  ∀ (ρ : Operand → Value) (w : World), (∀ x, ρ (.const x) = x) → ρ (.tmp 2) = .pointer (some ⟨gR, 0, none⟩) → (∀ k, k < 38 → listed.getD k false = true → ((tabK gR gS).getD k .no).ok (ρ (.tmp (15 + k))) w) → Bs0 w0 gA gR gS w → ∃ v w', (execOp ρ o).run Tryz.prog w = .ok (.value v) w' ∧ Below w.heap.size w w' ∧ ((tabK gR gS).getD i .no).ok v w'
theorem OpOk.wp {ops : Array Oper} {Q : Exit → Act → World → Prop} {w0 : World} {gA gR gS : Nat} {listed : Array Bool} {i : Nat} {o : Oper} {a : Act} {w : World} (h : OpOk w0 gA gR gS listed i o) (hi : i < 39) (ho : ops[i]? = some o) (hd : o.dst = some (slotK i)) (hg : o.guard = none) (hJ : InvK w0 gA gR gS listed a w) :
    wpOp Tryz.prog ops Q i (fun a' w' => listed.size = ops.size → InvK w0 gA gR gS (listed.setIfInBounds i true) a' w') a w := by
  obtain ⟨b, c, f, rfl, hc, hf⟩ := hJ
  obtain ⟨v, w', hrun, hb, hv⟩ := h (⟨lit c f, []⟩ : Act).eval w (fun _ => rfl) ((ev_2 c f).trans hc.2.2) (fun k hk hl => by rw [ev_k c f k (15 + k) hk rfl]; exact hf k (by omega) hl) b
  exact wpOp_val ho hg hrun (fun _ => InvK.step b hc hf i hi hd v hb hv)
section
variable {w0 : World} {gA gR gS : Nat} {listed : Array Bool} {o : Oper}
theorem k_0 (ho : o.op = .load 29 (.tmp 2))  : OpOk w0 gA gR gS listed 0 o := by
  intro ρ w hc h2 hk b
  obtain ⟨d0, d1, d2, d3⟩ := cells4 b.r
  exact ⟨_, _, l_reply ρ w o gR _ _ _ _ ho h2 d0 d1 d2 d3, Below.refl _ _, none, some ⟨gS, 0, none⟩, none, 0, 2, 0, 0, 2, 0, rfl, ⟨L.Row.nil _ _ _ _, b.s.row _ (by decide) (List.prefix_refl _), FRow.nil _ _ _, rfl, rfl, rfl⟩⟩
theorem k_1 (ho : o.op = .build 29 #[])  : OpOk w0 gA gR gS listed 1 o := by
  intro ρ w hc h2 hk b
  exact ⟨_, _, b_zero ρ w o ho, Below.refl _ _, none, none, none, 0, 0, 0, 0, 0, 0, rfl, Repd.zero _ _ 0⟩
theorem k_2 (ho : o.op = .build 29 #[(0, .const (.int .i64 2))])  : OpOk w0 gA gR gS listed 2 o := by
  intro ρ w hc h2 hk b
  exact ⟨_, _, b_exc ρ w o 2 ho (hc _), Below.refl _ _, none, none, none, 0, 0, 0, 0, 0, 0, rfl, Repd.zero _ _ 2⟩
theorem k_3 (ho : o.op = .build 29 #[(0, .const (.int .i64 128))])  : OpOk w0 gA gR gS listed 3 o := by
  intro ρ w hc h2 hk b
  exact ⟨_, _, b_exc ρ w o 128 ho (hc _), Below.refl _ _, none, none, none, 0, 0, 0, 0, 0, 0, rfl, Repd.zero _ _ 128⟩
theorem k_4 (ho : o.op = .build 29 #[(0, .const (.int .i64 (-1)))])  : OpOk w0 gA gR gS listed 4 o := by
  intro ρ w hc h2 hk b
  exact ⟨_, _, b_exc ρ w o (-1) ho (hc _), Below.refl _ _, none, none, none, 0, 0, 0, 0, 0, 0, rfl, Repd.zero _ _ (-1)⟩
theorem k_5 (ho : o.op = .fieldAddr 29 (.tmp 2) 2)  : OpOk w0 gA gR gS listed 5 o := by
  intro ρ w hc h2 hk b
  exact ⟨_, _, f_addr ρ w o gR ho h2, Below.refl _ _, rfl⟩
theorem k_6 (ho : o.op = .load 23 (.tmp 20)) (l5 : listed.getD 5 false = true) : OpOk w0 gA gR gS listed 6 o := by
  intro ρ w hc h2 hk b
  have e : ρ (.tmp 20) = .pointer (some ⟨gR, 2, none⟩) := hk 5 (by omega) l5
  exact ⟨_, _, l_slice ρ w o 20 gR _ ho e (cells4 b.r).2.2.1, Below.refl _ _, rfl⟩
theorem k_7 (ho : o.op = .build 29 #[(0, .const (.int .i64 2)), (2, .tmp 21)]) (l6 : listed.getD 6 false = true) : OpOk w0 gA gR gS listed 7 o := by
  intro ρ w hc h2 hk b
  have e : ρ (.tmp 21) = .slice (some ⟨gS, 0, none⟩) 2 2 := hk 6 (by omega) l6
  exact ⟨_, _, b_excset ρ w o 2 21 _ _ _ ho (hc _) e, Below.refl _ _, none, some ⟨gS, 0, none⟩, none, 0, 2, 0, 0, 2, 0, rfl, ⟨L.Row.nil _ _ _ _, b.s.row _ (by decide) (List.prefix_refl _), FRow.nil _ _ _, rfl, rfl, rfl⟩⟩
theorem k_8 (ho : o.op = .buildSlice 22 1 #[(0, .const (.bool true))])  : OpOk w0 gA gR gS listed 8 o := by
  intro ρ w hc h2 hk b
  exact ⟨_, _, m_bool ρ w o true ho (hc _), bel_alloc _ _, w.heap.size, rfl, heap_alloc_new w _⟩
theorem k_9 (ho : o.op = .build 29 #[(1, .tmp 23)]) (l8 : listed.getD 8 false = true) : OpOk w0 gA gR gS listed 9 o := by
  intro ρ w hc h2 hk b
  obtain ⟨g, e, hb⟩ : Kd.ok (.bits [true]) (ρ (.tmp 23)) w := hk 8 (by omega) l8
  exact ⟨_, _, b_on ρ w o 23 _ _ _ ho e, Below.refl _ _, _, none, none, _, 0, 0, _, 0, 0, rfl, ⟨(L.Bk.row hb _ (fun _ _ => rfl) (List.prefix_refl _)), Row.nil _ _ _ _, FRow.nil _ _ _, rfl, rfl, rfl⟩⟩
theorem k_10 (ho : o.op = .makeSlice 22 (.const (.int .i64 10)) (.const (.int .i64 10)))  : OpOk w0 gA gR gS listed 10 o := by
  intro ρ w hc h2 hk b
  exact ⟨_, _, m_make ρ w o 10 (by omega) ho (hc _), bel_alloc _ _, w.heap.size, rfl, heap_alloc_new w _⟩
theorem k_11 (ho : o.op = .build 29 #[(1, .tmp 25)]) (l10 : listed.getD 10 false = true) : OpOk w0 gA gR gS listed 11 o := by
  intro ρ w hc h2 hk b
  obtain ⟨g, e, hb⟩ : Kd.ok (.bits (List.replicate 10 false)) (ρ (.tmp 25)) w := hk 10 (by omega) l10
  exact ⟨_, _, b_on ρ w o 25 _ _ _ ho e, Below.refl _ _, _, none, none, _, 0, 0, _, 0, 0, rfl, ⟨(L.Bk.row hb _ (fun _ _ => rfl) (List.prefix_refl _)), Row.nil _ _ _ _, FRow.nil _ _ _, rfl, rfl, rfl⟩⟩
theorem k_12 (ho : o.op = .makeSlice 22 (.const (.int .i64 8)) (.const (.int .i64 8)))  : OpOk w0 gA gR gS listed 12 o := by
  intro ρ w hc h2 hk b
  exact ⟨_, _, m_make ρ w o 8 (by omega) ho (hc _), bel_alloc _ _, w.heap.size, rfl, heap_alloc_new w _⟩
theorem k_13 (ho : o.op = .build 29 #[(1, .tmp 27)]) (l12 : listed.getD 12 false = true) : OpOk w0 gA gR gS listed 13 o := by
  intro ρ w hc h2 hk b
  obtain ⟨g, e, hb⟩ : Kd.ok (.bits (List.replicate 8 false)) (ρ (.tmp 27)) w := hk 12 (by omega) l12
  exact ⟨_, _, b_on ρ w o 27 _ _ _ ho e, Below.refl _ _, _, none, none, _, 0, 0, _, 0, 0, rfl, ⟨(L.Bk.row hb _ (fun _ _ => rfl) (List.prefix_refl _)), Row.nil _ _ _ _, FRow.nil _ _ _, rfl, rfl, rfl⟩⟩
theorem k_14 (ho : o.op = .fieldAddr 29 (.tmp 2) 2)  : OpOk w0 gA gR gS listed 14 o := by
  intro ρ w hc h2 hk b
  exact ⟨_, _, f_addr ρ w o gR ho h2, Below.refl _ _, rfl⟩
theorem k_15 (ho : o.op = .load 23 (.tmp 29)) (l14 : listed.getD 14 false = true) : OpOk w0 gA gR gS listed 15 o := by
  intro ρ w hc h2 hk b
  have e : ρ (.tmp 29) = .pointer (some ⟨gR, 2, none⟩) := hk 14 (by omega) l14
  exact ⟨_, _, l_slice ρ w o 29 gR _ ho e (cells4 b.r).2.2.1, Below.refl _ _, rfl⟩
theorem k_16 (ho : o.op = .slice 23 (.tmp 30) none (some (.const (.int .i64 1))) none) (l15 : listed.getD 15 false = true) : OpOk w0 gA gR gS listed 16 o := by
  intro ρ w hc h2 hk b
  have e : ρ (.tmp 30) = .slice (some ⟨gS, 0, none⟩) 2 2 := hk 15 (by omega) l15
  exact ⟨_, _, s_cut ρ w o 30 gS ho e (hc _), Below.refl _ _, rfl⟩
theorem k_17 (ho : o.op = .build 29 #[(2, .tmp 31)]) (l16 : listed.getD 16 false = true) : OpOk w0 gA gR gS listed 17 o := by
  intro ρ w hc h2 hk b
  have e : ρ (.tmp 31) = .slice (some ⟨gS, 0, none⟩) 1 2 := hk 16 (by omega) l16
  exact ⟨_, _, b_set ρ w o 31 _ _ _ ho e, Below.refl _ _, none, some ⟨gS, 0, none⟩, none, 0, 1, 0, 0, 2, 0, rfl, ⟨L.Row.nil _ _ _ _, b.s.row [1] (by decide) (by decide), FRow.nil _ _ _, rfl, rfl, rfl⟩⟩
theorem k_18 (ho : o.op = .fieldAddr 29 (.tmp 2) 2)  : OpOk w0 gA gR gS listed 18 o := by
  intro ρ w hc h2 hk b
  exact ⟨_, _, f_addr ρ w o gR ho h2, Below.refl _ _, rfl⟩
theorem k_19 (ho : o.op = .load 23 (.tmp 33)) (l18 : listed.getD 18 false = true) : OpOk w0 gA gR gS listed 19 o := by
  intro ρ w hc h2 hk b
  have e : ρ (.tmp 33) = .pointer (some ⟨gR, 2, none⟩) := hk 18 (by omega) l18
  exact ⟨_, _, l_slice ρ w o 33 gR _ ho e (cells4 b.r).2.2.1, Below.refl _ _, rfl⟩
theorem k_20 (ho : o.op = .buildSlice 22 1 #[(0, .const (.bool true))])  : OpOk w0 gA gR gS listed 20 o := by
  intro ρ w hc h2 hk b
  exact ⟨_, _, m_bool ρ w o true ho (hc _), bel_alloc _ _, w.heap.size, rfl, heap_alloc_new w _⟩
theorem k_21 (ho : o.op = .build 29 #[(2, .tmp 34), (1, .tmp 35)]) (l19 : listed.getD 19 false = true) (l20 : listed.getD 20 false = true) : OpOk w0 gA gR gS listed 21 o := by
  intro ρ w hc h2 hk b
  have e : ρ (.tmp 34) = .slice (some ⟨gS, 0, none⟩) 2 2 := hk 19 (by omega) l19
  obtain ⟨g, e2, hb⟩ : Kd.ok (.bits [true]) (ρ (.tmp 35)) w := hk 20 (by omega) l20
  exact ⟨_, _, b_seton ρ w o 34 35 _ _ _ _ _ _ ho e e2, Below.refl _ _, _, some ⟨gS, 0, none⟩, none, _, 2, 0, _, 2, 0, rfl, ⟨(L.Bk.row hb _ (fun _ _ => rfl) (List.prefix_refl _)), b.s.row _ (by decide) (List.prefix_refl _), FRow.nil _ _ _, rfl, rfl, rfl⟩⟩
theorem k_22 (ho : o.op = .buildSlice 23 1 #[(0, .const (.int .u16 5))])  : OpOk w0 gA gR gS listed 22 o := by
  intro ρ w hc h2 hk b
  exact ⟨_, _, m_word ρ w o 5 ho (hc _), bel_alloc _ _, w.heap.size, rfl, heap_alloc_new w _⟩
theorem k_23 (ho : o.op = .buildSlice 27 1 #[(0, .tmp 37)]) (l22 : listed.getD 22 false = true) : OpOk w0 gA gR gS listed 23 o := by
  intro ρ w hc h2 hk b
  obtain ⟨g, e, hb⟩ : Kd.ok (.words [5]) (ρ (.tmp 37)) w := hk 22 (by omega) l22
  exact ⟨_, _, m_file ρ w o 37 _ _ _ ho e, bel_alloc _ _, w.heap.size, rfl, files1 w (hb.row _ (by decide) (List.prefix_refl _)) rfl (Nat.le_refl _)⟩
theorem k_24 (ho : o.op = .build 29 #[(3, .tmp 38)]) (l23 : listed.getD 23 false = true) : OpOk w0 gA gR gS listed 24 o := by
  intro ρ w hc h2 hk b
  obtain ⟨g, e, hb⟩ : Kd.ok (.files [[5]]) (ρ (.tmp 38)) w := hk 23 (by omega) l23
  exact ⟨_, _, b_files ρ w o 38 _ _ _ ho e, Below.refl _ _, none, none, _, 0, 0, _, 0, 0, _, rfl, ⟨L.Row.nil _ _ _ _, Row.nil _ _ _ _, hb, rfl, rfl, rfl⟩⟩
theorem k_25 (ho : o.op = .buildSlice 23 1 #[(0, .const (.int .u16 5))])  : OpOk w0 gA gR gS listed 25 o := by
  intro ρ w hc h2 hk b
  exact ⟨_, _, m_word ρ w o 5 ho (hc _), bel_alloc _ _, w.heap.size, rfl, heap_alloc_new w _⟩
theorem k_26 (ho : o.op = .buildSlice 23 2 #[(0, .const (.int .u16 6)), (1, .const (.int .u16 7))])  : OpOk w0 gA gR gS listed 26 o := by
  intro ρ w hc h2 hk b
  exact ⟨_, _, m_words ρ w o 6 7 ho (hc _) (hc _), bel_alloc _ _, w.heap.size, rfl, heap_alloc_new w _⟩
theorem k_27 (ho : o.op = .buildSlice 27 2 #[(0, .tmp 40), (1, .tmp 41)]) (l25 : listed.getD 25 false = true) (l26 : listed.getD 26 false = true) : OpOk w0 gA gR gS listed 27 o := by
  intro ρ w hc h2 hk b
  obtain ⟨g, e, hb⟩ : Kd.ok (.words [5]) (ρ (.tmp 40)) w := hk 25 (by omega) l25
  obtain ⟨g', e', hb'⟩ : Kd.ok (.words [6, 7]) (ρ (.tmp 41)) w := hk 26 (by omega) l26
  exact ⟨_, _, m_files ρ w o 40 41 _ _ _ _ _ _ ho e e', bel_alloc _ _, w.heap.size, rfl, files2 w (hb.row _ (by decide) (List.prefix_refl _)) (hb'.row _ (by decide) (List.prefix_refl _)) rfl (Nat.le_refl _) rfl (Nat.le_refl _)⟩
theorem k_28 (ho : o.op = .build 29 #[(3, .tmp 42)]) (l27 : listed.getD 27 false = true) : OpOk w0 gA gR gS listed 28 o := by
  intro ρ w hc h2 hk b
  obtain ⟨g, e, hb⟩ : Kd.ok (.files [[5], [6, 7]]) (ρ (.tmp 42)) w := hk 27 (by omega) l27
  exact ⟨_, _, b_files ρ w o 42 _ _ _ ho e, Below.refl _ _, none, none, _, 0, 0, _, 0, 0, _, rfl, ⟨L.Row.nil _ _ _ _, Row.nil _ _ _ _, hb, rfl, rfl, rfl⟩⟩
theorem k_29 (ho : o.op = .buildSlice 23 1 #[(0, .const (.int .u16 5))])  : OpOk w0 gA gR gS listed 29 o := by
  intro ρ w hc h2 hk b
  exact ⟨_, _, m_word ρ w o 5 ho (hc _), bel_alloc _ _, w.heap.size, rfl, heap_alloc_new w _⟩
theorem k_30 (ho : o.op = .buildSlice 23 1 #[(0, .const (.int .u16 6))])  : OpOk w0 gA gR gS listed 30 o := by
  intro ρ w hc h2 hk b
  exact ⟨_, _, m_word ρ w o 6 ho (hc _), bel_alloc _ _, w.heap.size, rfl, heap_alloc_new w _⟩
theorem k_31 (ho : o.op = .buildSlice 27 2 #[(0, .tmp 44), (1, .tmp 45)]) (l29 : listed.getD 29 false = true) (l30 : listed.getD 30 false = true) : OpOk w0 gA gR gS listed 31 o := by
  intro ρ w hc h2 hk b
  obtain ⟨g, e, hb⟩ : Kd.ok (.words [5]) (ρ (.tmp 44)) w := hk 29 (by omega) l29
  obtain ⟨g', e', hb'⟩ : Kd.ok (.words [6]) (ρ (.tmp 45)) w := hk 30 (by omega) l30
  exact ⟨_, _, m_files ρ w o 44 45 _ _ _ _ _ _ ho e e', bel_alloc _ _, w.heap.size, rfl, files2 w (hb.row _ (by decide) (List.prefix_refl _)) (hb'.row _ (by decide) (List.prefix_refl _)) rfl (Nat.le_refl _) rfl (Nat.le_refl _)⟩
theorem k_32 (ho : o.op = .build 29 #[(3, .tmp 46)]) (l31 : listed.getD 31 false = true) : OpOk w0 gA gR gS listed 32 o := by
  intro ρ w hc h2 hk b
  obtain ⟨g, e, hb⟩ : Kd.ok (.files [[5], [6]]) (ρ (.tmp 46)) w := hk 31 (by omega) l31
  exact ⟨_, _, b_files ρ w o 46 _ _ _ ho e, Below.refl _ _, none, none, _, 0, 0, _, 0, 0, _, rfl, ⟨L.Row.nil _ _ _ _, Row.nil _ _ _ _, hb, rfl, rfl, rfl⟩⟩
theorem k_33 (ho : o.op = .buildSlice 27 1 #[(0, .const (.slice none 0 0))])  : OpOk w0 gA gR gS listed 33 o := by
  intro ρ w hc h2 hk b
  exact ⟨_, _, m_nil ρ w o ho (hc _), bel_alloc _ _, w.heap.size, rfl, files1 w (Row.nil _ _ _ _) rfl (Nat.le_refl _)⟩
theorem k_34 (ho : o.op = .build 29 #[(3, .tmp 48)]) (l33 : listed.getD 33 false = true) : OpOk w0 gA gR gS listed 34 o := by
  intro ρ w hc h2 hk b
  obtain ⟨g, e, hb⟩ : Kd.ok (.files [[]]) (ρ (.tmp 48)) w := hk 33 (by omega) l33
  exact ⟨_, _, b_files ρ w o 48 _ _ _ ho e, Below.refl _ _, none, none, _, 0, 0, _, 0, 0, _, rfl, ⟨L.Row.nil _ _ _ _, Row.nil _ _ _ _, hb, rfl, rfl, rfl⟩⟩
theorem k_35 (ho : o.op = .buildSlice 27 1 #[(0, .const (.slice none 0 0))])  : OpOk w0 gA gR gS listed 35 o := by
  intro ρ w hc h2 hk b
  exact ⟨_, _, m_nil ρ w o ho (hc _), bel_alloc _ _, w.heap.size, rfl, files1 w (Row.nil _ _ _ _) rfl (Nat.le_refl _)⟩
theorem k_36 (ho : o.op = .build 29 #[(0, .const (.int .i64 1)), (3, .tmp 50)]) (l35 : listed.getD 35 false = true) : OpOk w0 gA gR gS listed 36 o := by
  intro ρ w hc h2 hk b
  obtain ⟨g, e, hb⟩ : Kd.ok (.files [[]]) (ρ (.tmp 50)) w := hk 35 (by omega) l35
  exact ⟨_, _, b_excfiles ρ w o 1 50 _ _ _ ho (hc _) e, Below.refl _ _, none, none, _, 0, 0, _, 0, 0, _, rfl, ⟨L.Row.nil _ _ _ _, Row.nil _ _ _ _, hb, rfl, rfl, rfl⟩⟩
theorem k_37 (ho : o.op = .buildSlice 33 16 #[(0, .tmp 15), (1, .tmp 16), (2, .tmp 17), (3, .tmp 18), (4, .tmp 19), (5, .tmp 22), (6, .tmp 24), (7, .tmp 26), (8, .tmp 28), (9, .tmp 32), (10, .tmp 36), (11, .tmp 39), (12, .tmp 43), (13, .tmp 47), (14, .tmp 49), (15, .tmp 51)]) (l0 : listed.getD 0 false = true) (l1 : listed.getD 1 false = true) (l2 : listed.getD 2 false = true) (l3 : listed.getD 3 false = true) (l4 : listed.getD 4 false = true) (l7 : listed.getD 7 false = true) (l9 : listed.getD 9 false = true) (l11 : listed.getD 11 false = true) (l13 : listed.getD 13 false = true) (l17 : listed.getD 17 false = true) (l21 : listed.getD 21 false = true) (l24 : listed.getD 24 false = true) (l28 : listed.getD 28 false = true) (l32 : listed.getD 32 false = true) (l34 : listed.getD 34 false = true) (l36 : listed.getD 36 false = true) : OpOk w0 gA gR gS listed 37 o := by
  intro ρ w hc h2 hk b
  obtain ⟨A0, B0, C0, a0, b0, c0, d0, e0, f0, h0, r0⟩ : Kd.ok (.rep (moreR 0)) (ρ (.tmp 15)) w := hk 0 (by omega) l0
  obtain ⟨A1, B1, C1, a1, b1, c1, d1, e1, f1, h1, r1⟩ : Kd.ok (.rep (moreR 1)) (ρ (.tmp 16)) w := hk 1 (by omega) l1
  obtain ⟨A2, B2, C2, a2, b2, c2, d2, e2, f2, h2, r2⟩ : Kd.ok (.rep (moreR 2)) (ρ (.tmp 17)) w := hk 2 (by omega) l2
  obtain ⟨A3, B3, C3, a3, b3, c3, d3, e3, f3, h3, r3⟩ : Kd.ok (.rep (moreR 3)) (ρ (.tmp 18)) w := hk 3 (by omega) l3
  obtain ⟨A4, B4, C4, a4, b4, c4, d4, e4, f4, h4, r4⟩ : Kd.ok (.rep (moreR 4)) (ρ (.tmp 19)) w := hk 4 (by omega) l4
  obtain ⟨A5, B5, C5, a5, b5, c5, d5, e5, f5, h5, r5⟩ : Kd.ok (.rep (moreR 5)) (ρ (.tmp 22)) w := hk 7 (by omega) l7
  obtain ⟨A6, B6, C6, a6, b6, c6, d6, e6, f6, h6, r6⟩ : Kd.ok (.rep (moreR 6)) (ρ (.tmp 24)) w := hk 9 (by omega) l9
  obtain ⟨A7, B7, C7, a7, b7, c7, d7, e7, f7, h7, r7⟩ : Kd.ok (.rep (moreR 7)) (ρ (.tmp 26)) w := hk 11 (by omega) l11
  obtain ⟨A8, B8, C8, a8, b8, c8, d8, e8, f8, h8, r8⟩ : Kd.ok (.rep (moreR 8)) (ρ (.tmp 28)) w := hk 13 (by omega) l13
  obtain ⟨A9, B9, C9, a9, b9, c9, d9, e9, f9, h9, r9⟩ : Kd.ok (.rep (moreR 9)) (ρ (.tmp 32)) w := hk 17 (by omega) l17
  obtain ⟨A10, B10, C10, a10, b10, c10, d10, e10, f10, h10, r10⟩ : Kd.ok (.rep (moreR 10)) (ρ (.tmp 36)) w := hk 21 (by omega) l21
  obtain ⟨A11, B11, C11, a11, b11, c11, d11, e11, f11, h11, r11⟩ : Kd.ok (.rep (moreR 11)) (ρ (.tmp 39)) w := hk 24 (by omega) l24
  obtain ⟨A12, B12, C12, a12, b12, c12, d12, e12, f12, h12, r12⟩ : Kd.ok (.rep (moreR 12)) (ρ (.tmp 43)) w := hk 28 (by omega) l28
  obtain ⟨A13, B13, C13, a13, b13, c13, d13, e13, f13, h13, r13⟩ : Kd.ok (.rep (moreR 13)) (ρ (.tmp 47)) w := hk 32 (by omega) l32
  obtain ⟨A14, B14, C14, a14, b14, c14, d14, e14, f14, h14, r14⟩ : Kd.ok (.rep (moreR 14)) (ρ (.tmp 49)) w := hk 34 (by omega) l34
  obtain ⟨A15, B15, C15, a15, b15, c15, d15, e15, f15, h15, r15⟩ : Kd.ok (.rep (moreR 15)) (ρ (.tmp 51)) w := hk 36 (by omega) l36
  refine ⟨_, _, m_all ρ w o (moreR 0).x (moreR 1).x (moreR 2).x (moreR 3).x (moreR 4).x (moreR 5).x (moreR 6).x (moreR 7).x (moreR 8).x (moreR 9).x (moreR 10).x (moreR 11).x (moreR 12).x (moreR 13).x (moreR 14).x (moreR 15).x A0 B0 C0 a0 b0 c0 d0 e0 f0 A1 B1 C1 a1 b1 c1 d1 e1 f1 A2 B2 C2 a2 b2 c2 d2 e2 f2 A3 B3 C3 a3 b3 c3 d3 e3 f3 A4 B4 C4 a4 b4 c4 d4 e4 f4 A5 B5 C5 a5 b5 c5 d5 e5 f5 A6 B6 C6 a6 b6 c6 d6 e6 f6 A7 B7 C7 a7 b7 c7 d7 e7 f7 A8 B8 C8 a8 b8 c8 d8 e8 f8 A9 B9 C9 a9 b9 c9 d9 e9 f9 A10 B10 C10 a10 b10 c10 d10 e10 f10 A11 B11 C11 a11 b11 c11 d11 e11 f11 A12 B12 C12 a12 b12 c12 d12 e12 f12 A13 B13 C13 a13 b13 c13 d13 e13 f13 A14 B14 C14 a14 b14 c14 d14 e14 f14 A15 B15 C15 a15 b15 c15 d15 e15 f15 ho h0 h1 h2 h3 h4 h5 h6 h7 h8 h9 h10 h11 h12 h13 h14 h15, bel_alloc _ _, w.heap.size, rfl, _, heap_alloc_new w _, fun k hk2 => ?_⟩
  match k, hk2 with
  | 0, _ => exact ⟨A0, B0, C0, a0, b0, c0, d0, e0, f0, rfl, rfl, rfl, rfl, r0.up (bel_alloc _ _)⟩
  | 1, _ => exact ⟨A1, B1, C1, a1, b1, c1, d1, e1, f1, rfl, rfl, rfl, rfl, r1.up (bel_alloc _ _)⟩
  | 2, _ => exact ⟨A2, B2, C2, a2, b2, c2, d2, e2, f2, rfl, rfl, rfl, rfl, r2.up (bel_alloc _ _)⟩
  | 3, _ => exact ⟨A3, B3, C3, a3, b3, c3, d3, e3, f3, rfl, rfl, rfl, rfl, r3.up (bel_alloc _ _)⟩
  | 4, _ => exact ⟨A4, B4, C4, a4, b4, c4, d4, e4, f4, rfl, rfl, rfl, rfl, r4.up (bel_alloc _ _)⟩
  | 5, _ => exact ⟨A5, B5, C5, a5, b5, c5, d5, e5, f5, rfl, rfl, rfl, rfl, r5.up (bel_alloc _ _)⟩
  | 6, _ => exact ⟨A6, B6, C6, a6, b6, c6, d6, e6, f6, rfl, rfl, rfl, rfl, r6.up (bel_alloc _ _)⟩
  | 7, _ => exact ⟨A7, B7, C7, a7, b7, c7, d7, e7, f7, rfl, rfl, rfl, rfl, r7.up (bel_alloc _ _)⟩
  | 8, _ => exact ⟨A8, B8, C8, a8, b8, c8, d8, e8, f8, rfl, rfl, rfl, rfl, r8.up (bel_alloc _ _)⟩
  | 9, _ => exact ⟨A9, B9, C9, a9, b9, c9, d9, e9, f9, rfl, rfl, rfl, rfl, r9.up (bel_alloc _ _)⟩
  | 10, _ => exact ⟨A10, B10, C10, a10, b10, c10, d10, e10, f10, rfl, rfl, rfl, rfl, r10.up (bel_alloc _ _)⟩
  | 11, _ => exact ⟨A11, B11, C11, a11, b11, c11, d11, e11, f11, rfl, rfl, rfl, rfl, r11.up (bel_alloc _ _)⟩
  | 12, _ => exact ⟨A12, B12, C12, a12, b12, c12, d12, e12, f12, rfl, rfl, rfl, rfl, r12.up (bel_alloc _ _)⟩
  | 13, _ => exact ⟨A13, B13, C13, a13, b13, c13, d13, e13, f13, rfl, rfl, rfl, rfl, r13.up (bel_alloc _ _)⟩
  | 14, _ => exact ⟨A14, B14, C14, a14, b14, c14, d14, e14, f14, rfl, rfl, rfl, rfl, r14.up (bel_alloc _ _)⟩
  | 15, _ => exact ⟨A15, B15, C15, a15, b15, c15, d15, e15, f15, rfl, rfl, rfl, rfl, r15.up (bel_alloc _ _)⟩
  | k + 16, hk3 => omega
theorem k_38 (ho : o.op = .assign (.tmp 52)) (l37 : listed.getD 37 false = true) : OpOk w0 gA gR gS listed 38 o := by
  intro ρ w hc h2 hk b
  have e : Kd.ok .all (ρ (.tmp 52)) w := hk 37 (by omega) l37
  exact ⟨_, _, a_tmp ρ w o 52 _ ho rfl, Below.refl _ _, e⟩
end
end Go.Proofs.YtobhllcnljggiaaGreat
