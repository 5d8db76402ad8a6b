/-
  Lists of frames: one list behind another, and lists that are the same.
-/
import Derived.Test.YtmbjcmagadekpaaTcKit
import Derived.Test.YtmbjcmagadekpaaFrSame
import Derived.Deep.RegionHeld3
import Derived.BigFrame
namespace Go.Proofs.Ytmbjcmagadekpaa
open Go.RowKit
set_option linter.unusedVariables false

/-- The slice v owns the frames fs: its row lies from br on, the PDUs from bp on. -/
def TOwnR (w : World) (br bp : Nat) (v : Value) (fs : List Tc) : Prop :=
  ∃ L : List (Tc × Value), L.map Prod.fst = fs ∧ w.ownsRow br 57 3 v L.length (tcells L) ∧ ∀ p ∈ L, KOwn .u8 5 w bp p.2 p.1.l ∧ ∃ A n c, p.2 = .slice A n c
theorem TOwn.toR {w : World} {base : Nat} {v : Value} {fs : List Tc} (h : TOwn w base v fs) : TOwnR w base base v fs := h
theorem TOwnR.below {w w' : World} {br bp B : Nat} {v : Value} {fs : List Tc} (h : TOwnR w br bp v fs) (hb : Below B w w') (hB : w.heap.size ≤ B) : TOwnR w' br bp v fs := by
  obtain ⟨L, h1, h2, h3⟩ := h
  exact ⟨L, h1, ownsRow_below h2 hb hB, fun p hp => ⟨(h3 p hp).1.below hb hB, (h3 p hp).2⟩⟩
theorem TOwnR.block {w : World} {br bp : Nat} {v : Value} {fs : List Tc} (h : TOwnR w br bp v fs) : ∀ g, v.ownBlock = some g → br ≤ g ∧ g < w.heap.size := by
  obtain ⟨L, h1, h2, h3⟩ := h
  exact World.ownsRow.lt h2
theorem TOwnR.mono {w : World} {br bp br' bp' : Nat} {v : Value} {fs : List Tc} (h : TOwnR w br bp v fs) (hb : br' ≤ br) (hp' : bp' ≤ bp) : TOwnR w br' bp' v fs := by
  obtain ⟨L, h1, h2, h3⟩ := h
  refine ⟨L, h1, ⟨h2.1, ?_⟩, fun p hp => ⟨(h3 p hp).1.mono hp', (h3 p hp).2⟩⟩
  rcases h2.2 with h0 | ⟨g, cap, cur, hv, h4, r⟩
  · exact .inl h0
  · exact .inr ⟨g, cap, cur, hv, by omega, r⟩
/-- Another list of frames grows: this one stays. -/
theorem TOwnR.kept {w w' : World} {br bp br' bp' : Nat} {v u : Value} {fs gs : List Tc} (h : TOwnR w br bp v fs) (h' : TOwnR w br' bp' u gs) (hg : w.grownBy w' u.ownBlock) (hne : ∀ g, v.ownBlock = some g → u.ownBlock ≠ some g) : TOwnR w' br bp v fs := by
  obtain ⟨L, h1, h2, h3⟩ := h
  obtain ⟨L', _, h2', _⟩ := h'
  refine ⟨L, h1, h2.kept hg ?_, fun p hp => ⟨(h3 p hp).1.kept hg (pdu_far h2' (h3 p hp).1), (h3 p hp).2⟩⟩
  cases hv : v.ownBlock with
  | none => exact .inl rfl
  | some g => exact .inr (fun e => hne g hv e.symm)
theorem TOwnR.made (w : World) (bp : Nat) : TOwnR (w.alloc (.cells #[] 57)) w.heap.size bp (.slice (some ⟨w.heap.size, 0, none⟩) 0 0) [] :=
  ⟨[], rfl, World.ownsRow_made w #[] 0 (Nat.le_refl _) (Nat.zero_le _) rfl, fun p hp => by cases hp⟩
theorem TOwnR.at_ {w : World} {br bp : Nat} {v : Value} {fs : List Tc} (h : TOwnR w br bp v fs) {i : Nat} (hi : i < fs.length) :
    ∃ g c A cc, v = .slice (some ⟨g, 0, none⟩) fs.length c ∧ g < w.heap.size ∧ fs.length ≤ c ∧ w.cell? ⟨g, i * 3, none⟩ = some (.int .u16 fs[i].id) ∧ w.cell? ⟨g, i * 3 + 1, none⟩ = some (.int .u8 fs[i].u) ∧ w.cell? ⟨g, i * 3 + 2, none⟩ = some (.slice A fs[i].l.length cc) ∧ KOwn .u8 5 w bp (.slice A fs[i].l.length cc) fs[i].l := by
  obtain ⟨L, rfl, h2, h3⟩ := h
  rw [List.length_map] at hi ⊢
  rcases h2.2 with ⟨rfl, h0⟩ | ⟨g, cap, cur, rfl, hb, hg, h4, h5, h6, h7⟩
  · omega
  · obtain ⟨k, A, m, cc, hs⟩ := h3 _ (List.getElem_mem hi)
    have hcell : ∀ j, j < 3 → w.cell? ⟨g, i * 3 + j, none⟩ = (tcell L[i])[j]? := by
      intro j hj
      rw [cell_of_row w g _ cur _ _ hg, ← tcells_at L i j hi hj, ← h7, List.getElem?_take_of_lt (by omega), Array.getElem?_toList]
    have c0 := hcell 0 (by omega)
    have c1 := hcell 1 (by omega)
    have c2 := hcell 2 (by omega)
    rw [hs] at k
    have hm : m = L[i].1.l.length := by
      rcases k with ⟨e1, e2⟩ | ⟨g9, n9, cap9, r9, e1, _, e2, _⟩
      · injection e1 with _ e1 _; rw [e2, e1]; rfl
      · injection e1 with _ e1 _; rw [e1, e2]
    subst hm
    refine ⟨g, cap, A, cc, rfl, block_lt hg, h4, ?_, ?_, ?_, ?_⟩
    · rw [Nat.add_zero] at c0; rw [c0]; simp [tcell]
    · rw [c1]; simp [tcell]
    · rw [c2]; simp [tcell, hs]
    · simpa using k
theorem TOwnR.len {w : World} {br bp : Nat} {v : Value} {fs : List Tc} (h : TOwnR w br bp v fs) : ∃ A c, v = .slice A fs.length c ∧ fs.length ≤ c := by
  obtain ⟨L, rfl, h2, h3⟩ := h
  rw [List.length_map]
  rcases h2.2 with ⟨rfl, h0⟩ | ⟨g, cap, cur, rfl, _, _, h4, _⟩
  · rw [h0]; exact ⟨none, 0, rfl, Nat.le_refl _⟩
  · exact ⟨_, cap, rfl, h4⟩

section
variable {P : Program}
theorem run_append_none3 (w : World) (t ty e : TypeId) (i : TypeInfo) (ht : P.underlying t = some (.slice e)) (hi : P.info? e = some i)
    (base : Nat) (v : Value) (n : Nat) (xs : List Value) (hown : w.ownsRow base e 3 v n xs) (c : Nat) : (Builtin.append_ #[t, t] ty #[v, .slice none 0 c]).run P w = .ok v w := by
  rcases hown.2 with ⟨rfl, rfl⟩ | ⟨g, cap, cur, rfl, _, _, hnc, _⟩
  · simp [Builtin.append_, run_underlying ht, sizeOf, typeInfo, hi, Builtin.lenOf, Builtin.firstCells]
  · simp [Builtin.append_, run_underlying ht, sizeOf, typeInfo, hi, Builtin.lenOf, Builtin.firstCells, hnc, storeCells]
/-- 'append(v, u...)' of a list of frames. -/
theorem wpList_append_tcps {ops : Array Oper} {rest : List Oper} {o : Oper} {a : Act} {Q : Exit → Act → World → Prop} (w : World) (s x : Operand) (t : TypeId)
    (ho : o.op = .call { callee := .builtin .append, args := #[s, x], argTypes := #[t, t] }) (hw : Region.wanted o (yielded ops a.tmps) = true) (br bp bu : Nat) (ht : P.underlying t = some (.slice 57)) (hi : (P.info? 57).map (fun i => (i.zero, i.size, i.bytes)) = some (some (.agg #[.int .u16 0, .int .u8 0, .slice none 0 0]), 3, 32))
    (v u : Value) (fs gs : List Tc) (hs : a.eval s = v) (hown : TOwnR w br bp v fs) (hx : a.eval x = u) (hu : TOwnR w bu bp u gs) (hb : fs.length + gs.length ≤ 4000000000000) (hbase : br ≤ w.heap.size)
    (h : ∀ v' w', TOwnR w' br bp v' (fs ++ gs) → w.grownBy w' v.ownBlock → wpList P ops Q rest (a.put o.dst v') w') : wpList P ops Q (o :: rest) a w := by
  obtain ⟨i, hi1, hz, hsz, hby⟩ := info_parts hi
  obtain ⟨L, rfl, h2, h3⟩ := hown
  obtain ⟨M, rfl, k2, k3⟩ := hu
  simp only [List.length_map] at hb
  rcases k2.2 with ⟨rfl, h0⟩ | ⟨g, cap, cur, rfl, _, hg, h4, h5, h6, h7⟩
  · have hM : M = [] := List.eq_nil_of_length_eq_zero h0
    subst hM
    refine BigFrame.wpList_want hw fun K hK => ?_
    have hrun := run_append_none3 (P := P) w t o.type 57 i ht hi1 br v L.length (tcells L) h2 0
    unfold Oper.wp
    simp [execOp, ho, resolve, invoke, builtin, hs, hx, hrun, Result.andThen]
    exact hK _ _ (h v w (by rw [List.map_nil, List.append_nil]; exact ⟨L, rfl, h2, h3⟩) (World.grownBy.refl _ _))
  · refine BigFrame.wpList_want hw fun K hK => wp_append_own (w := w) s x t ho br 57 i _ 3 32 ht hi1 hz hsz hby rfl (by omega) v L.length (tcells L) hs h2 ⟨g, 0, none⟩ M.length cap (tcells M) hx (tcells_length M) (fun j z hj => ?_) (fun z hz => ?_) (by simp only [maxLen]; omega) (by omega) hbase fun v' w' h8 h9 _ => hK _ _ (h v' w' ?_ h9)
    · rw [Go.WideShapes.add_plain, Nat.zero_add, cell_of_row w g _ cur _ _ hg]
      rw [← h7] at hj
      rw [← Array.getElem?_toList]
      by_cases hlt : j < M.length * 3
      · rwa [List.getElem?_take_of_lt hlt] at hj
      · rw [List.getElem?_eq_none (by rw [List.length_take]; omega)] at hj; cases hj
    · have : ∀ N : List (Tc × Value), (∀ p ∈ N, ∃ A n c, p.2 = Value.slice A n c) → ∀ z ∈ tcells N, z.oneCell' = true := by
        intro N
        induction N with
        | nil => intro _ z hz; cases hz
        | cons p N ih =>
          intro hN z hz
          rw [tcells] at hz
          rcases List.mem_append.1 hz with hz | hz
          · obtain ⟨A, n, c, e⟩ := hN p (by simp)
            simp only [tcell, List.mem_cons, List.not_mem_nil, or_false] at hz
            rcases hz with rfl | rfl | rfl
            · rfl
            · rfl
            · rw [e]; rfl
          · exact ih (fun q hq => hN q (by simp [hq])) z hz
      exact this M (fun p hp => (k3 p hp).2) z hz
    · refine ⟨L ++ M, by simp, ?_, fun p hp => ?_⟩
      · rw [tcells_append, List.length_append]; exact h8
      · rcases List.mem_append.1 hp with hp | hp
        · exact ⟨(h3 p hp).1.kept h9 (pdu_far h2 (h3 p hp).1), (h3 p hp).2⟩
        · exact ⟨(k3 p hp).1.kept h9 (pdu_far h2 (k3 p hp).1), (k3 p hp).2⟩
end

set_option maxHeartbeats 2000000 in
set_option maxRecDepth 100000 in
theorem sameAll_yes (v u : Value) (br bp br' bp' : Nat) (fs : List Tc) (w : World) (h : TOwnR w br bp v fs) (h' : TOwnR w br' bp' u fs) (hf : ∀ f ∈ fs, f.Wf ∧ f.l.length ≤ 253) (hb : fs.length ≤ 4000000000000) :
    Calls Try.prog 42 #[v, u] w fun e w' => e = .returned (.bool true) ∧ Below w.heap.size w w' := by
  obtain ⟨A, c, rfl, hc⟩ := h.len
  obtain ⟨A', c', rfl, hc'⟩ := h'.len
  obtain ⟨n, hn⟩ : ∃ n, fs.length = n := ⟨_, rfl⟩
  have HN := Lib.hid hn
  have H := Lib.hid h
  have H' := Lib.hid h'
  rw [hn] at hc hc' hb ⊢
  clear hn h h'
  go_enter Try.func42, Try.ntmps42
  go_wp2
  go_loopw [5] (fun i wr => ∃ k : Nat, k ≤ n ∧ i = .int .i64 k ∧ Below w.heap.size w wr) (fun i _ => n - (intOf i).toNat)
  case atStart => exact ⟨0, by omega, rfl, Below.refl _ _⟩
  case round =>
    obtain ⟨k, hk, rfl, bel⟩ := hrel
    by_cases hlt : k < n
    · have hkf : k < fs.length := by have := HN.out; omega
      obtain ⟨g, c2, A1, m1, e1, hg1, _, x0, x1, x2, kk⟩ := (H.out.below bel (Nat.le_refl _)).at_ hkf
      obtain ⟨g', c2', A1', m1', e1', hg1', _, y0, y1, y2, kk'⟩ := (H'.out.below bel (Nat.le_refl _)).at_ hkf
      injection e1 with ea eb ec
      injection e1' with ea' eb' ec'
      subst ea ea' ec ec'
      have hw := hf _ (List.getElem_mem hkf)
      obtain ⟨⟨id, ut, l⟩, hfk⟩ : ∃ f, fs[k] = f := ⟨_, rfl⟩
      rw [hfk] at x0 x1 x2 y0 y1 y2 kk kk' hw
      simp only at x0 x1 x2 y0 y1 y2 kk kk' hw
      obtain ⟨B1, d1, ev, r1, _, _⟩ := kk.row hw.1.l
      injection ev with ev1 ev2 ev3
      subst ev1 ev3
      obtain ⟨B1', d1', ev', r1', _, _⟩ := kk'.row hw.1.l
      injection ev' with ev1' ev2' ev3'
      subst ev1' ev3'
      have R1 := Lib.hid r1
      have R1' := Lib.hid r1'
      have hl := hw.2
      have hkc : (k : Int) < (n : Int) := by omega
      clear hfk eb eb' ev2 ev2' kk kk' r1 r1' hw
      have HCELL : Hid (∀ W, Below wr.heap.size wr W → Below wr.heap.size wr W ∧ W.cell? ⟨g, k * 3, none⟩ = some (.int .u16 id) ∧ W.cell? ⟨g, k * 3 + 1, none⟩ = some (.int .u8 ut) ∧ W.cell? ⟨g, k * 3 + 2, none⟩ = some (.slice A1 l.length m1) ∧ W.cell? ⟨g', k * 3, none⟩ = some (.int .u16 id) ∧ W.cell? ⟨g', k * 3 + 1, none⟩ = some (.int .u8 ut) ∧ W.cell? ⟨g', k * 3 + 2, none⟩ = some (.slice A1' l.length m1')) :=
        Lib.hid (fun W hW => ⟨hW, (hW.cell (p := ⟨g, k * 3, none⟩) hg1).trans x0, (hW.cell (p := ⟨g, k * 3 + 1, none⟩) hg1).trans x1, (hW.cell (p := ⟨g, k * 3 + 2, none⟩) hg1).trans x2, (hW.cell (p := ⟨g', k * 3, none⟩) hg1').trans y0, (hW.cell (p := ⟨g', k * 3 + 1, none⟩) hg1').trans y1, (hW.cell (p := ⟨g', k * 3 + 2, none⟩) hg1').trans y2⟩)
      have bd := below_drew (Below.refl wr.heap.size wr)
      clear x0 x1 x2 y0 y1 y2
      go_wp2_with fail
      go_region_held3 (fun w' => Below wr.heap.size wr w' ∧ w'.cell? ⟨g, k * 3, none⟩ = some (.int .u16 id) ∧ w'.cell? ⟨g, k * 3 + 1, none⟩ = some (.int .u8 ut) ∧ w'.cell? ⟨g, k * 3 + 2, none⟩ = some (.slice A1 l.length m1) ∧ w'.cell? ⟨g', k * 3, none⟩ = some (.int .u16 id) ∧ w'.cell? ⟨g', k * 3 + 1, none⟩ = some (.int .u8 ut) ∧ w'.cell? ⟨g', k * 3 + 2, none⟩ = some (.slice A1' l.length m1'))
        ((refine HCELL.out _ ?_
          first
          | exact bd
          | exact b5))
        ((go_at_call 41; refine (same5_yes id ut l A1 A1' l.length m1 m1' _ wr.heap.size wr.heap.size (R1.out.below bd) (R1'.out.below bd) rfl (by omega) bd.size bd.size).mono ?_; rintro e w5 ⟨rfl, b4⟩; have b5 : Below wr.heap.size wr w5 := bd.trans (b4.mono bd.size)))
      go_wp2
      go_roundw
      case rel => exact ⟨k + 1, by omega, by go_num, bel.trans (b5.mono bel.size)⟩
      case measure => simp [intOf]; omega
    · go_wp2
      go_ret
      exact ⟨rfl, bel⟩
end Go.Proofs.Ytmbjcmagadekpaa
