/-
  The walk of FramePieces.
-/
import Derived.Test.YtmbjcmagadekpaaFrSplit
import Derived.Test.YtmbjcmagadekpaaTcKit2
import Derived.Test.YtmbjcmagadekpaaFrKnown
import Derived.Test.YtmbjcmagadekpaaPick
namespace Go.Proofs.Ytmbjcmagadekpaa
open Go.RowKit
set_option linter.unusedVariables false

theorem Spl.small {b : List Int} {l : List Tc} {n : Nat} {e : Int} (h : Spl b l n e) (hb : ∀ x ∈ b, (Lit.int .u8 x).wf = true) : ∀ f ∈ l, f.Wf ∧ f.l.length ≤ 253 :=
  fun f hf => ⟨h.wf hb f hf, (frChk_le (h.chk hb f hf)).2⟩
theorem Row.dropMap {k : IntKind} {w : World} {B : Nat} {A : Option Addr} {xs : List Int} (h : Row k w B A xs) (i : Nat) : Row k w B (A.map fun x => x.add i) (xs.drop i) := by
  rcases Nat.lt_or_ge i xs.length with hl | hl
  · obtain ⟨b, o, rfl, _, _⟩ := h.at_ (i := 0) (by omega)
    have h2 := h.drop i
    rw [Option.map_some, Go.WideShapes.add_plain]
    exact h2
  · rw [List.drop_eq_nil_of_le hl]; exact Row.nil _ _ _ _
theorem far_new {w : World} {br bp : Nat} {v : Value} {fs : List Tc} (h : TOwnR w br bp v fs) (n c : Nat) : ∀ g, v.ownBlock = some g → (Value.slice (some ⟨w.heap.size, 0, none⟩) n c).ownBlock ≠ some g := by
  intro g hg e
  have h1 := (h.block g hg).2
  have e : some w.heap.size = some g := e
  injection e with e
  omega
theorem frAll_take_le (fs : List Tc) (i : Nat) : (frAll (fs.take i)).length ≤ (frAll fs).length := by
  have h : frAll fs = frAll (fs.take i) ++ frAll (fs.drop i) := by rw [← frAll_append, List.take_append_drop]
  rw [h, List.length_append]; omega
theorem frPut_le (f : Tc) : (frPut f).length ≤ 300 := by
  unfold frPut
  split
  · rename_i h
    have := frChk_le h
    rw [List.length_append, frHead_length]; omega
  · simp
theorem frAll_wf {fs : List Tc} (h : ∀ f ∈ fs, f.Wf) : ∀ x ∈ frAll fs, (Lit.int .u8 x).wf = true := by
  induction fs with
  | nil => intro x hx; cases hx
  | cons f l ih =>
    rw [frAll]
    exact wf_append (frPut_wf (h f (by simp))) (ih (fun g hg => h g (by simp [hg])))
theorem frAll_step (fs : List Tc) (i : Nat) (h : i < fs.length) : frAll (fs.take (i + 1)) = frAll (fs.take i) ++ frPut fs[i] := by
  rw [List.take_succ_eq_append_getElem h, frAll_append, frAll, frAll, List.append_nil]
set_option maxHeartbeats 4000000 in
set_option maxRecDepth 100000 in
theorem walk_FramePieces (a0 : Option Addr) (l0 c0 : Nat) (x0 : List Int) (a1 : Int) (w : World) (w0 : Row .u8 w w.heap.size a0 x0) (n0 : x0.length = l0) (s0 : l0 ≤ c0) (m0 : c0 ≤ 140737488351232) (w1 : (Lit.int .i64 a1).wf = true) :
    Calls Try.prog 10 #[.slice a0 l0 c0, .int .i64 a1] w fun e w' => e = .returned (.bool true) ∧ Below w.heap.size w w' := by
  have HN := Lib.hid n0
  have W0 := Lib.hid w0
  have hwf := Lib.hid w0.1
  clear n0 w0
  by_cases hbig : 16384 < l0
  · have t : (16384 : Int) < (l0 : Int) := by omega
    clear hbig
    go_enter Try.func10, Try.ntmps10
    go_wp2_with fail
    refine (known5_yes _).mono ?_
    rintro e w5 ⟨rfl, b5⟩
    go_wp2
    go_ret
    exact ⟨rfl, b5⟩
  have hl0 : l0 ≤ 16384 := by omega
  clear hbig
  go_enter Try.func10, Try.ntmps10
  go_wp2_with fail
  refine (split_any a0 l0 c0 x0 _ W0.out HN.out s0 (by omega)).mono ?_
  rintro e w2 ⟨fs, n, E, v2, spl, rfl, own2, b2⟩
  have SPL := Lib.hid spl
  have hnl : n ≤ l0 := by have := spl.le.1; have := HN.out; omega
  have hfl : 8 * fs.length ≤ n := spl.le.2
  clear spl
  obtain ⟨A2, c2, rfl, hc2⟩ := own2.len
  go_wp2_with fail
  rw [show ((l0 : Int) + 1) = ((l0 + 1 : Nat) : Int) by omega]
  refine (Pick_any a1 (l0 + 1) _ (by omega) (by omega)).mono ?_
  rintro e w3 ⟨rfl, rfl⟩
  obtain ⟨k, hk⟩ : ∃ k, Hid (pick a1 (l0 + 1) = k) := ⟨_, Lib.hid rfl⟩
  have hkl : k ≤ l0 := by have := pick_lt a1 (l0 + 1) (by omega); rw [hk.out] at this; omega
  rw [hk.out]
  have HTK : Hid ((x0.take k).length = k) := Lib.hid (by rw [List.length_take, HN.out]; omega)
  have i1 : (k : Int) ≤ (c0 : Int) := by omega
  go_wp2_with fail
  refine (split_any a0 k c0 (x0.take k) _ (((W0.out.front k).below b2).more b2.size) HTK.out (by omega) (by omega)).mono ?_
  rintro e w4 ⟨one, at_, F, v4, spl1, rfl, own4, b4⟩
  have own2' := Lib.hid (own2.below b4 (Nat.le_refl _))
  have bel4 := b2.trans (b4.mono b2.size)
  have own4' := Lib.hid (own4.mono b2.size)
  have SP1 := Lib.hid spl1
  have hak : at_ ≤ k := by have := spl1.le.1; have := HTK.out; omega
  have hol : 8 * one.length ≤ at_ := spl1.le.2
  obtain ⟨hp0, hp1⟩ := spl1.piece x0 k rfl
  have hF := spl1.err
  clear own2 own4 b2 b4 spl1
  by_cases hF0 : F = 0
  · subst hF0
    have PRE := Lib.hid (hp0 rfl)
    obtain ⟨l9, n9, e9, s9⟩ := Spl.some (x0.drop at_)
    have han : at_ ≤ n := by have := (PRE.out.2 _ _ _ s9).one SPL.out; omega
    clear hp0 hp1 hF l9 n9 e9 s9
    obtain ⟨A4, c4, rfl, hc4⟩ := own4'.out.len
    have j1 : ¬ (k : Int) < (at_ : Int) := by omega
    have j2 : ¬ (n : Int) < (at_ : Int) := by omega
    have j3 : ¬ (l0 : Int) < (n : Int) := by omega
    have j4 : (at_ : Int) ≤ (l0 : Int) := by omega
    have j5 : (l0 : Int) ≤ (c0 : Int) := by omega
    have hrow1 : Hid (∀ W, Below w.heap.size w W → Row .u8 W W.heap.size (Option.map (fun x => x.add at_) a0) (x0.drop at_)) := Lib.hid (fun W hW => ((W0.out.dropMap at_).below hW).more hW.size)
    have hrow2 : Hid (l0 ≤ at_ → ∀ W A, Row .u8 W W.heap.size A (x0.drop at_)) := Lib.hid (fun h W A => by rw [List.drop_eq_nil_of_le (by have := HN.out; omega)]; exact Row.nil _ _ _ _)
    have HDL : Hid ((x0.drop at_).length = l0 - at_) := Lib.hid (by rw [List.length_drop, HN.out])
    by_cases hac : c0 = at_
    all_goals
      go_wp2_with fail
      refine (split_any _ (l0 - at_) _ (x0.drop at_) _ (by first | exact hrow1.out _ bel4 | exact hrow2.out (by omega) _ _) HDL.out (by omega) (by omega)).mono ?_
      rintro e w5 ⟨two, more, G, v5, spl2, rfl, own5, b5⟩
      obtain ⟨h1, h2, h3⟩ := (PRE.out.2 _ _ _ spl2).one SPL.out
      have HFS := Lib.hid h1
      have HNN := Lib.hid h2
      have htl : 8 * two.length ≤ more := spl2.le.2
      subst h3
      have bel5 := bel4.trans (b5.mono bel4.size)
      have o2 := Lib.hid ((own2'.out.below b5 (Nat.le_refl _)).toR)
      have o4 := Lib.hid ((own4'.out.below b5 (Nat.le_refl _)).toR)
      have o5 := Lib.hid ((own5.mono bel4.size).toR)
      have tn : ((at_ : Int) + (more : Int) != (n : Int)) = false := by simp; omega
      have tg : (G != G) = false := by simp
      have hnn : at_ + more = n := h2
      clear own2' own4' own5 b5 h1 h2 spl2 bel4 hrow1 hrow2
      have om := Lib.hid (TOwnR.made w5 w.heap.size)
      have ba := bel_alloc w5 (.cells #[] 57)
      have o4a := Lib.hid (o4.out.below ba (Nat.le_refl _))
      have f2 := Lib.hid (far_new o2.out 0 0)
      have f5 := Lib.hid (far_new o5.out 0 0)
      have hz5 : w.heap.size ≤ w5.heap.size := bel5.size
      have hone1 : one.length ≤ 16384 := by omega
      have htwo1 : two.length ≤ 16384 := by omega
      go_wp2_with (first
        | (at_builtin; refine wpList_append_tcps _ (.tmp 97) (.tmp 98) 61 rfl (by first | rfl | simp [Region.wanted, yielded]) w5.heap.size w.heap.size _ Try.underlying61 info_tcp _ _ [] one rfl om.out rfl o4a.out (by simp; omega) (by simp) ?_; intro v6 w6 o6 g6; have o2b := Lib.hid ((o2.out.below ba (Nat.le_refl _)).kept om.out g6 f2.out); have o5b := Lib.hid ((o5.out.below ba (Nat.le_refl _)).kept om.out g6 f5.out); have hz6 : w5.heap.size ≤ w6.heap.size := (by have := g6.size; simp at this; omega))
        | (at_builtin; refine wpList_append_tcps _ (.tmp 99) (.tmp 100) 61 rfl (by first | rfl | simp [Region.wanted, yielded]) w5.heap.size w.heap.size _ Try.underlying61 info_tcp _ _ ([] ++ one) two rfl o6 rfl o5b.out (by simp; omega) hz6 ?_; intro v7 w7 o7 g7; have o2c := Lib.hid (o2b.out.kept o6 g7 (fun g hg e => by have h1 := (o2.out.block g hg).2; have h2 := (o6.block g e).1; omega)))
        | (go_at_call 42; rw [List.nil_append, HFS.out] at o7; refine (sameAll_yes v7 _ _ _ _ _ fs _ o7 o2c.out (SPL.out.small hwf.out) (by omega)).mono ?_; rintro e w8 ⟨rfl, b8⟩; have o2d := Lib.hid (o2c.out.below b8 (Nat.le_refl _)); have bel8 := Lib.hid ((((bel5.alloc hz5 (.cells #[] 57)).grown g6 (by simp; omega) (fun q e => by have e : some w5.heap.size = some q := e; injection e with e; omega)).grown g7 (by omega) (fun q e => by have := (o6.block q e).1; omega)).trans (b8.mono (by have := g7.size; omega)))))
      have HBK : Hid (frAll fs = x0.take n) := Lib.hid (SPL.out.back hwf.out)
      have HTN : Hid ((x0.take n).length = n) := Lib.hid (by rw [List.length_take, HN.out]; omega)
      have HSM := Lib.hid (SPL.out.small hwf.out)
      have HCK := Lib.hid (SPL.out.chk hwf.out)
      have hfs : fs.length ≤ 16384 := by omega
      have hn16 : n ≤ 16384 := by omega
      have own0 := Own.laid (k := .u8) (base := w8.heap.size) (n := 0) (heap_alloc_new w8 (.cells (blk .u8 []) 5)) (Nat.le_refl _) (show ([] : List Int).length = 0 from rfl) (by simp [maxLen])
      have bz := bel_alloc w8 (.cells (blk .u8 []) 5)
      clear om ba o4a f2 f5 hone1 htwo1 o6 g6 o2b o5b o7 g7 o2c b8 o4 o5 o2 PRE HFS HNN SP1 tn tg htl hol hfl
      go_loopw [15, 16] (fun v q wr => ∃ (i : Nat), i ≤ fs.length ∧ q = .int .i64 i ∧ Own .u8 5 wr w8.heap.size v (frAll (fs.take i)) ∧ Below w8.heap.size w8 wr) (fun _ q _ => fs.length - (intOf q).toNat)
      case atStart => exact ⟨0, by omega, rfl, by rw [List.take_zero]; exact own0, bz⟩
      case round =>
        obtain ⟨i, hi, rfl, ownb, belb⟩ := hrel
        by_cases hlt : i < fs.length
        · obtain ⟨g, c9, A9, d9, e9, hg9, hc9, y0, y1, y2, kk⟩ := (o2d.out.below belb (Nat.le_refl _)).at_ hlt
          injection e9 with ea eb ec
          subst ea ec
          have HST := Lib.hid (frAll_step fs i hlt)
          have hw := HSM.out _ (List.getElem_mem hlt)
          have hck := HCK.out _ (List.getElem_mem hlt)
          have hle1 : (frAll (fs.take i)).length ≤ n := by
            have h1 := frAll_take_le fs i
            rw [HBK.out, HTN.out] at h1
            exact h1
          obtain ⟨⟨id, ut, l⟩, hfk⟩ : ∃ f, fs[i] = f := ⟨_, rfl⟩
          rw [hfk] at y0 y1 y2 kk hw HST hck
          simp only at y0 y1 y2 kk hw hck
          obtain ⟨A8, d8, ev, r1, _, _⟩ := kk.row hw.1.l
          injection ev with ev1 ev2 ev3
          subst ev1 ev3
          have R1 := Lib.hid r1
          have hid := hw.1.id
          have hut := hw.1.u
          have hlt' : (i : Int) < (fs.length : Int) := by omega
          have hic : (fs.length : Int) ≤ (c2 : Int) := by omega
          have HPW := Lib.hid (frPut_wf hw.1)
          have hpl := frPut_le ⟨id, ut, l⟩
          clear hfk eb ev2 kk r1 hw
          go_wp2_with fail
          refine (frPut_any id ut A9 l.length d9 l _ R1.out rfl hid hut).mono ?_
          rintro e wa ⟨va, rfl, owna, b9⟩
          rw [hck]
          have belc := belb.trans (b9.mono belb.size)
          have ownc := Lib.hid (ownb.below b9 (Nat.le_refl _))
          obtain ⟨Aa, ca, hva, ra, _, _⟩ := owna.row HPW.out
          subst hva
          have RA := Lib.hid ra
          have hsa := belc.size
          clear owna ownb b9 belb ra y0 y1 y2 hck
          go_wp2_with (at_builtin; refine wpList_append_row _ rfl _ _ 34 rfl w8.heap.size .u8 5 1 Try.underlying34 info_u8 _ (frAll (fs.take i)) rfl ownc.out _ _ _ ca (frPut ⟨id, ut, l⟩) rfl RA.out rfl (by omega) (by simp only [maxLen]; omega) hsa ?_; intro vb wb ownd gb)
          have beld := Below.own belc hsa ownc.out gb
          rw [← HST.out] at ownd
          clear ownc gb belc
          go_wp2
          go_roundw
          case rel => exact ⟨i + 1, by omega, by go_num, ownd, beld⟩
          case measure => simp [intOf]; omega
        · obtain rfl : i = fs.length := by omega
          rw [List.take_length, HBK.out] at ownb
          have HTW : Hid (∀ x ∈ x0.take n, (Lit.int .u8 x).wf = true) := Lib.hid (fun x hx => hwf.out x (List.mem_of_mem_take hx))
          obtain ⟨Ab, cb, hvb, rb, _, _⟩ := ownb.row HTW.out
          subst hvb
          rw [HTN.out]
          have RB := Lib.hid rb
          have bele := Lib.hid (bel8.out.trans (belb.mono bel8.out.size))
          have RN := Lib.hid ((W0.out.front n).below bele.out)
          have in1 : (n : Int) ≤ (c0 : Int) := by omega
          clear ownb rb belb
          go_wp2_with fail
          refine (same_yes_u8 _ _ _ _ _ (x0.take n) _ _ _ RB.out RN.out HTN.out (by omega)).mono ?_
          rintro e wf' ⟨rfl, mf, rfl⟩
          have belf := below_drewN bele.out mf
          go_wp2_with fail
          refine (known5_yes _).mono ?_
          rintro e wg ⟨rfl, bg⟩
          go_wp2
          go_ret
          exact ⟨rfl, belf.trans (bg.mono belf.size)⟩
  · have SP2 := Lib.hid (hp1 hF0)
    obtain ⟨e1, e2, e3⟩ := SP2.out.one SPL.out
    have hF4 : F = 4 := hF.resolve_left hF0
    subst hF4
    subst e2 e3
    have HOL := Lib.hid e1
    obtain ⟨A4, c4, rfl, hc4⟩ := own4'.out.len
    have j1 : ¬ (k : Int) < (at_ : Int) := by omega
    have j3 : ¬ (l0 : Int) < (at_ : Int) := by omega
    have o4 := Lib.hid own4'.out.toR
    rw [e1] at o4
    have o2 := Lib.hid own2'.out.toR
    have hlen1 : one.length = fs.length := by rw [e1]
    have tt : ((at_ : Int) == (at_ : Int)) = true := by simp
    clear hp0 hp1 hF0 hF SP1 SP2 e1
    go_wp2_with fail
    refine (sameAll_yes _ _ _ _ _ _ fs _ o4.out o2.out (SPL.out.small hwf.out) (by omega)).mono ?_
    rintro e w8 ⟨rfl, b8⟩
    have bel8 := bel4.trans (b8.mono bel4.size)
    go_wp2_with fail
    refine (known5_yes _).mono ?_
    rintro e wg ⟨rfl, bg⟩
    go_wp2
    go_ret
    exact ⟨rfl, bel8.trans (bg.mono bel8.size)⟩
end Go.Proofs.Ytmbjcmagadekpaa
