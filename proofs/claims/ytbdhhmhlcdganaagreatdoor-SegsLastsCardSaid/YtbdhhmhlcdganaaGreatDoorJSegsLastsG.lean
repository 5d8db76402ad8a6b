/-
  Texts of the proof of SegsLasts, joined.
-/
import Derived.Test.YtbdhhmhlcdganaaGreatDoorJSegsLastsF
import Derived.Lib.SmallJoins
import Derived.Deep.RegionHeld3
import Derived.Deep.RegionLaw
import Derived.Deep.RegionHeld
import Derived.Test.YtbdhhmhlcdganaaGreatDoorJSegsLastsB
namespace Go.Proofs.YtbdhhmhlcdganaaGreatDoor
open Go.RowKit
set_option linter.unusedVariables false
set_option maxRecDepth 100000

section
variable {D : DevP} {w w' : World} {G : Nat → Prop} {g q : Nat} {d : Dv} {l : Lg} {Gd Gg : Nat → Prop} {sv gv : Value} {gs : List (List Int)}
theorem LgK.did (Y : DevGl D) (h : LgK D w G g q d l Gd Gg sv gv gs) {d' : Dv} {Gd' : Nat → Prop} (s : Did D Gd g d' w w' Gd') : LgK D w' (fun b => G b ∨ Gd' b) g q d' l Gd' Gg sv gv gs := by
  obtain ⟨s1, s2, s3⟩ := s
  have gl := Y.gl h.dev
  refine ⟨s1, fun b hb => .inr hb, fun b hb => ?_, ⟨.inl h.gq.1, fun e => ?_⟩, (s2.block q (h.lt q h.gq.1) h.gq.2).trans h.box, h.own.frm s2 (fun b hb => (h.sblk b hb).2.1), fun b hb => ?_, h.gone.frm s2 (fun b hb => (h.gsub b hb).2.1), h.gis, fun b hb => ?_, fun b hb => ?_⟩
  · obtain ⟨h1, h2, h3⟩ := h.gsub b hb
    exact ⟨.inl h1, fun e => (s3 b e).elim h2 (fun e => by have := h.lt b h1; omega), h3⟩
  · exact (s3 q e).elim h.gq.2 (fun e => by have := h.lt q h.gq.1; omega)
  · obtain ⟨h1, h2, h3⟩ := h.sblk b hb
    exact ⟨.inl h1, fun e => (s3 b e).elim h2 (fun e => by have := h.lt b h1; omega), h3⟩
  · rcases hb with hb | hb
    · exact Nat.lt_of_lt_of_le (h.lt b hb) s2.size
    · exact Y.lt s1 b hb
  · rcases hb with hb | hb
    · exact h.ngb b hb
    · exact (s3 b hb).elim (fun e => h.ngb b (h.sub b e)) (fun e e2 => by have := gl.lt e2; omega)
theorem LgK.rebox (Y : DevGl D) (h : LgK D w G g q d l Gd Gg sv gv gs) {l' : Lg} {sv' : Value} (hf : Frm (fun b => b = q ∨ sv.ownBlock = some b) w w')
    (box : w'.heap[q]? = some (.cells #[.pointer (some ⟨g, 0, none⟩), .int .i64 (l'.n : Nat), .int .i64 (l'.first : Nat), sv', .int .i64 ((ckAll (lastS l')).length : Nat), .int .i64 (nextG l' : Nat), .int .i64 (l'.safe : Nat), gv] 72 (0, 0)))
    (own : PtOwn 67 w' 0 sv' (segL l'.n l'.first l'.segs)) (hsv : ∀ b, sv'.ownBlock = some b → sv.ownBlock = some b ∨ w.heap.size ≤ b) (gis : gs = (l'.segs.take gs.length).map ckAll) :
    LgK D w' (fun b => G b ∨ sv'.ownBlock = some b) g q d l' Gd Gg sv' gv gs := by
  have gl := Y.gl h.dev
  have gl' : Gl w' := gl.frm hf (fun b hb => by
    rcases hb with rfl | hb
    · exact h.ngb _ h.gq.1
    · exact h.ngb b (h.sblk b hb).1)
  refine ⟨Y.frm h.dev hf (fun b hb e => ?_) gl', fun b hb => .inl (h.sub b hb), fun b hb => ?_, ⟨.inl h.gq.1, h.gq.2⟩, box, own, fun b hb => ⟨.inr hb, fun e => ?_, fun e => ?_⟩, h.gone.frm hf (fun b hb e => ?_), gis, fun b hb => ?_, fun b hb => ?_⟩
  · rcases e with rfl | e
    · exact h.gq.2 hb
    · exact (h.sblk b e).2.1 hb
  · obtain ⟨h1, h2, h3, h4⟩ := h.gsub b hb
    exact ⟨.inl h1, h2, h3, fun e => (hsv b e).elim h4 (fun e => by have := h.lt b h1; omega)⟩
  · exact (hsv b hb).elim (fun e2 => (h.sblk b e2).2.1 e) (fun e2 => by have := h.lt b (h.sub b e); omega)
  · subst e
    exact (hsv _ hb).elim (fun e2 => (h.sblk _ e2).2.2 rfl) (fun e2 => by have := h.lt _ h.gq.1; omega)
  · obtain ⟨h1, h2, h3, h4⟩ := h.gsub b hb
    rcases e with rfl | e
    · exact h3 rfl
    · exact h4 e
  · rcases hb with hb | hb
    · exact Nat.lt_of_lt_of_le (h.lt b hb) hf.size
    · exact (own.block b hb).2
  · rcases hb with hb | hb
    · exact h.ngb b hb
    · exact (hsv b hb).elim (fun e => h.ngb b (h.sblk b e).1) (fun e e2 => by have := gl.lt e2; omega)
theorem LgK.frmG (h : LgK D w G g q d l Gd Gg sv gv gs) (hf : Frm (fun b => b = q ∨ sv.ownBlock = some b) w w') : Frm G w w' := hf.mono (fun b hb => by
  rcases hb with rfl | hb
  · exact h.gq.1
  · exact (h.sblk b hb).1)
theorem LgK.safe (Y : DevGl D) (h : LgK D w G g q d l Gd Gg sv gv gs) (n : Nat) : LgK D (w.setCell ⟨q, 6, none⟩ (.int .i64 (n : Nat))) (fun b => G b ∨ sv.ownBlock = some b) g q d { l with safe := n } Gd Gg sv gv gs := by
  have hf : Frm (fun b => b = q ∨ sv.ownBlock = some b) w (w.setCell ⟨q, 6, none⟩ (.int .i64 (n : Nat))) := Frm.set w q 6 _ (.inl rfl)
  refine h.rebox Y hf ?_ ?_ (fun b hb => .inl hb) h.gis
  · have := Joins.block_setCell (i := 6) h.box (.int .i64 (n : Nat))
    exact this
  · exact h.own.frm (Frm.set (F := fun b => b = q) w q 6 _ rfl) (fun b hb e => (h.sblk b hb).2.2 e)
theorem down14 (Y : DevOkG D) (h : LgK D w G g q d l Gd Gg sv gv gs) (ok : Dv.Ok d) : ∀ W, Below w.heap.size w W → Calls Tryz.prog 33 #[.pointer (some ⟨g, 0, none⟩)] W fun e w' => e = .returned (.bool d.off) ∧ Below w.heap.size w w' ∧ LgK D w' G g q d l Gd Gg sv gv gs := fun W hW => by
  have h2 := h.below Y.dev hW
  refine (Y.down h2.dev ok).mono ?_
  rintro e w' ⟨he, hb⟩
  exact ⟨he, hW.trans (hb.mono hW.size), h2.below Y.dev hb⟩
end
theorem lstp_same {K : LogP} {G : Nat → Prop} {g q : Nat} {d : Dv} {l : Lg} {v : Value} {w w' : World} (h : K w' G g q d l) (hb : Below w.heap.size w w') : LStp K G g q d l v w (.returned v) w' := ⟨rfl, G, h, Frm.of_below hb, fun b hb => .inl hb⟩
set_option maxHeartbeats 1000000 in
theorem sync14 {D : DevP} (Y : DevOkG D) {w : World} {G : Nat → Prop} {g q : Nat} {d d' : Dv} {l l' : Lg} {E : Int} (hk : KLg D w G g q d l) (he : syncG d l = (d', l', E)) : Calls Tryz.prog 30 #[.pointer (some ⟨q, 0, none⟩)] w (LStp (KLg D) G g q d' l' (.int .i64 E) w) := by
  obtain ⟨Gd, Gg, sv, gv, gs, h, ha⟩ := hk
  have HDN := Lib.hid (down14 Y h ha.ok w (Below.refl _ _))
  by_cases hoff : d.off = true
  · have e0 : syncG d l = (d, l, 10) := if_pos hoff
    rw [e0] at he
    injection he with e1 he; injection he with e2 e3
    subst e1 e2 e3
    rw [hoff] at HDN
    have HA := Lib.hid ha
    have c0 := h.cell.1
    clear h e0 hoff ha
    go_enter Tryz.func30, Tryz.ntmps30
    go_wp2_with fail
    refine HDN.out.mono ?_
    rintro e w1 ⟨rfl, b1, h1⟩
    have HQ := Lib.hid (lstp_same (K := KLg D) (v := .int .i64 10) (⟨_, _, _, _, _, h1, HA.out⟩ : KLg D w1 G g q d l) b1)
    clear h1
    go_wp2
    go_ret
    exact HQ.out
  have hoff' : d.off = false := by simpa using hoff
  rw [hoff'] at HDN
  by_cases hs : l.safe = nextG l
  · have e0 : syncG d l = (d, l, 0) := by unfold syncG; rw [if_neg hoff, if_pos hs]
    rw [e0] at he
    injection he with e1 he; injection he with e2 e3
    subst e1 e2 e3
    have HA := Lib.hid ha
    have c0 := h.cell.1
    clear e0 hoff hoff' h ha
    go_enter Tryz.func30, Tryz.ntmps30
    go_wp2_with fail
    refine HDN.out.mono ?_
    rintro e w1 ⟨rfl, b1, h1⟩
    obtain ⟨_, _, _, _, _, c5, c6, _⟩ := h1.cell
    rw [hs] at c6
    have HQ2 : Hid (LStp (KLg D) G g q d l (.int .i64 0) w (.returned (.int .i64 0)) w1.drew) := Lib.hid (lstp_same (K := KLg D) (v := .int .i64 0) (⟨_, _, _, _, _, h1.below Y.dev (below_drew (Below.refl _ _)), HA.out⟩ : KLg D w1.drew G g q d l) (below_drew b1))
    clear h1 hs
    go_wp2
    go_region
    go_wp2
    go_ret
    exact HQ2.out
  obtain ⟨hgs, his⟩ := ha.live hoff'
  have h0 : l.segs ≠ [] := fun h9 => hs (by rw [his.saf.1 h9]; unfold nextG; rw [h9]; simp [cntS])
  obtain ⟨d2, l2, e2, q2, s1, s2, s3, s4, s5, s6, s7, s8, s9, s10⟩ := sync_is his
  rw [he] at q2
  injection q2 with q3 q4; injection q4 with q4 q5
  subst q3 q4 q5
  obtain ⟨ds, es, qs⟩ : ∃ ds es, syncD d (segN (curN l)) = (ds, es) := ⟨_, _, rfl⟩
  have hsg : syncG d l = if es = 0 then (ds, { l with safe := nextG l }, 0) else (ds, l, 10) := by
    unfold syncG
    rw [if_neg hoff, if_neg hs, qs]
  have hlk : lkF d (segN (curN l)) ≠ none := by
    obtain ⟨hk, _, hc, _⟩ := last_at h0
    obtain ⟨y, hy, _⟩ := his.at_ _ hk
    rw [← hc] at hy
    rw [hy]
    simp
  have hcn : curN l < 10 ^ 12 := by
    apply Nat.lt_of_not_le
    intro hb
    exact hlk (long_name his.ok (segN_long hb))
  have hc1 : 1 ≤ curN l := by have := his.lim; unfold curN; omega
  have at1 : SgAt d' l' gs.length := by
    rw [hgs]
    exact s5.sat (by rw [s2]; exact ha.n2) (by rw [s3]; exact ha.fst) (by unfold nextG; rw [s1, s3]; exact ha.nxt)
  have HCU : Hid (∀ W, Below w.heap.size w W → Calls Tryz.prog 48 #[.pointer (some ⟨q, 0, none⟩)] W fun e w' => e = .returned (.agg #[.int .i64 (curN l : Nat), .int .i64 (curB l : Nat)]) ∧ Below w.heap.size w w' ∧ w'.cell? ⟨q, 0, none⟩ = some (.pointer (some ⟨g, 0, none⟩))) := Lib.hid fun W hW => by
    refine (current14 (h.below Y.dev hW) ha.bd).mono ?_
    rintro e w' ⟨he, hb⟩
    have hb2 := hW.trans (hb.mono hW.size)
    exact ⟨he, hb2, (h.below Y.dev hb2).cell.1⟩
  have HFI : Hid (∀ W, Below w.heap.size w W → Calls Tryz.prog 50 #[.agg #[.int .i64 (curN l : Nat), .int .i64 (curB l : Nat)]] W fun e w' => e = .returned (.string (segN (curN l))) ∧ Below w.heap.size w w' ∧ w'.cell? ⟨q, 0, none⟩ = some (.pointer (some ⟨g, 0, none⟩))) := Lib.hid fun W hW => by
    refine (file_any (curN l) _ hc1 (by omega) W ((Y.dev.gl h.dev).below hW)).mono ?_
    rintro e w' ⟨he, hb⟩
    have hb2 := hW.trans (hb.mono hW.size)
    exact ⟨he, hb2, (h.below Y.dev hb2).cell.1⟩
  have HSY : Hid (∀ W, Below w.heap.size w W → Calls Tryz.prog 64 #[.pointer (some ⟨g, 0, none⟩), .string (segN (curN l))] W fun e w' => e = .returned (.int .i64 es) ∧ w'.cell? ⟨q, 0, none⟩ = some (.pointer (some ⟨g, 0, none⟩)) ∧ ∃ Gd', LgK D W G g q d l Gd Gg sv gv gs ∧ Did D Gd g ds W w' Gd') := Lib.hid fun W hW => by
    have h2 := h.below Y.dev hW
    refine (Y.sync (segN (curN l)) h2.dev his.ok).mono ?_
    rintro e w' ⟨he, Gd', hd⟩
    rw [qs] at he hd
    exact ⟨he, (h2.did Y.dev hd).cell.1, Gd', h2, hd⟩
  have hEND : ∀ W w' Gd', Below w.heap.size w W → LgK D W G g q d l Gd Gg sv gv gs → Did D Gd g ds W w' Gd' → LgK D w' (fun b => G b ∨ Gd' b) g q ds l Gd' Gg sv gv gs ∧ Frm G w w' ∧ (∀ b, Gd' b → G b ∨ w.heap.size ≤ b) := fun W w' Gd' hW h2 hd =>
    ⟨h2.did Y.dev hd, (Frm.of_below hW).trans (hd.2.1.mono h2.sub) (fun i hi => .inl hi), fun b hb => (hd.2.2 b hb).imp (h.sub b) (fun e => Nat.le_trans hW.size e)⟩
  have c0 := h.cell.1
  have c5 := h.cell.2.2.2.2.2.1
  have c6 := h.cell.2.2.2.2.2.2.1
  have hq := h.gq.1
  have HGQ := Lib.hid h.sblk
  have hne : ¬ ((l.safe : Int) = (nextG l : Int)) := by omega
  rcases s9 with ⟨rfl, s11, s12, s13⟩ | ⟨rfl, rfl, s11, s12⟩
  · have hes : es = 0 := Classical.byContradiction fun hn => by rw [hsg, if_neg hn] at he; injection he with _ he; injection he with _ he; cases he
    subst hes
    rw [hsg, if_pos rfl] at he
    injection he with e1 he; injection he with e2 _
    subst e1 e2
    have HEND : Hid (∀ W w' Gd', Below w.heap.size w W → LgK D W G g q d l Gd Gg sv gv gs → Did D Gd g ds W w' Gd' → w'.cell? ⟨q, 5, none⟩ = some (.int .i64 (nextG l : Nat)) ∧ w'.cell? ⟨q, 6, none⟩ = some (.int .i64 (l.safe : Nat)) ∧ w'.frozen? ⟨q, 6, none⟩ = false ∧ LStp (KLg D) G g q ds { l with safe := nextG l } (.int .i64 0) w (.returned (.int .i64 0)) (w'.setCell ⟨q, 6, none⟩ (.int .i64 (nextG l : Nat)))) := Lib.hid fun W w' Gd' hW h2 hd => by
      obtain ⟨h3, h4, h5⟩ := hEND W w' Gd' hW h2 hd
      obtain ⟨_, _, _, _, _, x5, x6, _⟩ := h3.cell
      refine ⟨x5, x6, Joins.unfrozen_of_block h3.box 6, rfl, _, ⟨_, _, _, _, _, h3.safe Y.dev (nextG l), at1⟩, h4.trans (Frm.set w' q 6 _ hq) (fun i hi => .inl hi), fun b hb => ?_⟩
      rcases hb with (hb | hb) | hb
      · exact .inl hb
      · exact h5 b hb
      · exact .inl (HGQ.out b hb).1
    clear hEND h ha at1 hsg qs s1 s2 s3 s4 s5 s6 s7 s8 s10 s11 s12 s13 his hlk hs hcn hc1
    go_enter Tryz.func30, Tryz.ntmps30
    go_wp2_with fail
    refine HDN.out.mono ?_
    rintro e w1 ⟨rfl, b1, h1⟩
    obtain ⟨c01, _, _, _, _, c51, c61, _⟩ := h1.cell
    have BD : Hid (Below w.heap.size w w1.drew.drew) := Lib.hid (below_drew (below_drew b1))
    clear h1 c0 c5 c6
    go_wp2
    go_region
    go_wp2
    have hx : w1.drew.drew.cell? ⟨q, 0, none⟩ = some (.pointer (some ⟨g, 0, none⟩)) := c01
    go_region_held3 (fun w9 => w9.cell? ⟨q, 0, none⟩ = some (.pointer (some ⟨g, 0, none⟩))) (assumption) (first
      | (go_at_call 48; refine (HCU.out _ BD.out).mono ?_; rintro e w2 ⟨rfl, d2, x2⟩)
      | (go_at_call 50; refine (HFI.out _ d2).mono ?_; rintro e w3 ⟨rfl, d3, x3⟩)
      | (go_at_call 64; refine (HSY.out _ d3).mono ?_; rintro e w4 ⟨rfl, x4, Gd', hl, hd⟩))
    all_goals
      obtain ⟨y5, y6, yf, HQ⟩ := HEND.out _ _ _ d3 hl hd
      have HQ2 := Lib.hid HQ
      clear HQ hl hd
      go_wp2
      go_ret
      exact HQ2.out
  · have hes : es ≠ 0 := fun hn => by rw [hsg, if_pos hn] at he; injection he with _ he; injection he with _ he; cases he
    rw [hsg, if_neg hes] at he
    injection he with e1 he
    subst e1
    have h10 : es = 10 := by
      have h9 := sync_err his.ok hlk
      rw [qs] at h9
      exact h9 hes
    subst h10
    have HEND : Hid (∀ W w' Gd', Below w.heap.size w W → LgK D W G g q d l' Gd Gg sv gv gs → Did D Gd g ds W w' Gd' → LStp (KLg D) G g q ds l' (.int .i64 10) w (.returned (.int .i64 10)) w') := Lib.hid fun W w' Gd' hW h2 hd => by
      obtain ⟨h3, h4, h5⟩ := hEND W w' Gd' hW h2 hd
      refine ⟨rfl, _, ⟨_, _, _, _, _, h3, at1⟩, h4, fun b hb => ?_⟩
      rcases hb with hb | hb
      · exact .inl hb
      · exact h5 b hb
    clear hEND h ha at1 hsg qs s1 s2 s3 s4 s5 s6 s7 s8 s10 s11 s12 his hlk hs hcn hc1
    go_enter Tryz.func30, Tryz.ntmps30
    go_wp2_with fail
    refine HDN.out.mono ?_
    rintro e w1 ⟨rfl, b1, h1⟩
    obtain ⟨c01, _, _, _, _, c51, c61, _⟩ := h1.cell
    have BD : Hid (Below w.heap.size w w1.drew.drew) := Lib.hid (below_drew (below_drew b1))
    clear h1 c0 c5 c6
    go_wp2
    go_region
    go_wp2
    have hx : w1.drew.drew.cell? ⟨q, 0, none⟩ = some (.pointer (some ⟨g, 0, none⟩)) := c01
    go_region_held3 (fun w9 => w9.cell? ⟨q, 0, none⟩ = some (.pointer (some ⟨g, 0, none⟩))) (assumption) (first
      | (go_at_call 48; refine (HCU.out _ BD.out).mono ?_; rintro e w2 ⟨rfl, d2, x2⟩)
      | (go_at_call 50; refine (HFI.out _ d2).mono ?_; rintro e w3 ⟨rfl, d3, x3⟩)
      | (go_at_call 64; refine (HSY.out _ d3).mono ?_; rintro e w4 ⟨rfl, x4, Gd', hl, hd⟩))
    all_goals
      have HQ2 := Lib.hid (HEND.out _ _ _ d3 hl hd)
      clear hl hd
      go_wp2
      go_ret
      exact HQ2.out
end Go.Proofs.YtbdhhmhlcdganaaGreatDoor
namespace Go.Proofs.YtbdhhmhlcdganaaGreatDoor
open Go.RowKit
set_option linter.unusedVariables false
set_option maxRecDepth 100000

theorem info_seg : (Tryz.prog.info? 67).map (fun i => (i.zero, i.size, i.bytes)) = some (some (.agg #[.int .i64 0, .int .i64 0]), 2, 16) := by kernel_rfl
section
variable {P : Program}
theorem step_append_ty {ops : Array Oper} {o : Oper} {a : Act} {K : Act → World → Prop} {Q : Exit → Act → World → Prop} {E : Prop} (w : World) (hgd : o.guard = none) (s x : Operand) (t : TypeId)
    (ho : o.op = .call { callee := .builtin .append, args := #[s, x], argTypes := #[t, t] }) (v u v' : Value) (w' : World) (hs : a.eval s = v) (hx : a.eval x = u)
    (hrun : (Builtin.append_ #[t, t] o.type #[v, u]).run P w = .ok v' w') (h : K (a.put o.dst v') w') :
    if Region.wanted o (yielded ops a.tmps) = true then Oper.wp P o a w K Q else E := by
  have hw : Region.wanted o (yielded ops a.tmps) = true := by simp [Region.wanted, hgd]
  rw [if_pos hw]
  unfold Oper.wp execOp
  simp only [ho, resolve, invoke, builtin, Sem.run_bind, Sem.run_pure, Result.andThen_ok, List.map_toArray, List.map_cons, List.map_nil, hs, hx, hrun]
  exact h
end
section
variable {P : Program}
theorem pt_app_block (w : World) (base : Nat) (t ty e : TypeId) (ht : P.underlying t = some (.slice e)) (hi : (P.info? e).map (fun i => (i.zero, i.size, i.bytes)) = some (some (.agg #[.int .i64 0, .int .i64 0]), 2, 16))
    (v : Value) (l : List Pt) (hown : PtOwn e w base v l) (a : Addr) (c : Nat) (x y : Int) (hnews : ∀ j u, [Value.int .i64 x, .int .i64 y][j]? = some u → w.cell? (a.add j) = some u) (hb : (l.length + 1) * 16 ≤ 140737488355328)
    {v' : Value} {w' : World} (hrun : (Builtin.append_ #[t, t] ty #[v, .slice (some a) 1 c]).run P w = .ok v' w') : ∀ b, v'.ownBlock = some b → v.ownBlock = some b ∨ w.heap.size ≤ b := by
  obtain ⟨i, hi1, hz, hsz, hby⟩ := info_parts hi
  have hl : [Value.int .i64 x, .int .i64 y].length = 1 * i.size := by rw [hsz]; rfl
  rcases hown with ⟨rfl, rfl⟩ | ⟨g, cap, r, rfl, h2, h3, h4, h5⟩
  · have hr := run_append_nil (P := P) w t ty e i _ ht hi1 hz a 1 c _ hl hnews (by omega) (by omega) (by rw [hby]; omega)
    rw [hrun] at hr
    injection hr with e1 e2
    subst e1
    intro b hb
    injection hb with hb
    have hb2 : w.heap.size = b := hb
    exact .inr (by omega)
  · by_cases hroom : l.length + 1 ≤ cap
    · have hcs : (blk .i64 (flP (l ++ r))).size = 2 * cap := by rw [blk_size, flP_len, List.length_append]; omega
      have hr := run_append_room (P := P) w t ty e i ht hi1 g l.length cap _ h3 a 1 c _ hl hnews (by simp [Value.oneCell']) hroom (by rw [hsz, hcs]; simp; omega)
      rw [hrun] at hr
      injection hr with e1 e2
      subst e1
      intro b hb
      exact .inl hb
    · have hcn : l.length = cap := by omega
      have hr0 : r = [] := List.eq_nil_of_length_eq_zero (by omega)
      subst hr0
      rw [List.append_nil] at h3
      have holds : ∀ j u, ((flP l).map (Value.int .i64))[j]? = some u → w.cell? ((⟨g, 0, none⟩ : Addr).add j) = some u := by
        intro j u hu
        rw [Go.WideShapes.add_plain, Nat.zero_add, cell_of_row w g j _ _ _ h3]
        simpa [blk] using hu
      have hr := run_append_grow (P := P) w t ty e i _ ht hi1 hz ⟨g, 0, none⟩ l.length cap _ (by rw [hsz, List.length_map, flP_len]; omega) holds a 1 c _ hl hnews (by omega) (by omega) (growslice_fits (by omega) (by rw [hby]; omega))
      rw [hrun] at hr
      injection hr with e1 e2
      subst e1
      intro b hb
      injection hb with hb
      have hb2 : w.heap.size = b := hb
      exact .inr (by omega)
end
def LStq (D : DevP) (w : World) (G : Nat → Prop) (g q : Nat) (d : Dv) (l' : Lg) (Gd Gg : Nat → Prop) (gv : Value) (gs : List (List Int)) (w' : World) : Prop := ∃ G' sv', LgK D w' G' g q d l' Gd Gg sv' gv gs ∧ Frm G w w' ∧ ∀ b, G' b → G b ∨ w.heap.size ≤ b
section
variable {D : DevP} {w w' : World} {G : Nat → Prop} {g q : Nat} {d : Dv} {l : Lg} {Gd Gg : Nat → Prop} {sv gv : Value} {gs : List (List Int)}
theorem LgK.count (Y : DevGl D) (h : LgK D w G g q d l Gd Gg sv gv gs) {l' : Lg} {n m : Nat} (e1 : l'.n = l.n) (e2 : l'.first = l.first) (e3 : l'.safe = l.safe) (e4 : segL l'.n l'.first l'.segs = segL l.n l.first l.segs) (e5 : (ckAll (lastS l')).length = n) (e6 : nextG l' = m) (gis : gs = []) :
    LStq D w G g q d l' Gd Gg gv gs ((w.setCell ⟨q, 4, none⟩ (.int .i64 (n : Nat))).setCell ⟨q, 5, none⟩ (.int .i64 (m : Nat))) := by
  have f1 : Frm (fun b => b = q ∨ sv.ownBlock = some b) w (w.setCell ⟨q, 4, none⟩ (.int .i64 (n : Nat))) := Frm.set w q 4 _ (.inl rfl)
  have f2 := f1.trans (Frm.set (F := fun b => b = q ∨ sv.ownBlock = some b) (w.setCell ⟨q, 4, none⟩ (.int .i64 (n : Nat))) q 5 (.int .i64 (m : Nat)) (.inl rfl)) (fun i hi => .inl hi)
  have b1 := Joins.block_setCell (i := 4) h.box (.int .i64 (n : Nat))
  have b2 := Joins.block_setCell (i := 5) b1 (.int .i64 (m : Nat))
  have ho : PtOwn 67 ((w.setCell ⟨q, 4, none⟩ (.int .i64 (n : Nat))).setCell ⟨q, 5, none⟩ (.int .i64 (m : Nat))) 0 sv (segL l'.n l'.first l'.segs) := by
    rw [e4]
    exact (h.own.frm (Frm.set (F := fun b => b = q) w q 4 _ rfl) (fun b hb e => (h.sblk b hb).2.2 e)).frm (Frm.set (F := fun b => b = q) _ q 5 _ rfl) (fun b hb e => (h.sblk b hb).2.2 e)
  refine ⟨_, sv, h.rebox Y f2 ?_ ho (fun b hb => .inl hb) (by rw [gis]; rfl), h.frmG f2, fun b hb => ?_⟩
  · rw [e1, e2, e3, e5, e6]
    exact b2
  · rcases hb with hb | hb
    · exact .inl hb
    · exact .inl (h.sblk b hb).1
set_option maxHeartbeats 1000000 in
theorem enterOld (Y : DevOkG D) (h : LgK D w G g q d l Gd Gg sv gv gs) (ha : SgBd l) (hgs : gs = []) (h0 : l.segs ≠ []) (p : List Int) (hp : p.length ≤ 1024) :
    Calls Tryz.prog 51 #[.pointer (some ⟨q, 0, none⟩), .agg #[.int .i64 (curN l : Nat), .int .i64 (curB l : Nat)], .int .i64 ((ckL p).length : Nat)] w fun e w' => e = .returned (.tuple #[]) ∧ LStq D w G g q d { l with segs := l.segs.dropLast ++ [lastS l ++ [p]] } Gd Gg gv gs w' := by
  have hp0 : 0 < l.segs.length := List.length_pos_iff.2 h0
  obtain ⟨A, c, rfl, _, hc, hm⟩ := h.slice ha
  obtain ⟨sz, hsz⟩ : ∃ sz, (ckL p).length = sz := ⟨_, rfl⟩
  have hsz2 : sz ≤ 1030 := by rw [← hsz, ckL_len]; omega
  have hL := ha.siz
  have hnx := ha.nxt
  have hfew := ha.few
  have e5 : (ckAll (lastS { l with segs := l.segs.dropLast ++ [lastS l ++ [p]] })).length = (ckAll (lastS l)).length + sz := by
    have : lastS { l with segs := l.segs.dropLast ++ [lastS l ++ [p]] } = lastS l ++ [p] := by unfold lastS; simp
    rw [this, ckAll_app, List.length_append, ← hsz]
    simp [ckAll]
  have e6 : nextG { l with segs := l.segs.dropLast ++ [lastS l ++ [p]] } = nextG l + 1 := by
    unfold nextG
    rw [cntS_append, cntS_last h0]
    simp [cntS]
    omega
  have HEND : Hid (∀ W, Below w.heap.size w W → LStq D w G g q d { l with segs := l.segs.dropLast ++ [lastS l ++ [p]] } Gd Gg gv gs ((W.setCell ⟨q, 4, none⟩ (.int .i64 ((ckAll (lastS l)).length + sz : Nat))).setCell ⟨q, 5, none⟩ (.int .i64 (nextG l + 1 : Nat)))) := Lib.hid fun W hW => by
    obtain ⟨G', sv', r1, r2, r3⟩ := (h.below Y.dev hW).count Y.dev (l' := { l with segs := l.segs.dropLast ++ [lastS l ++ [p]] }) rfl rfl rfl (segL_last _ _ h0 _) e5 e6 hgs
    exact ⟨G', sv', r1, (Frm.of_below hW).trans r2 (fun i hi => .inl hi), fun b hb => (r3 b hb).imp id (fun e => Nat.le_trans hW.size e)⟩
  have hb0 := bel_alloc w (.cells #[.int .i64 (curN l : Nat), .int .i64 (curB l : Nat)] 67)
  obtain ⟨w0, hw0⟩ : ∃ w0, w.alloc (.cells #[.int .i64 (curN l : Nat), .int .i64 (curB l : Nat)] 67) = w0 := ⟨_, rfl⟩
  have x0 : w0.cell? ⟨w.heap.size, 0, none⟩ = some (.int .i64 (curN l : Nat)) := by rw [← hw0, World.cell?_alloc_at _ _ _ _ rfl]; rfl
  have x1 : w0.cell? ⟨w.heap.size, 1, none⟩ = some (.int .i64 (curB l : Nat)) := by rw [← hw0, World.cell?_alloc_at _ _ _ _ rfl]; rfl
  have z0 : w0.heap.size = w.heap.size + 1 := by rw [← hw0]; simp
  rw [hw0] at hb0
  have HCU : Hid (∀ W, Below w0.heap.size w0 W → Calls Tryz.prog 48 #[.pointer (some ⟨q, 0, none⟩)] W fun e w' => e = .returned (.agg #[.int .i64 (curN l : Nat), .int .i64 (curB l : Nat)]) ∧ Below w0.heap.size w0 w') := Lib.hid fun W hW => by
    have hW' := hb0.trans (hW.mono hb0.size)
    refine (current14 (h.below Y.dev hW') ha).mono ?_
    rintro e w' ⟨he, hb⟩
    exact ⟨he, hW.trans (hb.mono hW.size)⟩
  have HCE : Hid (∀ W, Below w0.heap.size w0 W → Below w.heap.size w W ∧ W.cell? ⟨q, 3, none⟩ = some (.slice A l.segs.length c) ∧ W.cell? ⟨q, 4, none⟩ = some (.int .i64 ((ckAll (lastS l)).length : Nat)) ∧ W.cell? ⟨q, 5, none⟩ = some (.int .i64 (nextG l : Nat)) ∧ W.frozen? ⟨q, 4, none⟩ = false ∧ W.frozen? ⟨q, 5, none⟩ = false ∧ W.cell? ⟨w.heap.size, 0, none⟩ = some (.int .i64 (curN l : Nat)) ∧ W.cell? ⟨w.heap.size, 1, none⟩ = some (.int .i64 (curB l : Nat))) := Lib.hid fun W hW => by
    have hW' := hb0.trans (hW.mono hb0.size)
    have h2 := h.below Y.dev hW'
    obtain ⟨_, _, _, c3, c4, c5, _⟩ := h2.cell
    exact ⟨hW', c3, c4, c5, Joins.unfrozen_of_block h2.box 4, Joins.unfrozen_of_block h2.box 5, (hW.cell (p := ⟨w.heap.size, 0, none⟩) (by show w.heap.size < _; omega)).trans x0, (hW.cell (p := ⟨w.heap.size, 1, none⟩) (by show w.heap.size < _; omega)).trans x1⟩
  have hq := h.lt q h.gq.1
  rw [hsz]
  clear h ha h0 e5 e6 hsz hp x0 x1 hm
  generalize curN l = CN at *
  generalize curB l = CB at *
  generalize hLL : (ckAll (lastS l)).length = L at *
  generalize hNN : nextG l = N at *
  generalize hSS : l.segs.length = m at *
  clear hLL hNN hSS
  have i1 : ((m : Int) == 0) = false := by simp; omega
  have w1 : IntKind.i64.wrap ((L : Int) + (sz : Int)) = ((L + sz : Nat) : Int) := by rw [IntKind.wrap_i64]; omega
  have w2 : IntKind.i64.wrap ((N : Int) + 1) = ((N + 1 : Nat) : Int) := by rw [IntKind.wrap_i64]; omega
  go_enter Tryz.func51, Tryz.ntmps51
  go_wp2
  have bd : Below w0.heap.size w0 w0.drew := below_drew (Below.refl _ _)
  obtain ⟨_, y3, y4, y5, _, _, yx0, yx1⟩ := HCE.out _ bd
  go_region_held3 (fun w9 => w9.cell? ⟨q, 3, none⟩ = some (.slice A m c) ∧ w9.cell? ⟨w.heap.size, 0, none⟩ = some (.int .i64 (CN : Nat)) ∧ w9.cell? ⟨w.heap.size, 1, none⟩ = some (.int .i64 (CB : Nat))) (exact ⟨by assumption, by assumption, by assumption⟩) (first
    | (go_at_call 48; refine (HCU.out _ bd).mono ?_; rintro e w3 ⟨rfl, b3⟩; obtain ⟨bw3, u3, u4, u5, f4, f5, ux0, ux1⟩ := HCE.out _ b3)
    | fail)
  have HQ := Lib.hid (HEND.out _ bw3)
  clear y3 y4 y5 yx0 yx1 ux0 ux1 u3
  go_wp2
  go_end0
  exact ⟨rfl, HQ.out⟩
theorem LgK.grown (Y : DevGl D) (h : LgK D w G g q d l Gd Gg sv gv gs) {l' : Lg} {n m : Nat} (e1 : l'.n = l.n) (e2 : l'.first = l.first) (e3 : l'.safe = l.safe) {x : Pt} (e4 : segL l'.n l'.first l'.segs = segL l.n l.first l.segs ++ [x]) (e5 : (ckAll (lastS l')).length = n) (e6 : nextG l' = m) (gis : gs = [])
    {v' : Value} {w' : World} (ho : PtOwn 67 w' 0 v' (segL l.n l.first l.segs ++ [x])) (hg : w.grownBy w' sv.ownBlock) (hv : ∀ b, v'.ownBlock = some b → sv.ownBlock = some b ∨ w.heap.size ≤ b) (u : Value) :
    LStq D w G g q d l' Gd Gg gv gs ((((w'.setCell ⟨q, 3, none⟩ v').setCell ⟨q, 4, none⟩ u).setCell ⟨q, 4, none⟩ (.int .i64 (n : Nat))).setCell ⟨q, 5, none⟩ (.int .i64 (m : Nat))) := by
  have hq := h.lt q h.gq.1
  have hqv : ∀ b, v'.ownBlock = some b → b ≠ q := fun b hb e => (hv b hb).elim (fun e2 => (h.sblk b e2).2.2 e) (fun e2 => by omega)
  have f0 : Frm (fun b => b = q ∨ sv.ownBlock = some b) w w' := ⟨hg.os, hg.tape, hg.output, hg.size, fun k hk hn => hg.block k hk (fun e => hn (.inr e.symm))⟩
  have hset : ∀ (W : World) i v, Frm (fun b => b = q ∨ sv.ownBlock = some b) w W → Frm (fun b => b = q ∨ sv.ownBlock = some b) w (W.setCell ⟨q, i, none⟩ v) := fun W i v hf => hf.trans (Frm.set (F := fun b => b = q ∨ sv.ownBlock = some b) W q i v (.inl rfl)) (fun i hi => .inl hi)
  have f4 := hset _ 5 (.int .i64 (m : Nat)) (hset _ 4 (.int .i64 (n : Nat)) (hset _ 4 u (hset _ 3 v' f0)))
  have b0 : w'.heap[q]? = _ := (hg.block q hq (fun e => (h.sblk q e.symm).2.2 rfl)).trans h.box
  have b1 := Joins.block_setCell (i := 3) b0 v'
  have b2 := Joins.block_setCell (i := 4) b1 u
  have b3 := Joins.block_setCell (i := 4) b2 (.int .i64 (n : Nat))
  have b4 := Joins.block_setCell (i := 5) b3 (.int .i64 (m : Nat))
  have hown : ∀ (W : World) i v, PtOwn 67 W 0 v' (segL l.n l.first l.segs ++ [x]) → PtOwn 67 (W.setCell ⟨q, i, none⟩ v) 0 v' (segL l.n l.first l.segs ++ [x]) := fun W i v ho => ho.frm (Frm.set (F := fun b => b = q) W q i v rfl) (fun b hb e => hqv b hb e)
  have o4 := hown _ 5 (.int .i64 (m : Nat)) (hown _ 4 (.int .i64 (n : Nat)) (hown _ 4 u (hown _ 3 v' ho)))
  refine ⟨_, v', h.rebox Y f4 ?_ (by rw [e4]; exact o4) hv (by rw [gis]; rfl), h.frmG f4, fun b hb => ?_⟩
  · rw [e1, e2, e3, e5, e6]
    exact b4
  · rcases hb with hb | hb
    · exact .inl hb
    · exact (hv b hb).imp (fun e => (h.sblk b e).1) id
theorem LgK.grown1 (Y : DevGl D) (h : LgK D w G g q d l Gd Gg sv gv gs) {l' : Lg} {n m : Nat} (e1 : l'.n = l.n) (e2 : l'.first = l.first) (e3 : l'.safe = l.safe) {x : Pt} (e4 : segL l'.n l'.first l'.segs = segL l.n l.first l.segs ++ [x]) (e5 : (ckAll (lastS l')).length = n) (e6 : nextG l' = m) (gis : gs = [])
    {v' : Value} {w' : World} (ho : PtOwn 67 w' 0 v' (segL l.n l.first l.segs ++ [x])) (hg : w.grownBy w' sv.ownBlock) (hv : ∀ b, v'.ownBlock = some b → sv.ownBlock = some b ∨ w.heap.size ≤ b) :
    LStq D w G g q d l' Gd Gg gv gs (((w'.setCell ⟨q, 3, none⟩ v').setCell ⟨q, 4, none⟩ (.int .i64 (n : Nat))).setCell ⟨q, 5, none⟩ (.int .i64 (m : Nat))) := by
  have hq := h.lt q h.gq.1
  have hqv : ∀ b, v'.ownBlock = some b → b ≠ q := fun b hb e => (hv b hb).elim (fun e2 => (h.sblk b e2).2.2 e) (fun e2 => by omega)
  have f0 : Frm (fun b => b = q ∨ sv.ownBlock = some b) w w' := ⟨hg.os, hg.tape, hg.output, hg.size, fun k hk hn => hg.block k hk (fun e => hn (.inr e.symm))⟩
  have hset : ∀ (W : World) i v, Frm (fun b => b = q ∨ sv.ownBlock = some b) w W → Frm (fun b => b = q ∨ sv.ownBlock = some b) w (W.setCell ⟨q, i, none⟩ v) := fun W i v hf => hf.trans (Frm.set (F := fun b => b = q ∨ sv.ownBlock = some b) W q i v (.inl rfl)) (fun i hi => .inl hi)
  have f4 := hset _ 5 (.int .i64 (m : Nat)) (hset _ 4 (.int .i64 (n : Nat)) (hset _ 3 v' f0))
  have b0 : w'.heap[q]? = _ := (hg.block q hq (fun e => (h.sblk q e.symm).2.2 rfl)).trans h.box
  have b1 := Joins.block_setCell (i := 3) b0 v'
  have b3 := Joins.block_setCell (i := 4) b1 (.int .i64 (n : Nat))
  have b4 := Joins.block_setCell (i := 5) b3 (.int .i64 (m : Nat))
  have hown : ∀ (W : World) i v, PtOwn 67 W 0 v' (segL l.n l.first l.segs ++ [x]) → PtOwn 67 (W.setCell ⟨q, i, none⟩ v) 0 v' (segL l.n l.first l.segs ++ [x]) := fun W i v ho => ho.frm (Frm.set (F := fun b => b = q) W q i v rfl) (fun b hb e => hqv b hb e)
  have o4 := hown _ 5 (.int .i64 (m : Nat)) (hown _ 4 (.int .i64 (n : Nat)) (hown _ 3 v' ho))
  refine ⟨_, v', h.rebox Y f4 ?_ (by rw [e4]; exact o4) hv (by rw [gis]; rfl), h.frmG f4, fun b hb => ?_⟩
  · rw [e1, e2, e3, e5, e6]
    exact b4
  · rcases hb with hb | hb
    · exact .inl hb
    · exact (hv b hb).imp (fun e => (h.sblk b e).1) id
end
end Go.Proofs.YtbdhhmhlcdganaaGreatDoor
namespace Go.Proofs.YtbdhhmhlcdganaaGreatDoor
open Go.RowKit
set_option linter.unusedVariables false
set_option maxRecDepth 100000

section
variable {D : DevP} {w w' : World} {G : Nat → Prop} {g q : Nat} {d : Dv} {l : Lg} {Gd Gg : Nat → Prop} {sv gv : Value} {gs : List (List Int)}
set_option maxHeartbeats 2000000 in
theorem enterNil (Y : DevOkG D) (h : LgK D w G g q d l Gd Gg sv gv gs) (ha : SgBd l) (hgs : gs = []) (h0 : l.segs = []) (p : List Int) (hp : p.length ≤ 1024) (n2 b2 : Nat) (hn2 : n2 = l.n + l.segs.length) (hb2 : b2 = nextG l) :
    Calls Tryz.prog 51 #[.pointer (some ⟨q, 0, none⟩), .agg #[.int .i64 (n2 : Nat), .int .i64 (b2 : Nat)], .int .i64 ((ckL p).length : Nat)] w fun e w' => e = .returned (.tuple #[]) ∧ LStq D w G g q d { l with segs := l.segs ++ [[p]] } Gd Gg gv gs w' := by
  obtain ⟨A, c, rfl, _, hc, hm⟩ := h.slice ha
  obtain ⟨sz, hsz⟩ : ∃ sz, (ckL p).length = sz := ⟨_, rfl⟩
  have hsz2 : sz ≤ 1030 := by rw [← hsz, ckL_len]; omega
  have hnx := ha.nxt
  have hfew := ha.few
  have hsl := segL_len l.n l.first l.segs
  have e5 : (ckAll (lastS { l with segs := l.segs ++ [[p]] })).length = sz := by
    have : lastS { l with segs := l.segs ++ [[p]] } = [p] := by unfold lastS; simp
    rw [this, ← hsz]
    simp [ckAll]
  have e6 : nextG { l with segs := l.segs ++ [[p]] } = nextG l + 1 := by
    unfold nextG
    rw [cntS_append]
    simp [cntS]
    omega
  have e4 : segL l.n l.first (l.segs ++ [[p]]) = segL l.n l.first l.segs ++ [((n2 : Int), (b2 : Int))] := by rw [segL_app, hn2, hb2]; rfl
  have HAP : Hid (∀ W, Below w.heap.size w W → ∃ A' n' c' w5, (Builtin.append_ #[70, 70] 70 #[.slice A l.segs.length c, .slice (some ⟨W.heap.size, 0, none⟩) 1 1]).run Tryz.prog (W.alloc (.cells #[.int .i64 (n2 : Nat), .int .i64 (b2 : Nat)] 67)) = .ok (.slice A' n' c') w5 ∧
      w5.cell? ⟨q, 3, none⟩ = some (.slice A l.segs.length c) ∧ w5.cell? ⟨q, 4, none⟩ = some (.int .i64 ((ckAll (lastS l)).length : Nat)) ∧ w5.cell? ⟨q, 5, none⟩ = some (.int .i64 (nextG l : Nat)) ∧ w5.frozen? ⟨q, 3, none⟩ = false ∧ w5.frozen? ⟨q, 4, none⟩ = false ∧ w5.frozen? ⟨q, 5, none⟩ = false ∧
      LStq D w G g q d { l with segs := l.segs ++ [[p]] } Gd Gg gv gs ((((w5.setCell ⟨q, 3, none⟩ (.slice A' n' c')).setCell ⟨q, 4, none⟩ (.int .i64 0)).setCell ⟨q, 4, none⟩ (.int .i64 (sz : Nat))).setCell ⟨q, 5, none⟩ (.int .i64 (nextG l + 1 : Nat)))) := Lib.hid fun W hW => by
    have hW2 := hW.alloc hW.size (.cells #[.int .i64 (n2 : Nat), .int .i64 (b2 : Nat)] 67)
    have h2 := h.below Y.dev hW2
    have hbox := box_two W 67 (n2 : Int) (b2 : Int)
    have hlen : ((segL l.n l.first l.segs).length + 1) * 16 ≤ 140737488355328 := by rw [hsl]; omega
    obtain ⟨v', w5, hrun, ho, hg⟩ := run_append_pt (P := Tryz.prog) (W.alloc (.cells #[.int .i64 (n2 : Nat), .int .i64 (b2 : Nat)] 67)) 0 70 70 67 Tryz.underlying70 info_seg (.slice A l.segs.length c) (segL l.n l.first l.segs) h2.own ⟨W.heap.size, 0, none⟩ 1 (n2 : Int) (b2 : Int) hbox hlen (Nat.zero_le _)
    have hv := pt_app_block (P := Tryz.prog) (W.alloc (.cells #[.int .i64 (n2 : Nat), .int .i64 (b2 : Nat)] 67)) 0 70 70 67 Tryz.underlying70 info_seg (.slice A l.segs.length c) (segL l.n l.first l.segs) h2.own ⟨W.heap.size, 0, none⟩ 1 (n2 : Int) (b2 : Int) hbox hlen hrun
    obtain ⟨A', n', c', rfl⟩ : ∃ A' n' c', v' = .slice A' n' c' := by
      rcases ho with ⟨rfl, _⟩ | ⟨g', cap, r, rfl, _⟩
      · exact ⟨_, _, _, rfl⟩
      · exact ⟨_, _, _, rfl⟩
    have b0 : w5.heap[q]? = _ := (hg.block q (h2.lt q h2.gq.1) (fun e => (h2.sblk q e.symm).2.2 rfl)).trans h2.box
    obtain ⟨G', sv', r1, r2, r3⟩ := h2.grown Y.dev (l' := { l with segs := l.segs ++ [[p]] }) rfl rfl rfl e4 e5 e6 hgs ho hg hv (.int .i64 0)
    refine ⟨A', n', c', w5, hrun, ?_, ?_, ?_, Joins.unfrozen_of_block b0 3, Joins.unfrozen_of_block b0 4, Joins.unfrozen_of_block b0 5, G', sv', r1, (Frm.of_below hW2).trans r2 (fun i hi => .inl hi), fun b hb => (r3 b hb).imp id (fun e => Nat.le_trans hW2.size e)⟩
    · rw [cell_of_row w5 q 3 _ _ _ b0]; rfl
    · rw [cell_of_row w5 q 4 _ _ _ b0]; rfl
    · rw [cell_of_row w5 q 5 _ _ _ b0]; rfl
  have hb0 := bel_alloc w (.cells #[.int .i64 (n2 : Nat), .int .i64 (b2 : Nat)] 67)
  obtain ⟨w0, hw0⟩ : ∃ w0, w.alloc (.cells #[.int .i64 (n2 : Nat), .int .i64 (b2 : Nat)] 67) = w0 := ⟨_, rfl⟩
  have x0 : w0.cell? ⟨w.heap.size, 0, none⟩ = some (.int .i64 (n2 : Nat)) := by rw [← hw0, World.cell?_alloc_at _ _ _ _ rfl]; rfl
  have x1 : w0.cell? ⟨w.heap.size, 1, none⟩ = some (.int .i64 (b2 : Nat)) := by rw [← hw0, World.cell?_alloc_at _ _ _ _ rfl]; rfl
  have z0 : w0.heap.size = w.heap.size + 1 := by rw [← hw0]; simp
  rw [hw0] at hb0
  have HCE : Hid (∀ W, Below w0.heap.size w0 W → Below w.heap.size w W ∧ W.cell? ⟨q, 3, none⟩ = some (.slice A l.segs.length c) ∧ W.cell? ⟨w.heap.size, 0, none⟩ = some (.int .i64 (n2 : Nat)) ∧ W.cell? ⟨w.heap.size, 1, none⟩ = some (.int .i64 (b2 : Nat))) := Lib.hid fun W hW => by
    have hW' := hb0.trans (hW.mono hb0.size)
    obtain ⟨_, _, _, c3, _⟩ := (h.below Y.dev hW').cell
    exact ⟨hW', c3, (hW.cell (p := ⟨w.heap.size, 0, none⟩) (by show w.heap.size < _; omega)).trans x0, (hW.cell (p := ⟨w.heap.size, 1, none⟩) (by show w.heap.size < _; omega)).trans x1⟩
  have hq := h.lt q h.gq.1
  have bd : Below w0.heap.size w0 w0.drew := below_drew (Below.refl _ _)
  obtain ⟨_, y3, yx0, yx1⟩ := HCE.out _ bd
  rw [hsz]
  clear hn2 hb2
  generalize nextG l = N at *
  have w1 : IntKind.i64.wrap (0 + (sz : Int)) = (sz : Int) := by rw [IntKind.wrap_i64]; omega
  have w1' : IntKind.i64.wrap (sz : Int) = (sz : Int) := by rw [IntKind.wrap_i64]; omega
  have w2 : IntKind.i64.wrap ((N : Int) + 1) = ((N + 1 : Nat) : Int) := by rw [IntKind.wrap_i64]; omega
  clear h ha hp hsl e4 e5 e6 hsz x0 x1 hm
  obtain ⟨m, hm0⟩ : ∃ m, l.segs.length = m := ⟨_, rfl⟩
  rw [hm0] at HAP y3 hc hfew
  have m0 : m = 0 := by rw [← hm0, h0]; rfl
  have i1 : ((m : Int) == 0) = true := by rw [m0]; rfl
  clear hm0 h0 HCE m0
  have hx0 := Lib.hid yx0
  have hx1 := Lib.hid yx1
  have hy3 := Lib.hid y3
  go_enter Tryz.func51, Tryz.ntmps51
  go_wp2
  refine wp_region_held_drew (S := (fun w9 => w9.cell? ⟨q, 3, none⟩ = some (.slice A m c) ∧ w9.cell? ⟨w.heap.size, 0, none⟩ = some (.int .i64 (n2 : Nat)) ∧ w9.cell? ⟨w.heap.size, 1, none⟩ = some (.int .i64 (b2 : Nat)))) (by kernel_rfl) ⟨y3, yx0, yx1⟩ (fun hHeld => ?_)
  refine wpAnyH_take (i := 0) (oi := { dst := some 6, op := Op.move (Operand.tmp 0), type := 30, pos := "segs.go:197", after := #[], guard := none }) (v := ?v1) rfl (by kernel_rfl) (by kernel_rfl) (by kernel_rfl) (fun _ _ _ h => h) (Or.inl ⟨by rfl, ?hy1⟩) (by assumption) ?rest1
  case hy1 => (intro w' hSw; (try dsimp only at hSw); go_simp; try with_reducible rfl)
  simp only [Act.put, List.setIfInBounds_toArray, List.set_cons_zero, List.set_cons_succ]
  refine wpAnyH_take (i := 1) (oi := { dst := some 7, op := Op.nilCheck (Operand.tmp 6), type := 0, pos := "segs.go:197", after := #[{ on := 0, ground := Ground.data }], guard := none }) (v := ?v2) rfl (by kernel_rfl) (by kernel_rfl) (by kernel_rfl) (fun _ _ _ h => h) (Or.inl ⟨by rfl, ?hy2⟩) (by assumption) ?rest2
  case hy2 => (intro w' hSw; (try dsimp only at hSw); go_simp; try with_reducible rfl)
  simp only [Act.put, List.setIfInBounds_toArray, List.set_cons_zero, List.set_cons_succ]
  refine wpAnyH_take (i := 2) (oi := { dst := some 8, op := Op.fieldAddr 72 (Operand.tmp 7) 2, type := 0, pos := "segs.go:197", after := #[{ on := 1, ground := Ground.data }], guard := none }) (v := ?v3) rfl (by kernel_rfl) (by kernel_rfl) (by kernel_rfl) (fun _ _ _ h => h) (Or.inl ⟨by rfl, ?hy3⟩) (by assumption) ?rest3
  case hy3 => (intro w' hSw; (try dsimp only at hSw); go_simp; try with_reducible rfl)
  simp only [Act.put, List.setIfInBounds_toArray, List.set_cons_zero, List.set_cons_succ]
  refine wpAnyH_take (i := 3) (oi := { dst := some 9, op := Op.load 70 (Operand.tmp 8), type := 70, pos := "segs.go:197", after := #[{ on := 2, ground := Ground.data }], guard := none }) (v := ?v4) rfl (by kernel_rfl) (by kernel_rfl) (by kernel_rfl) (fun _ _ _ h => h) (Or.inl ⟨by rfl, ?hy4⟩) (by assumption) ?rest4
  case hy4 => (intro w' hSw; (try dsimp only at hSw); go_simp; try with_reducible rfl)
  simp only [Act.put, List.setIfInBounds_toArray, List.set_cons_zero, List.set_cons_succ]
  refine wpAnyH_take (i := 4) (oi := { dst := some 10, op := Op.call { callee := Callee.builtin Builtin.len, args := #[Operand.tmp 9], argTypes := #[70] }, type := 3, pos := "segs.go:197", after := #[{ on := 3, ground := Ground.data }], guard := none }) (v := ?v5) rfl (by kernel_rfl) (by kernel_rfl) (by kernel_rfl) (fun _ _ _ h => h) (Or.inl ⟨by rfl, ?hy5⟩) (by assumption) ?rest5
  case hy5 => (intro w' hSw; (try dsimp only at hSw); go_simp; try with_reducible rfl)
  simp only [Act.put, List.setIfInBounds_toArray, List.set_cons_zero, List.set_cons_succ]
  refine wpAnyH_take (i := 5) (oi := { dst := some 11, op := Op.binOp BinOp.eql 3 (Operand.tmp 10) (Operand.const (Value.int IntKind.i64 0)) 3, type := 4, pos := "segs.go:197", after := #[{ on := 4, ground := Ground.data }], guard := none }) (v := ?v6) rfl (by kernel_rfl) (by kernel_rfl) (by kernel_rfl) (fun _ _ _ h => h) (Or.inl ⟨by rfl, ?hy6⟩) (by assumption) ?rest6
  case hy6 => (intro w' hSw; (try dsimp only at hSw); go_simp; try with_reducible rfl)
  simp only [Act.put, List.setIfInBounds_toArray, List.set_cons_zero, List.set_cons_succ]
  refine wpAnyH_take (i := 6) (oi := { dst := some 12, op := Op.move (Operand.tmp 11), type := 4, pos := "segs.go:197", after := #[{ on := 5, ground := Ground.data }], guard := none }) (v := ?v7) rfl (by kernel_rfl) (by kernel_rfl) (by kernel_rfl) (fun _ _ _ h => h) (Or.inl ⟨by rfl, ?hy7⟩) (by assumption) ?rest7
  case hy7 => (intro w' hSw; (try dsimp only at hSw); go_simp; try with_reducible rfl)
  simp only [Act.put, List.setIfInBounds_toArray, List.set_cons_zero, List.set_cons_succ]
  refine wpAnyH_take (i := 7) (oi := { dst := some 13, op := Op.load 67 (Operand.tmp 4), type := 67, pos := "segs.go:197", after := #[{ on := 6, ground := Ground.guard }], guard := some (6, false) }) (v := undef) rfl (by kernel_rfl) (by kernel_rfl) (by kernel_rfl) (fun _ _ _ h => h) (Or.inr ⟨by rfl, rfl⟩) (by assumption) ?_
  simp only [Act.put, List.setIfInBounds_toArray, List.set_cons_zero, List.set_cons_succ]
  refine wpAnyH_take (i := 8) (oi := { dst := some 14, op := Op.move (Operand.tmp 0), type := 30, pos := "segs.go:197", after := #[{ on := 6, ground := Ground.guard }], guard := some (6, false) }) (v := undef) rfl (by kernel_rfl) (by kernel_rfl) (by kernel_rfl) (fun _ _ _ h => h) (Or.inr ⟨by rfl, rfl⟩) (by assumption) ?_
  simp only [Act.put, List.setIfInBounds_toArray, List.set_cons_zero, List.set_cons_succ]
  refine wpAnyH_take (i := 9) (oi := { dst := some 15, op := Op.call { callee := Callee.value (Operand.func 48), args := #[Operand.tmp 14], argTypes := #[30] }, type := 67, pos := "segs.go:197", after := #[{ on := 8, ground := Ground.data }, { on := 6, ground := Ground.chain }, { on := 6, ground := Ground.guard }], guard := some (6, false) }) (v := undef) rfl (by kernel_rfl) (by kernel_rfl) (by kernel_rfl) (fun _ _ _ h => h) (Or.inr ⟨by rfl, rfl⟩) (by assumption) ?_
  simp only [Act.put, List.setIfInBounds_toArray, List.set_cons_zero, List.set_cons_succ]
  refine wpAnyH_take (i := 10) (oi := { dst := some 16, op := Op.binOp BinOp.neq 67 (Operand.tmp 13) (Operand.tmp 15) 67, type := 4, pos := "segs.go:197", after := #[{ on := 7, ground := Ground.data }, { on := 9, ground := Ground.data }, { on := 6, ground := Ground.guard }], guard := some (6, false) }) (v := undef) rfl (by kernel_rfl) (by kernel_rfl) (by kernel_rfl) (fun _ _ _ h => h) (Or.inr ⟨by rfl, rfl⟩) (by assumption) ?_
  simp only [Act.put, List.setIfInBounds_toArray, List.set_cons_zero, List.set_cons_succ]
  refine wpAnyH_take (i := 11) (oi := { dst := some 17, op := Op.pick (Operand.tmp 12) (Operand.const (Value.bool true)) (Operand.tmp 16), type := 4, pos := "segs.go:197", after := #[{ on := 6, ground := Ground.data }, { on := 10, ground := Ground.data }], guard := none }) (v := ?v12) rfl (by kernel_rfl) (by kernel_rfl) (by kernel_rfl) (fun _ _ _ h => h) (Or.inl ⟨by rfl, ?hy12⟩) (by assumption) ?rest12
  case hy12 => (intro w' hSw; (try dsimp only at hSw); go_simp; try with_reducible rfl)
  simp only [Act.put, List.setIfInBounds_toArray, List.set_cons_zero, List.set_cons_succ]
  refine wpAnyH_done (by kernel_rfl) ?_ _
  have bW : Below w.heap.size w w0.drew := hb0.trans (bd.mono hb0.size)
  clear bd y3 hHeld yx0 yx1
  have xx0 : w0.drew.cell? ⟨w.heap.size, 0, none⟩ = some (.int .i64 (n2 : Nat)) := hx0.out
  have xx1 : w0.drew.cell? ⟨w.heap.size, 1, none⟩ = some (.int .i64 (b2 : Nat)) := hx1.out
  have xx3 : w0.drew.cell? ⟨q, 3, none⟩ = some (.slice A m c) := hy3.out
  clear hx0 hx1 hy3
  generalize w0.drew = W at *
  have HBW := Lib.hid bW
  have xa3 : (W.alloc (.cells #[.int .i64 (n2 : Nat), .int .i64 (b2 : Nat)] 67)).cell? ⟨q, 3, none⟩ = some (.slice A m c) := (World.cell?_alloc_lt _ _ _ (by show q < W.heap.size; have := bW.size; omega)).trans (by assumption)
  clear bW
  go_wp2_with fail
  go_region_law (first
    | (obtain ⟨A', n', c', w5, hrun, k3, k4, k5, z3, z4, z5, hfin⟩ := HAP.out (W) (HBW.out); refine step_append_ty ((W).alloc (.cells #[.int .i64 (n2 : Nat), .int .i64 (b2 : Nat)] 67)) rfl (.tmp 22) (.tmp 24) 70 rfl (.slice A m c) (.slice (some ⟨W.heap.size, 0, none⟩) 1 1) (.slice A' n' c') w5 rfl rfl hrun ?_; have HF := Lib.hid hfin; clear hfin hrun)
    | (obtain ⟨A', n', c', w5, hrun, k3, k4, k5, z3, z4, z5, hfin⟩ := HAP.out (W.drew) (below_drew HBW.out); refine step_append_ty ((W.drew).alloc (.cells #[.int .i64 (n2 : Nat), .int .i64 (b2 : Nat)] 67)) rfl (.tmp 22) (.tmp 24) 70 rfl (.slice A m c) (.slice (some ⟨W.heap.size, 0, none⟩) 1 1) (.slice A' n' c') w5 rfl rfl hrun ?_; have HF := Lib.hid hfin; clear hfin hrun)
    | (obtain ⟨A', n', c', w5, hrun, k3, k4, k5, z3, z4, z5, hfin⟩ := HAP.out (W.drew.drew) (below_drew (below_drew HBW.out)); refine step_append_ty ((W.drew.drew).alloc (.cells #[.int .i64 (n2 : Nat), .int .i64 (b2 : Nat)] 67)) rfl (.tmp 22) (.tmp 24) 70 rfl (.slice A m c) (.slice (some ⟨W.heap.size, 0, none⟩) 1 1) (.slice A' n' c') w5 rfl rfl hrun ?_; have HF := Lib.hid hfin; clear hfin hrun)
    | fail)
  all_goals
    go_wp2
    go_end0
    exact ⟨rfl, HF.out⟩
set_option maxHeartbeats 2000000 in
theorem enterNew (Y : DevOkG D) (h : LgK D w G g q d l Gd Gg sv gv gs) (ha : SgBd l) (hgs : gs = []) (h0 : l.segs ≠ []) (p : List Int) (hp : p.length ≤ 1024) (n2 b2 : Nat) (hn2 : n2 = l.n + l.segs.length) (hb2 : b2 = nextG l) :
    Calls Tryz.prog 51 #[.pointer (some ⟨q, 0, none⟩), .agg #[.int .i64 (n2 : Nat), .int .i64 (b2 : Nat)], .int .i64 ((ckL p).length : Nat)] w fun e w' => e = .returned (.tuple #[]) ∧ LStq D w G g q d { l with segs := l.segs ++ [[p]] } Gd Gg gv gs w' := by
  obtain ⟨A, c, rfl, _, hc, hm⟩ := h.slice ha
  obtain ⟨sz, hsz⟩ : ∃ sz, (ckL p).length = sz := ⟨_, rfl⟩
  have hsz2 : sz ≤ 1030 := by rw [← hsz, ckL_len]; omega
  have hnx := ha.nxt
  have hfew := ha.few
  have hsl := segL_len l.n l.first l.segs
  have e5 : (ckAll (lastS { l with segs := l.segs ++ [[p]] })).length = sz := by
    have : lastS { l with segs := l.segs ++ [[p]] } = [p] := by unfold lastS; simp
    rw [this, ← hsz]
    simp [ckAll]
  have e6 : nextG { l with segs := l.segs ++ [[p]] } = nextG l + 1 := by
    unfold nextG
    rw [cntS_append]
    simp [cntS]
    omega
  have e4 : segL l.n l.first (l.segs ++ [[p]]) = segL l.n l.first l.segs ++ [((n2 : Int), (b2 : Int))] := by rw [segL_app, hn2, hb2]; rfl
  have HAP : Hid (∀ W, Below w.heap.size w W → ∃ A' n' c' w5, (Builtin.append_ #[70, 70] 70 #[.slice A l.segs.length c, .slice (some ⟨W.heap.size, 0, none⟩) 1 1]).run Tryz.prog (W.alloc (.cells #[.int .i64 (n2 : Nat), .int .i64 (b2 : Nat)] 67)) = .ok (.slice A' n' c') w5 ∧
      w5.cell? ⟨q, 3, none⟩ = some (.slice A l.segs.length c) ∧ w5.cell? ⟨q, 4, none⟩ = some (.int .i64 ((ckAll (lastS l)).length : Nat)) ∧ w5.cell? ⟨q, 5, none⟩ = some (.int .i64 (nextG l : Nat)) ∧ w5.frozen? ⟨q, 3, none⟩ = false ∧ w5.frozen? ⟨q, 4, none⟩ = false ∧ w5.frozen? ⟨q, 5, none⟩ = false ∧
      LStq D w G g q d { l with segs := l.segs ++ [[p]] } Gd Gg gv gs ((((w5.setCell ⟨q, 3, none⟩ (.slice A' n' c')).setCell ⟨q, 4, none⟩ (.int .i64 0)).setCell ⟨q, 4, none⟩ (.int .i64 (sz : Nat))).setCell ⟨q, 5, none⟩ (.int .i64 (nextG l + 1 : Nat)))) := Lib.hid fun W hW => by
    have hW2 := hW.alloc hW.size (.cells #[.int .i64 (n2 : Nat), .int .i64 (b2 : Nat)] 67)
    have h2 := h.below Y.dev hW2
    have hbox := box_two W 67 (n2 : Int) (b2 : Int)
    have hlen : ((segL l.n l.first l.segs).length + 1) * 16 ≤ 140737488355328 := by rw [hsl]; omega
    obtain ⟨v', w5, hrun, ho, hg⟩ := run_append_pt (P := Tryz.prog) (W.alloc (.cells #[.int .i64 (n2 : Nat), .int .i64 (b2 : Nat)] 67)) 0 70 70 67 Tryz.underlying70 info_seg (.slice A l.segs.length c) (segL l.n l.first l.segs) h2.own ⟨W.heap.size, 0, none⟩ 1 (n2 : Int) (b2 : Int) hbox hlen (Nat.zero_le _)
    have hv := pt_app_block (P := Tryz.prog) (W.alloc (.cells #[.int .i64 (n2 : Nat), .int .i64 (b2 : Nat)] 67)) 0 70 70 67 Tryz.underlying70 info_seg (.slice A l.segs.length c) (segL l.n l.first l.segs) h2.own ⟨W.heap.size, 0, none⟩ 1 (n2 : Int) (b2 : Int) hbox hlen hrun
    obtain ⟨A', n', c', rfl⟩ : ∃ A' n' c', v' = .slice A' n' c' := by
      rcases ho with ⟨rfl, _⟩ | ⟨g', cap, r, rfl, _⟩
      · exact ⟨_, _, _, rfl⟩
      · exact ⟨_, _, _, rfl⟩
    have b0 : w5.heap[q]? = _ := (hg.block q (h2.lt q h2.gq.1) (fun e => (h2.sblk q e.symm).2.2 rfl)).trans h2.box
    obtain ⟨G', sv', r1, r2, r3⟩ := h2.grown Y.dev (l' := { l with segs := l.segs ++ [[p]] }) rfl rfl rfl e4 e5 e6 hgs ho hg hv (.int .i64 0)
    refine ⟨A', n', c', w5, hrun, ?_, ?_, ?_, Joins.unfrozen_of_block b0 3, Joins.unfrozen_of_block b0 4, Joins.unfrozen_of_block b0 5, G', sv', r1, (Frm.of_below hW2).trans r2 (fun i hi => .inl hi), fun b hb => (r3 b hb).imp id (fun e => Nat.le_trans hW2.size e)⟩
    · rw [cell_of_row w5 q 3 _ _ _ b0]; rfl
    · rw [cell_of_row w5 q 4 _ _ _ b0]; rfl
    · rw [cell_of_row w5 q 5 _ _ _ b0]; rfl
  have hp0 : 0 < l.segs.length := List.length_pos_iff.2 h0
  have hcn : ((n2 : Int) == (curN l : Int)) = false := by rw [hn2]; unfold curN; simp; omega
  have hcn2 : ((n2 : Int) != (curN l : Int)) = true := by rw [hn2]; unfold curN; simp; omega
  have hb0 := bel_alloc w (.cells #[.int .i64 (n2 : Nat), .int .i64 (b2 : Nat)] 67)
  obtain ⟨w0, hw0⟩ : ∃ w0, w.alloc (.cells #[.int .i64 (n2 : Nat), .int .i64 (b2 : Nat)] 67) = w0 := ⟨_, rfl⟩
  have x0 : w0.cell? ⟨w.heap.size, 0, none⟩ = some (.int .i64 (n2 : Nat)) := by rw [← hw0, World.cell?_alloc_at _ _ _ _ rfl]; rfl
  have x1 : w0.cell? ⟨w.heap.size, 1, none⟩ = some (.int .i64 (b2 : Nat)) := by rw [← hw0, World.cell?_alloc_at _ _ _ _ rfl]; rfl
  have z0 : w0.heap.size = w.heap.size + 1 := by rw [← hw0]; simp
  rw [hw0] at hb0
  have HCE : Hid (∀ W, Below w0.heap.size w0 W → Below w.heap.size w W ∧ W.cell? ⟨q, 3, none⟩ = some (.slice A l.segs.length c) ∧ W.cell? ⟨w.heap.size, 0, none⟩ = some (.int .i64 (n2 : Nat)) ∧ W.cell? ⟨w.heap.size, 1, none⟩ = some (.int .i64 (b2 : Nat))) := Lib.hid fun W hW => by
    have hW' := hb0.trans (hW.mono hb0.size)
    obtain ⟨_, _, _, c3, _⟩ := (h.below Y.dev hW').cell
    exact ⟨hW', c3, (hW.cell (p := ⟨w.heap.size, 0, none⟩) (by show w.heap.size < _; omega)).trans x0, (hW.cell (p := ⟨w.heap.size, 1, none⟩) (by show w.heap.size < _; omega)).trans x1⟩
  have hq := h.lt q h.gq.1
  have bd : Below w0.heap.size w0 w0.drew := below_drew (Below.refl _ _)
  obtain ⟨_, y3, yx0, yx1⟩ := HCE.out _ bd
  rw [hsz]
  clear hn2 hb2
  generalize nextG l = N at *
  have w1 : IntKind.i64.wrap (0 + (sz : Int)) = (sz : Int) := by rw [IntKind.wrap_i64]; omega
  have w1' : IntKind.i64.wrap (sz : Int) = (sz : Int) := by rw [IntKind.wrap_i64]; omega
  have w2 : IntKind.i64.wrap ((N : Int) + 1) = ((N + 1 : Nat) : Int) := by rw [IntKind.wrap_i64]; omega
  have HCU : Hid (∀ W, Below w0.heap.size w0 W → Calls Tryz.prog 48 #[.pointer (some ⟨q, 0, none⟩)] W fun e w' => e = .returned (.agg #[.int .i64 (curN l : Nat), .int .i64 (curB l : Nat)]) ∧ Below w0.heap.size w0 w') := Lib.hid fun W hW => by
    have hW' := hb0.trans (hW.mono hb0.size)
    refine (current14 (h.below Y.dev hW') ha).mono ?_
    rintro e w' ⟨he, hb⟩
    exact ⟨he, hW.trans (hb.mono hW.size)⟩
  clear h ha hp hsl e4 e5 e6 hsz x0 x1 hm h0
  generalize curN l = CN at *
  generalize curB l = CB at *
  generalize hmm : l.segs.length = m at *
  clear hmm
  have i1 : ((m : Int) == 0) = false := by simp; omega
  go_enter Tryz.func51, Tryz.ntmps51
  go_wp2
  go_region_held3 (fun w9 => w9.cell? ⟨q, 3, none⟩ = some (.slice A m c) ∧ w9.cell? ⟨w.heap.size, 0, none⟩ = some (.int .i64 (n2 : Nat)) ∧ w9.cell? ⟨w.heap.size, 1, none⟩ = some (.int .i64 (b2 : Nat))) (exact ⟨by assumption, by assumption, by assumption⟩) (first
    | (go_at_call 48; refine (HCU.out _ bd).mono ?_; rintro e w3 ⟨rfl, b3⟩; obtain ⟨bw3, u3, ux0, ux1⟩ := HCE.out _ b3)
    | fail)
  have bW := bw3
  clear bd y3 yx0 yx1 HCE b3
  generalize w3 = W at *
  have HBW := Lib.hid bW
  have xa3 : (W.alloc (.cells #[.int .i64 (n2 : Nat), .int .i64 (b2 : Nat)] 67)).cell? ⟨q, 3, none⟩ = some (.slice A m c) := (World.cell?_alloc_lt _ _ _ (by show q < W.heap.size; have := bW.size; omega)).trans (by assumption)
  clear bW
  go_wp2_with fail
  go_region_law (first
    | (obtain ⟨A', n', c', w5, hrun, k3, k4, k5, z3, z4, z5, hfin⟩ := HAP.out (W) (HBW.out); refine step_append_ty ((W).alloc (.cells #[.int .i64 (n2 : Nat), .int .i64 (b2 : Nat)] 67)) rfl (.tmp 22) (.tmp 24) 70 rfl (.slice A m c) (.slice (some ⟨W.heap.size, 0, none⟩) 1 1) (.slice A' n' c') w5 rfl rfl hrun ?_; have HF := Lib.hid hfin; clear hfin hrun)
    | (obtain ⟨A', n', c', w5, hrun, k3, k4, k5, z3, z4, z5, hfin⟩ := HAP.out (W.drew) (below_drew HBW.out); refine step_append_ty ((W.drew).alloc (.cells #[.int .i64 (n2 : Nat), .int .i64 (b2 : Nat)] 67)) rfl (.tmp 22) (.tmp 24) 70 rfl (.slice A m c) (.slice (some ⟨W.heap.size, 0, none⟩) 1 1) (.slice A' n' c') w5 rfl rfl hrun ?_; have HF := Lib.hid hfin; clear hfin hrun)
    | (obtain ⟨A', n', c', w5, hrun, k3, k4, k5, z3, z4, z5, hfin⟩ := HAP.out (W.drew.drew) (below_drew (below_drew HBW.out)); refine step_append_ty ((W.drew.drew).alloc (.cells #[.int .i64 (n2 : Nat), .int .i64 (b2 : Nat)] 67)) rfl (.tmp 22) (.tmp 24) 70 rfl (.slice A m c) (.slice (some ⟨W.heap.size, 0, none⟩) 1 1) (.slice A' n' c') w5 rfl rfl hrun ?_; have HF := Lib.hid hfin; clear hfin hrun)
    | fail)
  all_goals
    go_wp2
    go_end0
    exact ⟨rfl, HF.out⟩
end
end Go.Proofs.YtbdhhmhlcdganaaGreatDoor
namespace Go.Proofs.YtbdhhmhlcdganaaGreatDoor
open Go.RowKit
set_option linter.unusedVariables false
set_option maxRecDepth 100000

theorem LStp.after {K : LogP} {G G0 : Nat → Prop} {g q : Nat} {d : Dv} {l : Lg} {v : Value} {w W w' : World} {e : Ending} (hf : Frm G w W) (hG : ∀ b, G0 b → G b ∨ w.heap.size ≤ b) (s : LStp K G0 g q d l v W e w') : LStp K G g q d l v w e w' := by
  obtain ⟨he, G', k, f, n⟩ := s
  exact ⟨he, G', k, hf.trans f hG, fun b hb => (n b hb).elim (hG b) (fun e => .inr (Nat.le_trans hf.size e))⟩
theorem app_dev {D : DevP} (Y : DevOkG D) {w : World} {G : Nat → Prop} {g q : Nat} {d da : Dv} {l : Lg} {Gd Gg : Nat → Prop} {sv gv : Value} {gs : List (List Int)} (h : LgK D w G g q d l Gd Gg sv gv gs) (ok : Dv.Ok d) {A : Option Addr} {n c : Nat} {b : List Int} (hr : Row .u8 w w.heap.size A b) (hn : b.length = n) (hc : n ≤ c) (hm : c ≤ 9223372036854775807) (h1 : n ≤ 2000) (hA : ∀ a, A = some a → ¬ G a.block) {s : ByteArray} {ea : Int} (qa : appD d s b = (da, ea)) :
    ∀ W, Below w.heap.size w W → Calls Tryz.prog 16 #[.pointer (some ⟨g, 0, none⟩), .string s, .slice A n c] W fun e w' => e = .returned (.int .i64 ea) ∧ ∃ Gd', LgK D w' (fun b => G b ∨ Gd' b) g q da l Gd' Gg sv gv gs ∧ Frm G w w' ∧ (∀ b, G b ∨ Gd' b → G b ∨ w.heap.size ≤ b) := fun W hW => by
  have h2 := h.below Y.dev hW
  refine (Y.append s A n c b h2.dev ok ((hr.below hW).more hW.size) hn hc hm (by omega) (fun a ha _ e => hA a ha (h.sub _ e))).mono ?_
  rintro e w' ⟨he, Gd', hd⟩
  rw [qa] at he hd
  exact ⟨he, Gd', h2.did Y.dev hd, (Frm.of_below hW).trans (hd.2.1.mono h.sub) (fun i hi => .inl hi), fun b hb => hb.elim .inl (fun e => (hd.2.2 b e).imp (h.sub b) (fun e => Nat.le_trans hW.size e))⟩
theorem LStp.of_q {D : DevP} {G G0 : Nat → Prop} {g q : Nat} {d : Dv} {l : Lg} {v : Value} {w W w' : World} {Gd Gg : Nat → Prop} {gv : Value} {gs : List (List Int)} (hf : Frm G w W) (hG : ∀ b, G0 b → G b ∨ w.heap.size ≤ b) (s : LStq D W G0 g q d l Gd Gg gv gs w') (at' : SgAt d l gs.length) : LStp (KLg D) G g q d l v w (.returned v) w' ∧ w'.cell? ⟨q, 5, none⟩ = some (.int .i64 (nextG l : Nat)) := by
  obtain ⟨G', sv', k, f, n⟩ := s
  exact ⟨⟨rfl, G', ⟨_, _, _, _, _, k, at'⟩, hf.trans f hG, fun b hb => (n b hb).elim (hG b) (fun e => .inr (Nat.le_trans hf.size e))⟩, k.cell.2.2.2.2.2.1⟩
theorem isFull_at {w : World} {q : Nat} {b : Bool} (h : ∀ W, Below w.heap.size w W → Calls Tryz.prog 49 #[.pointer (some ⟨q, 0, none⟩)] W fun e w' => e = .returned (.bool b) ∧ Below w.heap.size w w' ∧ Below W.heap.size W w') {W : World} (hW : Below w.heap.size w W) : Calls Tryz.prog 49 #[.pointer (some ⟨q, 0, none⟩)] W fun e w' => e = .returned (.bool b) ∧ Below w.heap.size w w' ∧ Below W.heap.size W w' := h W hW
theorem putG_eq {d da : Dv} {l : Lg} {p : List Int} {ea : Int} (qa : appD d (segN (putN l)) (ckL p) = (da, ea)) : putG d l p = if ea = 0 then (da, { l with segs := addS l p }, (nextG l : Int), 0) else (da, l, 0, ea) := by
  unfold putG
  rw [qa]
set_option maxHeartbeats 4000000 in
theorem append14 {D : DevP} (Y : DevOkG D) {w : World} {G : Nat → Prop} {g q : Nat} {d d' : Dv} {l l' : Lg} {a E : Int} (hk : KLg D w G g q d l) (A : Option Addr) (n c : Nat) (p : List Int) (hr : Row .u8 w w.heap.size A p) (hn : p.length = n) (hn4 : n ≤ 4096) (he : appG d l p = (d', l', a, E)) :
    Calls Tryz.prog 21 #[.pointer (some ⟨q, 0, none⟩), .slice A n c] w (LStp (KLg D) G g q d' l' (.tuple #[.int .i64 a, .int .i64 E]) w) := by
  obtain ⟨Gd, Gg, sv, gv, gs, h, ha⟩ := hk
  have HDN := Lib.hid (down14 Y h ha.ok w (Below.refl _ _))
  have c0 := h.cell.1
  by_cases hoff : d.off = true
  · have e0 : appG d l p = (d, l, 0, 10) := if_pos hoff
    rw [e0] at he
    injection he with e1 he; injection he with e2 he; injection he with e3 e4
    subst e1 e2 e3 e4
    rw [hoff] at HDN
    have HA := Lib.hid ha
    clear h e0 hoff ha hr hn
    go_enter Tryz.func21, Tryz.ntmps21
    go_wp2_with fail
    refine HDN.out.mono ?_
    rintro e w1 ⟨rfl, b1, h1⟩
    have HQ := Lib.hid (lstp_same (K := KLg D) (v := .tuple #[.int .i64 0, .int .i64 10]) (⟨_, _, _, _, _, h1, HA.out⟩ : KLg D w1 G g q d l) b1)
    clear h1
    go_wp2
    go_ret2
    exact HQ.out
  have hoff' : d.off = false := by simpa using hoff
  rw [hoff'] at HDN
  obtain ⟨hgs, his⟩ := ha.live hoff'
  have hw := hr.1
  have HPU : Hid (∀ W, Below w.heap.size w W → Calls Tryz.prog 47 #[.slice A n c] W (ChMakes W (ckPut p) (ckPE p))) := Lib.hid fun W hW => chPut_any A n c p W ((hr.below hW).more hW.size) hn (by omega)
  by_cases hlong : 1024 < p.length
  · have e0 : appG d l p = (d, l, 0, 2) := by unfold appG; rw [if_neg hoff, if_pos hlong]
    rw [e0] at he
    injection he with e1 he; injection he with e2 he; injection he with e3 e4
    subst e1 e2 e3 e4
    rw [ckPE_big hlong, ckPut_big hlong] at HPU
    have HA := Lib.hid ha
    clear e0 hoff hoff' ha hr hn h his hlong hw
    go_enter Tryz.func21, Tryz.ntmps21
    go_wp2_with fail
    refine HDN.out.mono ?_
    rintro e w1 ⟨rfl, b1, h1⟩
    have H1 := Lib.hid h1
    clear h1
    go_wp2_with fail
    refine (HPU.out w1 b1).mono ?_
    rintro e w2 ⟨v, rfl, hv, b2⟩
    have HQ := Lib.hid (lstp_same (K := KLg D) (v := .tuple #[.int .i64 0, .int .i64 2]) (⟨_, _, _, _, _, H1.out.below Y.dev b2, HA.out⟩ : KLg D w2 G g q d l) (b1.trans (b2.mono b1.size)))
    obtain ⟨Av, cv, rfl, _⟩ : ∃ Av cv, v = .slice Av 0 cv ∧ True := by
      rcases hv with ⟨rfl, _⟩ | ⟨gg, nn, cap, r, rfl, _, hz, _⟩
      · exact ⟨_, _, rfl, trivial⟩
      · have : nn = 0 := by rw [← hz]; rfl
        subst this
        exact ⟨_, _, rfl, trivial⟩
    clear hv
    go_wp2
    go_ret2
    exact HQ.out
  rw [ckPE_ok (by omega), ckPut_ok (by omega)] at HPU
  have HPU2 : Hid (∀ W, Below w.heap.size w W → Calls Tryz.prog 47 #[.slice A n c] W fun e w' => ∃ Ac cc, e = .returned (.tuple #[.slice Ac (ckL p).length cc, .int .i64 0]) ∧ Below w.heap.size w w' ∧ Row .u8 w' w'.heap.size Ac (ckL p) ∧ (ckL p).length ≤ cc ∧ cc ≤ 9223372036854775807 ∧ ∀ x, Ac = some x → w.heap.size ≤ x.block ∧ x.block < w'.heap.size) := Lib.hid fun W hW => by
    refine (HPU.out W hW).mono ?_
    rintro e w' ⟨v, rfl, hv, hb⟩
    obtain ⟨Ac, cc, rfl, r1, r2, r3⟩ := hv.own.row (fun x hx => ckL_wf (by omega) hw x hx)
    refine ⟨Ac, cc, rfl, hW.trans (hb.mono hW.size), r1, r2, by unfold maxLen at r3; omega, fun x hx => ?_⟩
    subst hx
    have := hv.block x.block ?_
    · have := hW.size
      omega
    · rcases hv with ⟨hv, _⟩ | ⟨gg, nn, cap, r, hv, _⟩
      · cases hv
      · injection hv with hv
        injection hv with hv
        subst hv
        rfl
  have HCU : Hid (∀ W, Below w.heap.size w W → Calls Tryz.prog 48 #[.pointer (some ⟨q, 0, none⟩)] W fun e w' => e = .returned (.agg #[.int .i64 (curN l : Nat), .int .i64 (curB l : Nat)]) ∧ Below w.heap.size w w' ∧ Below W.heap.size W w') := Lib.hid fun W hW => by
    refine (current14 (h.below Y.dev hW) ha.bd).mono ?_
    rintro e w' ⟨he, hb⟩
    exact ⟨he, hW.trans (hb.mono hW.size), hb⟩
  have HIF : Hid (∀ W, Below w.heap.size w W → Calls Tryz.prog 49 #[.pointer (some ⟨q, 0, none⟩)] W fun e w' => e = .returned (.bool (fullS l)) ∧ Below w.heap.size w w' ∧ Below W.heap.size W w') := Lib.hid fun W hW => by
    refine (isFull14 (h.below Y.dev hW)).mono ?_
    rintro e w' ⟨he, hb⟩
    exact ⟨he, hW.trans (hb.mono hW.size), hb⟩
  have HCE : Hid (∀ W, Below w.heap.size w W → W.cell? ⟨q, 0, none⟩ = some (.pointer (some ⟨g, 0, none⟩)) ∧ W.cell? ⟨q, 5, none⟩ = some (.int .i64 (nextG l : Nat))) := Lib.hid fun W hW => by
    obtain ⟨x0, _, _, _, _, x5, _⟩ := (h.below Y.dev hW).cell
    exact ⟨x0, x5⟩
  have hcn : curN l ≤ 999999999999 := by
    by_cases h0 : l.segs = []
    · have : curN l = l.n := by unfold curN; rw [h0]; simp
      rw [this]; exact ha.n2
    · obtain ⟨hk, _, hc, _⟩ := last_at h0
      obtain ⟨y, hy, _⟩ := his.at_ _ hk
      rw [← hc] at hy
      have : curN l < 10 ^ 12 := by
        apply Nat.lt_of_not_le
        intro hb
        rw [long_name his.ok (segN_long hb)] at hy
        cases hy
      omega
  have hc1 : 1 ≤ curN l := by have := his.lim; unfold curN; omega
  have hnx := ha.nxt
  have hq := h.lt q h.gq.1
  by_cases hst : 1099511627776 ≤ nextG l ∨ 999999999999 < putN l
  · have e0 : appG d l p = (d, l, 0, 12) := by unfold appG; rw [if_neg hoff, if_neg hlong, if_pos hst]
    rw [e0] at he
    injection he with e1 he; injection he with e2 he; injection he with e3 e4
    subst e1 e2 e3 e4
    have HEND : Hid (∀ W, Below w.heap.size w W → LStp (KLg D) G g q d l (.tuple #[.int .i64 0, .int .i64 12]) w (.returned (.tuple #[.int .i64 0, .int .i64 12])) W) := Lib.hid fun W hW => lstp_same (K := KLg D) (⟨_, _, _, _, _, h.below Y.dev hW, ha⟩ : KLg D W G g q d l) hW
    by_cases hbig : 1099511627776 ≤ nextG l
    · have i1 : (nextG l : Int) ≥ 1099511627776 := by omega
      clear e0 hoff hoff' ha hr hn h his hlong hw hst hbig hnx
      generalize nextG l = N at *
      go_enter Tryz.func21, Tryz.ntmps21
      go_wp2_with fail
      refine HDN.out.mono ?_
      rintro e w1 ⟨rfl, b1, h1⟩
      have c01 := h1.cell.1
      clear h1 c0
      go_wp2_with fail
      refine (HPU2.out w1 b1).mono ?_
      rintro e w2 ⟨Ac, cc, rfl, b2, rc, lc, mc, bc⟩
      have HRC := Lib.hid (show Row .u8 w2 w2.heap.size Ac (ckL p) from rc)
      have HBC := Lib.hid bc
      clear rc bc
      go_wp2_with fail
      refine (HCU.out w2 b2).mono ?_
      rintro e w3 ⟨rfl, b3, b23⟩
      have HEN := Lib.hid (HEND.out _ (b3.alloc b3.size (.cells #[.int .i64 (curN l : Nat), .int .i64 (curB l : Nat)] 67)))
      obtain ⟨_, x5⟩ := HCE.out _ (b3.alloc b3.size (.cells #[.int .i64 (curN l : Nat), .int .i64 (curB l : Nat)] 67))
      clear HCE HEND
      go_wp2
      go_ret2
      exact HEN.out
    · have hfu : fullS l = true := by
        cases hf : fullS l with
        | true => rfl
        | false => unfold putN at hst; rw [hf] at hst; simp at hst; omega
      have hc9 : curN l = 999999999999 := by unfold putN at hst; rw [if_pos hfu] at hst; omega
      have i1 : ¬ (nextG l : Int) ≥ 1099511627776 := by omega
      rw [hfu] at HIF
      rw [hc9] at HCU
      clear e0 hoff hoff' ha hr hn h his hlong hw hst hbig hnx hfu hc9
      generalize nextG l = N at *
      go_enter Tryz.func21, Tryz.ntmps21
      go_wp2_with fail
      refine HDN.out.mono ?_
      rintro e w1 ⟨rfl, b1, h1⟩
      have c01 := h1.cell.1
      clear h1 c0
      go_wp2_with fail
      refine (HPU2.out w1 b1).mono ?_
      rintro e w2 ⟨Ac, cc, rfl, b2, rc, lc, mc, bc⟩
      have HRC := Lib.hid (show Row .u8 w2 w2.heap.size Ac (ckL p) from rc)
      have HBC := Lib.hid bc
      clear rc bc
      go_wp2_with fail
      refine (HCU.out w2 b2).mono ?_
      rintro e w3 ⟨rfl, b3, b23⟩
      have b4 := Lib.hid (b3.alloc b3.size (.cells #[.int .i64 999999999999, .int .i64 (curB l : Nat)] 67))
      have z0 : (w3.alloc (.cells #[.int .i64 999999999999, .int .i64 (curB l : Nat)] 67)).cell? ⟨w3.heap.size, 0, none⟩ = some (.int .i64 999999999999) := by rw [World.cell?_alloc_at _ _ _ _ rfl]; rfl
      obtain ⟨_, x5⟩ := HCE.out _ b4.out
      have z9 : (w3.alloc (.cells #[.int .i64 999999999999, .int .i64 (curB l : Nat)] 67)).heap.size = w3.heap.size + 1 := by simp
      have HIF2 : Hid (Calls Tryz.prog 49 #[.pointer (some ⟨q, 0, none⟩)] (w3.alloc (.cells #[.int .i64 999999999999, .int .i64 (curB l : Nat)] 67)) fun e w' => e = .returned (.bool true) ∧ w'.cell? ⟨w3.heap.size, 0, none⟩ = some (.int .i64 999999999999) ∧ LStp (KLg D) G g q d l (.tuple #[.int .i64 0, .int .i64 12]) w (.returned (.tuple #[.int .i64 0, .int .i64 12])) w') := Lib.hid ((isFull_at HIF.out b4.out).mono fun e w' ⟨h1, h2, h3⟩ => ⟨h1, (h3.cell (p := ⟨w3.heap.size, 0, none⟩) (by show w3.heap.size < _; omega)).trans z0, HEND.out w' h2⟩)
      clear HCE HEND z0 z9
      go_wp2_with fail
      refine HIF2.out.mono ?_
      rintro e w5 ⟨rfl, y0, hq5⟩
      have HEN := Lib.hid hq5
      clear hq5
      go_wp2
      go_ret2
      exact HEN.out
  have hpn : putN l ≤ 999999999999 ∧ nextG l < 1099511627776 := by omega
  obtain ⟨d9, l9, a9, E9, q9, s1, s2, s3, s4, s5, s6, s7⟩ := app_is his p hw
  rw [he] at q9
  injection q9 with x1 q9; injection q9 with x2 q9; injection q9 with x3 x4
  subst x1 x2 x3 x4
  have hnx2 : nextG l' ≤ 1200000000000 := by
    unfold nextG
    rw [s3]
    rcases s7 with ⟨_, _, h9, _⟩ | ⟨_, _, h9, _⟩
    · rw [h9, addS_cnt]; have := hpn.2; unfold nextG at this; omega
    · rw [h9]; exact hnx
  have at1 : SgAt d' l' gs.length := by
    rw [hgs]
    exact s1.sat (by rw [s2]; exact ha.n2) (by rw [s3]; exact ha.fst) hnx2
  have hgs0 : gs = [] := List.length_eq_zero_iff.1 hgs
  have i1 : ¬ (nextG l : Int) ≥ 1099511627776 := by have := hpn.2; omega
  have i1d : decide ((1099511627776 : Int) ≤ (nextG l : Int)) = false := by rw [decide_eq_false_iff_not]; have := hpn.2; omega
  have hlc : (ckL p).length ≤ 1030 := by rw [ckL_len]; omega
  have hG0 : ∀ b, G b → b < w.heap.size := h.lt
  by_cases hfu : fullS l = true
  · obtain ⟨d1, l1, es, q1, y1, y2, y3, y4, y5, y6, y7, y8, y9, y10⟩ := sync_is his
    have hpu : putN l = curN l + 1 := by unfold putN; rw [if_pos hfu]
    have i4 : ((curN l : Int) == 999999999999) = false := by have := hpn.1; rw [hpu] at this; simp; omega
    rw [hfu] at HIF
    have HSYN : Hid (∀ W, Below w.heap.size w W → Calls Tryz.prog 30 #[.pointer (some ⟨q, 0, none⟩)] W (LStp (KLg D) G g q d1 l1 (.int .i64 es) W)) := Lib.hid fun W hW => sync14 Y ⟨_, _, _, _, _, h.below Y.dev hW, ha⟩ q1
    have hsq : (syncG d l).2.2 = es := by rw [q1]
    have hsd : (syncG d l).1 = d1 := by rw [q1]
    have hsl : (syncG d l).2.1 = l1 := by rw [q1]
    by_cases hes : es = 0
    case neg =>
      have e0 : appG d l p = (d1, l1, 0, 10) := by unfold appG; rw [if_neg hoff, if_neg hlong, if_neg hst, if_pos hfu, hsq, hsd, hsl, if_neg hes]
      rw [e0] at he
      injection he with x1 he; injection he with x2 he; injection he with x3 x4
      subst x1 x2 x3 x4
      have h10 : es = 10 := by
        rcases y9 with ⟨h9, _⟩ | ⟨h9, _⟩
        · exact absurd h9 hes
        · exact h9
      subst h10
      have HEND : Hid (∀ W w', Below w.heap.size w W → LStp (KLg D) G g q d1 l1 (.int .i64 10) W (.returned (.int .i64 10)) w' → LStp (KLg D) G g q d1 l1 (.tuple #[.int .i64 0, .int .i64 10]) w (.returned (.tuple #[.int .i64 0, .int .i64 10])) w') := Lib.hid fun W w' hW ⟨_, G', k, f, n⟩ => ⟨rfl, G', k, (Frm.of_below hW).trans f (fun i hi => .inl hi), fun b hb => (n b hb).imp id (fun e => Nat.le_trans hW.size e)⟩
      clear hoff hoff' ha hr hn h his hlong hw hst hnx e0 s1 s2 s3 s4 s5 s6 s7 hnx2 at1 hgs0 hgs hpn hpu hfu hcn hc1 q1 y1 y2 y3 y4 y5 y6 y7 y8 y9 y10 hsq hsd hsl hes
      generalize nextG l = N at *
      generalize curN l = CN at *
      generalize curB l = CB at *
      go_enter Tryz.func21, Tryz.ntmps21
      go_wp2_with fail
      refine HDN.out.mono ?_
      rintro e w1 ⟨rfl, b1, h1⟩
      have c01 := h1.cell.1
      clear h1 c0
      go_wp2_with fail
      refine (HPU2.out w1 b1).mono ?_
      rintro e w2 ⟨Ac, cc, rfl, b2, rc, lc, mc, bc⟩
      have HRC := Lib.hid (show Row .u8 w2 w2.heap.size Ac (ckL p) from rc)
      have HBC := Lib.hid bc
      clear rc bc
      go_wp2_with fail
      refine (HCU.out w2 b2).mono ?_
      rintro e w3 ⟨rfl, b3, b23⟩
      obtain ⟨w4, hw4⟩ : ∃ w4, w3.alloc (.cells #[.int .i64 (CN : Nat), .int .i64 (CB : Nat)] 67) = w4 := ⟨_, rfl⟩
      have zx0 : w4.cell? ⟨w3.heap.size, 0, none⟩ = some (.int .i64 (CN : Nat)) := by rw [← hw4, World.cell?_alloc_at _ _ _ _ rfl]; rfl
      have zx1 : w4.cell? ⟨w3.heap.size, 1, none⟩ = some (.int .i64 (CB : Nat)) := by rw [← hw4, World.cell?_alloc_at _ _ _ _ rfl]; rfl
      have zs4 : w4.heap.size = w3.heap.size + 1 := by rw [← hw4]; simp
      have b34 : Below w3.heap.size w3 w4 := by rw [← hw4]; exact bel_alloc _ _
      have b24 : Below w2.heap.size w2 w3 := b23
      have b4 := b3.trans (b34.mono b3.size)
      have HZ : Hid (∀ W, Below w4.heap.size w4 W → Below w.heap.size w W ∧ W.cell? ⟨w3.heap.size, 0, none⟩ = some (.int .i64 (CN : Nat)) ∧ W.cell? ⟨w3.heap.size, 1, none⟩ = some (.int .i64 (CB : Nat)) ∧ W.cell? ⟨q, 0, none⟩ = some (.pointer (some ⟨g, 0, none⟩)) ∧ W.cell? ⟨q, 5, none⟩ = some (.int .i64 (N : Nat)) ∧ Row .u8 W W.heap.size Ac (ckL p)) := Lib.hid fun W hW => by
        have hW' := b4.trans (hW.mono b4.size)
        obtain ⟨y0, y5⟩ := HCE.out W hW'
        have h2W : Below w2.heap.size w2 W := (b24.trans (b34.mono b24.size)).trans (hW.mono (Nat.le_trans b24.size b34.size))
        exact ⟨hW', (hW.cell (p := ⟨w3.heap.size, 0, none⟩) (by show w3.heap.size < _; omega)).trans zx0, (hW.cell (p := ⟨w3.heap.size, 1, none⟩) (by show w3.heap.size < _; omega)).trans zx1, y0, y5, (HRC.out.below h2W).more h2W.size⟩
      have HI4 : Hid (∀ W, Below w4.heap.size w4 W → Calls Tryz.prog 49 #[.pointer (some ⟨q, 0, none⟩)] W fun e w' => e = .returned (.bool true) ∧ Below w4.heap.size w4 w') := Lib.hid fun W hW => by
        refine (HIF.out W (HZ.out W hW).1).mono ?_
        rintro e w' ⟨h1, _, h3⟩
        exact ⟨h1, hW.trans (h3.mono hW.size)⟩
      have x54 := (HZ.out w4 (Below.refl _ _)).2.2.2.2.1
      clear zx0 zx1
      go_wp2_with fail
      refine (HI4.out w4 (Below.refl _ _)).mono ?_
      rintro e w5 ⟨rfl, b5⟩
      have zz5 := (HZ.out w5 b5).2.1
      go_wp2_with fail
      refine (HI4.out w5 b5).mono ?_
      rintro e w6 ⟨rfl, b6⟩
      clear zz5 x54
      go_wp2_with fail
      refine (HSYN.out w6 (HZ.out w6 b6).1).mono ?_
      rintro e w7 hst7
      have HQ := Lib.hid (HEND.out w6 w7 (HZ.out w6 b6).1 (by obtain ⟨h1, h2⟩ := hst7; exact ⟨rfl, h2⟩))
      obtain ⟨rfl, _⟩ := hst7
      go_wp2
      go_ret2
      exact HQ.out
    subst hes
    obtain ⟨y11, y12, y13⟩ : l1.safe = nextG l ∧ d.off = false ∧ d1.off = false := by
      rcases y9 with ⟨_, h1, h2, h3⟩ | ⟨h9, _⟩
      · exact ⟨h1, h2, h3⟩
      · exact absurd h9 (by decide)
    obtain ⟨da, ea, qa⟩ : ∃ da ea, appD d1 (segN (putN l)) (ckL p) = (da, ea) := ⟨_, _, rfl⟩
    have e0 : appG d l p = if ea = 0 then (da, { l1 with segs := addS l p }, (nextG l : Int), 0) else (da, l1, 0, ea) := by
      unfold appG
      rw [if_neg hoff, if_neg hlong, if_neg hst, if_pos hfu, hsq, hsd, hsl, if_pos rfl, qa]
    rw [e0] at he
    rw [hpu] at qa
    have hadd : addS l p = l1.segs ++ [[p]] := by unfold addS; rw [if_pos (.inr hfu), y1]
    have hcur : curN l + 1 = l1.n + l1.segs.length := by
      have := List.length_pos_iff.2 (full_ne hfu)
      unfold curN
      rw [y1, y2]
      omega
    have hnx1 : nextG l1 = nextG l := by unfold nextG; rw [y1, y3]
    have at2 : SgAt d1 l1 0 := y5.sat (by rw [y2]; exact ha.n2) (by rw [y3]; exact ha.fst) (by rw [hnx1]; exact hnx)
    have HN7 : Hid (∀ W G7 Gd7 Gg7 sv7 gv7 gs7, LgK D W G7 g q d1 l1 Gd7 Gg7 sv7 gv7 gs7 → W.cell? ⟨q, 0, none⟩ = some (.pointer (some ⟨g, 0, none⟩)) ∧ W.cell? ⟨q, 5, none⟩ = some (.int .i64 (nextG l : Nat))) := Lib.hid fun W G7 Gd7 Gg7 sv7 gv7 gs7 h7 => by
      obtain ⟨c0, _, _, _, _, c5, _⟩ := h7.cell
      rw [hnx1] at c5
      exact ⟨c0, c5⟩
    have HGLW := Lib.hid (Y.dev.gl h.dev)
    have HQA := Lib.hid qa
    have HOK := Lib.hid at2.ok
    have HBD := Lib.hid at2.bd
    have HAT : Hid (SgAt d' l' 0) := Lib.hid (by rw [hgs] at at1; exact at1)
    have HNX1 := Lib.hid hnx1
    have hs0 : Hid (l1.segs ≠ []) := Lib.hid (by rw [y1]; exact full_ne hfu)
    have HCUR := Lib.hid hcur
    have hc2 : Hid (1 ≤ curN l + 1 ∧ curN l + 1 ≤ 1000000000000) := Lib.hid ⟨by omega, by omega⟩
    obtain ⟨CM, hCM⟩ : ∃ CM, curN l + 1 = CM := ⟨_, rfl⟩
    rw [hCM] at HQA HCUR hc2
    have w2' : IntKind.i64.wrap ((curN l : Int) + 1) = (CM : Int) := by rw [IntKind.wrap_i64, ← hCM]; omega
    by_cases hea : ea = 0
    · subst hea
      rw [if_pos rfl] at he
      injection he with x1 he; injection he with x2 he; injection he with x3 x4
      subst x1 x2 x3 x4
      have hnn : nextG { l1 with segs := addS l p } = nextG l + 1 := by rw [hadd, ← hnx1]; unfold nextG; simp only; rw [cntS_append]; simp [cntS]; omega
      have w1' : IntKind.i64.wrap ((nextG l : Int) + 1 - 1) = (nextG l : Int) := by rw [IntKind.wrap_i64]; omega
      have HEN : Hid (∀ W G0 Gd' Gg' sv' gv' gs', gs'.length = 0 → LgK D W G0 g q da l1 Gd' Gg' sv' gv' gs' → Calls Tryz.prog 51 #[.pointer (some ⟨q, 0, none⟩), .agg #[.int .i64 (CM : Nat), .int .i64 (nextG l : Nat)], .int .i64 ((ckL p).length : Nat)] W fun e w' => e = .returned (.tuple #[]) ∧ LStq D W G0 g q da { l1 with segs := addS l p } Gd' Gg' gv' gs' w') := Lib.hid fun W G0 Gd' Gg' sv' gv' gs' hg k => by
        have := enterNew Y k HBD.out (List.length_eq_zero_iff.1 hg) hs0.out p (by omega) CM (nextG l) HCUR.out HNX1.out.symm
        rw [hadd]
        exact this
      have HEND : Hid (∀ W G0 Gd' Gg' gv' gs' w', gs'.length = 0 → Frm G w W → (∀ b, G0 b → G b ∨ w.heap.size ≤ b) → LStq D W G0 g q da { l1 with segs := addS l p } Gd' Gg' gv' gs' w' → LStp (KLg D) G g q da { l1 with segs := addS l p } (.tuple #[.int .i64 (nextG l : Nat), .int .i64 0]) w (.returned (.tuple #[.int .i64 (nextG l : Nat), .int .i64 0])) w' ∧ w'.cell? ⟨q, 5, none⟩ = some (.int .i64 ((nextG l : Int) + 1))) := Lib.hid fun W G0 Gd' Gg' gv' gs' w' hg hf hG hq => by
        obtain ⟨r1, r2⟩ := LStp.of_q (v := .tuple #[.int .i64 (nextG l : Nat), .int .i64 0]) hf hG hq (by rw [hg]; exact HAT.out)
        rw [hnn] at r2
        exact ⟨r1, r2⟩
      clear hoff hoff' ha hr hn h his hlong hw hst hnx e0 s1 s2 s3 s4 s5 s6 s7 hnx2 hgs0 hgs hpn hpu hfu hcn hc1 q1 y1 y2 y3 y4 y5 y6 y7 y8 y9 y10 hsq hsd hsl hnn hadd hcur hnx1 at1 at2 qa hCM
      generalize nextG l = N at *
      generalize curN l = CN at *
      generalize curB l = CB at *
      generalize { l1 with segs := addS l p } = l2 at *
      go_enter Tryz.func21, Tryz.ntmps21
      go_wp2_with fail
      refine HDN.out.mono ?_
      rintro e w1 ⟨rfl, b1, h1⟩
      have c01 := h1.cell.1
      clear h1 c0
      go_wp2_with fail
      refine (HPU2.out w1 b1).mono ?_
      rintro e w2 ⟨Ac, cc, rfl, b2, rc, lc, mc, bc⟩
      have HRC := Lib.hid (show Row .u8 w2 w2.heap.size Ac (ckL p) from rc)
      have HBC := Lib.hid bc
      clear rc bc
      go_wp2_with fail
      refine (HCU.out w2 b2).mono ?_
      rintro e w3 ⟨rfl, b3, b23⟩
      obtain ⟨w4, hw4⟩ : ∃ w4, w3.alloc (.cells #[.int .i64 (CN : Nat), .int .i64 (CB : Nat)] 67) = w4 := ⟨_, rfl⟩
      have zx0 : w4.cell? ⟨w3.heap.size, 0, none⟩ = some (.int .i64 (CN : Nat)) := by rw [← hw4, World.cell?_alloc_at _ _ _ _ rfl]; rfl
      have zx1 : w4.cell? ⟨w3.heap.size, 1, none⟩ = some (.int .i64 (CB : Nat)) := by rw [← hw4, World.cell?_alloc_at _ _ _ _ rfl]; rfl
      have zs4 : w4.heap.size = w3.heap.size + 1 := by rw [← hw4]; simp
      have b34 : Below w3.heap.size w3 w4 := by rw [← hw4]; exact bel_alloc _ _
      have b24 : Below w2.heap.size w2 w3 := b23
      have b4 := b3.trans (b34.mono b3.size)
      have HZ : Hid (∀ W, Below w4.heap.size w4 W → Below w.heap.size w W ∧ W.cell? ⟨w3.heap.size, 0, none⟩ = some (.int .i64 (CN : Nat)) ∧ W.cell? ⟨w3.heap.size, 1, none⟩ = some (.int .i64 (CB : Nat)) ∧ W.cell? ⟨q, 0, none⟩ = some (.pointer (some ⟨g, 0, none⟩)) ∧ W.cell? ⟨q, 5, none⟩ = some (.int .i64 (N : Nat)) ∧ Row .u8 W W.heap.size Ac (ckL p)) := Lib.hid fun W hW => by
        have hW' := b4.trans (hW.mono b4.size)
        obtain ⟨y0, y5⟩ := HCE.out W hW'
        have h2W : Below w2.heap.size w2 W := (b24.trans (b34.mono b24.size)).trans (hW.mono (Nat.le_trans b24.size b34.size))
        exact ⟨hW', (hW.cell (p := ⟨w3.heap.size, 0, none⟩) (by show w3.heap.size < _; omega)).trans zx0, (hW.cell (p := ⟨w3.heap.size, 1, none⟩) (by show w3.heap.size < _; omega)).trans zx1, y0, y5, (HRC.out.below h2W).more h2W.size⟩
      have HI4 : Hid (∀ W, Below w4.heap.size w4 W → Calls Tryz.prog 49 #[.pointer (some ⟨q, 0, none⟩)] W fun e w' => e = .returned (.bool true) ∧ Below w4.heap.size w4 w') := Lib.hid fun W hW => by
        refine (HIF.out W (HZ.out W hW).1).mono ?_
        rintro e w' ⟨h1, _, h3⟩
        exact ⟨h1, hW.trans (h3.mono hW.size)⟩
      have x54 := (HZ.out w4 (Below.refl _ _)).2.2.2.2.1
      clear zx0 zx1
      go_wp2_with fail
      refine (HI4.out w4 (Below.refl _ _)).mono ?_
      rintro e w5 ⟨rfl, b5⟩
      have zz5 := (HZ.out w5 b5).2.1
      go_wp2_with fail
      refine (HI4.out w5 b5).mono ?_
      rintro e w6 ⟨rfl, b6⟩
      clear zz5 x54
      have b6w := (HZ.out w6 b6).1
      have hz3 : ¬ G w3.heap.size := fun e => by have := hG0 _ e; have := b3.size; omega
      have hz4 : w3.heap.size < w6.heap.size := by have := b6.size; omega
      have zb6 : w6.heap[w3.heap.size]? = some (.cells #[.int .i64 (CN : Nat), .int .i64 (CB : Nat)] 67 (0, 0)) := (b6.block w3.heap.size (by omega)).trans (by rw [← hw4]; exact heap_alloc_new w3 _)
      have HRC6 := Lib.hid (HZ.out w6 b6).2.2.2.2.2
      go_wp2_with fail
      refine (HSYN.out w6 b6w).mono ?_
      rintro e w7 ⟨rfl, G7, ⟨Gd7, Gg7, sv7, gv7, gs7, h7, ha7⟩, f67, n7⟩
      have hg7 : gs7.length = 0 := (ha7.live y13).1
      have zb7 := (f67.block w3.heap.size hz4 hz3).trans zb6
      have z70 : w7.cell? ⟨w3.heap.size, 0, none⟩ = some (.int .i64 (CN : Nat)) := by rw [cell_of_row w7 _ 0 _ _ _ zb7]; rfl
      have z71 : w7.cell? ⟨w3.heap.size, 1, none⟩ = some (.int .i64 (CB : Nat)) := by rw [cell_of_row w7 _ 1 _ _ _ zb7]; rfl
      have zf0 := Joins.unfrozen_of_block zb7 0
      have zf1 := Joins.unfrozen_of_block zb7 1
      have q75 := h7.cell.2.2.2.2.2.1
      rw [HNX1.out] at q75
      obtain ⟨w8, hw8⟩ : ∃ w8, (w7.setCell ⟨w3.heap.size, 0, none⟩ (.int .i64 (CM : Nat))).setCell ⟨w3.heap.size, 1, none⟩ (.int .i64 (N : Nat)) = w8 := ⟨_, rfl⟩
      have hz7 : ∀ b, G7 b → ¬ b = w3.heap.size := fun b hb e => by
        subst e
        exact (n7 _ hb).elim hz3 (fun e => by omega)
      have f78 : Frm (fun b => b = w3.heap.size) w7 w8 := by
        rw [← hw8]
        exact (Frm.set (F := fun b => b = w3.heap.size) w7 w3.heap.size 0 (.int .i64 (CM : Nat)) rfl).trans (Frm.set (F := fun b => b = w3.heap.size) _ w3.heap.size 1 (.int .i64 (N : Nat)) rfl) (fun i hi => .inl hi)
      have zb8 : w8.heap[w3.heap.size]? = some (.cells #[.int .i64 (CM : Nat), .int .i64 (N : Nat)] 67 (0, 0)) := by
        rw [← hw8]
        exact Joins.block_setCell (i := 1) (Joins.block_setCell (i := 0) zb7 (.int .i64 (CM : Nat))) (.int .i64 (N : Nat))
      have gl8 : Gl w8 := (Y.dev.gl h7.dev).frm f78 (fun b hb e => by subst hb; have := HGLW.out.lt e; have := b3.size; omega)
      have h8 := h7.frm Y.dev f78 hz7 gl8
      have hac : ∀ x, Ac = some x → ¬ G x.block ∧ ¬ x.block = w3.heap.size ∧ x.block < w6.heap.size := fun x hx => by
        obtain ⟨h1, h2⟩ := HBC.out x hx
        have := b23.size
        exact ⟨fun e => by have := hG0 _ e; omega, by omega, by omega⟩
      have rc8 : Row .u8 w8 w8.heap.size Ac (ckL p) := f78.row (f67.row HRC6.out (fun x hx _ => (hac x hx).1)) (fun x hx _ => (hac x hx).2.1)
      have n8w : ∀ b, G7 b → G b ∨ w.heap.size ≤ b := fun b hb => (n7 b hb).imp id (fun e => by have := b6w.size; omega)
      have f8w : Frm G w w8 := ((Frm.of_below b6w).trans f67 (fun i hi => .inl hi)).trans f78 (fun i hi => by subst hi; exact .inr b3.size)
      have HC8 : Hid (∀ W, Below w8.heap.size w8 W → W.cell? ⟨q, 0, none⟩ = some (.pointer (some ⟨g, 0, none⟩)) ∧ W.cell? ⟨w3.heap.size, 0, none⟩ = some (.int .i64 (CM : Nat)) ∧ W.cell? ⟨w3.heap.size, 1, none⟩ = some (.int .i64 (N : Nat))) := Lib.hid fun W hW => by
        have zbW := (hW.block w3.heap.size (block_lt zb8)).trans zb8
        exact ⟨(h8.below Y.dev hW).cell.1, by rw [cell_of_row W _ 0 _ _ _ zbW]; rfl, by rw [cell_of_row W _ 1 _ _ _ zbW]; rfl⟩
      have HFI8 : Hid (∀ W, Below w8.heap.size w8 W → Calls Tryz.prog 50 #[.agg #[.int .i64 (CM : Nat), .int .i64 (N : Nat)]] W fun e w' => e = .returned (.string (segN CM)) ∧ Below W.heap.size W w') := Lib.hid fun W hW => file_any CM _ hc2.out.1 (by have := hc2.out.2; omega) W (gl8.below hW)
      have HAP8 : Hid (∀ W, Below w8.heap.size w8 W → Calls Tryz.prog 16 #[.pointer (some ⟨g, 0, none⟩), .string (segN CM), .slice Ac (ckL p).length cc] W fun e w' => e = .returned (.int .i64 0) ∧ w'.cell? ⟨q, 0, none⟩ = some (.pointer (some ⟨g, 0, none⟩)) ∧ w'.cell? ⟨w3.heap.size, 0, none⟩ = some (.int .i64 (CM : Nat)) ∧ w'.cell? ⟨w3.heap.size, 1, none⟩ = some (.int .i64 (N : Nat)) ∧ ∃ G0 Gd' Gg' sv' gv' gs', gs'.length = 0 ∧ LgK D w' G0 g q da l1 Gd' Gg' sv' gv' gs' ∧ Frm G w w' ∧ (∀ b, G0 b → G b ∨ w.heap.size ≤ b)) := Lib.hid fun W hW => by
        refine (app_dev Y h8 HOK.out rc8 rfl lc mc (by omega) (fun x hx e => (n7 _ e).elim (hac x hx).1 (fun e => by have := (hac x hx).2.2; omega)) HQA.out W hW).mono ?_
        rintro e w' ⟨he, Gd', k1, k2, k3⟩
        have hzG : ¬ G7 w3.heap.size := fun e => hz7 _ e rfl
        have zb9 := (k2.block w3.heap.size (block_lt zb8) hzG).trans zb8
        exact ⟨he, k1.cell.1, by rw [cell_of_row w' _ 0 _ _ _ zb9]; rfl, by rw [cell_of_row w' _ 1 _ _ _ zb9]; rfl, _, _, _, _, _, _, hg7, k1, f8w.trans k2 n8w, fun b hb => (k3 b hb).elim (n8w b) (fun e => .inr (Nat.le_trans f8w.size e))⟩
      have bd8 : Below w8.heap.size w8 w8.drew.drew := below_drew (below_drew (Below.refl _ _))
      obtain ⟨t0, t1, t2⟩ := HC8.out _ bd8
      clear h7 ha7 n7 f67 zb6 h8 rc8 gl8 f78 zb8 f8w n8w hac hz7
      go_wp2
      go_region
      go_wp2
      clear zf0 zf1 z70 z71 zb7 q75
      go_region_held3 (fun w9 => w9.cell? ⟨q, 0, none⟩ = some (.pointer (some ⟨g, 0, none⟩)) ∧ w9.cell? ⟨w3.heap.size, 0, none⟩ = some (.int .i64 (CM : Nat)) ∧ w9.cell? ⟨w3.heap.size, 1, none⟩ = some (.int .i64 (N : Nat))) (exact ⟨by assumption, by assumption, by assumption⟩) (first
        | (go_at_call 50; refine (HFI8.out _ bd8).mono ?_; rintro e w9 ⟨rfl, b89⟩; have b9 : Below w8.heap.size w8 w9 := bd8.trans (b89.mono bd8.size); obtain ⟨u0, u1, u2⟩ := HC8.out _ b9)
        | (go_at_call 16; refine (HAP8.out _ b9).mono ?_; rintro e w11 ⟨rfl, v0, v1, v2, G8, Gd8, Gg8, sv8, gv8, gs8, hg8, k8, f8, n8⟩)
        | fail)
      all_goals
        have HG8 := Lib.hid hg8
        go_wp2_with fail
        refine (HEN.out _ _ _ _ _ _ _ hg8 k8).mono ?_
        rintro e w10 ⟨rfl, hq9⟩
        obtain ⟨r1, r2⟩ := HEND.out _ _ _ _ _ _ _ HG8.out f8 n8 hq9
        have HR1 := Lib.hid r1
        clear r1 hq9 k8 f8 n8 hg8
        go_wp2
        go_ret2
        exact HR1.out
    · rw [if_neg hea] at he
      injection he with x1 he; injection he with x2 he; injection he with x3 x4
      subst x1 x2 x3 x4
      have i2 : (ea == 0) = false := by simpa using hea
      have i3 : (ea != 0) = true := by simpa using hea
      have HEND : Hid (∀ W G0 Gd' Gg' sv' gv' gs', gs'.length = 0 → LgK D W G0 g q da l1 Gd' Gg' sv' gv' gs' → Frm G w W → (∀ b, G0 b → G b ∨ w.heap.size ≤ b) → LStp (KLg D) G g q da l1 (.tuple #[.int .i64 0, .int .i64 ea]) w (.returned (.tuple #[.int .i64 0, .int .i64 ea])) W) := Lib.hid fun W G0 Gd' Gg' sv' gv' gs' hg k hf hG => ⟨rfl, _, ⟨_, _, _, _, _, k, by rw [hg]; exact HAT.out⟩, hf, hG⟩
      clear hoff hoff' ha hr hn h his hlong hw hst hnx e0 s1 s2 s3 s4 s5 s6 s7 hnx2 hgs0 hgs hpn hpu hfu hcn hc1 q1 y1 y2 y3 y4 y5 y6 y7 y8 y9 y10 hsq hsd hsl hadd hcur hnx1 at1 at2 qa hCM hea
      generalize nextG l = N at *
      generalize curN l = CN at *
      generalize curB l = CB at *
      go_enter Tryz.func21, Tryz.ntmps21
      go_wp2_with fail
      refine HDN.out.mono ?_
      rintro e w1 ⟨rfl, b1, h1⟩
      have c01 := h1.cell.1
      clear h1 c0
      go_wp2_with fail
      refine (HPU2.out w1 b1).mono ?_
      rintro e w2 ⟨Ac, cc, rfl, b2, rc, lc, mc, bc⟩
      have HRC := Lib.hid (show Row .u8 w2 w2.heap.size Ac (ckL p) from rc)
      have HBC := Lib.hid bc
      clear rc bc
      go_wp2_with fail
      refine (HCU.out w2 b2).mono ?_
      rintro e w3 ⟨rfl, b3, b23⟩
      obtain ⟨w4, hw4⟩ : ∃ w4, w3.alloc (.cells #[.int .i64 (CN : Nat), .int .i64 (CB : Nat)] 67) = w4 := ⟨_, rfl⟩
      have zx0 : w4.cell? ⟨w3.heap.size, 0, none⟩ = some (.int .i64 (CN : Nat)) := by rw [← hw4, World.cell?_alloc_at _ _ _ _ rfl]; rfl
      have zx1 : w4.cell? ⟨w3.heap.size, 1, none⟩ = some (.int .i64 (CB : Nat)) := by rw [← hw4, World.cell?_alloc_at _ _ _ _ rfl]; rfl
      have zs4 : w4.heap.size = w3.heap.size + 1 := by rw [← hw4]; simp
      have b34 : Below w3.heap.size w3 w4 := by rw [← hw4]; exact bel_alloc _ _
      have b24 : Below w2.heap.size w2 w3 := b23
      have b4 := b3.trans (b34.mono b3.size)
      have HZ : Hid (∀ W, Below w4.heap.size w4 W → Below w.heap.size w W ∧ W.cell? ⟨w3.heap.size, 0, none⟩ = some (.int .i64 (CN : Nat)) ∧ W.cell? ⟨w3.heap.size, 1, none⟩ = some (.int .i64 (CB : Nat)) ∧ W.cell? ⟨q, 0, none⟩ = some (.pointer (some ⟨g, 0, none⟩)) ∧ W.cell? ⟨q, 5, none⟩ = some (.int .i64 (N : Nat)) ∧ Row .u8 W W.heap.size Ac (ckL p)) := Lib.hid fun W hW => by
        have hW' := b4.trans (hW.mono b4.size)
        obtain ⟨y0, y5⟩ := HCE.out W hW'
        have h2W : Below w2.heap.size w2 W := (b24.trans (b34.mono b24.size)).trans (hW.mono (Nat.le_trans b24.size b34.size))
        exact ⟨hW', (hW.cell (p := ⟨w3.heap.size, 0, none⟩) (by show w3.heap.size < _; omega)).trans zx0, (hW.cell (p := ⟨w3.heap.size, 1, none⟩) (by show w3.heap.size < _; omega)).trans zx1, y0, y5, (HRC.out.below h2W).more h2W.size⟩
      have HI4 : Hid (∀ W, Below w4.heap.size w4 W → Calls Tryz.prog 49 #[.pointer (some ⟨q, 0, none⟩)] W fun e w' => e = .returned (.bool true) ∧ Below w4.heap.size w4 w') := Lib.hid fun W hW => by
        refine (HIF.out W (HZ.out W hW).1).mono ?_
        rintro e w' ⟨h1, _, h3⟩
        exact ⟨h1, hW.trans (h3.mono hW.size)⟩
      have x54 := (HZ.out w4 (Below.refl _ _)).2.2.2.2.1
      clear zx0 zx1
      go_wp2_with fail
      refine (HI4.out w4 (Below.refl _ _)).mono ?_
      rintro e w5 ⟨rfl, b5⟩
      have zz5 := (HZ.out w5 b5).2.1
      go_wp2_with fail
      refine (HI4.out w5 b5).mono ?_
      rintro e w6 ⟨rfl, b6⟩
      clear zz5 x54
      have b6w := (HZ.out w6 b6).1
      have hz3 : ¬ G w3.heap.size := fun e => by have := hG0 _ e; have := b3.size; omega
      have hz4 : w3.heap.size < w6.heap.size := by have := b6.size; omega
      have zb6 : w6.heap[w3.heap.size]? = some (.cells #[.int .i64 (CN : Nat), .int .i64 (CB : Nat)] 67 (0, 0)) := (b6.block w3.heap.size (by omega)).trans (by rw [← hw4]; exact heap_alloc_new w3 _)
      have HRC6 := Lib.hid (HZ.out w6 b6).2.2.2.2.2
      go_wp2_with fail
      refine (HSYN.out w6 b6w).mono ?_
      rintro e w7 ⟨rfl, G7, ⟨Gd7, Gg7, sv7, gv7, gs7, h7, ha7⟩, f67, n7⟩
      have hg7 : gs7.length = 0 := (ha7.live y13).1
      have zb7 := (f67.block w3.heap.size hz4 hz3).trans zb6
      have z70 : w7.cell? ⟨w3.heap.size, 0, none⟩ = some (.int .i64 (CN : Nat)) := by rw [cell_of_row w7 _ 0 _ _ _ zb7]; rfl
      have z71 : w7.cell? ⟨w3.heap.size, 1, none⟩ = some (.int .i64 (CB : Nat)) := by rw [cell_of_row w7 _ 1 _ _ _ zb7]; rfl
      have zf0 := Joins.unfrozen_of_block zb7 0
      have zf1 := Joins.unfrozen_of_block zb7 1
      have q75 := h7.cell.2.2.2.2.2.1
      rw [HNX1.out] at q75
      obtain ⟨w8, hw8⟩ : ∃ w8, (w7.setCell ⟨w3.heap.size, 0, none⟩ (.int .i64 (CM : Nat))).setCell ⟨w3.heap.size, 1, none⟩ (.int .i64 (N : Nat)) = w8 := ⟨_, rfl⟩
      have hz7 : ∀ b, G7 b → ¬ b = w3.heap.size := fun b hb e => by
        subst e
        exact (n7 _ hb).elim hz3 (fun e => by omega)
      have f78 : Frm (fun b => b = w3.heap.size) w7 w8 := by
        rw [← hw8]
        exact (Frm.set (F := fun b => b = w3.heap.size) w7 w3.heap.size 0 (.int .i64 (CM : Nat)) rfl).trans (Frm.set (F := fun b => b = w3.heap.size) _ w3.heap.size 1 (.int .i64 (N : Nat)) rfl) (fun i hi => .inl hi)
      have zb8 : w8.heap[w3.heap.size]? = some (.cells #[.int .i64 (CM : Nat), .int .i64 (N : Nat)] 67 (0, 0)) := by
        rw [← hw8]
        exact Joins.block_setCell (i := 1) (Joins.block_setCell (i := 0) zb7 (.int .i64 (CM : Nat))) (.int .i64 (N : Nat))
      have gl8 : Gl w8 := (Y.dev.gl h7.dev).frm f78 (fun b hb e => by subst hb; have := HGLW.out.lt e; have := b3.size; omega)
      have h8 := h7.frm Y.dev f78 hz7 gl8
      have hac : ∀ x, Ac = some x → ¬ G x.block ∧ ¬ x.block = w3.heap.size ∧ x.block < w6.heap.size := fun x hx => by
        obtain ⟨h1, h2⟩ := HBC.out x hx
        have := b23.size
        exact ⟨fun e => by have := hG0 _ e; omega, by omega, by omega⟩
      have rc8 : Row .u8 w8 w8.heap.size Ac (ckL p) := f78.row (f67.row HRC6.out (fun x hx _ => (hac x hx).1)) (fun x hx _ => (hac x hx).2.1)
      have n8w : ∀ b, G7 b → G b ∨ w.heap.size ≤ b := fun b hb => (n7 b hb).imp id (fun e => by have := b6w.size; omega)
      have f8w : Frm G w w8 := ((Frm.of_below b6w).trans f67 (fun i hi => .inl hi)).trans f78 (fun i hi => by subst hi; exact .inr b3.size)
      have HC8 : Hid (∀ W, Below w8.heap.size w8 W → W.cell? ⟨q, 0, none⟩ = some (.pointer (some ⟨g, 0, none⟩)) ∧ W.cell? ⟨w3.heap.size, 0, none⟩ = some (.int .i64 (CM : Nat)) ∧ W.cell? ⟨w3.heap.size, 1, none⟩ = some (.int .i64 (N : Nat))) := Lib.hid fun W hW => by
        have zbW := (hW.block w3.heap.size (block_lt zb8)).trans zb8
        exact ⟨(h8.below Y.dev hW).cell.1, by rw [cell_of_row W _ 0 _ _ _ zbW]; rfl, by rw [cell_of_row W _ 1 _ _ _ zbW]; rfl⟩
      have HFI8 : Hid (∀ W, Below w8.heap.size w8 W → Calls Tryz.prog 50 #[.agg #[.int .i64 (CM : Nat), .int .i64 (N : Nat)]] W fun e w' => e = .returned (.string (segN CM)) ∧ Below W.heap.size W w') := Lib.hid fun W hW => file_any CM _ hc2.out.1 (by have := hc2.out.2; omega) W (gl8.below hW)
      have HAP8 : Hid (∀ W, Below w8.heap.size w8 W → Calls Tryz.prog 16 #[.pointer (some ⟨g, 0, none⟩), .string (segN CM), .slice Ac (ckL p).length cc] W fun e w' => e = .returned (.int .i64 ea) ∧ w'.cell? ⟨q, 0, none⟩ = some (.pointer (some ⟨g, 0, none⟩)) ∧ w'.cell? ⟨w3.heap.size, 0, none⟩ = some (.int .i64 (CM : Nat)) ∧ w'.cell? ⟨w3.heap.size, 1, none⟩ = some (.int .i64 (N : Nat)) ∧ ∃ G0 Gd' Gg' sv' gv' gs', gs'.length = 0 ∧ LgK D w' G0 g q da l1 Gd' Gg' sv' gv' gs' ∧ Frm G w w' ∧ (∀ b, G0 b → G b ∨ w.heap.size ≤ b)) := Lib.hid fun W hW => by
        refine (app_dev Y h8 HOK.out rc8 rfl lc mc (by omega) (fun x hx e => (n7 _ e).elim (hac x hx).1 (fun e => by have := (hac x hx).2.2; omega)) HQA.out W hW).mono ?_
        rintro e w' ⟨he, Gd', k1, k2, k3⟩
        have hzG : ¬ G7 w3.heap.size := fun e => hz7 _ e rfl
        have zb9 := (k2.block w3.heap.size (block_lt zb8) hzG).trans zb8
        exact ⟨he, k1.cell.1, by rw [cell_of_row w' _ 0 _ _ _ zb9]; rfl, by rw [cell_of_row w' _ 1 _ _ _ zb9]; rfl, _, _, _, _, _, _, hg7, k1, f8w.trans k2 n8w, fun b hb => (k3 b hb).elim (n8w b) (fun e => .inr (Nat.le_trans f8w.size e))⟩
      have bd8 : Below w8.heap.size w8 w8.drew.drew := below_drew (below_drew (Below.refl _ _))
      obtain ⟨t0, t1, t2⟩ := HC8.out _ bd8
      clear h7 ha7 n7 f67 zb6 h8 rc8 gl8 f78 zb8 f8w n8w hac hz7
      go_wp2
      go_region
      go_wp2
      clear zf0 zf1 z70 z71 zb7 q75
      go_region_held3 (fun w9 => w9.cell? ⟨q, 0, none⟩ = some (.pointer (some ⟨g, 0, none⟩)) ∧ w9.cell? ⟨w3.heap.size, 0, none⟩ = some (.int .i64 (CM : Nat)) ∧ w9.cell? ⟨w3.heap.size, 1, none⟩ = some (.int .i64 (N : Nat))) (exact ⟨by assumption, by assumption, by assumption⟩) (first
        | (go_at_call 50; refine (HFI8.out _ bd8).mono ?_; rintro e w9 ⟨rfl, b89⟩; have b9 : Below w8.heap.size w8 w9 := bd8.trans (b89.mono bd8.size); obtain ⟨u0, u1, u2⟩ := HC8.out _ b9)
        | (go_at_call 16; refine (HAP8.out _ b9).mono ?_; rintro e w11 ⟨rfl, v0, v1, v2, G8, Gd8, Gg8, sv8, gv8, gs8, hg8, k8, f8, n8⟩)
        | fail)
      all_goals
        have HR1 := Lib.hid (HEND.out _ _ _ _ _ _ _ hg8 k8 f8 n8)
        clear k8 f8 n8 hg8
        go_wp2
        go_ret2
        exact HR1.out
  have hfu' : fullS l = false := by simpa using hfu
  have hpu : putN l = curN l := by unfold putN; rw [if_neg hfu]
  have e0 : appG d l p = putG d l p := by unfold appG; rw [if_neg hoff, if_neg hlong, if_neg hst, if_neg hfu]
  obtain ⟨da, ea, qa⟩ : ∃ da ea, appD d (segN (putN l)) (ckL p) = (da, ea) := ⟨_, _, rfl⟩
  rw [e0, putG_eq qa] at he
  rw [hpu] at qa
  rw [hfu'] at HIF
  have HFI : Hid (∀ W, Below w.heap.size w W → Calls Tryz.prog 50 #[.agg #[.int .i64 (curN l : Nat), .int .i64 (curB l : Nat)]] W fun e w' => e = .returned (.string (segN (curN l))) ∧ Below W.heap.size W w') := Lib.hid fun W hW => file_any (curN l) _ hc1 (by omega) W ((Y.dev.gl h.dev).below hW)
  have HDA : Hid (∀ W Ac cc, Below w.heap.size w W → Row .u8 W W.heap.size Ac (ckL p) → (ckL p).length ≤ cc → cc ≤ 9223372036854775807 → (∀ x, Ac = some x → w.heap.size ≤ x.block) → Calls Tryz.prog 16 #[.pointer (some ⟨g, 0, none⟩), .string (segN (curN l)), .slice Ac (ckL p).length cc] W fun e w' => e = .returned (.int .i64 ea) ∧ ∃ Gd', LgK D w' (fun b => G b ∨ Gd' b) g q da l Gd' Gg sv gv gs ∧ Frm G w w' ∧ Frm G W w' ∧ (∀ b, G b ∨ Gd' b → G b ∨ w.heap.size ≤ b)) := Lib.hid fun W Ac cc hW hr hl hm hx => by
    refine (app_dev Y (h.below Y.dev hW) ha.ok hr rfl hl hm (by omega) (fun x hx2 e => by have := hx x hx2; have := hG0 _ e; omega) qa W (Below.refl _ _)).mono ?_
    rintro e w' ⟨he, Gd', k1, k2, k3⟩
    exact ⟨he, Gd', k1, (Frm.of_below hW).trans k2 (fun i hi => .inl hi), k2, fun b hb => (k3 b hb).imp id (fun e => Nat.le_trans hW.size e)⟩
  by_cases hea : ea = 0
  · subst hea
    rw [if_pos rfl] at he
    injection he with x1 he; injection he with x2 he; injection he with x3 x4
    subst x1 x2 x3 x4
    have w1' : IntKind.i64.wrap ((nextG l : Int) + 1 - 1) = (nextG l : Int) := by rw [IntKind.wrap_i64]; omega
    have hnn : nextG { l with segs := addS l p } = nextG l + 1 := by unfold nextG; simp only; rw [addS_cnt]; omega
    have HEN : Hid (∀ W Gd', LgK D W (fun b => G b ∨ Gd' b) g q da l Gd' Gg sv gv gs → Calls Tryz.prog 51 #[.pointer (some ⟨q, 0, none⟩), .agg #[.int .i64 (curN l : Nat), .int .i64 (curB l : Nat)], .int .i64 ((ckL p).length : Nat)] W fun e w' => e = .returned (.tuple #[]) ∧ LStq D W (fun b => G b ∨ Gd' b) g q da { l with segs := addS l p } Gd' Gg gv gs w') := Lib.hid fun W Gd' k => by
      by_cases h0 : l.segs = []
      · have := enterNil Y k ha.bd hgs0 h0 p (by omega) (curN l) (curB l) (by unfold curN; rw [h0]; simp) (by unfold curB nextG; rw [h0]; rfl)
        rw [show addS l p = l.segs ++ [[p]] by unfold addS; rw [if_pos (.inl h0)]]
        exact this
      · have := enterOld Y k ha.bd hgs0 h0 p (by omega)
        rw [show addS l p = l.segs.dropLast ++ [lastS l ++ [p]] by unfold addS; rw [if_neg (by rintro (h9 | h9); exact h0 h9; exact hfu h9)]]
        exact this
    have HEND : Hid (∀ W Gd' w', Frm G w W → (∀ b, G b ∨ Gd' b → G b ∨ w.heap.size ≤ b) → LStq D W (fun b => G b ∨ Gd' b) g q da { l with segs := addS l p } Gd' Gg gv gs w' → LStp (KLg D) G g q da { l with segs := addS l p } (.tuple #[.int .i64 (nextG l : Nat), .int .i64 0]) w (.returned (.tuple #[.int .i64 (nextG l : Nat), .int .i64 0])) w' ∧ w'.cell? ⟨q, 5, none⟩ = some (.int .i64 ((nextG l : Int) + 1))) := Lib.hid fun W Gd' w' hf hG hq => by
      obtain ⟨r1, r2⟩ := LStp.of_q (v := .tuple #[.int .i64 (nextG l : Nat), .int .i64 0]) hf hG hq at1
      rw [hnn] at r2
      exact ⟨r1, r2⟩
    clear hoff hoff' ha hr hn h his hlong hw hst hnx e0 qa s1 s2 s3 s4 s5 s6 s7 hnx2 at1 hgs0 hgs hpn hpu hfu hfu' hcn hc1 hnn
    generalize nextG l = N at *
    generalize curN l = CN at *
    generalize curB l = CB at *
    generalize { l with segs := addS l p } = l2 at *
    go_enter Tryz.func21, Tryz.ntmps21
    go_wp2_with fail
    refine HDN.out.mono ?_
    rintro e w1 ⟨rfl, b1, h1⟩
    have c01 := h1.cell.1
    clear h1 c0
    go_wp2_with fail
    refine (HPU2.out w1 b1).mono ?_
    rintro e w2 ⟨Ac, cc, rfl, b2, rc, lc, mc, bc⟩
    have HRC := Lib.hid (show Row .u8 w2 w2.heap.size Ac (ckL p) from rc)
    have HBC := Lib.hid bc
    clear rc bc
    go_wp2_with fail
    refine (HCU.out w2 b2).mono ?_
    rintro e w3 ⟨rfl, b3, b23⟩
    obtain ⟨w4, hw4⟩ : ∃ w4, w3.alloc (.cells #[.int .i64 (CN : Nat), .int .i64 (CB : Nat)] 67) = w4 := ⟨_, rfl⟩
    have zx0 : w4.cell? ⟨w3.heap.size, 0, none⟩ = some (.int .i64 (CN : Nat)) := by rw [← hw4, World.cell?_alloc_at _ _ _ _ rfl]; rfl
    have zx1 : w4.cell? ⟨w3.heap.size, 1, none⟩ = some (.int .i64 (CB : Nat)) := by rw [← hw4, World.cell?_alloc_at _ _ _ _ rfl]; rfl
    have zs4 : w4.heap.size = w3.heap.size + 1 := by rw [← hw4]; simp
    have b34 : Below w3.heap.size w3 w4 := by rw [← hw4]; exact bel_alloc _ _
    have b24 : Below w2.heap.size w2 w3 := b23
    have b4 := b3.trans (b34.mono b3.size)
    have HZ : Hid (∀ W, Below w4.heap.size w4 W → Below w.heap.size w W ∧ W.cell? ⟨w3.heap.size, 0, none⟩ = some (.int .i64 (CN : Nat)) ∧ W.cell? ⟨w3.heap.size, 1, none⟩ = some (.int .i64 (CB : Nat)) ∧ W.cell? ⟨q, 0, none⟩ = some (.pointer (some ⟨g, 0, none⟩)) ∧ W.cell? ⟨q, 5, none⟩ = some (.int .i64 (N : Nat)) ∧ Row .u8 W W.heap.size Ac (ckL p)) := Lib.hid fun W hW => by
      have hW' := b4.trans (hW.mono b4.size)
      obtain ⟨y0, y5⟩ := HCE.out W hW'
      have h2W : Below w2.heap.size w2 W := (b24.trans (b34.mono b24.size)).trans (hW.mono (Nat.le_trans b24.size b34.size))
      exact ⟨hW', (hW.cell (p := ⟨w3.heap.size, 0, none⟩) (by show w3.heap.size < _; omega)).trans zx0, (hW.cell (p := ⟨w3.heap.size, 1, none⟩) (by show w3.heap.size < _; omega)).trans zx1, y0, y5, (HRC.out.below h2W).more h2W.size⟩
    have HI4 : Hid (∀ W, Below w4.heap.size w4 W → Calls Tryz.prog 49 #[.pointer (some ⟨q, 0, none⟩)] W fun e w' => e = .returned (.bool false) ∧ Below w4.heap.size w4 w') := Lib.hid fun W hW => by
      refine (HIF.out W (HZ.out W hW).1).mono ?_
      rintro e w' ⟨h1, _, h3⟩
      exact ⟨h1, hW.trans (h3.mono hW.size)⟩
    have x54 := (HZ.out w4 (Below.refl _ _)).2.2.2.2.1
    clear zx0 zx1
    go_wp2_with fail
    refine (HI4.out w4 (Below.refl _ _)).mono ?_
    rintro e w5 ⟨rfl, b5⟩
    have zz5 := (HZ.out w5 b5).2.1
    go_wp2_with fail
    refine (HI4.out w5 b5).mono ?_
    rintro e w6 ⟨rfl, b6⟩
    clear zz5 x54
    have HAP8 : Hid (∀ W, Below w4.heap.size w4 W → Calls Tryz.prog 16 #[.pointer (some ⟨g, 0, none⟩), .string (segN CN), .slice Ac (ckL p).length cc] W fun e w' => e = .returned (.int .i64 0) ∧ w'.cell? ⟨q, 0, none⟩ = some (.pointer (some ⟨g, 0, none⟩)) ∧ w'.cell? ⟨w3.heap.size, 0, none⟩ = some (.int .i64 (CN : Nat)) ∧ w'.cell? ⟨w3.heap.size, 1, none⟩ = some (.int .i64 (CB : Nat)) ∧ ∃ Gd', LgK D w' (fun b => G b ∨ Gd' b) g q da l Gd' Gg sv gv gs ∧ Frm G w w' ∧ (∀ b, G b ∨ Gd' b → G b ∨ w.heap.size ≤ b)) := Lib.hid fun W hW => by
      obtain ⟨y1, y2, y3, y4, _, y6⟩ := HZ.out W hW
      refine (HDA.out W Ac cc y1 y6 lc mc (fun x hx => (HBC.out x hx).1)).mono ?_
      rintro e w' ⟨he, Gd', k1, k2, k3, k4⟩
      have hz3 : ¬ G w3.heap.size := fun e => by have := hG0 _ e; have := b3.size; omega
      have hz4 : w3.heap.size < W.heap.size := by have := hW.size; omega
      exact ⟨he, k1.cell.1, (k3.cell hz4 hz3).trans y2, (k3.cell hz4 hz3).trans y3, Gd', k1, k2, k4⟩
    have bd6 : Below w4.heap.size w4 w6.drew := below_drew b6
    obtain ⟨_, t0, t1, t2, _, _⟩ := HZ.out _ bd6
    have HZ8 : Hid (∀ w8, Frm G w w8 → Frm G w6.drew w8 → True) := Lib.hid fun _ _ _ => trivial
    go_wp2
    go_region_held3 (fun w9 => w9.cell? ⟨q, 0, none⟩ = some (.pointer (some ⟨g, 0, none⟩)) ∧ w9.cell? ⟨w3.heap.size, 0, none⟩ = some (.int .i64 (CN : Nat)) ∧ w9.cell? ⟨w3.heap.size, 1, none⟩ = some (.int .i64 (CB : Nat))) (exact ⟨by assumption, by assumption, by assumption⟩) (first
      | (go_at_call 50; refine (HFI.out _ (HZ.out _ bd6).1).mono ?_; rintro e w7 ⟨rfl, b67⟩; have b7 : Below w4.heap.size w4 w7 := bd6.trans (b67.mono bd6.size); obtain ⟨bw7, u0, u1, u2, _, urow⟩ := HZ.out _ b7)
      | (go_at_call 16; refine (HAP8.out _ b7).mono ?_; rintro e w8 ⟨rfl, v0, v1, v2, Gd8, k8, f8, n8⟩)
      | fail)
    all_goals
      have k5 := k8
      go_wp2_with fail
      refine (HEN.out _ _ k8).mono ?_
      rintro e w9 ⟨rfl, hq9⟩
      obtain ⟨r1, r2⟩ := HEND.out _ _ _ f8 n8 hq9
      have HR1 := Lib.hid r1
      clear r1 hq9 k8 k5 f8 n8
      go_wp2
      go_ret2
      exact HR1.out
  · rw [if_neg hea] at he
    injection he with x1 he; injection he with x2 he; injection he with x3 x4
    subst x1 x2 x3 x4
    have i2 : (ea == 0) = false := by simpa using hea
    have i3 : (ea != 0) = true := by simpa using hea
    have HEND : Hid (∀ W Gd', LgK D W (fun b => G b ∨ Gd' b) g q da l Gd' Gg sv gv gs → Frm G w W → (∀ b, G b ∨ Gd' b → G b ∨ w.heap.size ≤ b) → LStp (KLg D) G g q da l (.tuple #[.int .i64 0, .int .i64 ea]) w (.returned (.tuple #[.int .i64 0, .int .i64 ea])) W) := Lib.hid fun W Gd' k hf hG => ⟨rfl, _, ⟨_, _, _, _, _, k, at1⟩, hf, hG⟩
    clear hoff hoff' ha hr hn h his hlong hw hst hnx e0 qa s1 s2 s3 s4 s5 s6 s7 hnx2 at1 hgs0 hgs hpn hpu hfu hfu' hcn hc1 hea
    generalize nextG l = N at *
    generalize curN l = CN at *
    generalize curB l = CB at *
    go_enter Tryz.func21, Tryz.ntmps21
    go_wp2_with fail
    refine HDN.out.mono ?_
    rintro e w1 ⟨rfl, b1, h1⟩
    have c01 := h1.cell.1
    clear h1 c0
    go_wp2_with fail
    refine (HPU2.out w1 b1).mono ?_
    rintro e w2 ⟨Ac, cc, rfl, b2, rc, lc, mc, bc⟩
    have HRC := Lib.hid (show Row .u8 w2 w2.heap.size Ac (ckL p) from rc)
    have HBC := Lib.hid bc
    clear rc bc
    go_wp2_with fail
    refine (HCU.out w2 b2).mono ?_
    rintro e w3 ⟨rfl, b3, b23⟩
    obtain ⟨w4, hw4⟩ : ∃ w4, w3.alloc (.cells #[.int .i64 (CN : Nat), .int .i64 (CB : Nat)] 67) = w4 := ⟨_, rfl⟩
    have zx0 : w4.cell? ⟨w3.heap.size, 0, none⟩ = some (.int .i64 (CN : Nat)) := by rw [← hw4, World.cell?_alloc_at _ _ _ _ rfl]; rfl
    have zx1 : w4.cell? ⟨w3.heap.size, 1, none⟩ = some (.int .i64 (CB : Nat)) := by rw [← hw4, World.cell?_alloc_at _ _ _ _ rfl]; rfl
    have zs4 : w4.heap.size = w3.heap.size + 1 := by rw [← hw4]; simp
    have b34 : Below w3.heap.size w3 w4 := by rw [← hw4]; exact bel_alloc _ _
    have b24 : Below w2.heap.size w2 w3 := b23
    have b4 := b3.trans (b34.mono b3.size)
    have HZ : Hid (∀ W, Below w4.heap.size w4 W → Below w.heap.size w W ∧ W.cell? ⟨w3.heap.size, 0, none⟩ = some (.int .i64 (CN : Nat)) ∧ W.cell? ⟨w3.heap.size, 1, none⟩ = some (.int .i64 (CB : Nat)) ∧ W.cell? ⟨q, 0, none⟩ = some (.pointer (some ⟨g, 0, none⟩)) ∧ W.cell? ⟨q, 5, none⟩ = some (.int .i64 (N : Nat)) ∧ Row .u8 W W.heap.size Ac (ckL p)) := Lib.hid fun W hW => by
      have hW' := b4.trans (hW.mono b4.size)
      obtain ⟨y0, y5⟩ := HCE.out W hW'
      have h2W : Below w2.heap.size w2 W := (b24.trans (b34.mono b24.size)).trans (hW.mono (Nat.le_trans b24.size b34.size))
      exact ⟨hW', (hW.cell (p := ⟨w3.heap.size, 0, none⟩) (by show w3.heap.size < _; omega)).trans zx0, (hW.cell (p := ⟨w3.heap.size, 1, none⟩) (by show w3.heap.size < _; omega)).trans zx1, y0, y5, (HRC.out.below h2W).more h2W.size⟩
    have HI4 : Hid (∀ W, Below w4.heap.size w4 W → Calls Tryz.prog 49 #[.pointer (some ⟨q, 0, none⟩)] W fun e w' => e = .returned (.bool false) ∧ Below w4.heap.size w4 w') := Lib.hid fun W hW => by
      refine (HIF.out W (HZ.out W hW).1).mono ?_
      rintro e w' ⟨h1, _, h3⟩
      exact ⟨h1, hW.trans (h3.mono hW.size)⟩
    have x54 := (HZ.out w4 (Below.refl _ _)).2.2.2.2.1
    clear zx0 zx1
    go_wp2_with fail
    refine (HI4.out w4 (Below.refl _ _)).mono ?_
    rintro e w5 ⟨rfl, b5⟩
    have zz5 := (HZ.out w5 b5).2.1
    go_wp2_with fail
    refine (HI4.out w5 b5).mono ?_
    rintro e w6 ⟨rfl, b6⟩
    clear zz5 x54
    have HAP8 : Hid (∀ W, Below w4.heap.size w4 W → Calls Tryz.prog 16 #[.pointer (some ⟨g, 0, none⟩), .string (segN CN), .slice Ac (ckL p).length cc] W fun e w' => e = .returned (.int .i64 ea) ∧ w'.cell? ⟨q, 0, none⟩ = some (.pointer (some ⟨g, 0, none⟩)) ∧ w'.cell? ⟨w3.heap.size, 0, none⟩ = some (.int .i64 (CN : Nat)) ∧ w'.cell? ⟨w3.heap.size, 1, none⟩ = some (.int .i64 (CB : Nat)) ∧ ∃ Gd', LgK D w' (fun b => G b ∨ Gd' b) g q da l Gd' Gg sv gv gs ∧ Frm G w w' ∧ (∀ b, G b ∨ Gd' b → G b ∨ w.heap.size ≤ b)) := Lib.hid fun W hW => by
      obtain ⟨y1, y2, y3, y4, _, y6⟩ := HZ.out W hW
      refine (HDA.out W Ac cc y1 y6 lc mc (fun x hx => (HBC.out x hx).1)).mono ?_
      rintro e w' ⟨he, Gd', k1, k2, k3, k4⟩
      have hz3 : ¬ G w3.heap.size := fun e => by have := hG0 _ e; have := b3.size; omega
      have hz4 : w3.heap.size < W.heap.size := by have := hW.size; omega
      exact ⟨he, k1.cell.1, (k3.cell hz4 hz3).trans y2, (k3.cell hz4 hz3).trans y3, Gd', k1, k2, k4⟩
    have bd6 : Below w4.heap.size w4 w6.drew := below_drew b6
    obtain ⟨_, t0, t1, t2, _, _⟩ := HZ.out _ bd6
    have HZ8 : Hid (∀ w8, Frm G w w8 → Frm G w6.drew w8 → True) := Lib.hid fun _ _ _ => trivial
    go_wp2
    go_region_held3 (fun w9 => w9.cell? ⟨q, 0, none⟩ = some (.pointer (some ⟨g, 0, none⟩)) ∧ w9.cell? ⟨w3.heap.size, 0, none⟩ = some (.int .i64 (CN : Nat)) ∧ w9.cell? ⟨w3.heap.size, 1, none⟩ = some (.int .i64 (CB : Nat))) (exact ⟨by assumption, by assumption, by assumption⟩) (first
      | (go_at_call 50; refine (HFI.out _ (HZ.out _ bd6).1).mono ?_; rintro e w7 ⟨rfl, b67⟩; have b7 : Below w4.heap.size w4 w7 := bd6.trans (b67.mono bd6.size); obtain ⟨bw7, u0, u1, u2, _, urow⟩ := HZ.out _ b7)
      | (go_at_call 16; refine (HAP8.out _ b7).mono ?_; rintro e w8 ⟨rfl, v0, v1, v2, Gd8, k8, f8, n8⟩)
      | fail)
    all_goals
      have HR1 := Lib.hid (HEND.out _ _ k8 f8 n8)
      clear k8 f8 n8
      go_wp2
      go_ret2
      exact HR1.out
end Go.Proofs.YtbdhhmhlcdganaaGreatDoor
