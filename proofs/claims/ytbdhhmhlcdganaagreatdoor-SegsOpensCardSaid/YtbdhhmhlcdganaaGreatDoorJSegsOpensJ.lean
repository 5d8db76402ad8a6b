/-
  Texts of the proof of SegsOpens, joined.
-/
import Derived.Test.YtbdhhmhlcdganaaGreatDoorJSegsOpensI
import Derived.Test.YtbdhhmhlcdganaaGreatDoorJSegsOpensB
import Derived.Deep.RegionHeld3
import Derived.Laws.EntriesVeiled
import Derived.Deep.QuietTactic
namespace Go.Proofs.YtbdhhmhlcdganaaGreatDoor
open Go.RowKit Go.Maps
set_option linter.unusedVariables false
set_option maxRecDepth 100000

theorem MapIs.member {D : DataW Unit} {ps : List (ByteArray × Nat)} (hi : MapIs D ps) {key v : Value} {kl : Lit} {y : DataW Unit × List MemPlace} (hk : keyOf Tryz.prog 9 key = some kl) (hv : ptrR v = some y) (hat : ∀ z, D.atKey kl z = y.1) :
    ∃ p ∈ ps, key = .string p.1 ∧ v = .pointer (some ⟨p.2, 0, none⟩) ∧ kl = kS p.1 := by
  obtain ⟨x, rfl, rfl, _⟩ := Maps.keyOf_str Tryz.underlying9 hk
  have hh := has_true_of_atKey hat
  rw [← kS_of x, hi.has] at hh
  obtain ⟨p, hp, hs⟩ := List.any_eq_true.1 hh
  have e := sameN_iff.1 hs
  obtain ⟨q, rfl, rfl⟩ := ptrR_inv hv
  refine ⟨p, hp, by rw [e, encStr], ?_, by rw [e, kS_of]⟩
  have h2 := hi.at_ p hp .nil
  rw [e, kS_of, hat] at h2
  rw [← ptrD_inj h2]
  rfl
theorem wpList_next_pm (w : World) {ops : Array Oper} {rest : List Oper} {o : Oper} {a : Act} {Q : Exit → Act → World → Prop} (hg : o.guard = none) (it : Operand) (hop : o.op = Op.next it false) (b r n : Nat) (D : DataW Unit) (ps : List (ByteArray × Nat)) (hi : MapIs D ps) (left : Lit → Bool) (cnt : Nat)
    (hit : a.eval it = .pointer (some ⟨r, 0, none⟩)) (h : w.ranges Tryz.prog 9 ptrR b r n D left cnt)
    (hDone : (∀ kl, left kl = false) → wpList Tryz.prog ops Q rest (a.put o.dst (.tuple #[.bool false])) w)
    (hMore : ∀ p ∈ ps, left (kS p.1) = true → ∀ (w' : World) (cnt' : Nat), w'.ranges Tryz.prog 9 ptrR b r n D (fun z => left z && !z.sameKey (kS p.1)) cnt' → cnt' < cnt → Frm (fun x => x = r) w w' → w'.heap.size = w.heap.size →
      (Instr.entry (.pointer (some ⟨r, 0, none⟩))).run Tryz.prog w' = .ok (.tuple #[.string p.1, .pointer (some ⟨p.2, 0, none⟩)]) w' → wpList Tryz.prog ops Q rest (a.put o.dst (.tuple #[.bool true, .string p.1, .pointer (some ⟨p.2, 0, none⟩)])) w') :
    wpList Tryz.prog ops Q (o :: rest) a w := by
  refine wpList_plain hg fun K' hK' => ?_
  unfold Oper.wp
  rcases h.next lawS o.type with ⟨h0, hl, hrun⟩ | ⟨key, v, kl, y, w', cnt', hkey, hlk, hv, hat, hrun, hrg, hlt, hgr, hsz, hen⟩
  · simp [execOp, hop, hit, hrun, Result.andThen]
    exact hK' _ _ (hDone hl)
  · obtain ⟨p, hp, rfl, rfl, rfl⟩ := hi.member hkey hv hat
    simp [execOp, hop, hit, hrun, Result.andThen]
    exact hK' _ _ (hMore p hp hlk w' cnt' hrg hlt (Frm.of_grown hgr) hsz hen)

def usedM (l : List Pf) : Nat := (l.map fun m => m.f.bs.length).sum
theorem usedM_eq (l : List Pf) : usedM l = usedD (l.map (·.f)) := by unfold usedM usedD; rw [List.map_map]; rfl
def gone (left : Lit → Bool) (l : List Pf) : List Pf := l.filter fun m => !left (kS m.f.nm)
theorem gone_le (left : Lit → Bool) (l : List Pf) : usedM (gone left l) ≤ usedM l := by
  induction l with
  | nil => exact Nat.le_refl _
  | cons a l ih =>
    unfold gone at ih ⊢
    rw [List.filter_cons]
    split
    · simp only [usedM, List.map_cons, List.sum_cons] at ih ⊢; omega
    · simp only [usedM, List.map_cons, List.sum_cons] at ih ⊢; omega
theorem gone_step {l : List Pf} (nd : l.Pairwise (fun a b => sameN a.f.nm b.f.nm = false)) (left : Lit → Bool) {m : Pf} (hm : m ∈ l) (hl : left (kS m.f.nm) = true) :
    usedM (gone (fun z => left z && !z.sameKey (kS m.f.nm)) l) = usedM (gone left l) + m.f.bs.length := by
  have other : ∀ k : Pf, sameN k.f.nm m.f.nm = false → (left (kS k.f.nm) && !(kS k.f.nm).sameKey (kS m.f.nm)) = left (kS k.f.nm) := fun k hk => by
    rw [sameKey_ne (kS_ne hk)]; simp
  induction l with
  | nil => cases hm
  | cons a l ih =>
    obtain ⟨h1, h2⟩ := List.pairwise_cons.1 nd
    unfold gone at ih ⊢
    rcases List.mem_cons.1 hm with rfl | hm
    · have e : l.filter (fun k => !(left (kS k.f.nm) && !(kS k.f.nm).sameKey (kS m.f.nm))) = l.filter (fun k => !left (kS k.f.nm)) :=
        List.filter_congr (fun k hk => by rw [other k (by rw [sameN_comm]; exact h1 k hk)])
      rw [List.filter_cons, List.filter_cons, e]
      simp only [hl, WideAt.sameKey_self (kS_key _)]
      simp only [Bool.not_true, Bool.and_false, Bool.not_false, if_true, Bool.false_eq_true, if_false, usedM, List.map_cons, List.sum_cons]
      omega
    · have ih := ih h2 hm
      have ho := other a (h1 m hm)
      simp only at ih ho
      rw [List.filter_cons, List.filter_cons]
      simp only [ho]
      split
      · simp only [usedM, List.map_cons, List.sum_cons] at ih ⊢; omega
      · exact ih
theorem gone_none {left : Lit → Bool} {l : List Pf} (h : ∀ m ∈ l, left (kS m.f.nm) = true) : gone left l = [] := by
  unfold gone
  rw [List.filter_eq_nil_iff]
  intro m hm
  rw [h m hm]; simp
theorem gone_all {left : Lit → Bool} {l : List Pf} (h : ∀ kl, left kl = false) : gone left l = l := by
  unfold gone
  rw [List.filter_eq_self]
  intro m hm
  rw [h]; rfl

section
variable {w : World} {g bm : Nat} {ms : List Pf} {d : Dv}
theorem PDx.nds (h : PDx w g bm ms d) : ms.Pairwise (fun a b => sameN a.f.nm b.f.nm = false) := by
  have := h.map.nd
  rw [List.pairwise_map] at this
  exact this
theorem KOwn.val {k : IntKind} {e : TypeId} {w : World} {base : Nat} {v : Value} {xs : List Int} (h : KOwn k e w base v xs) : ∃ A c, v = .slice A xs.length c ∧ xs.length ≤ c ∧ c ≤ maxLen := by
  rcases h with ⟨rfl, rfl⟩ | ⟨g, n, cap, r, rfl, _, h3, _, h4, h5, _⟩
  · exact ⟨none, 0, rfl, Nat.le_refl _, Nat.zero_le _⟩
  · subst h3
    exact ⟨_, _, rfl, h4, h5⟩
set_option maxHeartbeats 1000000 in
theorem used_pd (h : PDx w g bm ms d) (hu : usedD d.fs ≤ 1000000000) : Calls Tryz.prog 20 #[.pointer (some ⟨g, 0, none⟩)] w fun e w' => e = .returned (.int .i64 (usedD d.fs : Nat)) ∧ Below w.heap.size w w' := by
  obtain ⟨L, c0, c1, c2, c3, c4, cf, _⟩ := h.cells
  have hbl := h.map.lt
  obtain ⟨D, hown, hi⟩ := h.map
  generalize (ms.map pfN).length = n at hown
  have HI := Lib.hid hi
  have HUS : Hid (usedM ms = usedD d.fs) := Lib.hid (by rw [usedM_eq, h.fs])
  have HH := Lib.hid h
  have HUL : Hid (∀ left, usedM (gone left ms) ≤ 1000000000) := Lib.hid (fun left => by have := gone_le left ms; rw [HUS.out] at this; omega)
  clear h hi hu
  go_enter Tryz.func20, Tryz.ntmps20
  go_wp2_with (first
    | (at_range; refine wpList_range_own _ rfl _ 36 rfl 9 76 lawS Tryz.underlying36 _ bm _ _ rfl hown ?_; intro w0 hrg0 hg0 hs0)
    | go_in)
  go_frame
  have F0 : Hid (Frm (fun _ => False) w w0) := Lib.hid ⟨hg0.os, hg0.tape, hg0.output, hg0.size, fun k hk _ => hg0.block k hk (by simp)⟩
  clear hg0
  go_loopw [3, 5] (fun u _ wr => ∃ (left : Lit → Bool) (cnt : Nat), wr.ranges Tryz.prog 9 ptrR bm w.heap.size n D left cnt ∧ u = .int .i64 (usedM (gone left ms) : Nat) ∧ Hid (Frm (fun _ => False) w wr))
    (fun _ _ wr => wr.rangeLeft bm w.heap.size)
  case atStart => 
    refine ⟨_, _, hrg0, ?_, F0⟩
    rw [gone_none (fun m hm => by rw [HI.out.has]; exact List.any_eq_true.2 ⟨pfN m, List.mem_map.2 ⟨m, hm, rfl⟩, sameN_refl _⟩)]
    rfl
  case round =>
    obtain ⟨left, cnt, hrg, rfl, hF⟩ := hrel
    go_wp2_with (first
      | (at_next; refine wpList_next_pm _ rfl _ rfl bm w.heap.size _ _ _ HI.out _ _ rfl hrg ?_ ?_)
      | go_in)
    · intro hl
      rw [gone_all hl, HUS.out]
      go_wp2
      go_ret
      exact ⟨rfl, hF.out.below (Below.refl _ _) (Nat.le_refl _) (fun i hi => hi.elim)⟩
    · intro m hm hl w1 cnt1 hrg1 hlt hF1 hs1 hen
      have hF2 : Hid (Frm (fun _ => False) w w1) := Lib.hid (hF.out.trans hF1 (fun i hi => .inr (by rw [hi]; exact Nat.le_refl _)))
      have hx := HH.out.frm hF2.out (fun _ _ e => e)
      obtain ⟨m0, m1, mf⟩ := (hx.is m hm).cells
      obtain ⟨A, c, hv, _, _⟩ := (hx.is m hm).own.val
      have hst := gone_step HH.out.nds left hm hl
      have hb1 := HUL.out (fun z => left z && !z.sameKey (kS m.f.nm))
      have HS := Lib.hid hst
      rw [hst] at hb1
      rw [hv] at m0
      simp only [pfN] at hen
      obtain ⟨q, hq⟩ : ∃ q, m.f.bs.length = q := ⟨_, rfl⟩
      have HQ := Lib.hid hq
      rw [hq] at hb1 m0
      obtain ⟨u, hu⟩ : ∃ u, usedM (gone left ms) = u := ⟨_, rfl⟩
      have HU := Lib.hid hu
      rw [hu] at hb1
      rw [hu]
      have HW : Hid (w1.ranges Tryz.prog 9 ptrR bm w.heap.size n D (fun z => left z && !z.sameKey (kS m.f.nm)) cnt1) := Lib.hid hrg1
      clear hs1 hx hst hv hq hu hF1 hrg1
      generalize m.g = mg at *
      go_wp2_with fail
      go_roundw
      case rel => exact ⟨_, cnt1, HW.out, by rw [HS.out, HU.out, HQ.out]; go_num, hF2⟩
      case measure => rw [HW.out.left_eq, hrg.left_eq]; exact hlt
end
end Go.Proofs.YtbdhhmhlcdganaaGreatDoor
namespace Go.Proofs.YtbdhhmhlcdganaaGreatDoor
open Go.RowKit Go.Maps
set_option linter.unusedVariables false
set_option maxRecDepth 100000

section
variable {w : World} {g bm : Nat} {ms : List Pf} {d : Dv}
theorem PDx.below {w' : World} (h : PDx w g bm ms d) (hb : Below w.heap.size w w') : PDx w' g bm ms d := h.frm (F := fun _ => False) (Frm.of_below hb) (fun _ _ e => e)
theorem free_pd (h : PDx w g bm ms d) (ok : Dv.Ok d) : Calls Tryz.prog 22 #[.pointer (some ⟨g, 0, none⟩)] w fun e w' => e = .returned (.int .i64 ((d.room : Int) - usedD d.fs)) ∧ Below w.heap.size w w' := by
  obtain ⟨L, c0, c1, c2, c3, c4, cf, _⟩ := h.cells
  have hu := ok.us
  have hr := ok.rm
  have hgl : g < w.heap.size := h.lt g (.inl rfl)
  have HU : Hid (∀ W, Below w.heap.size w W → Calls Tryz.prog 20 #[.pointer (some ⟨g, 0, none⟩)] W fun e w' => e = .returned (.int .i64 (usedD d.fs : Nat)) ∧ Below w.heap.size w w' ∧ w'.cell? ⟨g, 3, none⟩ = some (.int .i64 (d.room : Int))) := Lib.hid (fun W hW => (used_pd (h.below hW) (by omega)).mono fun e w' ⟨h1, h2⟩ => by
    have hb := hW.trans (h2.mono hW.size)
    exact ⟨h1, hb, (hb.cell hgl).trans c3⟩)
  clear h ok c0 c1 c2 c4 cf
  generalize usedD d.fs = u at *
  generalize d.room = r at *
  have f1 : IntKind.i64.wrap ((r : Int) - (u : Int)) = (r : Int) - (u : Int) := by rw [IntKind.wrap_i64]; omega
  go_enter Tryz.func22, Tryz.ntmps22
  go_wp2_with fail
  go_region_with (first
    | (go_at_call 20; refine (HU.out _ (below_drew (Below.refl _ _))).mono ?_; rintro e wp ⟨rfl, hb, c3'⟩))
  all_goals
    (try go_wp2)
    go_ret
    exact ⟨rfl, hb⟩
theorem read_pd (s : ByteArray) (h : PDx w g bm ms d) (ok : Dv.Ok d) : Calls Tryz.prog 69 #[.pointer (some ⟨g, 0, none⟩), .string s] w fun e w' => ∃ v, e = .returned (.tuple #[v, .int .i64 (readE d s)]) ∧ KOwn .u8 5 w' w.heap.size v (readL d s) ∧ Below w.heap.size w w' := by
  obtain ⟨L, c0, c1, c2, c3, c4, cf, _⟩ := h.cells
  have hl := h.map.lookup s
  cases hf : findD d.fs s with
  | none =>
    rw [h.look_no hf] at hl
    have HE : Hid (readE d s = 6) := Lib.hid (by unfold readE; rw [hf])
    have HL : Hid (readL d s = []) := Lib.hid (by unfold readL; rw [hf])
    rw [HE.out, HL.out]
    clear h hf ok
    go_enter Tryz.func69, Tryz.ntmps69
    go_wp2
    go_ret2
    exact ⟨_, rfl, KOwn.nil _ _ _ _, Below.refl _ _⟩
  | some k =>
    obtain ⟨hk, hk', hlk, he, _⟩ := h.look_yes hf
    rw [hlk] at hl
    have HE : Hid (readE d s = 0) := Lib.hid (by unfold readE; rw [hf])
    have HL : Hid (readL d s = ms[k].f.bs) := Lib.hid (by unfold readL; rw [hf]; simp [List.getElem?_eq_getElem hk', he])
    rw [HE.out, HL.out]
    have hfl := ok.fl _ (List.getElem_mem hk')
    have hus := used_mem (List.getElem_mem hk')
    have hu := ok.us
    have hr := ok.rm
    rw [he] at hfl hus
    have hm := h.is _ (List.getElem_mem hk)
    have hwf := hfl.wf
    generalize ms[k] = m at *
    obtain ⟨m0, m1, mf⟩ := hm.cells
    obtain ⟨A, c, hv, hrow, _, _⟩ := hm.own.row hwf
    rw [hv] at m0
    have HC : Hid (Calls Tryz.prog 74 #[.slice A m.f.bs.length c] w (MakesCl w m.f.bs)) := Lib.hid (clone_any A _ c _ w hrow rfl (by omega))
    generalize m.f.bs = bs at *
    generalize bs.length = n at *
    generalize m.g = q at *
    clear h hf ok he hlk hfl hus hu hr hm hrow hv hwf hk hk'
    go_enter Tryz.func69, Tryz.ntmps69
    go_wp2_with (go_at_call 74; refine HC.out.mono ?_; rintro e w' ⟨v, rfl, hk, hb⟩)
    go_ret2
    exact ⟨v, rfl, hk, hb⟩
end

def PfTo (m : Pf) (f' : Fl) (w : World) (e : Ending) (w' : World) : Prop := e = .returned (.tuple #[]) ∧ ∃ v', PfIs w' ⟨m.g, v', f'⟩ ∧ Frm (fun b => b = m.g) w w' ∧ (v' = m.v ∨ ∀ b, v'.ownBlock = some b → w.heap.size ≤ b)
theorem PfIs.sets {w : World} {m : Pf} (h : PfIs w m) (y : Nat) : PfIs (w.setCell ⟨m.g, 1, none⟩ (.int .i64 (y : Int))) ⟨m.g, m.v, { m.f with sy := y }⟩ := by
  have hf := Frm.set (F := fun b => b = m.g) w m.g 1 (.int .i64 (y : Int)) rfl
  refine ⟨dv_box_set h.box 1 _, h.own.frm hf (fun b hb e => ?_)⟩
  obtain ⟨c, hc⟩ := h.own.at_block hb
  exact cells_ne hc h.box (by decide) e
theorem PfIs.setd {w w1 : World} {m : Pf} (h : PfIs w m) {v' : Value} {xs : List Int} (hb : Below w.heap.size w w1) (hv : KOwn .u8 5 w1 w.heap.size v' xs) : PfIs (w1.setCell ⟨m.g, 0, none⟩ v') ⟨m.g, v', { m.f with bs := xs }⟩ := by
  have hf := Frm.set (F := fun b => b = m.g) w1 m.g 0 v' rfl
  have h1 : w1.heap[m.g]? = _ := (hb.block m.g (block_lt h.box)).trans h.box
  refine ⟨dv_box_set h1 0 _, (hv.mono (Nat.zero_le _)).frm hf (fun b hb e => ?_)⟩
  have := (hv.block b hb).1
  have := block_lt h.box
  omega
theorem sync_pf (m : Pf) (w : World) (h : PfIs w m) : Calls Tryz.prog 45 #[.pointer (some ⟨m.g, 0, none⟩)] w (PfTo m { m.f with sy := m.f.bs.length } w) := by
  obtain ⟨m0, m1, mf⟩ := h.cells
  obtain ⟨A, c, hv, _, _⟩ := h.own.val
  have H := Lib.hid (h.sets m.f.bs.length)
  rw [hv] at m0
  have HG : Hid (∃ q, m.g = q) := Lib.hid ⟨_, rfl⟩
  have hfr : Frm (fun b => b = m.g) w _ := Frm.set (F := fun b => b = m.g) w m.g 1 (.int .i64 (m.f.bs.length : Int)) rfl
  have HF := Lib.hid hfr
  clear h hv hfr
  obtain ⟨n, hn⟩ : ∃ n, m.f.bs.length = n := ⟨_, rfl⟩
  rw [hn] at H m0 HF ⊢
  clear hn
  go_enter Tryz.func45, Tryz.ntmps45
  go_wp2
  go_end0
  exact ⟨rfl, m.v, H.out, HF.out, .inl rfl⟩
theorem KOwn.letters {k : IntKind} {e : TypeId} {w : World} {base : Nat} {v : Value} {xs : List Int} (h : KOwn k e w base v xs) : ∃ A n c, v = .slice A n c := by
  obtain ⟨A, c, rfl, _⟩ := h.val
  exact ⟨_, _, _, rfl⟩
theorem min_lit (y n : Nat) : ∃ q : Nat, (∀ (ts : Array TypeId) (t : TypeId) (W : World), (Builtin.min_ ts t #[.int .i64 (y : Int), .int .i64 (n : Int)]).run Tryz.prog W = .ok (.int .i64 (q : Int)) W) ∧ q = min y n := by
  refine ⟨min y n, fun ts t W => ?_, rfl⟩
  rw [run_min_int2]
  congr 2
  split <;> omega
theorem cut_pf (m : Pf) (n : Nat) (w : World) (h : PfIs w m) (hwf : ∀ x ∈ m.f.bs, (Lit.int .u8 x).wf = true) (hb : m.f.bs.length ≤ 1000000000) : Calls Tryz.prog 44 #[.pointer (some ⟨m.g, 0, none⟩), .int .i64 (n : Int)] w (PfTo m { m.f with bs := m.f.bs.take n, sy := min m.f.sy n } w) := by
  obtain ⟨m0, m1, mf⟩ := h.cells
  obtain ⟨A, c, hv, hrow, hle, hcm⟩ := h.own.row hwf
  by_cases hn : n < m.f.bs.length
  · obtain ⟨b, o, rfl, _⟩ := hrow.2 (by omega)
    have hlt : m.g < w.heap.size := block_lt h.box
    have hrow' : Row .u8 w w.heap.size (some ⟨b, o, none⟩) (m.f.bs.take n) := hrow.front n
    have HC : Hid (Calls Tryz.prog 74 #[.slice (some ⟨b, o, none⟩) n c] w (MakesCl w (m.f.bs.take n))) := Lib.hid (clone_any _ _ c _ w hrow' (by rw [List.length_take]; omega) (by omega))
    have H := Lib.hid h
    rw [hv] at m0
    have HM : Hid (∀ (w1 : World) (v' : Value), Below w.heap.size w w1 → KOwn .u8 5 w1 w.heap.size v' (m.f.bs.take n) → PfTo m { m.f with bs := m.f.bs.take n, sy := min m.f.sy n } w (.returned (.tuple #[])) ((w1.setCell ⟨m.g, 0, none⟩ v').setCell ⟨m.g, 1, none⟩ (.int .i64 ((min m.f.sy n : Nat) : Int)))) := Lib.hid (fun w1 v' hb1 hk1 => by
      refine ⟨rfl, v', (H.out.setd hb1 hk1).sets (min m.f.sy n), ?_, .inr (fun b hb => (hk1.block b hb).1)⟩
      exact ((Frm.of_below (F := fun b => b = m.g) hb1).trans (Frm.set (F := fun b => b = m.g) w1 m.g 0 v' rfl) (fun i hi => .inl hi)).trans (Frm.set (F := fun b => b = m.g) _ m.g 1 _ rfl) (fun i hi => .inl hi))
    have i1 : (n : Int) < (m.f.bs.length : Int) := by omega
    have i2 : (n : Int) ≤ (c : Int) := by omega
    have i3 : n ≤ c := by omega
    obtain ⟨q, hmin, hq⟩ := min_lit m.f.sy n
    rw [← hq] at HM
    obtain ⟨y, hy⟩ : ∃ y, m.f.sy = y := ⟨_, rfl⟩
    rw [hy] at hmin m1
    obtain ⟨N, hN⟩ : ∃ N, m.f.bs.length = N := ⟨_, rfl⟩
    rw [hN] at m0 i1
    rw [← hq]
    obtain ⟨gm, hg⟩ : ∃ gm, m.g = gm := ⟨_, rfl⟩
    have HG := Lib.hid hg
    rw [hg] at m0 m1 hlt ⊢
    rw [hg] at mf HM
    generalize (PfTo m _ w) = R at HM ⊢
    clear h hv hrow hrow' hb hwf hn hq hy hN hg hle hcm H
    generalize m.f.bs.take n = L at *
    go_enter Tryz.func44, Tryz.ntmps44
    go_wp2_with (go_at_call 74; refine HC.out.mono ?_; rintro e w1 ⟨v', rfl, hk1, hb1⟩; obtain ⟨A', n', c', rfl⟩ := hk1.letters; have HK1 := Lib.hid hk1; clear hk1; have m0' := (hb1.cell (p := ⟨gm, 0, none⟩) hlt).trans m0; have m1' := (hb1.cell (p := ⟨gm, 1, none⟩) hlt).trans m1; have mf' : ∀ j, w1.frozen? ⟨gm, j, none⟩ = false := fun j => (World.frozen?_of_block (hb1.block gm hlt)).trans (mf j))
    go_end0
    exact HM.out w1 _ hb1 HK1.out
  · have H := Lib.hid h
    rw [hv] at m0
    have e2 : m.f.bs.take n = m.f.bs := List.take_of_length_le (by omega)
    have hfr : Frm (fun b => b = m.g) w (w.setCell ⟨m.g, 1, none⟩ (.int .i64 ((min m.f.sy n : Nat) : Int))) := Frm.set (F := fun b => b = m.g) w m.g 1 _ rfl
    have HM : Hid (PfTo m { m.f with bs := m.f.bs.take n, sy := min m.f.sy n } w (.returned (.tuple #[])) (w.setCell ⟨m.g, 1, none⟩ (.int .i64 ((min m.f.sy n : Nat) : Int)))) := Lib.hid (by
      rw [e2]
      exact ⟨rfl, m.v, h.sets (min m.f.sy n), hfr, .inl rfl⟩)
    have i1 : ¬ (n : Int) < (m.f.bs.length : Int) := by omega
    obtain ⟨q, hmin, hq⟩ := min_lit m.f.sy n
    rw [← hq] at HM ⊢
    generalize (PfTo m _ w) = R at HM ⊢
    generalize m.f.sy = y at *
    generalize m.f.bs.length = N at *
    generalize m.g = gm at *
    clear h hv hrow hb hwf hn hq hle hcm H e2 hfr
    go_enter Tryz.func44, Tryz.ntmps44
    go_wp2
    go_end0
    exact HM.out
end Go.Proofs.YtbdhhmhlcdganaaGreatDoor
namespace Go.Proofs.YtbdhhmhlcdganaaGreatDoor
open Go.RowKit Go.Maps
set_option linter.unusedVariables false
set_option maxRecDepth 100000

section
variable {w : World} {g bm : Nat} {ms : List Pf} {d : Dv}
theorem PDx.power {w' : World} {d' : Dv} {L : Int} (h : PDx w g bm ms d) (hf : Frm (fun b => b = g) w w') (hb : w'.heap[g]? = some (.cells (dvC d' L bm) 38 (0, 0))) (hL : 0 ≤ d'.left → L = d'.left) (h1 : -9223372036854775808 ≤ L) (h2 : L < 9223372036854775808) (he : d'.fs = d.fs) : PDx w' g bm ms d' := by
  obtain ⟨h3, h4⟩ := h.g_ne
  exact ⟨⟨L, hb, hL, h1, h2⟩, h.map.same (hf.block bm h.map.lt (fun e => h3 e.symm)), fun m hm => (h.is m hm).frm hf (h4 m hm).1 (fun b hb => ((h4 m hm).2.2 b hb).1), h.fs.trans he.symm, h.apart⟩
theorem restore_pd (h : PDx w g bm ms d) : Calls Tryz.prog 46 #[.pointer (some ⟨g, 0, none⟩)] w fun e w' => e = .returned (.tuple #[]) ∧ PDx w' g bm ms { d with left := -1, off := false } ∧ Frm (fun b => b = g) w w' := by
  obtain ⟨L, c0, c1, c2, c3, c4, cf, _⟩ := h.cells
  have f1 := Frm.set (F := fun b => b = g) w g 0 (.bool false) rfl
  have f2 := Frm.set (F := fun b => b = g) (w.setCell ⟨g, 0, none⟩ (.bool false)) g 1 (.bool false) rfl
  have f3 := Frm.set (F := fun b => b = g) ((w.setCell ⟨g, 0, none⟩ (.bool false)).setCell ⟨g, 1, none⟩ (.bool false)) g 2 (.int .i64 0) rfl
  have F := Lib.hid ((f1.trans f2 (fun i hi => .inl hi)).trans f3 (fun i hi => .inl hi))
  have H : Hid (PDx (((w.setCell ⟨g, 0, none⟩ (.bool false)).setCell ⟨g, 1, none⟩ (.bool false)).setCell ⟨g, 2, none⟩ (.int .i64 0)) g bm ms { d with left := -1, off := false }) := Lib.hid (by
    obtain ⟨L', hb, _⟩ := h.box
    exact h.power (L := 0) F.out (dv_box_set (dv_box_set (dv_box_set hb 0 _) 1 _) 2 _) (fun e => absurd (show (0 : Int) ≤ -1 from e) (by decide)) (by omega) (by omega) rfl)
  clear h f1 f2 f3
  go_enter Tryz.func46, Tryz.ntmps46
  go_wp2
  go_end0
  exact ⟨rfl, H.out, F.out⟩
theorem arm_pd (n : Int) (h : PDx w g bm ms d) (hn : -9223372036854775808 ≤ n ∧ n < 9223372036854775808) : Calls Tryz.prog 11 #[.pointer (some ⟨g, 0, none⟩), .int .i64 n] w fun e w' => e = .returned (.tuple #[]) ∧ PDx w' g bm ms (armD d n) ∧ Frm (fun b => b = g) w w' := by
  obtain ⟨L, c0, c1, c2, c3, c4, cf, _⟩ := h.cells
  have f1 := Frm.set (F := fun b => b = g) w g 1 (.bool (decide (n ≥ 0))) rfl
  have f2 := Frm.set (F := fun b => b = g) (w.setCell ⟨g, 1, none⟩ (.bool (decide (n ≥ 0)))) g 2 (.int .i64 n) rfl
  have F := Lib.hid (f1.trans f2 (fun i hi => .inl hi))
  have H : Hid (PDx ((w.setCell ⟨g, 1, none⟩ (.bool (decide (n ≥ 0)))).setCell ⟨g, 2, none⟩ (.int .i64 n)) g bm ms (armD d n)) := Lib.hid (by
    obtain ⟨L', hb, _⟩ := h.box
    have hl : decide (0 ≤ (armD d n).left) = decide (n ≥ 0) := by
      show decide (0 ≤ if n < 0 then (-1 : Int) else n) = _
      split <;> simp <;> omega
    refine h.power (L := n) F.out ?_ (fun e => ?_) hn.1 hn.2 rfl
    · have := dv_box_set (dv_box_set hb 1 (.bool (decide (n ≥ 0)))) 2 (.int .i64 n)
      rw [this]
      unfold dvC
      rw [hl]
      rfl
    · have e2 : 0 ≤ if n < 0 then (-1 : Int) else n := e
      show n = if n < 0 then (-1 : Int) else n
      split at e2 <;> rename_i hh
      · omega
      · rw [if_neg hh])
  clear h f1 f2
  go_enter Tryz.func11, Tryz.ntmps11
  go_wp2
  go_end0
  exact ⟨rfl, H.out, F.out⟩
def OperTo (g bm : Nat) (ms : List Pf) (d : Dv) (w : World) (R : World → Prop) (e : Ending) (w' : World) : Prop :=
  (d.left = 0 ∧ e = .returned (.int .i64 10) ∧ PDx w' g bm ms { d with off := true } ∧ Frm (fun b => b = g) w w') ∨ (d.left ≠ 0 ∧ e = .returned (.int .i64 0) ∧ R w')
theorem operate_sync (k0 : Nat) (R : World → Prop) (h : PDx w g bm ms d) (ok : Dv.Ok d)
    (HC : d.left ≠ 0 → ∀ W, PDx W g bm ms (spentD d) → Frm (fun b => b = g) w W → Calls Tryz.prog 45 #[.pointer (some ⟨k0, 0, none⟩)] W (fun e w' => e = .returned (.tuple #[]) ∧ R w')) :
    Calls Tryz.prog 41 #[.pointer (some ⟨g, 0, none⟩), .func (.func 45) #[.pointer (some ⟨k0, 0, none⟩)] #[]] w (OperTo g bm ms d w R) := by
  obtain ⟨L, hb, hL, hL1, hL2⟩ := h.box
  have c0 : w.cell? ⟨g, 0, none⟩ = some (.bool d.off) := cell_of_row w g 0 _ _ _ hb
  have c1 : w.cell? ⟨g, 1, none⟩ = some (.bool (decide (0 ≤ d.left))) := cell_of_row w g 1 _ _ _ hb
  have c2 : w.cell? ⟨g, 2, none⟩ = some (.int .i64 L) := cell_of_row w g 2 _ _ _ hb
  have cf : ∀ j, w.frozen? ⟨g, j, none⟩ = false := fun j => block_frozen w g j _ _ hb
  by_cases h0 : d.left = 0
  · have F := Lib.hid (Frm.set (F := fun b => b = g) w g 0 (.bool true) rfl)
    have H : Hid (PDx (w.setCell ⟨g, 0, none⟩ (.bool true)) g bm ms { d with off := true }) := Lib.hid (h.power (L := L) F.out (dv_box_set hb 0 _) hL hL1 hL2 rfl)
    have hz : L = 0 := by rw [hL (by omega)]; exact h0
    rw [hz] at c2
    rw [h0] at c1
    have HZ := Lib.hid h0
    clear h HC ok hb hL hL1 hL2 h0 hz
    go_enter Tryz.func41, Tryz.ntmps41
    go_wp2
    go_ret
    exact .inl ⟨HZ.out, rfl, H.out, F.out⟩
  by_cases h1 : 0 < d.left
  · have hz : L = d.left := hL (by omega)
    have F := Lib.hid (Frm.set (F := fun b => b = g) w g 2 (.int .i64 (L - 1)) rfl)
    have lo := ok.li
    have H : Hid (PDx (w.setCell ⟨g, 2, none⟩ (.int .i64 (L - 1))) g bm ms (spentD d)) := Lib.hid (by
      have e1 : spentD d = { d with left := d.left - 1 } := if_pos h1
      rw [e1]
      refine h.power (L := L - 1) F.out ?_ (fun _ => by show L - 1 = d.left - 1; omega) (by omega) (by omega) rfl
      have := dv_box_set hb 2 (.int .i64 (L - 1))
      rw [this]
      have e3 : decide (0 ≤ ({ d with left := d.left - 1 } : Dv).left) = decide (0 ≤ d.left) := decide_eq_decide.2 (by show 0 ≤ d.left - 1 ↔ _; omega)
      unfold dvC
      rw [e3]
      rfl)
    have HCC := Lib.hid (HC h0 _ H.out F.out)
    have e2 : (L == 0) = false := beq_false_of_ne (by omega)
    have e3 : IntKind.i64.wrap (L - 1) = L - 1 := by rw [IntKind.wrap_i64]; omega
    rw [decide_eq_true (show 0 ≤ d.left by omega)] at c1
    have HZ := Lib.hid h0
    clear h HC ok hb hL hL1 hL2 h0 hz h1 lo H F
    go_enter Tryz.func41, Tryz.ntmps41
    go_wp2_with (go_at_call 45; refine HCC.out.mono ?_; rintro e w' ⟨rfl, hR⟩)
    go_ret
    exact .inr ⟨HZ.out, rfl, hR⟩
  · have H : Hid (PDx w g bm ms (spentD d)) := Lib.hid (by
      have e1 : spentD d = d := if_neg h1
      rw [e1]; exact h)
    have HCC := Lib.hid (HC h0 _ H.out (Frm.refl _ _))
    have hn : ¬ 0 ≤ d.left := by omega
    rw [decide_eq_false hn] at c1
    have HZ := Lib.hid h0
    clear h HC ok hb hL hL1 hL2 h0 hn h1 H
    go_enter Tryz.func41, Tryz.ntmps41
    go_wp2_with (go_at_call 45; refine HCC.out.mono ?_; rintro e w' ⟨rfl, hR⟩)
    go_ret
    exact .inr ⟨HZ.out, rfl, hR⟩
theorem operate_append (k0 k1 k2 : Nat) (R : World → Prop) (h : PDx w g bm ms d) (ok : Dv.Ok d)
    (HC : d.left ≠ 0 → ∀ W, PDx W g bm ms (spentD d) → Frm (fun b => b = g) w W → Calls Tryz.prog 42 #[.pointer (some ⟨k0, 0, none⟩), .pointer (some ⟨k1, 0, none⟩), .pointer (some ⟨k2, 0, none⟩)] W (fun e w' => e = .returned (.tuple #[]) ∧ R w')) :
    Calls Tryz.prog 41 #[.pointer (some ⟨g, 0, none⟩), .func (.func 42) #[] #[.pointer (some ⟨k0, 0, none⟩), .pointer (some ⟨k1, 0, none⟩), .pointer (some ⟨k2, 0, none⟩)]] w (OperTo g bm ms d w R) := by
  obtain ⟨L, hb, hL, hL1, hL2⟩ := h.box
  have c0 : w.cell? ⟨g, 0, none⟩ = some (.bool d.off) := cell_of_row w g 0 _ _ _ hb
  have c1 : w.cell? ⟨g, 1, none⟩ = some (.bool (decide (0 ≤ d.left))) := cell_of_row w g 1 _ _ _ hb
  have c2 : w.cell? ⟨g, 2, none⟩ = some (.int .i64 L) := cell_of_row w g 2 _ _ _ hb
  have cf : ∀ j, w.frozen? ⟨g, j, none⟩ = false := fun j => block_frozen w g j _ _ hb
  by_cases h0 : d.left = 0
  · have F := Lib.hid (Frm.set (F := fun b => b = g) w g 0 (.bool true) rfl)
    have H : Hid (PDx (w.setCell ⟨g, 0, none⟩ (.bool true)) g bm ms { d with off := true }) := Lib.hid (h.power (L := L) F.out (dv_box_set hb 0 _) hL hL1 hL2 rfl)
    have hz : L = 0 := by rw [hL (by omega)]; exact h0
    rw [hz] at c2
    rw [h0] at c1
    have HZ := Lib.hid h0
    clear h HC ok hb hL hL1 hL2 h0 hz
    go_enter Tryz.func41, Tryz.ntmps41
    go_wp2
    go_ret
    exact .inl ⟨HZ.out, rfl, H.out, F.out⟩
  by_cases h1 : 0 < d.left
  · have hz : L = d.left := hL (by omega)
    have F := Lib.hid (Frm.set (F := fun b => b = g) w g 2 (.int .i64 (L - 1)) rfl)
    have lo := ok.li
    have H : Hid (PDx (w.setCell ⟨g, 2, none⟩ (.int .i64 (L - 1))) g bm ms (spentD d)) := Lib.hid (by
      have e1 : spentD d = { d with left := d.left - 1 } := if_pos h1
      rw [e1]
      refine h.power (L := L - 1) F.out ?_ (fun _ => by show L - 1 = d.left - 1; omega) (by omega) (by omega) rfl
      have := dv_box_set hb 2 (.int .i64 (L - 1))
      rw [this]
      have e3 : decide (0 ≤ ({ d with left := d.left - 1 } : Dv).left) = decide (0 ≤ d.left) := decide_eq_decide.2 (by show 0 ≤ d.left - 1 ↔ _; omega)
      unfold dvC
      rw [e3]
      rfl)
    have HCC := Lib.hid (HC h0 _ H.out F.out)
    have e2 : (L == 0) = false := beq_false_of_ne (by omega)
    have e3 : IntKind.i64.wrap (L - 1) = L - 1 := by rw [IntKind.wrap_i64]; omega
    rw [decide_eq_true (show 0 ≤ d.left by omega)] at c1
    have HZ := Lib.hid h0
    clear h HC ok hb hL hL1 hL2 h0 hz h1 lo H F
    go_enter Tryz.func41, Tryz.ntmps41
    go_wp2_with (go_at_call 42; refine HCC.out.mono ?_; rintro e w' ⟨rfl, hR⟩)
    go_ret
    exact .inr ⟨HZ.out, rfl, hR⟩
  · have H : Hid (PDx w g bm ms (spentD d)) := Lib.hid (by
      have e1 : spentD d = d := if_neg h1
      rw [e1]; exact h)
    have HCC := Lib.hid (HC h0 _ H.out (Frm.refl _ _))
    have hn : ¬ 0 ≤ d.left := by omega
    rw [decide_eq_false hn] at c1
    have HZ := Lib.hid h0
    clear h HC ok hb hL hL1 hL2 h0 hn h1 H
    go_enter Tryz.func41, Tryz.ntmps41
    go_wp2_with (go_at_call 42; refine HCC.out.mono ?_; rintro e w' ⟨rfl, hR⟩)
    go_ret
    exact .inr ⟨HZ.out, rfl, hR⟩
theorem operate_truncate (k0 k1 : Nat) (R : World → Prop) (h : PDx w g bm ms d) (ok : Dv.Ok d)
    (HC : d.left ≠ 0 → ∀ W, PDx W g bm ms (spentD d) → Frm (fun b => b = g) w W → Calls Tryz.prog 136 #[.pointer (some ⟨k0, 0, none⟩), .pointer (some ⟨k1, 0, none⟩)] W (fun e w' => e = .returned (.tuple #[]) ∧ R w')) :
    Calls Tryz.prog 41 #[.pointer (some ⟨g, 0, none⟩), .func (.func 136) #[] #[.pointer (some ⟨k0, 0, none⟩), .pointer (some ⟨k1, 0, none⟩)]] w (OperTo g bm ms d w R) := by
  obtain ⟨L, hb, hL, hL1, hL2⟩ := h.box
  have c0 : w.cell? ⟨g, 0, none⟩ = some (.bool d.off) := cell_of_row w g 0 _ _ _ hb
  have c1 : w.cell? ⟨g, 1, none⟩ = some (.bool (decide (0 ≤ d.left))) := cell_of_row w g 1 _ _ _ hb
  have c2 : w.cell? ⟨g, 2, none⟩ = some (.int .i64 L) := cell_of_row w g 2 _ _ _ hb
  have cf : ∀ j, w.frozen? ⟨g, j, none⟩ = false := fun j => block_frozen w g j _ _ hb
  by_cases h0 : d.left = 0
  · have F := Lib.hid (Frm.set (F := fun b => b = g) w g 0 (.bool true) rfl)
    have H : Hid (PDx (w.setCell ⟨g, 0, none⟩ (.bool true)) g bm ms { d with off := true }) := Lib.hid (h.power (L := L) F.out (dv_box_set hb 0 _) hL hL1 hL2 rfl)
    have hz : L = 0 := by rw [hL (by omega)]; exact h0
    rw [hz] at c2
    rw [h0] at c1
    have HZ := Lib.hid h0
    clear h HC ok hb hL hL1 hL2 h0 hz
    go_enter Tryz.func41, Tryz.ntmps41
    go_wp2
    go_ret
    exact .inl ⟨HZ.out, rfl, H.out, F.out⟩
  by_cases h1 : 0 < d.left
  · have hz : L = d.left := hL (by omega)
    have F := Lib.hid (Frm.set (F := fun b => b = g) w g 2 (.int .i64 (L - 1)) rfl)
    have lo := ok.li
    have H : Hid (PDx (w.setCell ⟨g, 2, none⟩ (.int .i64 (L - 1))) g bm ms (spentD d)) := Lib.hid (by
      have e1 : spentD d = { d with left := d.left - 1 } := if_pos h1
      rw [e1]
      refine h.power (L := L - 1) F.out ?_ (fun _ => by show L - 1 = d.left - 1; omega) (by omega) (by omega) rfl
      have := dv_box_set hb 2 (.int .i64 (L - 1))
      rw [this]
      have e3 : decide (0 ≤ ({ d with left := d.left - 1 } : Dv).left) = decide (0 ≤ d.left) := decide_eq_decide.2 (by show 0 ≤ d.left - 1 ↔ _; omega)
      unfold dvC
      rw [e3]
      rfl)
    have HCC := Lib.hid (HC h0 _ H.out F.out)
    have e2 : (L == 0) = false := beq_false_of_ne (by omega)
    have e3 : IntKind.i64.wrap (L - 1) = L - 1 := by rw [IntKind.wrap_i64]; omega
    rw [decide_eq_true (show 0 ≤ d.left by omega)] at c1
    have HZ := Lib.hid h0
    clear h HC ok hb hL hL1 hL2 h0 hz h1 lo H F
    go_enter Tryz.func41, Tryz.ntmps41
    go_wp2_with (go_at_call 136; refine HCC.out.mono ?_; rintro e w' ⟨rfl, hR⟩)
    go_ret
    exact .inr ⟨HZ.out, rfl, hR⟩
  · have H : Hid (PDx w g bm ms (spentD d)) := Lib.hid (by
      have e1 : spentD d = d := if_neg h1
      rw [e1]; exact h)
    have HCC := Lib.hid (HC h0 _ H.out (Frm.refl _ _))
    have hn : ¬ 0 ≤ d.left := by omega
    rw [decide_eq_false hn] at c1
    have HZ := Lib.hid h0
    clear h HC ok hb hL hL1 hL2 h0 hn h1 H
    go_enter Tryz.func41, Tryz.ntmps41
    go_wp2_with (go_at_call 136; refine HCC.out.mono ?_; rintro e w' ⟨rfl, hR⟩)
    go_ret
    exact .inr ⟨HZ.out, rfl, hR⟩
theorem operate_remove (k0 k1 : Nat) (R : World → Prop) (h : PDx w g bm ms d) (ok : Dv.Ok d)
    (HC : d.left ≠ 0 → ∀ W, PDx W g bm ms (spentD d) → Frm (fun b => b = g) w W → Calls Tryz.prog 104 #[.pointer (some ⟨k0, 0, none⟩), .pointer (some ⟨k1, 0, none⟩)] W (fun e w' => e = .returned (.tuple #[]) ∧ R w')) :
    Calls Tryz.prog 41 #[.pointer (some ⟨g, 0, none⟩), .func (.func 104) #[] #[.pointer (some ⟨k0, 0, none⟩), .pointer (some ⟨k1, 0, none⟩)]] w (OperTo g bm ms d w R) := by
  obtain ⟨L, hb, hL, hL1, hL2⟩ := h.box
  have c0 : w.cell? ⟨g, 0, none⟩ = some (.bool d.off) := cell_of_row w g 0 _ _ _ hb
  have c1 : w.cell? ⟨g, 1, none⟩ = some (.bool (decide (0 ≤ d.left))) := cell_of_row w g 1 _ _ _ hb
  have c2 : w.cell? ⟨g, 2, none⟩ = some (.int .i64 L) := cell_of_row w g 2 _ _ _ hb
  have cf : ∀ j, w.frozen? ⟨g, j, none⟩ = false := fun j => block_frozen w g j _ _ hb
  by_cases h0 : d.left = 0
  · have F := Lib.hid (Frm.set (F := fun b => b = g) w g 0 (.bool true) rfl)
    have H : Hid (PDx (w.setCell ⟨g, 0, none⟩ (.bool true)) g bm ms { d with off := true }) := Lib.hid (h.power (L := L) F.out (dv_box_set hb 0 _) hL hL1 hL2 rfl)
    have hz : L = 0 := by rw [hL (by omega)]; exact h0
    rw [hz] at c2
    rw [h0] at c1
    have HZ := Lib.hid h0
    clear h HC ok hb hL hL1 hL2 h0 hz
    go_enter Tryz.func41, Tryz.ntmps41
    go_wp2
    go_ret
    exact .inl ⟨HZ.out, rfl, H.out, F.out⟩
  by_cases h1 : 0 < d.left
  · have hz : L = d.left := hL (by omega)
    have F := Lib.hid (Frm.set (F := fun b => b = g) w g 2 (.int .i64 (L - 1)) rfl)
    have lo := ok.li
    have H : Hid (PDx (w.setCell ⟨g, 2, none⟩ (.int .i64 (L - 1))) g bm ms (spentD d)) := Lib.hid (by
      have e1 : spentD d = { d with left := d.left - 1 } := if_pos h1
      rw [e1]
      refine h.power (L := L - 1) F.out ?_ (fun _ => by show L - 1 = d.left - 1; omega) (by omega) (by omega) rfl
      have := dv_box_set hb 2 (.int .i64 (L - 1))
      rw [this]
      have e3 : decide (0 ≤ ({ d with left := d.left - 1 } : Dv).left) = decide (0 ≤ d.left) := decide_eq_decide.2 (by show 0 ≤ d.left - 1 ↔ _; omega)
      unfold dvC
      rw [e3]
      rfl)
    have HCC := Lib.hid (HC h0 _ H.out F.out)
    have e2 : (L == 0) = false := beq_false_of_ne (by omega)
    have e3 : IntKind.i64.wrap (L - 1) = L - 1 := by rw [IntKind.wrap_i64]; omega
    rw [decide_eq_true (show 0 ≤ d.left by omega)] at c1
    have HZ := Lib.hid h0
    clear h HC ok hb hL hL1 hL2 h0 hz h1 lo H F
    go_enter Tryz.func41, Tryz.ntmps41
    go_wp2_with (go_at_call 104; refine HCC.out.mono ?_; rintro e w' ⟨rfl, hR⟩)
    go_ret
    exact .inr ⟨HZ.out, rfl, hR⟩
  · have H : Hid (PDx w g bm ms (spentD d)) := Lib.hid (by
      have e1 : spentD d = d := if_neg h1
      rw [e1]; exact h)
    have HCC := Lib.hid (HC h0 _ H.out (Frm.refl _ _))
    have hn : ¬ 0 ≤ d.left := by omega
    rw [decide_eq_false hn] at c1
    have HZ := Lib.hid h0
    clear h HC ok hb hL hL1 hL2 h0 hn h1 H
    go_enter Tryz.func41, Tryz.ntmps41
    go_wp2_with (go_at_call 104; refine HCC.out.mono ?_; rintro e w' ⟨rfl, hR⟩)
    go_ret
    exact .inr ⟨HZ.out, rfl, hR⟩
end
end Go.Proofs.YtbdhhmhlcdganaaGreatDoor
namespace Go.Proofs.YtbdhhmhlcdganaaGreatDoor
open Go.RowKit Go.Maps
set_option linter.unusedVariables false
set_option maxRecDepth 100000

section
variable {w w' : World} {g bm : Nat} {ms : List Pf} {d : Dv}
theorem PDx.len (h : PDx w g bm ms d) : ms.length = d.fs.length := by rw [← h.fs, List.length_map]
def PRes (g bm : Nat) (ms : List Pf) (d' : Dv) (w w' : World) : Prop := ∃ ms', PDx w' g bm ms' d' ∧ Frm (PG g bm ms) w w' ∧ ∀ b, PG g bm ms' b → PG g bm ms b ∨ w.heap.size ≤ b
theorem PRes.stp {G : Nat → Prop} {d' : Dv} (hg : ∀ b, PG g bm ms b ↔ G b) (h : PRes g bm ms d' w w') (v : Value) : Stp PDe G g d' v w (.returned v) w' := by
  obtain ⟨ms', h1, h2, h3⟩ := h
  exact ⟨rfl, PG g bm ms', ⟨bm, ms', h1, fun _ => Iff.rfl⟩, h2.mono (fun b hb => (hg b).1 hb), fun b hb => (h3 b hb).imp (hg b).1 id⟩
theorem PRes.same (h : PDx w g bm ms d) : PRes g bm ms d w w := ⟨ms, h, Frm.refl _ _, fun b hb => .inl hb⟩
theorem PRes.from_ {W : World} {d' : Dv} (hf : Frm (fun b => b = g) w W) (h : PRes g bm ms d' W w') : PRes g bm ms d' w w' := by
  obtain ⟨ms', h1, h2, h3⟩ := h
  exact ⟨ms', h1, (hf.mono (fun b e => .inl e)).trans h2 (fun i hi => .inl hi), fun b hb => (h3 b hb).imp id (fun e => Nat.le_trans hf.size e)⟩
theorem OperTo.res {d' : Dv} {e : Ending} (h : OperTo g bm ms d w (fun w' => PRes g bm ms d' w w') e w') : e = .returned (.int .i64 (opD d d').2) ∧ PRes g bm ms (opD d d').1 w w' := by
  unfold opD
  rcases h with ⟨h0, rfl, hx, hf⟩ | ⟨h0, rfl, hr⟩
  · rw [if_pos h0]
    exact ⟨rfl, ms, hx, hf.mono (fun b e => .inl e), fun b hb => .inl hb⟩
  · rw [if_neg h0]
    exact ⟨rfl, hr⟩
theorem PDx.setFile (h : PDx w g bm ms d) {k : Nat} (hk : k < ms.length) {m' : Pf} (hg : m'.g = ms[k].g) (hn : m'.f.nm = ms[k].f.nm) (hf : Frm (fun b => b = ms[k].g ∨ ms[k].v.ownBlock = some b) w w') (hm : PfIs w' m')
    (vb : ∀ b, m'.v.ownBlock = some b → ms[k].v.ownBlock = some b ∨ w.heap.size ≤ b) : PDx w' g bm (ms.set k m') { d with fs := d.fs.set k m'.f } ∧ ∀ b, PG g bm (ms.set k m') b → PG g bm ms b ∨ w.heap.size ≤ b := by
  obtain ⟨h3, h4⟩ := h.g_ne
  have hmk := List.getElem_mem hk
  obtain ⟨k1, k2, k3⟩ := h4 _ hmk
  have hap := List.pairwise_iff_getElem.1 h.apart
  have other : ∀ i (hi : i < ms.length), i ≠ k → PfA ms[i] ms[k] := fun i hi hne => by
    rcases Nat.lt_or_gt_of_ne hne with e | e
    · exact hap i k hi hk e
    · exact (hap k i hk hi e).symm
  have hfar : ∀ m ∈ ms, ∀ b, m.v.ownBlock = some b → b < w.heap.size := fun m hm b hb => h.lt b (.inr (.inr ⟨m, hm, .inr hb⟩))
  have far : ∀ i (hi : i < ms.length), i ≠ k → PfA ms[i] m' := fun i hi hne => by
    have := other i hi hne
    refine ⟨by rw [hg]; exact this.1, fun b hb hb' => ?_⟩
    rcases vb b hb' with e | e
    · exact this.2 b hb e
    · have := hfar _ (List.getElem_mem hi) b hb
      omega
  constructor
  · obtain ⟨L, hb, r⟩ := h.box
    refine ⟨⟨L, (hf.block g (block_lt hb) (fun e => e.elim (fun e => k1 e.symm) (fun e => (k3 g e).1 rfl))).trans hb, r⟩, ?_, ?_, ?_, ?_⟩
    · have e : (ms.set k m').map pfN = ms.map pfN := by
        rw [List.map_set]
        have : pfN m' = (ms.map pfN)[k]'(by rw [List.length_map]; exact hk) := by simp [pfN, hg, hn]
        rw [this, List.set_getElem_self]
      rw [e]
      exact h.map.same (hf.block bm h.map.lt (fun e => e.elim (fun e => k2 e.symm) (fun e => (k3 bm e).2.1 rfl)))
    · intro m hm'
      obtain ⟨i, hi, rfl⟩ := List.mem_iff_getElem.1 hm'
      rw [List.length_set] at hi
      rw [List.getElem_set]
      split
      · exact hm
      · rename_i hne
        have ho := other i hi (fun e => hne e.symm)
        exact (h.is _ (List.getElem_mem hi)).frm hf (fun e => e.elim (fun e => ho.1 e) (fun e => (k3 _ e).2.2 _ (List.getElem_mem hi) rfl)) (fun b hb e => e.elim (fun e => ((h4 _ (List.getElem_mem hi)).2.2 b hb).2.2 _ hmk e.symm) (fun e => ho.2 b hb e))
    · rw [List.map_set, h.fs]
    · rw [List.pairwise_iff_getElem]
      intro i j hi hj hij
      rw [List.length_set] at hi hj
      rw [List.getElem_set, List.getElem_set]
      split <;> split
      · omega
      · rename_i e1 e2; exact (far j hj (fun e => e2 e.symm)).symm
      · rename_i e1 e2; exact far i hi (fun e => e1 e.symm)
      · exact hap i j hi hj hij
  · intro b hb
    rcases hb with e | e | ⟨m, hm', e⟩
    · exact .inl (.inl e)
    · exact .inl (.inr (.inl e))
    · rcases List.mem_or_eq_of_mem_set hm' with hm2 | rfl
      · exact .inl (.inr (.inr ⟨m, hm2, e⟩))
      · rcases e with e | e
        · exact .inl (.inr (.inr ⟨_, hmk, .inl (by rw [e, hg])⟩))
        · exact (vb b e).imp (fun e => .inr (.inr ⟨_, hmk, .inr e⟩)) id
theorem modify_setP (l : List Fl) (k : Nat) (hk : k < l.length) (F : Fl → Fl) : l.modify k F = l.set k (F l[k]) := by
  apply List.ext_getElem
  · simp
  · intro i h1 h2
    rw [List.getElem_modify, List.getElem_set]
    split
    · rename_i e; subst e; rfl
    · rfl
theorem PfTo.res (h : PDx w g bm ms d) {k : Nat} (hk : k < ms.length) (F : Fl → Fl) (hF : ∀ f, (F f).nm = f.nm) {e : Ending} (hp : PfTo ms[k] (F ms[k].f) w e w') :
    e = .returned (.tuple #[]) ∧ PRes g bm ms { d with fs := d.fs.modify k F } w w' := by
  obtain ⟨rfl, v', h1, h2, h3⟩ := hp
  have hk' : k < d.fs.length := by rw [← h.len]; exact hk
  have he : d.fs[k] = ms[k].f := by simp only [← h.fs, List.getElem_map]
  obtain ⟨a, b⟩ := h.setFile hk (m' := ⟨ms[k].g, v', F ms[k].f⟩) rfl (hF _) (h2.mono (fun b e => .inl e)) h1 (fun b hb => h3.elim (fun e => .inl (by rw [← e]; exact hb)) (fun e => .inr (e b hb)))
  rw [modify_setP _ _ hk', he]
  exact ⟨rfl, _, a, h2.mono (fun b e => .inr (.inr ⟨_, List.getElem_mem hk, .inl e⟩)), b⟩

theorem find_off (s : ByteArray) (h : PDx w g bm ms d) (ho : d.off = true) : Calls Tryz.prog 103 #[.pointer (some ⟨g, 0, none⟩), .string s] w fun e w' => e = .returned (.tuple #[.pointer none, .int .i64 10]) ∧ w' = w :=
  (find_pd s h).mono fun e w' ⟨h1, h2⟩ => by
    rcases h2 with ⟨_, h3⟩ | ⟨h3, _⟩ | ⟨h3, _⟩
    · exact ⟨h3, h1⟩
    · rw [ho] at h3; cases h3
    · rw [ho] at h3; cases h3
theorem find_no (s : ByteArray) (h : PDx w g bm ms d) (ho : d.off = false) (hf : findD d.fs s = none) : Calls Tryz.prog 103 #[.pointer (some ⟨g, 0, none⟩), .string s] w fun e w' => e = .returned (.tuple #[.pointer none, .int .i64 6]) ∧ w' = w :=
  (find_pd s h).mono fun e w' ⟨h1, h2⟩ => by
    rcases h2 with ⟨h3, _⟩ | ⟨_, _, h3⟩ | ⟨_, k, hk, h3, _⟩
    · rw [ho] at h3; cases h3
    · exact ⟨h3, h1⟩
    · rw [hf] at h3; cases h3
theorem find_at (s : ByteArray) (h : PDx w g bm ms d) (ho : d.off = false) {k : Nat} (hf : findD d.fs s = some k) (hk : k < ms.length) : Calls Tryz.prog 103 #[.pointer (some ⟨g, 0, none⟩), .string s] w fun e w' => e = .returned (.tuple #[.pointer (some ⟨ms[k].g, 0, none⟩), .int .i64 0]) ∧ w' = w :=
  (find_pd s h).mono fun e w' ⟨h1, h2⟩ => by
    rcases h2 with ⟨h3, _⟩ | ⟨_, h3, _⟩ | ⟨_, k', hk', h3, h4⟩
    · rw [ho] at h3; cases h3
    · rw [hf] at h3; cases h3
    · rw [hf] at h3
      injection h3 with h3
      subst h3
      exact ⟨h4, h1⟩
theorem spentD_fs (d : Dv) : (spentD d).fs = d.fs := by unfold spentD; split <;> rfl
theorem sync_pd (s : ByteArray) (h : PDx w g bm ms d) (ok : Dv.Ok d) : Calls Tryz.prog 64 #[.pointer (some ⟨g, 0, none⟩), .string s] w fun e w' => e = .returned (.int .i64 (syncD d s).2) ∧ PRes g bm ms (syncD d s).1 w w' := by
  cases ho : d.off with
  | true =>
    have hs : syncD d s = (d, 10) := by unfold syncD; rw [if_pos ho]
    have HF := Lib.hid (find_off s h ho)
    have HP := Lib.hid (PRes.same h)
    rw [hs]
    clear h ok ho hs
    go_enter Tryz.func64, Tryz.ntmps64
    go_wp2_with (go_at_call 103; refine HF.out.mono ?_; rintro e w' ⟨rfl, rfl⟩)
    go_ret
    exact ⟨rfl, HP.out⟩
  | false =>
    cases hf : findD d.fs s with
    | none =>
      have hs : syncD d s = (d, 6) := by unfold syncD; rw [if_neg (by rw [ho]; simp), hf]
      have HF := Lib.hid (find_no s h ho hf)
      have HP := Lib.hid (PRes.same h)
      rw [hs]
      clear h ok ho hf hs
      go_enter Tryz.func64, Tryz.ntmps64
      go_wp2_with (go_at_call 103; refine HF.out.mono ?_; rintro e w' ⟨rfl, rfl⟩)
      go_ret
      exact ⟨rfl, HP.out⟩
    | some k =>
      obtain ⟨hk, _⟩ := h.look_yes hf
      have hs : syncD d s = opD d { spentD d with fs := d.fs.modify k (fun f => { f with sy := f.bs.length }) } := by unfold syncD; rw [if_neg (by rw [ho]; simp), hf]
      have HF := Lib.hid (find_at s h ho hf hk)
      have HO := Lib.hid (operate_sync ms[k].g (fun w' => PRes g bm ms { spentD d with fs := d.fs.modify k (fun f => { f with sy := f.bs.length }) } w w') h ok (fun _ W hW hF => (sync_pf ms[k] W (hW.is _ (List.getElem_mem hk))).mono fun e w' hp => by
        obtain ⟨h1, h2⟩ := PfTo.res hW hk (fun f => { f with sy := f.bs.length }) (fun _ => rfl) hp
        rw [spentD_fs] at h2
        exact ⟨h1, h2.from_ hF⟩))
      rw [hs]
      have HR : Hid (∀ e w', OperTo g bm ms d w (fun w' => PRes g bm ms { spentD d with fs := d.fs.modify k (fun f => { f with sy := f.bs.length }) } w w') e w' → e = .returned (.int .i64 (opD d { spentD d with fs := d.fs.modify k (fun f => { f with sy := f.bs.length }) }).2) ∧ PRes g bm ms (opD d { spentD d with fs := d.fs.modify k (fun f => { f with sy := f.bs.length }) }).1 w w') := Lib.hid (fun e w' h => h.res)
      generalize (opD d { spentD d with fs := d.fs.modify k (fun f => { f with sy := f.bs.length }) }).1 = d1 at HR ⊢
      generalize (opD d { spentD d with fs := d.fs.modify k (fun f => { f with sy := f.bs.length }) }).2 = E at HR ⊢
      generalize ms[k].g = q at *
      generalize (OperTo g bm ms d w _) = T at HO HR
      clear h ok ho hf hs
      go_enter Tryz.func64, Tryz.ntmps64
      go_wp2_with (first
        | (go_at_call 103; refine HF.out.mono ?_; rintro e w' ⟨rfl, rfl⟩)
        | (go_at_call 41; refine HO.out.mono ?_; intro e w2 ht; obtain ⟨rfl, hr⟩ := HR.out _ _ ht))
      go_ret
      exact ⟨rfl, hr⟩
end
end Go.Proofs.YtbdhhmhlcdganaaGreatDoor
namespace Go.Proofs.YtbdhhmhlcdganaaGreatDoor
open Go.RowKit Go.Maps
set_option linter.unusedVariables false
set_option maxRecDepth 100000

section
variable {w w' : World} {g bm : Nat} {ms : List Pf} {d : Dv}
theorem PRes.from_below {W : World} {d' : Dv} (hf : Below w.heap.size w W) (h : PRes g bm ms d' W w') : PRes g bm ms d' w w' := by
  obtain ⟨ms', h1, h2, h3⟩ := h
  exact ⟨ms', h1, (Frm.of_below hf).trans h2 (fun i hi => .inl hi), fun b hb => (h3 b hb).imp id (fun e => Nat.le_trans hf.size e)⟩
theorem Frm.cellP {F : Nat → Prop} {w w' : World} (h : Frm F w w') {b o : Nat} (hb : b < w.heap.size) (hn : ¬ F b) : w'.cell? ⟨b, o, none⟩ = w.cell? ⟨b, o, none⟩ := World.cell?_of_block (h.block b hb hn)
theorem box_one (w : World) (v : Value) (t : TypeId) : Below w.heap.size w (w.alloc (.cells #[v] t)) ∧ (w.alloc (.cells #[v] t)).cell? ⟨w.heap.size, 0, none⟩ = some v ∧ (w.alloc (.cells #[v] t)).heap.size = w.heap.size + 1 :=
  ⟨bel_alloc w _, cell_of_row _ w.heap.size 0 _ _ _ (heap_alloc_new w (.cells #[v] t)), by simp⟩

theorem truncate1_pd (kf kn q n : Nat) (w : World) (R : World → Prop) (c0 : w.cell? ⟨kf, 0, none⟩ = some (.pointer (some ⟨q, 0, none⟩))) (c1 : w.cell? ⟨kn, 0, none⟩ = some (.int .i64 (n : Int)))
    (HC : Calls Tryz.prog 44 #[.pointer (some ⟨q, 0, none⟩), .int .i64 (n : Int)] w (fun e w' => e = .returned (.tuple #[]) ∧ R w')) :
    Calls Tryz.prog 136 #[.pointer (some ⟨kf, 0, none⟩), .pointer (some ⟨kn, 0, none⟩)] w (fun e w' => e = .returned (.tuple #[]) ∧ R w') := by
  have HH := Lib.hid HC
  clear HC
  go_enter Tryz.func136, Tryz.ntmps136
  go_wp2_with (go_at_call 44; refine HH.out.mono ?_; rintro e w' ⟨rfl, hr⟩)
  go_end0
  exact ⟨rfl, hr⟩

set_option maxHeartbeats 1000000 in
theorem truncate_pd (s : ByteArray) (n : Int) (h : PDx w g bm ms d) (ok : Dv.Ok d) : Calls Tryz.prog 84 #[.pointer (some ⟨g, 0, none⟩), .string s, .int .i64 n] w fun e w' => e = .returned (.int .i64 (truncD d s n).2) ∧ PRes g bm ms (truncD d s n).1 w w' := by
  obtain ⟨b1, e1, z1⟩ := box_one w (.int .i64 n) 3
  generalize hw1 : w.alloc (.cells #[.int .i64 n] 3) = w1 at *
  have HP : Hid (∀ W, Below w.heap.size w W → PRes g bm ms d w W) := Lib.hid (fun W hW => (PRes.same (h.below hW)).from_below hW)
  have Z1 := Lib.hid z1
  cases ho : d.off with
  | true =>
    have hs : truncD d s n = (d, 10) := by unfold truncD; rw [if_pos ho]
    have HF := Lib.hid (find_off s (h.below b1) ho)
    rw [hs]
    have B2 := Lib.hid (b1.trans ((box_one w1 (.pointer none) 76).1.mono b1.size))
    clear h ok ho hs z1
    go_enter Tryz.func84, Tryz.ntmps84
    go_wp2_with (go_at_call 103; refine HF.out.mono ?_; rintro e w' ⟨rfl, rfl⟩)
    go_ret
    exact ⟨rfl, HP.out _ B2.out⟩
  | false =>
    cases hf : findD d.fs s with
    | none =>
      have hs : truncD d s n = (d, 6) := by unfold truncD; rw [if_neg (by rw [ho]; simp), hf]
      have HF := Lib.hid (find_no s (h.below b1) ho hf)
      rw [hs]
      have B2 := Lib.hid (b1.trans ((box_one w1 (.pointer none) 76).1.mono b1.size))
      clear h ok ho hf hs z1
      go_enter Tryz.func84, Tryz.ntmps84
      go_wp2_with (go_at_call 103; refine HF.out.mono ?_; rintro e w' ⟨rfl, rfl⟩)
      go_ret
      exact ⟨rfl, HP.out _ B2.out⟩
    | some k =>
      obtain ⟨hk, hk', hlk, hfe, hnm⟩ := h.look_yes hf
      have HF := Lib.hid (find_at s (h.below b1) ho hf hk)
      obtain ⟨b2, e2, z2⟩ := box_one w1 (.pointer (some ⟨ms[k].g, 0, none⟩)) 76
      have e3 : (w1.alloc (.cells #[.pointer (some ⟨ms[k].g, 0, none⟩)] 76)).cell? ⟨w.heap.size, 0, none⟩ = some (.int .i64 n) := (b2.cell (p := ⟨w.heap.size, 0, none⟩) (by show w.heap.size < _; omega)).trans e1
      have b3 := b1.trans (b2.mono b1.size)
      have HP2 := Lib.hid (HP.out _ (below_drew b3))
      have hx := h.below b3
      generalize hw2 : w1.alloc (.cells #[.pointer (some ⟨ms[k].g, 0, none⟩)] 76) = w2 at *
      have hmk := List.getElem_mem hk
      have hbk : (d.fs[k]?).map (fun f => (f.bs.length : Int)) = some (ms[k].f.bs.length : Int) := by rw [List.getElem?_eq_getElem hk', hfe]; rfl
      obtain ⟨m0, m1, mf⟩ := (hx.is _ hmk).cells
      obtain ⟨A, c, hv, hvl, hvc⟩ := (hx.is _ hmk).own.val
      rw [hv] at m0
      have hus := used_mem (List.getElem_mem hk')
      rw [hfe] at hus
      have hu := ok.us
      have hr := ok.rm
      have hwf := (ok.fl _ (List.getElem_mem hk')).wf
      rw [hfe] at hwf
      by_cases hn0 : n < 0
      · have hs : truncD d s n = (d, 3) := by unfold truncD; rw [if_neg (by rw [ho]; simp), hf]; simp only; rw [if_pos (.inl hn0)]
        rw [hs]
        generalize ms[k].g = q at *
        clear h ok ho hf hs hlk hnm hvl hvc z1 z2 b1 b2 b3 hx hmk hbk hv hus hu hr hwf hfe hk hk' HP m0 m1 mf
        go_enter Tryz.func84, Tryz.ntmps84
        go_wp2_with (go_at_call 103; refine HF.out.mono ?_; rintro e w' ⟨rfl, rfl⟩)
        go_region
        go_wp2
        go_ret
        exact ⟨rfl, HP2.out⟩
      have hnd : decide (n < 0) = false := decide_eq_false hn0
      by_cases hn1 : (ms[k].f.bs.length : Int) < n
      · have hs : truncD d s n = (d, 3) := by unfold truncD; rw [if_neg (by rw [ho]; simp), hf]; simp only; rw [hbk, if_pos (.inr hn1)]
        rw [hs]
        have hn2 : n > (ms[k].f.bs.length : Int) := hn1
        generalize ms[k].g = q at *
        generalize ms[k].f.bs.length = N at *
        clear h ok ho hf hs hlk hnm hvl hvc z1 z2 b1 b2 b3 hx hmk hbk hv hus hu hr hwf hfe hk hk' HP m1 mf
        go_enter Tryz.func84, Tryz.ntmps84
        go_wp2_with (go_at_call 103; refine HF.out.mono ?_; rintro e w' ⟨rfl, rfl⟩)
        go_region
        go_wp2
        go_ret
        exact ⟨rfl, HP2.out⟩
      obtain ⟨y, rfl⟩ := Int.eq_ofNat_of_zero_le (show 0 ≤ n by omega)
      obtain ⟨F, hF⟩ : ∃ F : Fl → Fl, F = (fun f => { f with bs := f.bs.take y, sy := min f.sy y }) := ⟨_, rfl⟩
      have hs : truncD d s (y : Int) = opD d { spentD d with fs := d.fs.modify k F } := by
        unfold truncD; rw [if_neg (by rw [ho]; simp), hf]; simp only; rw [hbk, if_neg (by simp only [Option.getD_some]; omega), hF]
        simp only [Int.toNat_natCast]
      have k1 : w.heap.size ≠ g := fun e => by have := h.lt g (.inl rfl); omega
      have k2 : w1.heap.size ≠ g := fun e => by have := h.lt g (.inl rfl); omega
      have l1 : w.heap.size < w2.heap.size := by omega
      have l2 : w1.heap.size < w2.heap.size := by omega
      have HO := Lib.hid (operate_truncate (w := w2.drew) w1.heap.size w.heap.size (fun w' => PRes g bm ms { spentD d with fs := d.fs.modify k F } w2.drew w') (show PDx w2.drew g bm ms d from hx.drewN 1) ok (fun _ W hW hFr => by
        refine truncate1_pd _ _ ms[k].g y W _ ((hFr.cellP l2 k2).trans e2) ((hFr.cellP l1 k1).trans e3) ?_
        refine (cut_pf ms[k] y W (hW.is _ hmk) hwf (by omega)).mono fun e w' hp => ?_
        have hp' : PfTo ms[k] (F ms[k].f) W e w' := by rw [hF]; exact hp
        obtain ⟨h1, h2⟩ := PfTo.res hW hk F (fun _ => by rw [hF]) hp'
        rw [spentD_fs] at h2
        exact ⟨h1, h2.from_ hFr⟩))
      rw [hs]
      have HR : Hid (∀ e w', OperTo g bm ms d w2.drew (fun w' => PRes g bm ms { spentD d with fs := d.fs.modify k F } w2.drew w') e w' → e = .returned (.int .i64 (opD d { spentD d with fs := d.fs.modify k F }).2) ∧ PRes g bm ms (opD d { spentD d with fs := d.fs.modify k F }).1 w w') := Lib.hid (fun e w' h => ⟨h.res.1, h.res.2.from_below (below_drew b3)⟩)
      generalize (opD d { spentD d with fs := d.fs.modify k F }).1 = d1 at HR ⊢
      generalize (opD d { spentD d with fs := d.fs.modify k F }).2 = E at HR ⊢
      have i1 : ¬ (y : Int) < 0 := by omega
      have i2 : ¬ (y : Int) > (ms[k].f.bs.length : Int) := by omega
      generalize ms[k].g = q at *
      generalize ms[k].f.bs.length = N at *
      generalize (OperTo g bm ms d w2.drew _) = T at HO HR
      clear h ok ho hf hs hlk hnm hvl hvc z1 z2 b1 b2 b3 hx hmk hbk hv hus hu hr hwf hfe HP HP2 m1 mf hn1 hF k1 k2 l1 l2
      clear hk hk'
      go_enter Tryz.func84, Tryz.ntmps84
      go_wp2_with (go_at_call 103; refine HF.out.mono ?_; rintro e w' ⟨rfl, rfl⟩)
      go_region
      go_wp2_with (first
        | (go_at_call 41; refine HO.out.mono ?_; intro e w2 ht; obtain ⟨rfl, hr⟩ := HR.out _ _ ht))
      go_ret
      exact ⟨rfl, hr⟩
end
end Go.Proofs.YtbdhhmhlcdganaaGreatDoor
namespace Go.Proofs.YtbdhhmhlcdganaaGreatDoor
open Go.RowKit Go.Maps
set_option linter.unusedVariables false
set_option maxRecDepth 100000

theorem remove1_pd (kd kn g bm : Nat) (ps : List (ByteArray × Nat)) (s : ByteArray) (w : World) (c0 : w.cell? ⟨kd, 0, none⟩ = some (.pointer (some ⟨g, 0, none⟩))) (c1 : w.cell? ⟨kn, 0, none⟩ = some (.string s)) (c2 : w.cell? ⟨g, 4, none⟩ = some (.map (some bm)))
    (hm : PMap w bm ps) (hs : s.size ≤ maxLen) :
    Calls Tryz.prog 104 #[.pointer (some ⟨kd, 0, none⟩), .pointer (some ⟨kn, 0, none⟩)] w (fun e w' => e = .returned (.tuple #[]) ∧ PMap w' bm (strike ps s) ∧ Frm (fun b => b = bm) w w') := by
  obtain ⟨w1, hrun, hp, hf, hz⟩ := PMap.drop (w := w.drew) hm s hs
  have HP := Lib.hid hp
  have HF : Hid (Frm (fun b => b = bm) w w1) := Lib.hid ((Frm.of_below (below_drew (Below.refl _ _))).trans hf (fun i hi => .inl hi))
  clear hp hf hz hm
  go_enter Tryz.func104, Tryz.ntmps104
  go_region
  go_wp2
  go_end0
  exact ⟨rfl, HP.out, HF.out⟩
theorem strike_erase {ps : List (ByteArray × Nat)} (nd : ps.Pairwise (fun a b => sameN a.1 b.1 = false)) {k : Nat} (hk : k < ps.length) : strike ps ps[k].1 = ps.eraseIdx k := by
  induction ps generalizing k with
  | nil => simp at hk
  | cons a ps ih =>
    obtain ⟨h1, h2⟩ := List.pairwise_cons.1 nd
    unfold strike at ih ⊢
    cases k with
    | zero =>
      rw [List.filter_cons, List.eraseIdx_cons_zero]
      simp only [List.getElem_cons_zero, sameN_refl, Bool.not_true, Bool.false_eq_true, if_false]
      rw [List.filter_eq_self]
      intro p hp
      rw [sameN_comm, h1 p hp]; rfl
    | succ k =>
      have hk2 : k < ps.length := by simpa using hk
      rw [List.filter_cons, List.eraseIdx_cons_succ]
      simp only [List.getElem_cons_succ]
      rw [h1 _ (List.getElem_mem hk2)]
      simp only [Bool.not_false, if_true]
      rw [ih h2 hk2]
theorem map_erase {α β : Type} (f : α → β) (l : List α) (k : Nat) : (l.eraseIdx k).map f = (l.map f).eraseIdx k := by
  induction l generalizing k with
  | nil => rfl
  | cons a l ih => cases k with
    | zero => rfl
    | succ k => simp only [List.eraseIdx_cons_succ, List.map_cons, ih]
theorem strike_no {ps : List (ByteArray × Nat)} {s : ByteArray} (h : ∀ p ∈ ps, sameN p.1 s = false) : strike ps s = ps := by
  unfold strike
  rw [List.filter_eq_self]
  intro p hp
  rw [h p hp]; rfl
section
variable {w w' : World} {g bm : Nat} {ms ms' : List Pf} {d : Dv}
theorem PDx.fewer (h : PDx w g bm ms d) (hp : PMap w' bm (ms'.map pfN)) (hf : Frm (fun b => b = bm) w w') (hs : ms'.Sublist ms) : PDx w' g bm ms' { d with fs := ms'.map (·.f) } ∧ ∀ b, PG g bm ms' b → PG g bm ms b := by
  obtain ⟨h3, h4⟩ := h.g_ne
  obtain ⟨L, hb, r⟩ := h.box
  refine ⟨⟨⟨L, (hf.block g (block_lt hb) h3).trans hb, r⟩, hp, fun m hm => (h.is m (hs.subset hm)).frm hf (h4 m (hs.subset hm)).2.1 (fun b hb => ((h4 m (hs.subset hm)).2.2 b hb).2.1), rfl, h.apart.sublist hs⟩, fun b hb => ?_⟩
  rcases hb with e | e | ⟨m, hm, e⟩
  · exact .inl e
  · exact .inr (.inl e)
  · exact .inr (.inr ⟨m, hs.subset hm, e⟩)
theorem PDx.erase_fs (h : PDx w g bm ms d) (k : Nat) : (ms.eraseIdx k).map (·.f) = d.fs.eraseIdx k := by rw [← h.fs, map_erase]
theorem remove_pd (s : ByteArray) (h : PDx w g bm ms d) (ok : Dv.Ok d) : Calls Tryz.prog 68 #[.pointer (some ⟨g, 0, none⟩), .string s] w fun e w' => e = .returned (.int .i64 (remD d s).2) ∧ PRes g bm ms (remD d s).1 w w' := by
  obtain ⟨b1, e1, z1⟩ := box_one w (.pointer (some ⟨g, 0, none⟩)) 26
  generalize hw1 : w.alloc (.cells #[.pointer (some ⟨g, 0, none⟩)] 26) = w1 at *
  obtain ⟨b2, e2, z2⟩ := box_one w1 (.string s) 9
  have e3 : (w1.alloc (.cells #[.string s] 9)).cell? ⟨w.heap.size, 0, none⟩ = some (.pointer (some ⟨g, 0, none⟩)) := (b2.cell (p := ⟨w.heap.size, 0, none⟩) (by show w.heap.size < _; omega)).trans e1
  have b3 := b1.trans (b2.mono b1.size)
  generalize hw2 : w1.alloc (.cells #[.string s] 9) = w2 at *
  have hx := h.below b3
  have HP : Hid (PRes g bm ms d w w2) := Lib.hid ((PRes.same hx).from_below b3)
  cases ho : d.off with
  | true =>
    have hs : remD d s = (d, 10) := by unfold remD; rw [if_pos ho]
    have HF := Lib.hid (find_off s hx ho)
    rw [hs]
    clear h hx ok ho hs z1 z2 b1 b2 b3
    go_enter Tryz.func68, Tryz.ntmps68
    go_wp2_with (go_at_call 103; refine HF.out.mono ?_; rintro e w' ⟨rfl, rfl⟩)
    go_ret
    exact ⟨rfl, HP.out⟩
  | false =>
    cases hf : findD d.fs s with
    | none =>
      have hs : remD d s = (d, 6) := by unfold remD; rw [if_neg (by rw [ho]; simp), hf]
      have HF := Lib.hid (find_no s hx ho hf)
      rw [hs]
      clear h hx ok ho hs hf z1 z2 b1 b2 b3
      go_enter Tryz.func68, Tryz.ntmps68
      go_wp2_with (go_at_call 103; refine HF.out.mono ?_; rintro e w' ⟨rfl, rfl⟩)
      go_ret
      exact ⟨rfl, HP.out⟩
    | some k =>
      obtain ⟨hk, hk', hlk, hfe, hnm⟩ := h.look_yes hf
      have hs : remD d s = opD d { spentD d with fs := d.fs.eraseIdx k } := by unfold remD; rw [if_neg (by rw [ho]; simp), hf]
      have HF := Lib.hid (find_at s hx ho hf hk)
      have hsz : s.size ≤ maxLen := by
        have := ok_size (ok.fl _ (List.getElem_mem hk')).nm
        rw [hfe, hnm] at this
        unfold maxLen; omega
      have k1 : w.heap.size ≠ g := fun e => by have := h.lt g (.inl rfl); omega
      have k2 : w1.heap.size ≠ g := fun e => by have := h.lt g (.inl rfl); omega
      have l1 : w.heap.size < w2.heap.size := by omega
      have l2 : w1.heap.size < w2.heap.size := by omega
      have HO := Lib.hid (operate_remove w.heap.size w1.heap.size (fun w' => PRes g bm ms { spentD d with fs := d.fs.eraseIdx k } w2 w') hx ok (fun _ W hW hFr => by
        obtain ⟨L, _, _, _, _, c4, _⟩ := hW.cells
        refine (remove1_pd _ _ g bm _ s W ((hFr.cellP l1 k1).trans e3) ((hFr.cellP l2 k2).trans e2) c4 hW.map hsz).mono fun e w' ⟨r1, r2, r3⟩ => ⟨r1, ?_⟩
        have hkp : k < (ms.map pfN).length := by rw [List.length_map]; exact hk
        have e4 : strike (ms.map pfN) s = (ms.eraseIdx k).map pfN := by
          have := strike_erase hW.map.nd hkp
          rw [List.getElem_map, show (pfN ms[k]).1 = s from hnm] at this
          rw [this, ← map_erase]
        rw [e4] at r2
        obtain ⟨a, b⟩ := hW.fewer r2 r3 (List.eraseIdx_sublist _ _)
        rw [h.erase_fs] at a
        exact ⟨_, a, (hFr.mono (fun b e => .inl e)).trans r3 (fun i hi => .inl (.inr (.inl hi))), fun b' hb => .inl (b b' hb)⟩))
      rw [hs]
      have HR : Hid (∀ e w', OperTo g bm ms d w2 (fun w' => PRes g bm ms { spentD d with fs := d.fs.eraseIdx k } w2 w') e w' → e = .returned (.int .i64 (opD d { spentD d with fs := d.fs.eraseIdx k }).2) ∧ PRes g bm ms (opD d { spentD d with fs := d.fs.eraseIdx k }).1 w w') := Lib.hid (fun e w' h => ⟨h.res.1, h.res.2.from_below b3⟩)
      generalize (opD d { spentD d with fs := d.fs.eraseIdx k }).1 = d1 at HR ⊢
      generalize (opD d { spentD d with fs := d.fs.eraseIdx k }).2 = E at HR ⊢
      generalize ms[k].g = q at *
      generalize (OperTo g bm ms d w2 _) = T at HO HR
      clear h hx ok ho hf hs hlk hnm hfe z1 z2 b1 b2 b3 k1 k2 l1 l2 hsz HP hk hk'
      go_enter Tryz.func68, Tryz.ntmps68
      go_wp2_with (first
        | (go_at_call 103; refine HF.out.mono ?_; rintro e w' ⟨rfl, rfl⟩)
        | (go_at_call 41; refine HO.out.mono ?_; intro e w2 ht; obtain ⟨rfl, hr⟩ := HR.out _ _ ht))
      go_ret
      exact ⟨rfl, hr⟩
end
end Go.Proofs.YtbdhhmhlcdganaaGreatDoor
namespace Go.Proofs.YtbdhhmhlcdganaaGreatDoor
open Go.RowKit Go.Maps
set_option linter.unusedVariables false
set_option maxRecDepth 100000

theorem PMap.put1 {w : World} {b : Nat} {ps : List (ByteArray × Nat)} (h : PMap w b ps) (hn : ps.length < 1000) (s : ByteArray) (g : Nat) (hs : s.size ≤ maxLen) :
    ∃ w', (Instr.mapUpdate 36 (.map (some b)) (.string s) (.pointer (some ⟨g, 0, none⟩))).run Tryz.prog w = .ok () w' ∧ PMap w' b ((s, g) :: strike ps s) ∧ Frm (fun y => y = b) w w' := by
  obtain ⟨D, h1, h2⟩ := h
  obtain ⟨w', hrun, ho, ht⟩ := h1.store lawS Tryz.underlying36 (by unfold maxLen; omega) (keyS s hs) (ptrR_mk g)
  exact ⟨w', hrun, PMap.of ho (h2.put (h1.tidy lawS) s g), Frm.of_turned ht⟩
set_option maxHeartbeats 1000000 in
theorem enter_pd (g bm q : Nat) (ps : List (ByteArray × Nat)) (s : ByteArray) (w : World) (c4 : w.cell? ⟨g, 4, none⟩ = some (.map (some bm))) (hm : PMap w bm ps) (hs : s.size ≤ 1000000) (hn : ps.length < 1000) (hg : g < w.heap.size) :
    Calls Tryz.prog 43 #[.pointer (some ⟨g, 0, none⟩), .string s, .pointer (some ⟨q, 0, none⟩)] w (fun e w' => e = .returned (.tuple #[]) ∧ PMap w' bm ((s, q) :: strike ps s) ∧ Frm (fun b => b = bm) w w') := by
  have HC : Hid (∀ W, Below w.heap.size w W → Calls Tryz.prog 52 #[.string s] W fun e w' => e = .returned (.string s) ∧ w'.cell? ⟨g, 4, none⟩ = some (.map (some bm)) ∧ ∃ w2, (Instr.mapUpdate 36 (.map (some bm)) (.string s) (.pointer (some ⟨q, 0, none⟩))).run Tryz.prog w' = .ok () w2 ∧ PMap w2 bm ((s, q) :: strike ps s) ∧ Frm (fun b => b = bm) w w2) := Lib.hid (fun W hW => (sclone_any s W hs).mono fun e w' ⟨h1, h2⟩ => by
    have hb := hW.trans (h2.mono hW.size)
    obtain ⟨w2, r1, r2, r3⟩ := (hm.same (hb.block bm hm.lt)).put1 hn s q (by unfold maxLen; omega)
    exact ⟨h1, (hb.cell hg).trans c4, w2, r1, r2, (Frm.of_below hb).trans r3 (fun i hi => .inl hi)⟩)
  clear hm hs hn
  go_enter Tryz.func43, Tryz.ntmps43
  go_region_with (first
    | (go_at_call 52; refine (HC.out _ (below_drew (Below.refl _ _))).mono ?_; rintro e w1 ⟨rfl, c4', w2, hrun, hp, hf⟩))
  all_goals
    (try go_wp2)
    go_end0
    exact ⟨rfl, hp, hf⟩

def insP : List Pf → Pf → List Pf
  | [], m => [m]
  | h :: t, m => bif lessN m.f.nm h.f.nm then m :: h :: t else h :: insP t m
theorem insP_map (l : List Pf) (m : Pf) : (insP l m).map (·.f) = insD (l.map (·.f)) m.f := by
  induction l with
  | nil => rfl
  | cons a l ih =>
    unfold insP
    rw [List.map_cons]
    unfold insD
    cases lessN m.f.nm a.f.nm
    · simp only [cond_false, List.map_cons, ih]
    · rfl
theorem insP_perm (l : List Pf) (m : Pf) : (insP l m).Perm (m :: l) := by
  induction l with
  | nil => exact List.Perm.refl _
  | cons a l ih =>
    unfold insP
    cases lessN m.f.nm a.f.nm
    · exact (List.Perm.cons a ih).trans (List.Perm.swap m a l)
    · exact List.Perm.refl _
def outP (l : List Pf) (s : ByteArray) : List Pf := match findD (l.map (·.f)) s with
  | some j => l.eraseIdx j
  | none => l
section
variable {w w' : World} {g bm : Nat} {ms ms1 : List Pf} {d : Dv}
theorem PDx.anew (h : PDx w g bm ms d) (hs : ms1.Sublist ms) (hf : Frm (fun b => b = bm) w w') {m : Pf} (hp : PMap w' bm (pfN m :: ms1.map pfN)) (hm : PfIs w' m) (ha : ∀ k ∈ ms1, PfA m k) :
    PDx w' g bm (insP ms1 m) { d with fs := insD (ms1.map (·.f)) m.f } ∧ ∀ b, PG g bm (insP ms1 m) b → PG g bm ms b ∨ b = m.g ∨ m.v.ownBlock = some b := by
  obtain ⟨h3, h4⟩ := h.g_ne
  obtain ⟨L, hb, r⟩ := h.box
  refine ⟨⟨⟨L, (hf.block g (block_lt hb) h3).trans hb, r⟩, ?_, fun k hk => ?_, insP_map _ _, ?_⟩, fun b hb => ?_⟩
  · have := (insP_perm ms1 m).map pfN
    exact hp.perm this.symm
  · rcases List.mem_cons.1 ((insP_perm ms1 m).mem_iff.1 hk) with rfl | hk
    · exact hm
    · have hk := hs.subset hk
      exact (h.is k hk).frm hf (h4 k hk).2.1 (fun b hb => ((h4 k hk).2.2 b hb).2.1)
  · exact ((insP_perm ms1 m).pairwise_iff (fun {a b} hab => hab.symm)).2 (List.pairwise_cons.2 ⟨ha, h.apart.sublist hs⟩)
  · rcases hb with e | e | ⟨k, hk, e⟩
    · exact .inl (.inl e)
    · exact .inl (.inr (.inl e))
    · rcases List.mem_cons.1 ((insP_perm ms1 m).mem_iff.1 hk) with rfl | hk
      · exact .inr e
      · exact .inl (.inr (.inr ⟨k, hs.subset hk, e⟩))
end
end Go.Proofs.YtbdhhmhlcdganaaGreatDoor
namespace Go.Proofs.YtbdhhmhlcdganaaGreatDoor
open Go.RowKit Go.Maps
set_option linter.unusedVariables false
set_option maxRecDepth 100000

theorem run_append_zeroK {w : World} {base : Nat} {v : Value} {xs : List Int} (h : KOwn .u8 5 w base v xs) (A : Option Addr) (c : Nat) (ty : TypeId) : (Builtin.append_ #[47, 47] ty #[v, .slice A 0 c]).run Tryz.prog w = .ok v w := by
  obtain ⟨i, hi1, hz, hsz, hby⟩ := info_parts info_cl
  rcases h with ⟨rfl, rfl⟩ | ⟨g, n, cap, r, rfl, h2, h3, h4, h5, h6⟩
  · cases A with
    | none => simp [Builtin.append_, run_underlying Tryz.underlying47, sizeOf, typeInfo, hi1, Builtin.lenOf, Builtin.firstCells]
    | some a => simp [Builtin.append_, run_underlying Tryz.underlying47, sizeOf, typeInfo, hi1, Builtin.lenOf, Builtin.firstCells, loadCells, loadCellsFrom]
  · cases A with
    | none => simp [Builtin.append_, run_underlying Tryz.underlying47, sizeOf, typeInfo, hi1, Builtin.lenOf, Builtin.firstCells, h5, storeCells]
    | some a => simp [Builtin.append_, run_underlying Tryz.underlying47, sizeOf, typeInfo, hi1, Builtin.lenOf, Builtin.firstCells, h5, storeCells, loadCells, loadCellsFrom]
theorem run_append_any (w : World) (base : Nat) (v : Value) (xs : List Int) (h : KOwn .u8 5 w base v xs) (B : Nat) (A : Option Addr) (m c : Nat) (ys : List Int) (hr : Row .u8 w B A ys) (hm : ys.length = m) (hb : xs.length + m ≤ 140737488355328) (hbase : base ≤ w.heap.size) :
    ∃ A' n' c' w', (∀ ty, (Builtin.append_ #[47, 47] ty #[v, .slice A m c]).run Tryz.prog w = .ok (.slice A' n' c') w') ∧ KOwn .u8 5 w' base (.slice A' n' c') (xs ++ ys) ∧ Frm (fun b => v.ownBlock = some b) w w' ∧ ∀ b, (Value.slice A' n' c').ownBlock = some b → v.ownBlock = some b ∨ w.heap.size ≤ b := by
  by_cases h1 : 1 ≤ m
  · obtain ⟨v', w', r1, r2, r3, r4, A', n', c', rfl⟩ := run_append_K w base 47 .u8 5 1 Tryz.underlying47 info_cl v xs h B A m c ys hr hm h1 (by omega) (by unfold maxLen; omega) hbase
    refine ⟨A', n', c', w', r1, r2, ⟨r3.os, r3.tape, r3.output, r3.size, fun k hk hn => r3.block k hk (fun e => hn e.symm)⟩, fun b hb => ?_⟩
    rcases r4 with e | ⟨e, _⟩
    · rw [e] at hb
      injection hb with hb
      exact .inr (by omega)
    · exact .inl (by rw [← e]; exact hb)
  · obtain rfl : m = 0 := by omega
    obtain rfl : ys = [] := List.eq_nil_of_length_eq_zero hm
    obtain ⟨A', n', c', rfl⟩ := h.letters
    exact ⟨A', n', c', w, run_append_zeroK h A c, by rw [List.append_nil]; exact h, Frm.refl _ _, fun b hb => .inl hb⟩

theorem append1_at (kd kn kb g bm : Nat) (m : Pf) (ps : List (ByteArray × Nat)) (s : ByteArray) (A : Option Addr) (n c : Nat) (bs : List Int) (w : World) (c0 : w.cell? ⟨kd, 0, none⟩ = some (.pointer (some ⟨g, 0, none⟩))) (c1 : w.cell? ⟨kn, 0, none⟩ = some (.string s)) (c2 : w.cell? ⟨kb, 0, none⟩ = some (.slice A n c))
    (c4 : w.cell? ⟨g, 4, none⟩ = some (.map (some bm))) (hm : PMap w bm ps) (hlk : look ps s = some m.g) (hp : PfIs w m) (hr : Row .u8 w w.heap.size A bs) (hn : bs.length = n) (hb : m.f.bs.length + n ≤ 140737488355328) :
    Calls Tryz.prog 42 #[.pointer (some ⟨kd, 0, none⟩), .pointer (some ⟨kn, 0, none⟩), .pointer (some ⟨kb, 0, none⟩)] w (fun e w' => e = .returned (.tuple #[]) ∧ ∃ v', PfIs w' ⟨m.g, v', { m.f with bs := m.f.bs ++ bs }⟩ ∧ Frm (fun b => b = m.g ∨ m.v.ownBlock = some b) w w' ∧ ∀ b, v'.ownBlock = some b → m.v.ownBlock = some b ∨ w.heap.size ≤ b) := by
  have hl := PMap.lookup (w := w.drew) hm s
  rw [hlk] at hl
  obtain ⟨m0, m1, mf⟩ := hp.cells
  obtain ⟨A0, n0, q0, hv⟩ := hp.own.letters
  obtain ⟨A', n', c', w', hrun, hk, hf, hbl⟩ := run_append_any w.drew.drew 0 m.v m.f.bs hp.own w.heap.size A n c bs hr hn hb (Nat.zero_le _)
  have hne : ¬ m.v.ownBlock = some m.g := fun e => by
    obtain ⟨cc, hcc⟩ := hp.own.at_block e
    exact cells_ne hcc hp.box (by decide) rfl
  have hgl : m.g < w.heap.size := block_lt hp.box
  have hbox : w'.heap[m.g]? = _ := (hf.block m.g hgl hne).trans hp.box
  have m0' : w'.cell? ⟨m.g, 0, none⟩ = some m.v := cell_of_row w' m.g 0 _ _ _ hbox
  have mf' : ∀ j, w'.frozen? ⟨m.g, j, none⟩ = false := fun j => block_frozen w' m.g j _ _ hbox
  have hsz : w.heap.size ≤ w'.heap.size := hf.size
  have HF : Frm (fun b => m.v.ownBlock = some b) w w' := (Frm.of_below (below_drew (below_drew (Below.refl _ _)))).trans hf (fun i hi => .inl hi)
  have HP : Hid (∃ v', PfIs (w'.setCell ⟨m.g, 0, none⟩ (.slice A' n' c')) ⟨m.g, v', { m.f with bs := m.f.bs ++ bs }⟩ ∧ Frm (fun b => b = m.g ∨ m.v.ownBlock = some b) w (w'.setCell ⟨m.g, 0, none⟩ (.slice A' n' c')) ∧ ∀ b, v'.ownBlock = some b → m.v.ownBlock = some b ∨ w.heap.size ≤ b) := Lib.hid (by
    have fs := Frm.set (F := fun b => b = m.g) w' m.g 0 (.slice A' n' c') rfl
    refine ⟨.slice A' n' c', ⟨dv_box_set hbox 0 _, hk.frm fs (fun b hb e => ?_)⟩, (HF.mono (fun b e => .inr e)).trans (fs.mono (fun b e => (.inl e : b = m.g ∨ m.v.ownBlock = some b))) (fun i hi => .inl hi), hbl⟩
    rcases hbl b hb with e' | e'
    · rw [e] at e'; exact hne e'
    · have : w.heap.size ≤ b := e'
      omega)
  rw [hv] at m0 m0' hrun
  obtain ⟨RR, hRR⟩ : ∃ RR : World → Prop, RR = fun w' => ∃ v', PfIs w' ⟨m.g, v', { m.f with bs := m.f.bs ++ bs }⟩ ∧ Frm (fun b => b = m.g ∨ m.v.ownBlock = some b) w w' ∧ ∀ b, v'.ownBlock = some b → m.v.ownBlock = some b ∨ w.heap.size ≤ b := ⟨_, rfl⟩
  have HRR : Hid (RR (w'.setCell ⟨m.g, 0, none⟩ (.slice A' n' c'))) := Lib.hid (by rw [hRR]; exact HP.out)
  suffices HS : Calls Tryz.prog 42 #[.pointer (some ⟨kd, 0, none⟩), .pointer (some ⟨kn, 0, none⟩), .pointer (some ⟨kb, 0, none⟩)] w (fun e w' => e = .returned (.tuple #[]) ∧ RR w') by
    rw [hRR] at HS; exact HS
  clear hRR HP hm hlk hp hr hn hb hv hk hf hbl hne hbox HF hsz
  generalize m.g = q at *
  clear hgl
  go_enter Tryz.func42, Tryz.ntmps42
  go_wp2_with fail
  go_region
  go_wp2_with fail
  go_region_law (refine step_append_run (w.drew.drew) rfl _ _ 47 rfl _ _ _ _ rfl rfl hrun ?_)
  all_goals
    (try go_wp2)
    go_end0
    exact ⟨rfl, HRR.out⟩
theorem append1_new (kd kn kb g bm : Nat) (ps : List (ByteArray × Nat)) (s : ByteArray) (A : Option Addr) (n c : Nat) (bs : List Int) (w : World) (c0 : w.cell? ⟨kd, 0, none⟩ = some (.pointer (some ⟨g, 0, none⟩))) (c1 : w.cell? ⟨kn, 0, none⟩ = some (.string s)) (c2 : w.cell? ⟨kb, 0, none⟩ = some (.slice A n c))
    (c4 : w.cell? ⟨g, 4, none⟩ = some (.map (some bm))) (hm : PMap w bm ps) (hlk : look ps s = none) (hs : s.size ≤ 16) (hln : ps.length < 1000) (hr : Row .u8 w w.heap.size A bs) (hn : bs.length = n) (hb : n ≤ 140737488355328)
    (h0 : kd < w.heap.size ∧ kd ≠ bm) (h1 : kn < w.heap.size ∧ kn ≠ bm) (h2 : kb < w.heap.size ∧ kb ≠ bm) (hg : g < w.heap.size) (hA : ∀ a, A = some a → 0 < n → a.block ≠ bm) :
    Calls Tryz.prog 42 #[.pointer (some ⟨kd, 0, none⟩), .pointer (some ⟨kn, 0, none⟩), .pointer (some ⟨kb, 0, none⟩)] w (fun e w' => e = .returned (.tuple #[]) ∧ ∃ v', PfIs w' ⟨w.heap.size, v', ⟨s, bs, 0⟩⟩ ∧ PMap w' bm ((s, w.heap.size) :: strike ps s) ∧ Frm (fun b => b = bm) w w' ∧ ∀ b, v'.ownBlock = some b → w.heap.size < b) := by
  have hl := PMap.lookup (w := w.drew) hm s
  rw [hlk] at hl
  have hbl := hm.lt
  obtain ⟨wb, hwb⟩ : ∃ wb, wb = w.drew.alloc (.cells #[.slice none 0 0, .int .i64 0] 78) := ⟨_, rfl⟩
  have bb : Below w.heap.size w wb := by rw [hwb]; exact (below_drew (Below.refl _ _)).alloc (Nat.le_refl _) _
  have bx : wb.heap[w.heap.size]? = some (.cells #[.slice none 0 0, .int .i64 0] 78 (0, 0)) := by rw [hwb]; exact heap_alloc_new w.drew _
  have bz : wb.heap.size = w.heap.size + 1 := by rw [hwb]; show (w.drew.alloc _).heap.size = w.drew.heap.size + 1; simp
  have d0 := (bb.cell (p := ⟨kd, 0, none⟩) h0.1).trans c0
  have d1 := (bb.cell (p := ⟨kn, 0, none⟩) h1.1).trans c1
  have d2 := (bb.cell (p := ⟨kb, 0, none⟩) h2.1).trans c2
  have d4 := (bb.cell (p := ⟨g, 4, none⟩) hg).trans c4
  have HE := Lib.hid (enter_pd g bm w.heap.size ps s wb d4 (hm.same (bb.block bm hbl)) (by omega) hln (by omega))
  have HX : Hid (∀ W, Frm (fun b => b = bm) wb W → W.cell? ⟨kb, 0, none⟩ = some (.slice A n c) ∧ W.cell? ⟨w.heap.size, 0, none⟩ = some (.slice none 0 0) ∧ (∀ j, W.frozen? ⟨w.heap.size, j, none⟩ = false) ∧
      ∃ A' n' c' w', (∀ ty, (Builtin.append_ #[47, 47] ty #[.slice none 0 0, .slice A n c]).run Tryz.prog W.drew = .ok (.slice A' n' c') w') ∧ w'.cell? ⟨w.heap.size, 0, none⟩ = some (.slice none 0 0) ∧ (∀ j, w'.frozen? ⟨w.heap.size, j, none⟩ = false) ∧
        (PMap W bm ((s, w.heap.size) :: strike ps s) → ∃ v', PfIs (w'.setCell ⟨w.heap.size, 0, none⟩ (.slice A' n' c')) ⟨w.heap.size, v', ⟨s, bs, 0⟩⟩ ∧ PMap (w'.setCell ⟨w.heap.size, 0, none⟩ (.slice A' n' c')) bm ((s, w.heap.size) :: strike ps s) ∧ Frm (fun b => b = bm) w (w'.setCell ⟨w.heap.size, 0, none⟩ (.slice A' n' c')) ∧ ∀ b, v'.ownBlock = some b → w.heap.size < b)) := Lib.hid (fun W hW => by
    have hz := hW.size
    have hbox : W.heap[w.heap.size]? = _ := (hW.block w.heap.size (by omega) (by omega)).trans bx
    have fw : Frm (fun b => b = bm) w W := (Frm.of_below (F := fun b => b = bm) bb).trans hW (fun i hi => .inl hi)
    have hr1 : Row .u8 W.drew W.heap.size A bs := fw.row hr (fun a ha hp => hA a ha (by omega))
    obtain ⟨A', n', c', w', hrun, hk, hf, hbl'⟩ := run_append_any W.drew W.heap.size (.slice none 0 0) [] (KOwn.nil _ _ _ _) W.heap.size A n c bs hr1 hn (by simp; omega) (Nat.le_refl _)
    have hbox' : w'.heap[w.heap.size]? = _ := (hf.block w.heap.size (by show _ < W.heap.size; omega) (fun e => nomatch e)).trans hbox
    refine ⟨(hW.cellP (by omega) h2.2).trans d2, cell_of_row W w.heap.size 0 _ _ _ hbox, fun j => block_frozen W w.heap.size j _ _ hbox, A', n', c', w', hrun, cell_of_row w' w.heap.size 0 _ _ _ hbox', fun j => block_frozen w' w.heap.size j _ _ hbox', fun hp => ?_⟩
    have vb : ∀ b, (Value.slice A' n' c').ownBlock = some b → W.heap.size ≤ b := fun b hb => (hbl' b hb).elim (fun e => nomatch e) id
    have fs := Frm.set (F := fun b => b = w.heap.size) w' w.heap.size 0 (.slice A' n' c') rfl
    have f1 : Frm (fun b => b = bm) W w' := (Frm.of_below (F := fun b => b = bm) (below_drew (Below.refl _ W))).trans (hf.mono (fun b e => (nomatch e : b = bm))) (fun i hi => .inl hi)
    have f2 : Frm (fun b => b = w.heap.size) W (w'.setCell ⟨w.heap.size, 0, none⟩ (.slice A' n' c')) := ((Frm.of_below (F := fun b => b = w.heap.size) (below_drew (Below.refl _ W))).trans (hf.mono (fun b e => (nomatch e : b = w.heap.size))) (fun i hi => .inl hi)).trans fs (fun i hi => .inl hi)
    refine ⟨.slice A' n' c', ⟨dv_box_set hbox' 0 _, (hk.mono (Nat.zero_le _)).frm fs (fun b hb e => ?_)⟩, hp.same (f2.block bm hp.lt (by omega)), fw.trans f2 (fun i hi => .inr (by omega)), fun b hb => ?_⟩
    · have := vb b hb
      omega
    · have := vb b hb
      omega)
  clear bb bx bz d2 hm hlk hs hln hr hn hb h0 h1 h2 hg hA hbl d4
  obtain ⟨R, hR⟩ : ∃ R : World → Prop, R = fun w' => ∃ v', PfIs w' ⟨w.heap.size, v', ⟨s, bs, 0⟩⟩ ∧ PMap w' bm ((s, w.heap.size) :: strike ps s) ∧ Frm (fun b => b = bm) w w' ∧ ∀ b, v'.ownBlock = some b → w.heap.size < b := ⟨_, rfl⟩
  have HRR := Lib.hid hR
  suffices HS : Calls Tryz.prog 42 #[.pointer (some ⟨kd, 0, none⟩), .pointer (some ⟨kn, 0, none⟩), .pointer (some ⟨kb, 0, none⟩)] w (fun e w' => e = .returned (.tuple #[]) ∧ R w') by
    rw [hR] at HS; exact HS
  clear hR
  have hwb2 := hwb.symm
  clear hwb
  go_enter Tryz.func42, Tryz.ntmps42
  go_wp2_with fail
  go_region
  go_wp2_with (go_at_call 43; refine HE.out.mono ?_; rintro e w2 ⟨rfl, hp2, hf2⟩; obtain ⟨x1, x2, x3, A', n', c', w', hrun, y1, y2, y3⟩ := HX.out _ hf2; have HY := Lib.hid (y3 hp2); clear y3 hp2 hf2)
  go_region_law (refine step_append_run (w2.drew) rfl _ _ 47 rfl _ _ _ _ rfl rfl hrun ?_)
  all_goals
    (try go_wp2)
    go_end0
    exact ⟨rfl, by rw [HRR.out]; exact HY.out⟩
end Go.Proofs.YtbdhhmhlcdganaaGreatDoor
namespace Go.Proofs.YtbdhhmhlcdganaaGreatDoor
open Go.RowKit Go.Maps
set_option linter.unusedVariables false
set_option maxRecDepth 100000

section
variable {w w' : World} {g bm : Nat} {ms ms1 : List Pf} {d : Dv}
theorem addF_some {l : List Fl} {s : ByteArray} {k : Nat} (h : findD l s = some k) (b : List Int) : addF l s b = l.modify k (fun f => { f with bs := f.bs ++ b }) := by unfold addF; rw [h]
theorem addF_none {l : List Fl} {s : ByteArray} (h : findD l s = none) (b : List Int) : addF l s b = insD l ⟨s, b, 0⟩ := by unfold addF; rw [h]
theorem spent_okP {d : Dv} (h : Dv.Ok d) : Dv.Ok (spentD d) := by
  unfold spentD
  split
  · rename_i hp
    have := h.li
    exact ⟨h.fl, h.up, h.us, h.rm, h.ln, by show -1 ≤ d.left - 1; omega, by show d.left - 1 < 9223372036854775808; omega⟩
  · exact h
theorem append1_pd (kd kn kb : Nat) (s : ByteArray) (A : Option Addr) (n c : Nat) (bs : List Int) (h : PDx w g bm ms d) (ok : Dv.Ok d) (hs : okN s = true) (c0 : w.cell? ⟨kd, 0, none⟩ = some (.pointer (some ⟨g, 0, none⟩))) (c1 : w.cell? ⟨kn, 0, none⟩ = some (.string s)) (c2 : w.cell? ⟨kb, 0, none⟩ = some (.slice A n c))
    (hr : Row .u8 w w.heap.size A bs) (hn : bs.length = n) (hb : n ≤ 100000000) (h0 : kd < w.heap.size ∧ kd ≠ bm) (h1 : kn < w.heap.size ∧ kn ≠ bm) (h2 : kb < w.heap.size ∧ kb ≠ bm) (hA : ∀ a, A = some a → 0 < n → a.block ≠ bm) :
    Calls Tryz.prog 42 #[.pointer (some ⟨kd, 0, none⟩), .pointer (some ⟨kn, 0, none⟩), .pointer (some ⟨kb, 0, none⟩)] w (fun e w' => e = .returned (.tuple #[]) ∧ PRes g bm ms { d with fs := addF d.fs s bs } w w') := by
  obtain ⟨L, _, _, _, _, c4, _⟩ := h.cells
  cases hf : findD d.fs s with
  | none =>
    have hlk := h.look_no hf
    refine (append1_new kd kn kb g bm (ms.map pfN) s A n c bs w c0 c1 c2 c4 h.map hlk (ok_size hs) (by rw [List.length_map, h.len]; have := ok.ln; omega) hr hn (by omega) h0 h1 h2 (h.lt g (.inl rfl)) hA).mono fun e w' ⟨r0, v', r1, r2, r3, r4⟩ => ⟨r0, ?_⟩
    have hst : strike (ms.map pfN) s = ms.map pfN := strike_no fun p hp => by
      obtain ⟨m, hm, rfl⟩ := List.mem_map.1 hp
      exact findD_none.1 hf m.f (by rw [← h.fs]; exact List.mem_map.2 ⟨m, hm, rfl⟩)
    rw [hst] at r2
    have hfar : ∀ m ∈ ms, m.g < w.heap.size ∧ ∀ b, m.v.ownBlock = some b → b < w.heap.size := fun m hm => ⟨h.lt _ (.inr (.inr ⟨m, hm, .inl rfl⟩)), fun b hb => h.lt _ (.inr (.inr ⟨m, hm, .inr hb⟩))⟩
    obtain ⟨a, b⟩ := h.anew (m := ⟨w.heap.size, v', ⟨s, bs, 0⟩⟩) (List.Sublist.refl ms) r3 r2 r1 (fun k hk => ⟨fun e => by have := (hfar k hk).1; simp only at e; omega, fun b hb hb' => by have := (hfar k hk).2 b hb'; have := r4 b hb; omega⟩)
    rw [h.fs] at a
    rw [addF_none hf]
    refine ⟨_, a, r3.mono (fun b e => .inr (.inl e)), fun b' hb => (b b' hb).imp id (fun e => ?_)⟩
    rcases e with e | e
    · simp only at e; omega
    · have := r4 _ e; omega
  | some k =>
    obtain ⟨hk, hk', hlk, hfe, hnm⟩ := h.look_yes hf
    have hmk := List.getElem_mem hk
    have hus := used_mem (List.getElem_mem hk')
    rw [hfe] at hus
    have hu := ok.us
    have hrm := ok.rm
    refine (append1_at kd kn kb g bm ms[k] (ms.map pfN) s A n c bs w c0 c1 c2 c4 h.map hlk (h.is _ hmk) hr hn (by omega)).mono fun e w' ⟨r0, v', r1, r2, r3⟩ => ⟨r0, ?_⟩
    obtain ⟨a, b⟩ := h.setFile hk (m' := ⟨ms[k].g, v', { ms[k].f with bs := ms[k].f.bs ++ bs }⟩) rfl rfl r2 r1 r3
    rw [addF_some hf, modify_setP _ _ hk', hfe]
    exact ⟨_, a, r2.mono (fun b e => .inr (.inr ⟨_, hmk, e⟩)), b⟩
set_option maxHeartbeats 2000000 in
theorem append_pd (s : ByteArray) (A : Option Addr) (n c : Nat) (bs : List Int) (h : PDx w g bm ms d) (ok : Dv.Ok d) (hr : Row .u8 w w.heap.size A bs) (hn : bs.length = n) (hb : n ≤ 100000000) (hA : ∀ a, A = some a → 0 < n → ¬ PG g bm ms a.block) :
    Calls Tryz.prog 16 #[.pointer (some ⟨g, 0, none⟩), .string s, .slice A n c] w fun e w' => e = .returned (.int .i64 (appD d s bs).2) ∧ PRes g bm ms (appD d s bs).1 w w' := by
  obtain ⟨b1, e1, z1⟩ := box_one w (.pointer (some ⟨g, 0, none⟩)) 26
  generalize hw1 : w.alloc (.cells #[.pointer (some ⟨g, 0, none⟩)] 26) = w1 at *
  obtain ⟨b2, e2, z2⟩ := box_one w1 (.string s) 9
  have f1 : (w1.alloc (.cells #[.string s] 9)).cell? ⟨w.heap.size, 0, none⟩ = some (.pointer (some ⟨g, 0, none⟩)) := (b2.cell (p := ⟨w.heap.size, 0, none⟩) (by show w.heap.size < _; omega)).trans e1
  generalize hw2 : w1.alloc (.cells #[.string s] 9) = w2 at *
  obtain ⟨b3, e3, z3⟩ := box_one w2 (.slice A n c) 47
  have g1 : (w2.alloc (.cells #[.slice A n c] 47)).cell? ⟨w.heap.size, 0, none⟩ = some (.pointer (some ⟨g, 0, none⟩)) := (b3.cell (p := ⟨w.heap.size, 0, none⟩) (by show w.heap.size < _; omega)).trans f1
  have g2 : (w2.alloc (.cells #[.slice A n c] 47)).cell? ⟨w1.heap.size, 0, none⟩ = some (.string s) := (b3.cell (p := ⟨w1.heap.size, 0, none⟩) (by show w1.heap.size < _; omega)).trans e2
  generalize hw3 : w2.alloc (.cells #[.slice A n c] 47) = w3 at *
  have B2 := b1.trans (b2.mono b1.size)
  have B3 := B2.trans (b3.mono B2.size)
  have hx := h.below B3
  have HP : Hid (∀ W, Below w.heap.size w W → PRes g bm ms d w W) := Lib.hid (fun W hW => (PRes.same (h.below hW)).from_below hW)
  have HB3 := Lib.hid B3
  have HN : Hid (Calls Tryz.prog 39 #[.string s] w3 fun e w' => e = .returned (.bool (okN s)) ∧ w' = w3) := Lib.hid (isName_any s w3)
  have HD : Hid (Calls Tryz.prog 33 #[.pointer (some ⟨g, 0, none⟩)] w3 fun e w' => e = .returned (.bool d.off) ∧ w' = w3) := Lib.hid (down_pd hx)
  cases hu : okN s with
  | false =>
    rw [hu] at HN
    have hs : appD d s bs = (d, 8) := by unfold appD; rw [if_pos hu]
    rw [hs]
    clear h hx ok hu hs z1 z2 z3 b1 b2 b3 B2 B3 hr hn hb hA
    go_enter Tryz.func16, Tryz.ntmps16
    go_wp2_with (go_at_call 39; refine HN.out.mono ?_; rintro e w' ⟨rfl, rfl⟩)
    go_ret
    exact ⟨rfl, HP.out _ HB3.out⟩
  | true =>
    rw [hu] at HN
    have hu2 : ¬ okN s = false := by rw [hu]; simp
    cases ho : d.off with
    | true =>
      rw [ho] at HD
      have hs : appD d s bs = (d, 10) := by unfold appD; rw [if_neg hu2, if_pos ho]
      rw [hs]
      clear h hx ok ho hs hu hu2 z1 z2 z3 b1 b2 b3 B2 B3 hr hn hb hA
      go_enter Tryz.func16, Tryz.ntmps16
      go_wp2_with (first
        | (go_at_call 39; refine HN.out.mono ?_; rintro e w' ⟨rfl, rfl⟩)
        | (go_at_call 33; refine HD.out.mono ?_; rintro e w' ⟨rfl, rfl⟩))
      go_ret
      exact ⟨rfl, HP.out _ HB3.out⟩
    | false =>
      rw [ho] at HD
      have ho2 : ¬ d.off = true := by rw [ho]; simp
      have HH : Hid (∀ W, Below w3.heap.size w3 W → Calls Tryz.prog 40 #[.pointer (some ⟨g, 0, none⟩), .string s] W fun e w' => e = .returned (.bool (!decide (findD d.fs s = none ∧ ¬ d.fs.length < 64))) ∧ w' = W) := Lib.hid (fun W hW => hasPlace_pd s (hx.below hW))
      have hln := ok.ln
      by_cases hp : findD d.fs s = none ∧ d.fs.length = 64
      · have hs : appD d s bs = (d, 9) := by unfold appD; rw [if_neg hu2, if_neg ho2, if_pos (.inl hp)]
        rw [hs]
        rw [decide_eq_true (show findD d.fs s = none ∧ ¬ d.fs.length < 64 from ⟨hp.1, by omega⟩)] at HH
        clear h hx ok ho hs hu hu2 ho2 z1 z2 z3 b1 b2 b3 B2 B3 hr hn hb hA hln hp
        go_enter Tryz.func16, Tryz.ntmps16
        go_wp2_with (first
          | (go_at_call 39; refine HN.out.mono ?_; rintro e w' ⟨rfl, rfl⟩)
          | (go_at_call 33; refine HD.out.mono ?_; rintro e w' ⟨rfl, rfl⟩))
        go_quiet ((go_at_call 40; refine Calls.quiet_of_same (HH.out _ (bel_drewN _ _))))
        go_wp2
        go_ret
        exact ⟨rfl, HP.out _ (below_drewN HB3.out _)⟩
      have hp1 : ¬ (findD d.fs s = none ∧ ¬ d.fs.length < 64) := fun e => hp ⟨e.1, by omega⟩
      rw [decide_eq_false hp1] at HH
      have hzz : w3.heap.size = w.heap.size + 3 := by omega
      have HFr : Hid (∀ W, Below w3.heap.size w3 W → Calls Tryz.prog 22 #[.pointer (some ⟨g, 0, none⟩)] W fun e w' => e = .returned (.int .i64 ((d.room : Int) - usedD d.fs)) ∧ Below w3.heap.size w3 w' ∧ w'.cell? ⟨w.heap.size, 0, none⟩ = some (.pointer (some ⟨g, 0, none⟩)) ∧ w'.cell? ⟨w1.heap.size, 0, none⟩ = some (.string s) ∧ w'.cell? ⟨w2.heap.size, 0, none⟩ = some (.slice A n c)) := Lib.hid (fun W hW => (free_pd (hx.below hW) ok).mono fun e w' ⟨h1, h2⟩ => by
        have hb' := hW.trans (h2.mono hW.size)
        exact ⟨h1, hb', (hb'.cell (p := ⟨w.heap.size, 0, none⟩) (by show w.heap.size < _; omega)).trans g1, (hb'.cell (p := ⟨w1.heap.size, 0, none⟩) (by show w1.heap.size < _; omega)).trans g2, (hb'.cell (p := ⟨w2.heap.size, 0, none⟩) (by show w2.heap.size < _; omega)).trans e3⟩)
      have hus := ok.us
      have hrm := ok.rm
      by_cases hfu : (d.room : Int) - usedD d.fs < n
      · have hs : appD d s bs = (d, 9) := by unfold appD; rw [if_neg hu2, if_neg ho2, if_pos (.inr (by rw [hn]; exact hfu))]
        rw [hs]
        obtain ⟨F, hF⟩ : ∃ F : Int, (d.room : Int) - usedD d.fs = F := ⟨_, rfl⟩
        rw [hF] at HFr hfu
        have hfu2 : (n : Int) > F := hfu
        clear h hx ok ho hs hu hu2 ho2 z1 z2 z3 b1 b2 b3 B2 B3 hr hn hb hA hln hp hp1 hus hrm hF hzz
        go_enter Tryz.func16, Tryz.ntmps16
        go_wp2_with (first
          | (go_at_call 39; refine HN.out.mono ?_; rintro e w' ⟨rfl, rfl⟩)
          | (go_at_call 33; refine HD.out.mono ?_; rintro e w' ⟨rfl, rfl⟩))
        go_region_with (first
          | (go_at_call 40; refine (HH.out _ (below_drew (Below.refl _ _))).mono ?_; rintro e w' ⟨rfl, rfl⟩)
          | (go_at_call 22; refine (HFr.out _ (below_drew (Below.refl _ _))).mono ?_; rintro e w' ⟨rfl, hb5, x0, x1, x2⟩))
        all_goals
          (try go_wp2)
          go_ret
          exact ⟨rfl, HP.out _ (HB3.out.trans (hb5.mono HB3.out.size))⟩
      obtain ⟨X, hX⟩ : ∃ X, X = addF d.fs s bs := ⟨_, rfl⟩
      have hs : appD d s bs = opD d { spentD d with fs := X } := by
        unfold appD
        rw [if_neg hu2, if_neg ho2, if_neg (fun e => e.elim hp (fun e => hfu (by rw [← hn]; exact e))), hX]
      have hgl := h.lt g (.inl rfl)
      have hbl := h.map.lt
      have HO : Hid (∀ W, Below w3.heap.size w3 W → Calls Tryz.prog 41 #[.pointer (some ⟨g, 0, none⟩), .func (.func 42) #[] #[.pointer (some ⟨w.heap.size, 0, none⟩), .pointer (some ⟨w1.heap.size, 0, none⟩), .pointer (some ⟨w2.heap.size, 0, none⟩)]] W (OperTo g bm ms d W (fun w' => PRes g bm ms { spentD d with fs := X } W w'))) := Lib.hid (fun W hW => by
        have hWs := hW.size
        have hbw : Below w.heap.size w W := B3.trans (hW.mono B3.size)
        have q0 := (hW.cell (p := ⟨w.heap.size, 0, none⟩) (by show w.heap.size < _; omega)).trans g1
        have q1 := (hW.cell (p := ⟨w1.heap.size, 0, none⟩) (by show w1.heap.size < _; omega)).trans g2
        have q2 := (hW.cell (p := ⟨w2.heap.size, 0, none⟩) (by show w2.heap.size < _; omega)).trans e3
        have hrW : Row .u8 W W.heap.size A bs := (hr.below hbw).more hbw.size
        refine operate_append w.heap.size w1.heap.size w2.heap.size (fun w' => PRes g bm ms { spentD d with fs := X } W w') (hx.below hW) ok (fun _ W2 hW2 hFr => ?_)
        have hz2 := hFr.size
        refine (append1_pd _ _ _ s A n c bs hW2 (spent_okP ok) hu ((hFr.cellP (by omega) (by omega)).trans q0) ((hFr.cellP (by omega) (by omega)).trans q1) ((hFr.cellP (by omega) (by omega)).trans q2) (hFr.row hrW (fun a ha hp e => hA a ha (by omega) (.inl e))) hn hb ⟨by omega, by omega⟩ ⟨by omega, by omega⟩ ⟨by omega, by omega⟩ (fun a ha hp e => hA a ha hp (.inr (.inl e)))).mono fun e w' ⟨r1, r2⟩ => ⟨r1, ?_⟩
        rw [spentD_fs, ← hX] at r2
        exact r2.from_ hFr)
      rw [hs]
      have HR : Hid (∀ W e w', Below w3.heap.size w3 W → OperTo g bm ms d W (fun w' => PRes g bm ms { spentD d with fs := X } W w') e w' → e = .returned (.int .i64 (opD d { spentD d with fs := X }).2) ∧ PRes g bm ms (opD d { spentD d with fs := X }).1 w w') := Lib.hid (fun W e w' hW h => ⟨h.res.1, h.res.2.from_below (B3.trans (hW.mono B3.size))⟩)
      generalize (opD d { spentD d with fs := X }).1 = d1 at HR ⊢
      generalize (opD d { spentD d with fs := X }).2 = E at HR ⊢
      obtain ⟨F, hF⟩ : ∃ F : Int, (d.room : Int) - usedD d.fs = F := ⟨_, rfl⟩
      rw [hF] at HFr hfu
      have hfu2 : ¬ (n : Int) > F := hfu
      clear h hx ok ho hs hu hu2 ho2 z1 z2 z3 b1 b2 b3 B2 B3 hr hn hb hA hln hp hp1 hus hrm hF hzz hX hfu hgl hbl
      go_enter Tryz.func16, Tryz.ntmps16
      go_wp2_with (first
        | (go_at_call 39; refine HN.out.mono ?_; rintro e w' ⟨rfl, rfl⟩)
        | (go_at_call 33; refine HD.out.mono ?_; rintro e w' ⟨rfl, rfl⟩))
      go_region_with (first
        | (go_at_call 40; refine (HH.out _ (below_drew (Below.refl _ _))).mono ?_; rintro e w' ⟨rfl, rfl⟩)
        | (go_at_call 22; refine (HFr.out _ (below_drew (Below.refl _ _))).mono ?_; rintro e w' ⟨rfl, hb5, x0, x1, x2⟩))
      all_goals
        have HB5 := Lib.hid hb5
        clear hb5
        go_wp2_with (go_at_call 41; refine (HO.out _ HB5.out).mono ?_; intro e w9 ht; obtain ⟨rfl, hr9⟩ := HR.out _ _ _ HB5.out ht)
        go_ret
        exact ⟨rfl, hr9⟩
end
end Go.Proofs.YtbdhhmhlcdganaaGreatDoor
