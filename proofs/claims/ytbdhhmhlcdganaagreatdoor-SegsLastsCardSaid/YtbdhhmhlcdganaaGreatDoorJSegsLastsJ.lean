/-
  The statement SegsLasts of outstationlaw14 holds: for every input that can be read, the call returns true, and each argument reads as it did. The package-level variables that the road reads start as the program's text lays them: the tied card.
-/
import Derived.Test.YtbdhhmhlcdganaaGreatDoorJSegsLastsI
import Derived.Deep.RegionHeld3
import Derived.Deep.QuietTactic
import Derived.Test.YtbdhhmhlcdganaaGreatDoorJSegsLastsC
import Derived.Test.YtbdhhmhlcdganaaGreatDoorJSegsLastsB
import Derived.Sort.OwnSorted
import Derived.Shelf.Slices.In.SortNone
import Derived.Test.YtbdhhmhlcdganaaGreatDoorJSegsLastsA
import Derived.Test.YtbdhhmhlcdganaaGreatDoorJSegsLastsE
import Derived.Laws.Cover1
import Derived.Deep.CutRange
import Derived.Carry
import Derived.Test.YtbdhhmhlcdganaaGreatDoorJSegsLastsF
import Derived.Test.YtbdhhmhlcdganaaGreatDoorRows
import Derived.Test.YtbdhhmhlcdganaaGreatDoorCards
import Derived.Test.YtbdhhmhlcdganaaGreatDoorTie
import Derived.ProofKit
import Derived.SevenTiedAt
import Derived.LaidMore
namespace Go.Proofs.YtbdhhmhlcdganaaGreatDoor
open Go.RowKit Go.Maps
set_option linter.unusedVariables false
set_option maxRecDepth 100000

section
variable {w w' : World} {g bm : Nat} {ms : List Pf} {d : Dv}
theorem PDx.len (h : PDx w g bm ms d) : ms.length = d.fs.length := by rw [← h.fs, List.length_map]
def PRes (g bm : Nat) (ms : List Pf) (d' : Dv) (w w' : World) : Prop := ∃ ms', PDx w' g bm ms' d' ∧ Frm (PG g bm ms) w w' ∧ ∀ b, PG g bm ms' b → PG g bm ms b ∨ w.heap.size ≤ b
theorem PRes.stp {G : Nat → Prop} {d' : Dv} (hg : ∀ b, PG g bm ms b ↔ G b) (h : PRes g bm ms d' w w') (v : Value) : Stp PDe G g d' v w (.returned v) w' := by
  obtain ⟨ms', h1, h2, h3⟩ := h
  exact ⟨rfl, PG g bm ms', ⟨bm, ms', h1, fun _ => Iff.rfl⟩, h2.mono (fun b hb => (hg b).1 hb), fun b hb => (h3 b hb).imp (hg b).1 id⟩
theorem PRes.same (h : PDx w g bm ms d) : PRes g bm ms d w w := ⟨ms, h, Frm.refl _ _, fun b hb => .inl hb⟩
theorem PRes.from_ {W : World} {d' : Dv} (hf : Frm (fun b => b = g) w W) (h : PRes g bm ms d' W w') : PRes g bm ms d' w w' := by
  obtain ⟨ms', h1, h2, h3⟩ := h
  exact ⟨ms', h1, (hf.mono (fun b e => .inl e)).trans h2 (fun i hi => .inl hi), fun b hb => (h3 b hb).imp id (fun e => Nat.le_trans hf.size e)⟩
theorem OperTo.res {d' : Dv} {e : Ending} (h : OperTo g bm ms d w (fun w' => PRes g bm ms d' w w') e w') : e = .returned (.int .i64 (opD d d').2) ∧ PRes g bm ms (opD d d').1 w w' := by
  unfold opD
  rcases h with ⟨h0, rfl, hx, hf⟩ | ⟨h0, rfl, hr⟩
  · rw [if_pos h0]
    exact ⟨rfl, ms, hx, hf.mono (fun b e => .inl e), fun b hb => .inl hb⟩
  · rw [if_neg h0]
    exact ⟨rfl, hr⟩
theorem PDx.setFile (h : PDx w g bm ms d) {k : Nat} (hk : k < ms.length) {m' : Pf} (hg : m'.g = ms[k].g) (hn : m'.f.nm = ms[k].f.nm) (hf : Frm (fun b => b = ms[k].g ∨ ms[k].v.ownBlock = some b) w w') (hm : PfIs w' m')
    (vb : ∀ b, m'.v.ownBlock = some b → ms[k].v.ownBlock = some b ∨ w.heap.size ≤ b) : PDx w' g bm (ms.set k m') { d with fs := d.fs.set k m'.f } ∧ ∀ b, PG g bm (ms.set k m') b → PG g bm ms b ∨ w.heap.size ≤ b := by
  obtain ⟨h3, h4⟩ := h.g_ne
  have hmk := List.getElem_mem hk
  obtain ⟨k1, k2, k3⟩ := h4 _ hmk
  have hap := List.pairwise_iff_getElem.1 h.apart
  have other : ∀ i (hi : i < ms.length), i ≠ k → PfA ms[i] ms[k] := fun i hi hne => by
    rcases Nat.lt_or_gt_of_ne hne with e | e
    · exact hap i k hi hk e
    · exact (hap k i hk hi e).symm
  have hfar : ∀ m ∈ ms, ∀ b, m.v.ownBlock = some b → b < w.heap.size := fun m hm b hb => h.lt b (.inr (.inr ⟨m, hm, .inr hb⟩))
  have far : ∀ i (hi : i < ms.length), i ≠ k → PfA ms[i] m' := fun i hi hne => by
    have := other i hi hne
    refine ⟨by rw [hg]; exact this.1, fun b hb hb' => ?_⟩
    rcases vb b hb' with e | e
    · exact this.2 b hb e
    · have := hfar _ (List.getElem_mem hi) b hb
      omega
  constructor
  · obtain ⟨L, hb, r⟩ := h.box
    refine ⟨⟨L, (hf.block g (block_lt hb) (fun e => e.elim (fun e => k1 e.symm) (fun e => (k3 g e).1 rfl))).trans hb, r⟩, ?_, ?_, ?_, ?_⟩
    · have e : (ms.set k m').map pfN = ms.map pfN := by
        rw [List.map_set]
        have : pfN m' = (ms.map pfN)[k]'(by rw [List.length_map]; exact hk) := by simp [pfN, hg, hn]
        rw [this, List.set_getElem_self]
      rw [e]
      exact h.map.same (hf.block bm h.map.lt (fun e => e.elim (fun e => k2 e.symm) (fun e => (k3 bm e).2.1 rfl)))
    · intro m hm'
      obtain ⟨i, hi, rfl⟩ := List.mem_iff_getElem.1 hm'
      rw [List.length_set] at hi
      rw [List.getElem_set]
      split
      · exact hm
      · rename_i hne
        have ho := other i hi (fun e => hne e.symm)
        exact (h.is _ (List.getElem_mem hi)).frm hf (fun e => e.elim (fun e => ho.1 e) (fun e => (k3 _ e).2.2 _ (List.getElem_mem hi) rfl)) (fun b hb e => e.elim (fun e => ((h4 _ (List.getElem_mem hi)).2.2 b hb).2.2 _ hmk e.symm) (fun e => ho.2 b hb e))
    · rw [List.map_set, h.fs]
    · rw [List.pairwise_iff_getElem]
      intro i j hi hj hij
      rw [List.length_set] at hi hj
      rw [List.getElem_set, List.getElem_set]
      split <;> split
      · omega
      · rename_i e1 e2; exact (far j hj (fun e => e2 e.symm)).symm
      · rename_i e1 e2; exact far i hi (fun e => e1 e.symm)
      · exact hap i j hi hj hij
  · intro b hb
    rcases hb with e | e | ⟨m, hm', e⟩
    · exact .inl (.inl e)
    · exact .inl (.inr (.inl e))
    · rcases List.mem_or_eq_of_mem_set hm' with hm2 | rfl
      · exact .inl (.inr (.inr ⟨m, hm2, e⟩))
      · rcases e with e | e
        · exact .inl (.inr (.inr ⟨_, hmk, .inl (by rw [e, hg])⟩))
        · exact (vb b e).imp (fun e => .inr (.inr ⟨_, hmk, .inr e⟩)) id
theorem modify_setP (l : List Fl) (k : Nat) (hk : k < l.length) (F : Fl → Fl) : l.modify k F = l.set k (F l[k]) := by
  apply List.ext_getElem
  · simp
  · intro i h1 h2
    rw [List.getElem_modify, List.getElem_set]
    split
    · rename_i e; subst e; rfl
    · rfl
theorem PfTo.res (h : PDx w g bm ms d) {k : Nat} (hk : k < ms.length) (F : Fl → Fl) (hF : ∀ f, (F f).nm = f.nm) {e : Ending} (hp : PfTo ms[k] (F ms[k].f) w e w') :
    e = .returned (.tuple #[]) ∧ PRes g bm ms { d with fs := d.fs.modify k F } w w' := by
  obtain ⟨rfl, v', h1, h2, h3⟩ := hp
  have hk' : k < d.fs.length := by rw [← h.len]; exact hk
  have he : d.fs[k] = ms[k].f := by simp only [← h.fs, List.getElem_map]
  obtain ⟨a, b⟩ := h.setFile hk (m' := ⟨ms[k].g, v', F ms[k].f⟩) rfl (hF _) (h2.mono (fun b e => .inl e)) h1 (fun b hb => h3.elim (fun e => .inl (by rw [← e]; exact hb)) (fun e => .inr (e b hb)))
  rw [modify_setP _ _ hk', he]
  exact ⟨rfl, _, a, h2.mono (fun b e => .inr (.inr ⟨_, List.getElem_mem hk, .inl e⟩)), b⟩

theorem find_off (s : ByteArray) (h : PDx w g bm ms d) (ho : d.off = true) : Calls Tryz.prog 103 #[.pointer (some ⟨g, 0, none⟩), .string s] w fun e w' => e = .returned (.tuple #[.pointer none, .int .i64 10]) ∧ w' = w :=
  (find_pd s h).mono fun e w' ⟨h1, h2⟩ => by
    rcases h2 with ⟨_, h3⟩ | ⟨h3, _⟩ | ⟨h3, _⟩
    · exact ⟨h3, h1⟩
    · rw [ho] at h3; cases h3
    · rw [ho] at h3; cases h3
theorem find_no (s : ByteArray) (h : PDx w g bm ms d) (ho : d.off = false) (hf : findD d.fs s = none) : Calls Tryz.prog 103 #[.pointer (some ⟨g, 0, none⟩), .string s] w fun e w' => e = .returned (.tuple #[.pointer none, .int .i64 6]) ∧ w' = w :=
  (find_pd s h).mono fun e w' ⟨h1, h2⟩ => by
    rcases h2 with ⟨h3, _⟩ | ⟨_, _, h3⟩ | ⟨_, k, hk, h3, _⟩
    · rw [ho] at h3; cases h3
    · exact ⟨h3, h1⟩
    · rw [hf] at h3; cases h3
theorem find_at (s : ByteArray) (h : PDx w g bm ms d) (ho : d.off = false) {k : Nat} (hf : findD d.fs s = some k) (hk : k < ms.length) : Calls Tryz.prog 103 #[.pointer (some ⟨g, 0, none⟩), .string s] w fun e w' => e = .returned (.tuple #[.pointer (some ⟨ms[k].g, 0, none⟩), .int .i64 0]) ∧ w' = w :=
  (find_pd s h).mono fun e w' ⟨h1, h2⟩ => by
    rcases h2 with ⟨h3, _⟩ | ⟨_, h3, _⟩ | ⟨_, k', hk', h3, h4⟩
    · rw [ho] at h3; cases h3
    · rw [hf] at h3; cases h3
    · rw [hf] at h3
      injection h3 with h3
      subst h3
      exact ⟨h4, h1⟩
theorem spentD_fs (d : Dv) : (spentD d).fs = d.fs := by unfold spentD; split <;> rfl
theorem sync_pd (s : ByteArray) (h : PDx w g bm ms d) (ok : Dv.Ok d) : Calls Tryz.prog 64 #[.pointer (some ⟨g, 0, none⟩), .string s] w fun e w' => e = .returned (.int .i64 (syncD d s).2) ∧ PRes g bm ms (syncD d s).1 w w' := by
  cases ho : d.off with
  | true =>
    have hs : syncD d s = (d, 10) := by unfold syncD; rw [if_pos ho]
    have HF := Lib.hid (find_off s h ho)
    have HP := Lib.hid (PRes.same h)
    rw [hs]
    clear h ok ho hs
    go_enter Tryz.func64, Tryz.ntmps64
    go_wp2_with (go_at_call 103; refine HF.out.mono ?_; rintro e w' ⟨rfl, rfl⟩)
    go_ret
    exact ⟨rfl, HP.out⟩
  | false =>
    cases hf : findD d.fs s with
    | none =>
      have hs : syncD d s = (d, 6) := by unfold syncD; rw [if_neg (by rw [ho]; simp), hf]
      have HF := Lib.hid (find_no s h ho hf)
      have HP := Lib.hid (PRes.same h)
      rw [hs]
      clear h ok ho hf hs
      go_enter Tryz.func64, Tryz.ntmps64
      go_wp2_with (go_at_call 103; refine HF.out.mono ?_; rintro e w' ⟨rfl, rfl⟩)
      go_ret
      exact ⟨rfl, HP.out⟩
    | some k =>
      obtain ⟨hk, _⟩ := h.look_yes hf
      have hs : syncD d s = opD d { spentD d with fs := d.fs.modify k (fun f => { f with sy := f.bs.length }) } := by unfold syncD; rw [if_neg (by rw [ho]; simp), hf]
      have HF := Lib.hid (find_at s h ho hf hk)
      have HO := Lib.hid (operate_sync ms[k].g (fun w' => PRes g bm ms { spentD d with fs := d.fs.modify k (fun f => { f with sy := f.bs.length }) } w w') h ok (fun _ W hW hF => (sync_pf ms[k] W (hW.is _ (List.getElem_mem hk))).mono fun e w' hp => by
        obtain ⟨h1, h2⟩ := PfTo.res hW hk (fun f => { f with sy := f.bs.length }) (fun _ => rfl) hp
        rw [spentD_fs] at h2
        exact ⟨h1, h2.from_ hF⟩))
      rw [hs]
      have HR : Hid (∀ e w', OperTo g bm ms d w (fun w' => PRes g bm ms { spentD d with fs := d.fs.modify k (fun f => { f with sy := f.bs.length }) } w w') e w' → e = .returned (.int .i64 (opD d { spentD d with fs := d.fs.modify k (fun f => { f with sy := f.bs.length }) }).2) ∧ PRes g bm ms (opD d { spentD d with fs := d.fs.modify k (fun f => { f with sy := f.bs.length }) }).1 w w') := Lib.hid (fun e w' h => h.res)
      generalize (opD d { spentD d with fs := d.fs.modify k (fun f => { f with sy := f.bs.length }) }).1 = d1 at HR ⊢
      generalize (opD d { spentD d with fs := d.fs.modify k (fun f => { f with sy := f.bs.length }) }).2 = E at HR ⊢
      generalize ms[k].g = q at *
      generalize (OperTo g bm ms d w _) = T at HO HR
      clear h ok ho hf hs
      go_enter Tryz.func64, Tryz.ntmps64
      go_wp2_with (first
        | (go_at_call 103; refine HF.out.mono ?_; rintro e w' ⟨rfl, rfl⟩)
        | (go_at_call 41; refine HO.out.mono ?_; intro e w2 ht; obtain ⟨rfl, hr⟩ := HR.out _ _ ht))
      go_ret
      exact ⟨rfl, hr⟩
end
end Go.Proofs.YtbdhhmhlcdganaaGreatDoor
namespace Go.Proofs.YtbdhhmhlcdganaaGreatDoor
open Go.RowKit Go.Maps
set_option linter.unusedVariables false
set_option maxRecDepth 100000

section
variable {w w' : World} {g bm : Nat} {ms : List Pf} {d : Dv}
theorem PRes.from_below {W : World} {d' : Dv} (hf : Below w.heap.size w W) (h : PRes g bm ms d' W w') : PRes g bm ms d' w w' := by
  obtain ⟨ms', h1, h2, h3⟩ := h
  exact ⟨ms', h1, (Frm.of_below hf).trans h2 (fun i hi => .inl hi), fun b hb => (h3 b hb).imp id (fun e => Nat.le_trans hf.size e)⟩
theorem Frm.cellP {F : Nat → Prop} {w w' : World} (h : Frm F w w') {b o : Nat} (hb : b < w.heap.size) (hn : ¬ F b) : w'.cell? ⟨b, o, none⟩ = w.cell? ⟨b, o, none⟩ := World.cell?_of_block (h.block b hb hn)
theorem box_one (w : World) (v : Value) (t : TypeId) : Below w.heap.size w (w.alloc (.cells #[v] t)) ∧ (w.alloc (.cells #[v] t)).cell? ⟨w.heap.size, 0, none⟩ = some v ∧ (w.alloc (.cells #[v] t)).heap.size = w.heap.size + 1 :=
  ⟨bel_alloc w _, cell_of_row _ w.heap.size 0 _ _ _ (heap_alloc_new w (.cells #[v] t)), by simp⟩

theorem truncate1_pd (kf kn q n : Nat) (w : World) (R : World → Prop) (c0 : w.cell? ⟨kf, 0, none⟩ = some (.pointer (some ⟨q, 0, none⟩))) (c1 : w.cell? ⟨kn, 0, none⟩ = some (.int .i64 (n : Int)))
    (HC : Calls Tryz.prog 44 #[.pointer (some ⟨q, 0, none⟩), .int .i64 (n : Int)] w (fun e w' => e = .returned (.tuple #[]) ∧ R w')) :
    Calls Tryz.prog 136 #[.pointer (some ⟨kf, 0, none⟩), .pointer (some ⟨kn, 0, none⟩)] w (fun e w' => e = .returned (.tuple #[]) ∧ R w') := by
  have HH := Lib.hid HC
  clear HC
  go_enter Tryz.func136, Tryz.ntmps136
  go_wp2_with (go_at_call 44; refine HH.out.mono ?_; rintro e w' ⟨rfl, hr⟩)
  go_end0
  exact ⟨rfl, hr⟩

set_option maxHeartbeats 1000000 in
theorem truncate_pd (s : ByteArray) (n : Int) (h : PDx w g bm ms d) (ok : Dv.Ok d) : Calls Tryz.prog 84 #[.pointer (some ⟨g, 0, none⟩), .string s, .int .i64 n] w fun e w' => e = .returned (.int .i64 (truncD d s n).2) ∧ PRes g bm ms (truncD d s n).1 w w' := by
  obtain ⟨b1, e1, z1⟩ := box_one w (.int .i64 n) 3
  generalize hw1 : w.alloc (.cells #[.int .i64 n] 3) = w1 at *
  have HP : Hid (∀ W, Below w.heap.size w W → PRes g bm ms d w W) := Lib.hid (fun W hW => (PRes.same (h.below hW)).from_below hW)
  have Z1 := Lib.hid z1
  cases ho : d.off with
  | true =>
    have hs : truncD d s n = (d, 10) := by unfold truncD; rw [if_pos ho]
    have HF := Lib.hid (find_off s (h.below b1) ho)
    rw [hs]
    have B2 := Lib.hid (b1.trans ((box_one w1 (.pointer none) 76).1.mono b1.size))
    clear h ok ho hs z1
    go_enter Tryz.func84, Tryz.ntmps84
    go_wp2_with (go_at_call 103; refine HF.out.mono ?_; rintro e w' ⟨rfl, rfl⟩)
    go_ret
    exact ⟨rfl, HP.out _ B2.out⟩
  | false =>
    cases hf : findD d.fs s with
    | none =>
      have hs : truncD d s n = (d, 6) := by unfold truncD; rw [if_neg (by rw [ho]; simp), hf]
      have HF := Lib.hid (find_no s (h.below b1) ho hf)
      rw [hs]
      have B2 := Lib.hid (b1.trans ((box_one w1 (.pointer none) 76).1.mono b1.size))
      clear h ok ho hf hs z1
      go_enter Tryz.func84, Tryz.ntmps84
      go_wp2_with (go_at_call 103; refine HF.out.mono ?_; rintro e w' ⟨rfl, rfl⟩)
      go_ret
      exact ⟨rfl, HP.out _ B2.out⟩
    | some k =>
      obtain ⟨hk, hk', hlk, hfe, hnm⟩ := h.look_yes hf
      have HF := Lib.hid (find_at s (h.below b1) ho hf hk)
      obtain ⟨b2, e2, z2⟩ := box_one w1 (.pointer (some ⟨ms[k].g, 0, none⟩)) 76
      have e3 : (w1.alloc (.cells #[.pointer (some ⟨ms[k].g, 0, none⟩)] 76)).cell? ⟨w.heap.size, 0, none⟩ = some (.int .i64 n) := (b2.cell (p := ⟨w.heap.size, 0, none⟩) (by show w.heap.size < _; omega)).trans e1
      have b3 := b1.trans (b2.mono b1.size)
      have HP2 := Lib.hid (HP.out _ (below_drew b3))
      have hx := h.below b3
      generalize hw2 : w1.alloc (.cells #[.pointer (some ⟨ms[k].g, 0, none⟩)] 76) = w2 at *
      have hmk := List.getElem_mem hk
      have hbk : (d.fs[k]?).map (fun f => (f.bs.length : Int)) = some (ms[k].f.bs.length : Int) := by rw [List.getElem?_eq_getElem hk', hfe]; rfl
      obtain ⟨m0, m1, mf⟩ := (hx.is _ hmk).cells
      obtain ⟨A, c, hv, hvl, hvc⟩ := (hx.is _ hmk).own.val
      rw [hv] at m0
      have hus := used_mem (List.getElem_mem hk')
      rw [hfe] at hus
      have hu := ok.us
      have hr := ok.rm
      have hwf := (ok.fl _ (List.getElem_mem hk')).wf
      rw [hfe] at hwf
      by_cases hn0 : n < 0
      · have hs : truncD d s n = (d, 3) := by unfold truncD; rw [if_neg (by rw [ho]; simp), hf]; simp only; rw [if_pos (.inl hn0)]
        rw [hs]
        generalize ms[k].g = q at *
        clear h ok ho hf hs hlk hnm hvl hvc z1 z2 b1 b2 b3 hx hmk hbk hv hus hu hr hwf hfe hk hk' HP m0 m1 mf
        go_enter Tryz.func84, Tryz.ntmps84
        go_wp2_with (go_at_call 103; refine HF.out.mono ?_; rintro e w' ⟨rfl, rfl⟩)
        go_region
        go_wp2
        go_ret
        exact ⟨rfl, HP2.out⟩
      have hnd : decide (n < 0) = false := decide_eq_false hn0
      by_cases hn1 : (ms[k].f.bs.length : Int) < n
      · have hs : truncD d s n = (d, 3) := by unfold truncD; rw [if_neg (by rw [ho]; simp), hf]; simp only; rw [hbk, if_pos (.inr hn1)]
        rw [hs]
        have hn2 : n > (ms[k].f.bs.length : Int) := hn1
        generalize ms[k].g = q at *
        generalize ms[k].f.bs.length = N at *
        clear h ok ho hf hs hlk hnm hvl hvc z1 z2 b1 b2 b3 hx hmk hbk hv hus hu hr hwf hfe hk hk' HP m1 mf
        go_enter Tryz.func84, Tryz.ntmps84
        go_wp2_with (go_at_call 103; refine HF.out.mono ?_; rintro e w' ⟨rfl, rfl⟩)
        go_region
        go_wp2
        go_ret
        exact ⟨rfl, HP2.out⟩
      obtain ⟨y, rfl⟩ := Int.eq_ofNat_of_zero_le (show 0 ≤ n by omega)
      obtain ⟨F, hF⟩ : ∃ F : Fl → Fl, F = (fun f => { f with bs := f.bs.take y, sy := min f.sy y }) := ⟨_, rfl⟩
      have hs : truncD d s (y : Int) = opD d { spentD d with fs := d.fs.modify k F } := by
        unfold truncD; rw [if_neg (by rw [ho]; simp), hf]; simp only; rw [hbk, if_neg (by simp only [Option.getD_some]; omega), hF]
        simp only [Int.toNat_natCast]
      have k1 : w.heap.size ≠ g := fun e => by have := h.lt g (.inl rfl); omega
      have k2 : w1.heap.size ≠ g := fun e => by have := h.lt g (.inl rfl); omega
      have l1 : w.heap.size < w2.heap.size := by omega
      have l2 : w1.heap.size < w2.heap.size := by omega
      have HO := Lib.hid (operate_truncate (w := w2.drew) w1.heap.size w.heap.size (fun w' => PRes g bm ms { spentD d with fs := d.fs.modify k F } w2.drew w') (show PDx w2.drew g bm ms d from hx.drewN 1) ok (fun _ W hW hFr => by
        refine truncate1_pd _ _ ms[k].g y W _ ((hFr.cellP l2 k2).trans e2) ((hFr.cellP l1 k1).trans e3) ?_
        refine (cut_pf ms[k] y W (hW.is _ hmk) hwf (by omega)).mono fun e w' hp => ?_
        have hp' : PfTo ms[k] (F ms[k].f) W e w' := by rw [hF]; exact hp
        obtain ⟨h1, h2⟩ := PfTo.res hW hk F (fun _ => by rw [hF]) hp'
        rw [spentD_fs] at h2
        exact ⟨h1, h2.from_ hFr⟩))
      rw [hs]
      have HR : Hid (∀ e w', OperTo g bm ms d w2.drew (fun w' => PRes g bm ms { spentD d with fs := d.fs.modify k F } w2.drew w') e w' → e = .returned (.int .i64 (opD d { spentD d with fs := d.fs.modify k F }).2) ∧ PRes g bm ms (opD d { spentD d with fs := d.fs.modify k F }).1 w w') := Lib.hid (fun e w' h => ⟨h.res.1, h.res.2.from_below (below_drew b3)⟩)
      generalize (opD d { spentD d with fs := d.fs.modify k F }).1 = d1 at HR ⊢
      generalize (opD d { spentD d with fs := d.fs.modify k F }).2 = E at HR ⊢
      have i1 : ¬ (y : Int) < 0 := by omega
      have i2 : ¬ (y : Int) > (ms[k].f.bs.length : Int) := by omega
      generalize ms[k].g = q at *
      generalize ms[k].f.bs.length = N at *
      generalize (OperTo g bm ms d w2.drew _) = T at HO HR
      clear h ok ho hf hs hlk hnm hvl hvc z1 z2 b1 b2 b3 hx hmk hbk hv hus hu hr hwf hfe HP HP2 m1 mf hn1 hF k1 k2 l1 l2
      clear hk hk'
      go_enter Tryz.func84, Tryz.ntmps84
      go_wp2_with (go_at_call 103; refine HF.out.mono ?_; rintro e w' ⟨rfl, rfl⟩)
      go_region
      go_wp2_with (first
        | (go_at_call 41; refine HO.out.mono ?_; intro e w2 ht; obtain ⟨rfl, hr⟩ := HR.out _ _ ht))
      go_ret
      exact ⟨rfl, hr⟩
end
end Go.Proofs.YtbdhhmhlcdganaaGreatDoor
namespace Go.Proofs.YtbdhhmhlcdganaaGreatDoor
open Go.RowKit Go.Maps
set_option linter.unusedVariables false
set_option maxRecDepth 100000

theorem remove1_pd (kd kn g bm : Nat) (ps : List (ByteArray × Nat)) (s : ByteArray) (w : World) (c0 : w.cell? ⟨kd, 0, none⟩ = some (.pointer (some ⟨g, 0, none⟩))) (c1 : w.cell? ⟨kn, 0, none⟩ = some (.string s)) (c2 : w.cell? ⟨g, 4, none⟩ = some (.map (some bm)))
    (hm : PMap w bm ps) (hs : s.size ≤ maxLen) :
    Calls Tryz.prog 104 #[.pointer (some ⟨kd, 0, none⟩), .pointer (some ⟨kn, 0, none⟩)] w (fun e w' => e = .returned (.tuple #[]) ∧ PMap w' bm (strike ps s) ∧ Frm (fun b => b = bm) w w') := by
  obtain ⟨w1, hrun, hp, hf, hz⟩ := PMap.drop (w := w.drew) hm s hs
  have HP := Lib.hid hp
  have HF : Hid (Frm (fun b => b = bm) w w1) := Lib.hid ((Frm.of_below (below_drew (Below.refl _ _))).trans hf (fun i hi => .inl hi))
  clear hp hf hz hm
  go_enter Tryz.func104, Tryz.ntmps104
  go_region
  go_wp2
  go_end0
  exact ⟨rfl, HP.out, HF.out⟩
theorem strike_erase {ps : List (ByteArray × Nat)} (nd : ps.Pairwise (fun a b => sameN a.1 b.1 = false)) {k : Nat} (hk : k < ps.length) : strike ps ps[k].1 = ps.eraseIdx k := by
  induction ps generalizing k with
  | nil => simp at hk
  | cons a ps ih =>
    obtain ⟨h1, h2⟩ := List.pairwise_cons.1 nd
    unfold strike at ih ⊢
    cases k with
    | zero =>
      rw [List.filter_cons, List.eraseIdx_cons_zero]
      simp only [List.getElem_cons_zero, sameN_refl, Bool.not_true, Bool.false_eq_true, if_false]
      rw [List.filter_eq_self]
      intro p hp
      rw [sameN_comm, h1 p hp]; rfl
    | succ k =>
      have hk2 : k < ps.length := by simpa using hk
      rw [List.filter_cons, List.eraseIdx_cons_succ]
      simp only [List.getElem_cons_succ]
      rw [h1 _ (List.getElem_mem hk2)]
      simp only [Bool.not_false, if_true]
      rw [ih h2 hk2]
theorem map_erase {α β : Type} (f : α → β) (l : List α) (k : Nat) : (l.eraseIdx k).map f = (l.map f).eraseIdx k := by
  induction l generalizing k with
  | nil => rfl
  | cons a l ih => cases k with
    | zero => rfl
    | succ k => simp only [List.eraseIdx_cons_succ, List.map_cons, ih]
theorem strike_no {ps : List (ByteArray × Nat)} {s : ByteArray} (h : ∀ p ∈ ps, sameN p.1 s = false) : strike ps s = ps := by
  unfold strike
  rw [List.filter_eq_self]
  intro p hp
  rw [h p hp]; rfl
section
variable {w w' : World} {g bm : Nat} {ms ms' : List Pf} {d : Dv}
theorem PDx.fewer (h : PDx w g bm ms d) (hp : PMap w' bm (ms'.map pfN)) (hf : Frm (fun b => b = bm) w w') (hs : ms'.Sublist ms) : PDx w' g bm ms' { d with fs := ms'.map (·.f) } ∧ ∀ b, PG g bm ms' b → PG g bm ms b := by
  obtain ⟨h3, h4⟩ := h.g_ne
  obtain ⟨L, hb, r⟩ := h.box
  refine ⟨⟨⟨L, (hf.block g (block_lt hb) h3).trans hb, r⟩, hp, fun m hm => (h.is m (hs.subset hm)).frm hf (h4 m (hs.subset hm)).2.1 (fun b hb => ((h4 m (hs.subset hm)).2.2 b hb).2.1), rfl, h.apart.sublist hs⟩, fun b hb => ?_⟩
  rcases hb with e | e | ⟨m, hm, e⟩
  · exact .inl e
  · exact .inr (.inl e)
  · exact .inr (.inr ⟨m, hs.subset hm, e⟩)
theorem PDx.erase_fs (h : PDx w g bm ms d) (k : Nat) : (ms.eraseIdx k).map (·.f) = d.fs.eraseIdx k := by rw [← h.fs, map_erase]
theorem remove_pd (s : ByteArray) (h : PDx w g bm ms d) (ok : Dv.Ok d) : Calls Tryz.prog 68 #[.pointer (some ⟨g, 0, none⟩), .string s] w fun e w' => e = .returned (.int .i64 (remD d s).2) ∧ PRes g bm ms (remD d s).1 w w' := by
  obtain ⟨b1, e1, z1⟩ := box_one w (.pointer (some ⟨g, 0, none⟩)) 26
  generalize hw1 : w.alloc (.cells #[.pointer (some ⟨g, 0, none⟩)] 26) = w1 at *
  obtain ⟨b2, e2, z2⟩ := box_one w1 (.string s) 9
  have e3 : (w1.alloc (.cells #[.string s] 9)).cell? ⟨w.heap.size, 0, none⟩ = some (.pointer (some ⟨g, 0, none⟩)) := (b2.cell (p := ⟨w.heap.size, 0, none⟩) (by show w.heap.size < _; omega)).trans e1
  have b3 := b1.trans (b2.mono b1.size)
  generalize hw2 : w1.alloc (.cells #[.string s] 9) = w2 at *
  have hx := h.below b3
  have HP : Hid (PRes g bm ms d w w2) := Lib.hid ((PRes.same hx).from_below b3)
  cases ho : d.off with
  | true =>
    have hs : remD d s = (d, 10) := by unfold remD; rw [if_pos ho]
    have HF := Lib.hid (find_off s hx ho)
    rw [hs]
    clear h hx ok ho hs z1 z2 b1 b2 b3
    go_enter Tryz.func68, Tryz.ntmps68
    go_wp2_with (go_at_call 103; refine HF.out.mono ?_; rintro e w' ⟨rfl, rfl⟩)
    go_ret
    exact ⟨rfl, HP.out⟩
  | false =>
    cases hf : findD d.fs s with
    | none =>
      have hs : remD d s = (d, 6) := by unfold remD; rw [if_neg (by rw [ho]; simp), hf]
      have HF := Lib.hid (find_no s hx ho hf)
      rw [hs]
      clear h hx ok ho hs hf z1 z2 b1 b2 b3
      go_enter Tryz.func68, Tryz.ntmps68
      go_wp2_with (go_at_call 103; refine HF.out.mono ?_; rintro e w' ⟨rfl, rfl⟩)
      go_ret
      exact ⟨rfl, HP.out⟩
    | some k =>
      obtain ⟨hk, hk', hlk, hfe, hnm⟩ := h.look_yes hf
      have hs : remD d s = opD d { spentD d with fs := d.fs.eraseIdx k } := by unfold remD; rw [if_neg (by rw [ho]; simp), hf]
      have HF := Lib.hid (find_at s hx ho hf hk)
      have hsz : s.size ≤ maxLen := by
        have := ok_size (ok.fl _ (List.getElem_mem hk')).nm
        rw [hfe, hnm] at this
        unfold maxLen; omega
      have k1 : w.heap.size ≠ g := fun e => by have := h.lt g (.inl rfl); omega
      have k2 : w1.heap.size ≠ g := fun e => by have := h.lt g (.inl rfl); omega
      have l1 : w.heap.size < w2.heap.size := by omega
      have l2 : w1.heap.size < w2.heap.size := by omega
      have HO := Lib.hid (operate_remove w.heap.size w1.heap.size (fun w' => PRes g bm ms { spentD d with fs := d.fs.eraseIdx k } w2 w') hx ok (fun _ W hW hFr => by
        obtain ⟨L, _, _, _, _, c4, _⟩ := hW.cells
        refine (remove1_pd _ _ g bm _ s W ((hFr.cellP l1 k1).trans e3) ((hFr.cellP l2 k2).trans e2) c4 hW.map hsz).mono fun e w' ⟨r1, r2, r3⟩ => ⟨r1, ?_⟩
        have hkp : k < (ms.map pfN).length := by rw [List.length_map]; exact hk
        have e4 : strike (ms.map pfN) s = (ms.eraseIdx k).map pfN := by
          have := strike_erase hW.map.nd hkp
          rw [List.getElem_map, show (pfN ms[k]).1 = s from hnm] at this
          rw [this, ← map_erase]
        rw [e4] at r2
        obtain ⟨a, b⟩ := hW.fewer r2 r3 (List.eraseIdx_sublist _ _)
        rw [h.erase_fs] at a
        exact ⟨_, a, (hFr.mono (fun b e => .inl e)).trans r3 (fun i hi => .inl (.inr (.inl hi))), fun b' hb => .inl (b b' hb)⟩))
      rw [hs]
      have HR : Hid (∀ e w', OperTo g bm ms d w2 (fun w' => PRes g bm ms { spentD d with fs := d.fs.eraseIdx k } w2 w') e w' → e = .returned (.int .i64 (opD d { spentD d with fs := d.fs.eraseIdx k }).2) ∧ PRes g bm ms (opD d { spentD d with fs := d.fs.eraseIdx k }).1 w w') := Lib.hid (fun e w' h => ⟨h.res.1, h.res.2.from_below b3⟩)
      generalize (opD d { spentD d with fs := d.fs.eraseIdx k }).1 = d1 at HR ⊢
      generalize (opD d { spentD d with fs := d.fs.eraseIdx k }).2 = E at HR ⊢
      generalize ms[k].g = q at *
      generalize (OperTo g bm ms d w2 _) = T at HO HR
      clear h hx ok ho hf hs hlk hnm hfe z1 z2 b1 b2 b3 k1 k2 l1 l2 hsz HP hk hk'
      go_enter Tryz.func68, Tryz.ntmps68
      go_wp2_with (first
        | (go_at_call 103; refine HF.out.mono ?_; rintro e w' ⟨rfl, rfl⟩)
        | (go_at_call 41; refine HO.out.mono ?_; intro e w2 ht; obtain ⟨rfl, hr⟩ := HR.out _ _ ht))
      go_ret
      exact ⟨rfl, hr⟩
end
end Go.Proofs.YtbdhhmhlcdganaaGreatDoor
namespace Go.Proofs.YtbdhhmhlcdganaaGreatDoor
open Go.RowKit Go.Maps
set_option linter.unusedVariables false
set_option maxRecDepth 100000

theorem PMap.put1 {w : World} {b : Nat} {ps : List (ByteArray × Nat)} (h : PMap w b ps) (hn : ps.length < 1000) (s : ByteArray) (g : Nat) (hs : s.size ≤ maxLen) :
    ∃ w', (Instr.mapUpdate 36 (.map (some b)) (.string s) (.pointer (some ⟨g, 0, none⟩))).run Tryz.prog w = .ok () w' ∧ PMap w' b ((s, g) :: strike ps s) ∧ Frm (fun y => y = b) w w' := by
  obtain ⟨D, h1, h2⟩ := h
  obtain ⟨w', hrun, ho, ht⟩ := h1.store lawS Tryz.underlying36 (by unfold maxLen; omega) (keyS s hs) (ptrR_mk g)
  exact ⟨w', hrun, PMap.of ho (h2.put (h1.tidy lawS) s g), Frm.of_turned ht⟩
set_option maxHeartbeats 1000000 in
theorem enter_pd (g bm q : Nat) (ps : List (ByteArray × Nat)) (s : ByteArray) (w : World) (c4 : w.cell? ⟨g, 4, none⟩ = some (.map (some bm))) (hm : PMap w bm ps) (hs : s.size ≤ 1000000) (hn : ps.length < 1000) (hg : g < w.heap.size) :
    Calls Tryz.prog 43 #[.pointer (some ⟨g, 0, none⟩), .string s, .pointer (some ⟨q, 0, none⟩)] w (fun e w' => e = .returned (.tuple #[]) ∧ PMap w' bm ((s, q) :: strike ps s) ∧ Frm (fun b => b = bm) w w') := by
  have HC : Hid (∀ W, Below w.heap.size w W → Calls Tryz.prog 52 #[.string s] W fun e w' => e = .returned (.string s) ∧ w'.cell? ⟨g, 4, none⟩ = some (.map (some bm)) ∧ ∃ w2, (Instr.mapUpdate 36 (.map (some bm)) (.string s) (.pointer (some ⟨q, 0, none⟩))).run Tryz.prog w' = .ok () w2 ∧ PMap w2 bm ((s, q) :: strike ps s) ∧ Frm (fun b => b = bm) w w2) := Lib.hid (fun W hW => (sclone_any s W hs).mono fun e w' ⟨h1, h2⟩ => by
    have hb := hW.trans (h2.mono hW.size)
    obtain ⟨w2, r1, r2, r3⟩ := (hm.same (hb.block bm hm.lt)).put1 hn s q (by unfold maxLen; omega)
    exact ⟨h1, (hb.cell hg).trans c4, w2, r1, r2, (Frm.of_below hb).trans r3 (fun i hi => .inl hi)⟩)
  clear hm hs hn
  go_enter Tryz.func43, Tryz.ntmps43
  go_region_with (first
    | (go_at_call 52; refine (HC.out _ (below_drew (Below.refl _ _))).mono ?_; rintro e w1 ⟨rfl, c4', w2, hrun, hp, hf⟩))
  all_goals
    (try go_wp2)
    go_end0
    exact ⟨rfl, hp, hf⟩

def insP : List Pf → Pf → List Pf
  | [], m => [m]
  | h :: t, m => bif lessN m.f.nm h.f.nm then m :: h :: t else h :: insP t m
theorem insP_map (l : List Pf) (m : Pf) : (insP l m).map (·.f) = insD (l.map (·.f)) m.f := by
  induction l with
  | nil => rfl
  | cons a l ih =>
    unfold insP
    rw [List.map_cons]
    unfold insD
    cases lessN m.f.nm a.f.nm
    · simp only [cond_false, List.map_cons, ih]
    · rfl
theorem insP_perm (l : List Pf) (m : Pf) : (insP l m).Perm (m :: l) := by
  induction l with
  | nil => exact List.Perm.refl _
  | cons a l ih =>
    unfold insP
    cases lessN m.f.nm a.f.nm
    · exact (List.Perm.cons a ih).trans (List.Perm.swap m a l)
    · exact List.Perm.refl _
def outP (l : List Pf) (s : ByteArray) : List Pf := match findD (l.map (·.f)) s with
  | some j => l.eraseIdx j
  | none => l
section
variable {w w' : World} {g bm : Nat} {ms ms1 : List Pf} {d : Dv}
theorem PDx.anew (h : PDx w g bm ms d) (hs : ms1.Sublist ms) (hf : Frm (fun b => b = bm) w w') {m : Pf} (hp : PMap w' bm (pfN m :: ms1.map pfN)) (hm : PfIs w' m) (ha : ∀ k ∈ ms1, PfA m k) :
    PDx w' g bm (insP ms1 m) { d with fs := insD (ms1.map (·.f)) m.f } ∧ ∀ b, PG g bm (insP ms1 m) b → PG g bm ms b ∨ b = m.g ∨ m.v.ownBlock = some b := by
  obtain ⟨h3, h4⟩ := h.g_ne
  obtain ⟨L, hb, r⟩ := h.box
  refine ⟨⟨⟨L, (hf.block g (block_lt hb) h3).trans hb, r⟩, ?_, fun k hk => ?_, insP_map _ _, ?_⟩, fun b hb => ?_⟩
  · have := (insP_perm ms1 m).map pfN
    exact hp.perm this.symm
  · rcases List.mem_cons.1 ((insP_perm ms1 m).mem_iff.1 hk) with rfl | hk
    · exact hm
    · have hk := hs.subset hk
      exact (h.is k hk).frm hf (h4 k hk).2.1 (fun b hb => ((h4 k hk).2.2 b hb).2.1)
  · exact ((insP_perm ms1 m).pairwise_iff (fun {a b} hab => hab.symm)).2 (List.pairwise_cons.2 ⟨ha, h.apart.sublist hs⟩)
  · rcases hb with e | e | ⟨k, hk, e⟩
    · exact .inl (.inl e)
    · exact .inl (.inr (.inl e))
    · rcases List.mem_cons.1 ((insP_perm ms1 m).mem_iff.1 hk) with rfl | hk
      · exact .inr e
      · exact .inl (.inr (.inr ⟨k, hs.subset hk, e⟩))
end
end Go.Proofs.YtbdhhmhlcdganaaGreatDoor
namespace Go.Proofs.YtbdhhmhlcdganaaGreatDoor
open Go.RowKit Go.Maps
set_option linter.unusedVariables false
set_option maxRecDepth 100000

theorem run_append_zeroK {w : World} {base : Nat} {v : Value} {xs : List Int} (h : KOwn .u8 5 w base v xs) (A : Option Addr) (c : Nat) (ty : TypeId) : (Builtin.append_ #[47, 47] ty #[v, .slice A 0 c]).run Tryz.prog w = .ok v w := by
  obtain ⟨i, hi1, hz, hsz, hby⟩ := info_parts info_cl
  rcases h with ⟨rfl, rfl⟩ | ⟨g, n, cap, r, rfl, h2, h3, h4, h5, h6⟩
  · cases A with
    | none => simp [Builtin.append_, run_underlying Tryz.underlying47, sizeOf, typeInfo, hi1, Builtin.lenOf, Builtin.firstCells]
    | some a => simp [Builtin.append_, run_underlying Tryz.underlying47, sizeOf, typeInfo, hi1, Builtin.lenOf, Builtin.firstCells, loadCells, loadCellsFrom]
  · cases A with
    | none => simp [Builtin.append_, run_underlying Tryz.underlying47, sizeOf, typeInfo, hi1, Builtin.lenOf, Builtin.firstCells, h5, storeCells]
    | some a => simp [Builtin.append_, run_underlying Tryz.underlying47, sizeOf, typeInfo, hi1, Builtin.lenOf, Builtin.firstCells, h5, storeCells, loadCells, loadCellsFrom]
theorem run_append_any (w : World) (base : Nat) (v : Value) (xs : List Int) (h : KOwn .u8 5 w base v xs) (B : Nat) (A : Option Addr) (m c : Nat) (ys : List Int) (hr : Row .u8 w B A ys) (hm : ys.length = m) (hb : xs.length + m ≤ 140737488355328) (hbase : base ≤ w.heap.size) :
    ∃ A' n' c' w', (∀ ty, (Builtin.append_ #[47, 47] ty #[v, .slice A m c]).run Tryz.prog w = .ok (.slice A' n' c') w') ∧ KOwn .u8 5 w' base (.slice A' n' c') (xs ++ ys) ∧ Frm (fun b => v.ownBlock = some b) w w' ∧ ∀ b, (Value.slice A' n' c').ownBlock = some b → v.ownBlock = some b ∨ w.heap.size ≤ b := by
  by_cases h1 : 1 ≤ m
  · obtain ⟨v', w', r1, r2, r3, r4, A', n', c', rfl⟩ := run_append_K w base 47 .u8 5 1 Tryz.underlying47 info_cl v xs h B A m c ys hr hm h1 (by omega) (by unfold maxLen; omega) hbase
    refine ⟨A', n', c', w', r1, r2, ⟨r3.os, r3.tape, r3.output, r3.size, fun k hk hn => r3.block k hk (fun e => hn e.symm)⟩, fun b hb => ?_⟩
    rcases r4 with e | ⟨e, _⟩
    · rw [e] at hb
      injection hb with hb
      exact .inr (by omega)
    · exact .inl (by rw [← e]; exact hb)
  · obtain rfl : m = 0 := by omega
    obtain rfl : ys = [] := List.eq_nil_of_length_eq_zero hm
    obtain ⟨A', n', c', rfl⟩ := h.letters
    exact ⟨A', n', c', w, run_append_zeroK h A c, by rw [List.append_nil]; exact h, Frm.refl _ _, fun b hb => .inl hb⟩

theorem append1_at (kd kn kb g bm : Nat) (m : Pf) (ps : List (ByteArray × Nat)) (s : ByteArray) (A : Option Addr) (n c : Nat) (bs : List Int) (w : World) (c0 : w.cell? ⟨kd, 0, none⟩ = some (.pointer (some ⟨g, 0, none⟩))) (c1 : w.cell? ⟨kn, 0, none⟩ = some (.string s)) (c2 : w.cell? ⟨kb, 0, none⟩ = some (.slice A n c))
    (c4 : w.cell? ⟨g, 4, none⟩ = some (.map (some bm))) (hm : PMap w bm ps) (hlk : look ps s = some m.g) (hp : PfIs w m) (hr : Row .u8 w w.heap.size A bs) (hn : bs.length = n) (hb : m.f.bs.length + n ≤ 140737488355328) :
    Calls Tryz.prog 42 #[.pointer (some ⟨kd, 0, none⟩), .pointer (some ⟨kn, 0, none⟩), .pointer (some ⟨kb, 0, none⟩)] w (fun e w' => e = .returned (.tuple #[]) ∧ ∃ v', PfIs w' ⟨m.g, v', { m.f with bs := m.f.bs ++ bs }⟩ ∧ Frm (fun b => b = m.g ∨ m.v.ownBlock = some b) w w' ∧ ∀ b, v'.ownBlock = some b → m.v.ownBlock = some b ∨ w.heap.size ≤ b) := by
  have hl := PMap.lookup (w := w.drew) hm s
  rw [hlk] at hl
  obtain ⟨m0, m1, mf⟩ := hp.cells
  obtain ⟨A0, n0, q0, hv⟩ := hp.own.letters
  obtain ⟨A', n', c', w', hrun, hk, hf, hbl⟩ := run_append_any w.drew.drew 0 m.v m.f.bs hp.own w.heap.size A n c bs hr hn hb (Nat.zero_le _)
  have hne : ¬ m.v.ownBlock = some m.g := fun e => by
    obtain ⟨cc, hcc⟩ := hp.own.at_block e
    exact cells_ne hcc hp.box (by decide) rfl
  have hgl : m.g < w.heap.size := block_lt hp.box
  have hbox : w'.heap[m.g]? = _ := (hf.block m.g hgl hne).trans hp.box
  have m0' : w'.cell? ⟨m.g, 0, none⟩ = some m.v := cell_of_row w' m.g 0 _ _ _ hbox
  have mf' : ∀ j, w'.frozen? ⟨m.g, j, none⟩ = false := fun j => block_frozen w' m.g j _ _ hbox
  have hsz : w.heap.size ≤ w'.heap.size := hf.size
  have HF : Frm (fun b => m.v.ownBlock = some b) w w' := (Frm.of_below (below_drew (below_drew (Below.refl _ _)))).trans hf (fun i hi => .inl hi)
  have HP : Hid (∃ v', PfIs (w'.setCell ⟨m.g, 0, none⟩ (.slice A' n' c')) ⟨m.g, v', { m.f with bs := m.f.bs ++ bs }⟩ ∧ Frm (fun b => b = m.g ∨ m.v.ownBlock = some b) w (w'.setCell ⟨m.g, 0, none⟩ (.slice A' n' c')) ∧ ∀ b, v'.ownBlock = some b → m.v.ownBlock = some b ∨ w.heap.size ≤ b) := Lib.hid (by
    have fs := Frm.set (F := fun b => b = m.g) w' m.g 0 (.slice A' n' c') rfl
    refine ⟨.slice A' n' c', ⟨dv_box_set hbox 0 _, hk.frm fs (fun b hb e => ?_)⟩, (HF.mono (fun b e => .inr e)).trans (fs.mono (fun b e => (.inl e : b = m.g ∨ m.v.ownBlock = some b))) (fun i hi => .inl hi), hbl⟩
    rcases hbl b hb with e' | e'
    · rw [e] at e'; exact hne e'
    · have : w.heap.size ≤ b := e'
      omega)
  rw [hv] at m0 m0' hrun
  obtain ⟨RR, hRR⟩ : ∃ RR : World → Prop, RR = fun w' => ∃ v', PfIs w' ⟨m.g, v', { m.f with bs := m.f.bs ++ bs }⟩ ∧ Frm (fun b => b = m.g ∨ m.v.ownBlock = some b) w w' ∧ ∀ b, v'.ownBlock = some b → m.v.ownBlock = some b ∨ w.heap.size ≤ b := ⟨_, rfl⟩
  have HRR : Hid (RR (w'.setCell ⟨m.g, 0, none⟩ (.slice A' n' c'))) := Lib.hid (by rw [hRR]; exact HP.out)
  suffices HS : Calls Tryz.prog 42 #[.pointer (some ⟨kd, 0, none⟩), .pointer (some ⟨kn, 0, none⟩), .pointer (some ⟨kb, 0, none⟩)] w (fun e w' => e = .returned (.tuple #[]) ∧ RR w') by
    rw [hRR] at HS; exact HS
  clear hRR HP hm hlk hp hr hn hb hv hk hf hbl hne hbox HF hsz
  generalize m.g = q at *
  clear hgl
  go_enter Tryz.func42, Tryz.ntmps42
  go_wp2_with fail
  go_region
  go_wp2_with fail
  go_region_law (refine step_append_run (w.drew.drew) rfl _ _ 47 rfl _ _ _ _ rfl rfl hrun ?_)
  all_goals
    (try go_wp2)
    go_end0
    exact ⟨rfl, HRR.out⟩
theorem append1_new (kd kn kb g bm : Nat) (ps : List (ByteArray × Nat)) (s : ByteArray) (A : Option Addr) (n c : Nat) (bs : List Int) (w : World) (c0 : w.cell? ⟨kd, 0, none⟩ = some (.pointer (some ⟨g, 0, none⟩))) (c1 : w.cell? ⟨kn, 0, none⟩ = some (.string s)) (c2 : w.cell? ⟨kb, 0, none⟩ = some (.slice A n c))
    (c4 : w.cell? ⟨g, 4, none⟩ = some (.map (some bm))) (hm : PMap w bm ps) (hlk : look ps s = none) (hs : s.size ≤ 16) (hln : ps.length < 1000) (hr : Row .u8 w w.heap.size A bs) (hn : bs.length = n) (hb : n ≤ 140737488355328)
    (h0 : kd < w.heap.size ∧ kd ≠ bm) (h1 : kn < w.heap.size ∧ kn ≠ bm) (h2 : kb < w.heap.size ∧ kb ≠ bm) (hg : g < w.heap.size) (hA : ∀ a, A = some a → 0 < n → a.block ≠ bm) :
    Calls Tryz.prog 42 #[.pointer (some ⟨kd, 0, none⟩), .pointer (some ⟨kn, 0, none⟩), .pointer (some ⟨kb, 0, none⟩)] w (fun e w' => e = .returned (.tuple #[]) ∧ ∃ v', PfIs w' ⟨w.heap.size, v', ⟨s, bs, 0⟩⟩ ∧ PMap w' bm ((s, w.heap.size) :: strike ps s) ∧ Frm (fun b => b = bm) w w' ∧ ∀ b, v'.ownBlock = some b → w.heap.size < b) := by
  have hl := PMap.lookup (w := w.drew) hm s
  rw [hlk] at hl
  have hbl := hm.lt
  obtain ⟨wb, hwb⟩ : ∃ wb, wb = w.drew.alloc (.cells #[.slice none 0 0, .int .i64 0] 78) := ⟨_, rfl⟩
  have bb : Below w.heap.size w wb := by rw [hwb]; exact (below_drew (Below.refl _ _)).alloc (Nat.le_refl _) _
  have bx : wb.heap[w.heap.size]? = some (.cells #[.slice none 0 0, .int .i64 0] 78 (0, 0)) := by rw [hwb]; exact heap_alloc_new w.drew _
  have bz : wb.heap.size = w.heap.size + 1 := by rw [hwb]; show (w.drew.alloc _).heap.size = w.drew.heap.size + 1; simp
  have d0 := (bb.cell (p := ⟨kd, 0, none⟩) h0.1).trans c0
  have d1 := (bb.cell (p := ⟨kn, 0, none⟩) h1.1).trans c1
  have d2 := (bb.cell (p := ⟨kb, 0, none⟩) h2.1).trans c2
  have d4 := (bb.cell (p := ⟨g, 4, none⟩) hg).trans c4
  have HE := Lib.hid (enter_pd g bm w.heap.size ps s wb d4 (hm.same (bb.block bm hbl)) (by omega) hln (by omega))
  have HX : Hid (∀ W, Frm (fun b => b = bm) wb W → W.cell? ⟨kb, 0, none⟩ = some (.slice A n c) ∧ W.cell? ⟨w.heap.size, 0, none⟩ = some (.slice none 0 0) ∧ (∀ j, W.frozen? ⟨w.heap.size, j, none⟩ = false) ∧
      ∃ A' n' c' w', (∀ ty, (Builtin.append_ #[47, 47] ty #[.slice none 0 0, .slice A n c]).run Tryz.prog W.drew = .ok (.slice A' n' c') w') ∧ w'.cell? ⟨w.heap.size, 0, none⟩ = some (.slice none 0 0) ∧ (∀ j, w'.frozen? ⟨w.heap.size, j, none⟩ = false) ∧
        (PMap W bm ((s, w.heap.size) :: strike ps s) → ∃ v', PfIs (w'.setCell ⟨w.heap.size, 0, none⟩ (.slice A' n' c')) ⟨w.heap.size, v', ⟨s, bs, 0⟩⟩ ∧ PMap (w'.setCell ⟨w.heap.size, 0, none⟩ (.slice A' n' c')) bm ((s, w.heap.size) :: strike ps s) ∧ Frm (fun b => b = bm) w (w'.setCell ⟨w.heap.size, 0, none⟩ (.slice A' n' c')) ∧ ∀ b, v'.ownBlock = some b → w.heap.size < b)) := Lib.hid (fun W hW => by
    have hz := hW.size
    have hbox : W.heap[w.heap.size]? = _ := (hW.block w.heap.size (by omega) (by omega)).trans bx
    have fw : Frm (fun b => b = bm) w W := (Frm.of_below (F := fun b => b = bm) bb).trans hW (fun i hi => .inl hi)
    have hr1 : Row .u8 W.drew W.heap.size A bs := fw.row hr (fun a ha hp => hA a ha (by omega))
    obtain ⟨A', n', c', w', hrun, hk, hf, hbl'⟩ := run_append_any W.drew W.heap.size (.slice none 0 0) [] (KOwn.nil _ _ _ _) W.heap.size A n c bs hr1 hn (by simp; omega) (Nat.le_refl _)
    have hbox' : w'.heap[w.heap.size]? = _ := (hf.block w.heap.size (by show _ < W.heap.size; omega) (fun e => nomatch e)).trans hbox
    refine ⟨(hW.cellP (by omega) h2.2).trans d2, cell_of_row W w.heap.size 0 _ _ _ hbox, fun j => block_frozen W w.heap.size j _ _ hbox, A', n', c', w', hrun, cell_of_row w' w.heap.size 0 _ _ _ hbox', fun j => block_frozen w' w.heap.size j _ _ hbox', fun hp => ?_⟩
    have vb : ∀ b, (Value.slice A' n' c').ownBlock = some b → W.heap.size ≤ b := fun b hb => (hbl' b hb).elim (fun e => nomatch e) id
    have fs := Frm.set (F := fun b => b = w.heap.size) w' w.heap.size 0 (.slice A' n' c') rfl
    have f1 : Frm (fun b => b = bm) W w' := (Frm.of_below (F := fun b => b = bm) (below_drew (Below.refl _ W))).trans (hf.mono (fun b e => (nomatch e : b = bm))) (fun i hi => .inl hi)
    have f2 : Frm (fun b => b = w.heap.size) W (w'.setCell ⟨w.heap.size, 0, none⟩ (.slice A' n' c')) := ((Frm.of_below (F := fun b => b = w.heap.size) (below_drew (Below.refl _ W))).trans (hf.mono (fun b e => (nomatch e : b = w.heap.size))) (fun i hi => .inl hi)).trans fs (fun i hi => .inl hi)
    refine ⟨.slice A' n' c', ⟨dv_box_set hbox' 0 _, (hk.mono (Nat.zero_le _)).frm fs (fun b hb e => ?_)⟩, hp.same (f2.block bm hp.lt (by omega)), fw.trans f2 (fun i hi => .inr (by omega)), fun b hb => ?_⟩
    · have := vb b hb
      omega
    · have := vb b hb
      omega)
  clear bb bx bz d2 hm hlk hs hln hr hn hb h0 h1 h2 hg hA hbl d4
  obtain ⟨R, hR⟩ : ∃ R : World → Prop, R = fun w' => ∃ v', PfIs w' ⟨w.heap.size, v', ⟨s, bs, 0⟩⟩ ∧ PMap w' bm ((s, w.heap.size) :: strike ps s) ∧ Frm (fun b => b = bm) w w' ∧ ∀ b, v'.ownBlock = some b → w.heap.size < b := ⟨_, rfl⟩
  have HRR := Lib.hid hR
  suffices HS : Calls Tryz.prog 42 #[.pointer (some ⟨kd, 0, none⟩), .pointer (some ⟨kn, 0, none⟩), .pointer (some ⟨kb, 0, none⟩)] w (fun e w' => e = .returned (.tuple #[]) ∧ R w') by
    rw [hR] at HS; exact HS
  clear hR
  have hwb2 := hwb.symm
  clear hwb
  go_enter Tryz.func42, Tryz.ntmps42
  go_wp2_with fail
  go_region
  go_wp2_with (go_at_call 43; refine HE.out.mono ?_; rintro e w2 ⟨rfl, hp2, hf2⟩; obtain ⟨x1, x2, x3, A', n', c', w', hrun, y1, y2, y3⟩ := HX.out _ hf2; have HY := Lib.hid (y3 hp2); clear y3 hp2 hf2)
  go_region_law (refine step_append_run (w2.drew) rfl _ _ 47 rfl _ _ _ _ rfl rfl hrun ?_)
  all_goals
    (try go_wp2)
    go_end0
    exact ⟨rfl, by rw [HRR.out]; exact HY.out⟩
end Go.Proofs.YtbdhhmhlcdganaaGreatDoor
namespace Go.Proofs.YtbdhhmhlcdganaaGreatDoor
open Go.RowKit Go.Maps
set_option linter.unusedVariables false
set_option maxRecDepth 100000

section
variable {w w' : World} {g bm : Nat} {ms ms1 : List Pf} {d : Dv}
theorem addF_some {l : List Fl} {s : ByteArray} {k : Nat} (h : findD l s = some k) (b : List Int) : addF l s b = l.modify k (fun f => { f with bs := f.bs ++ b }) := by unfold addF; rw [h]
theorem addF_none {l : List Fl} {s : ByteArray} (h : findD l s = none) (b : List Int) : addF l s b = insD l ⟨s, b, 0⟩ := by unfold addF; rw [h]
theorem spent_okP {d : Dv} (h : Dv.Ok d) : Dv.Ok (spentD d) := by
  unfold spentD
  split
  · rename_i hp
    have := h.li
    exact ⟨h.fl, h.up, h.us, h.rm, h.ln, by show -1 ≤ d.left - 1; omega, by show d.left - 1 < 9223372036854775808; omega⟩
  · exact h
theorem append1_pd (kd kn kb : Nat) (s : ByteArray) (A : Option Addr) (n c : Nat) (bs : List Int) (h : PDx w g bm ms d) (ok : Dv.Ok d) (hs : okN s = true) (c0 : w.cell? ⟨kd, 0, none⟩ = some (.pointer (some ⟨g, 0, none⟩))) (c1 : w.cell? ⟨kn, 0, none⟩ = some (.string s)) (c2 : w.cell? ⟨kb, 0, none⟩ = some (.slice A n c))
    (hr : Row .u8 w w.heap.size A bs) (hn : bs.length = n) (hb : n ≤ 100000000) (h0 : kd < w.heap.size ∧ kd ≠ bm) (h1 : kn < w.heap.size ∧ kn ≠ bm) (h2 : kb < w.heap.size ∧ kb ≠ bm) (hA : ∀ a, A = some a → 0 < n → a.block ≠ bm) :
    Calls Tryz.prog 42 #[.pointer (some ⟨kd, 0, none⟩), .pointer (some ⟨kn, 0, none⟩), .pointer (some ⟨kb, 0, none⟩)] w (fun e w' => e = .returned (.tuple #[]) ∧ PRes g bm ms { d with fs := addF d.fs s bs } w w') := by
  obtain ⟨L, _, _, _, _, c4, _⟩ := h.cells
  cases hf : findD d.fs s with
  | none =>
    have hlk := h.look_no hf
    refine (append1_new kd kn kb g bm (ms.map pfN) s A n c bs w c0 c1 c2 c4 h.map hlk (ok_size hs) (by rw [List.length_map, h.len]; have := ok.ln; omega) hr hn (by omega) h0 h1 h2 (h.lt g (.inl rfl)) hA).mono fun e w' ⟨r0, v', r1, r2, r3, r4⟩ => ⟨r0, ?_⟩
    have hst : strike (ms.map pfN) s = ms.map pfN := strike_no fun p hp => by
      obtain ⟨m, hm, rfl⟩ := List.mem_map.1 hp
      exact findD_none.1 hf m.f (by rw [← h.fs]; exact List.mem_map.2 ⟨m, hm, rfl⟩)
    rw [hst] at r2
    have hfar : ∀ m ∈ ms, m.g < w.heap.size ∧ ∀ b, m.v.ownBlock = some b → b < w.heap.size := fun m hm => ⟨h.lt _ (.inr (.inr ⟨m, hm, .inl rfl⟩)), fun b hb => h.lt _ (.inr (.inr ⟨m, hm, .inr hb⟩))⟩
    obtain ⟨a, b⟩ := h.anew (m := ⟨w.heap.size, v', ⟨s, bs, 0⟩⟩) (List.Sublist.refl ms) r3 r2 r1 (fun k hk => ⟨fun e => by have := (hfar k hk).1; simp only at e; omega, fun b hb hb' => by have := (hfar k hk).2 b hb'; have := r4 b hb; omega⟩)
    rw [h.fs] at a
    rw [addF_none hf]
    refine ⟨_, a, r3.mono (fun b e => .inr (.inl e)), fun b' hb => (b b' hb).imp id (fun e => ?_)⟩
    rcases e with e | e
    · simp only at e; omega
    · have := r4 _ e; omega
  | some k =>
    obtain ⟨hk, hk', hlk, hfe, hnm⟩ := h.look_yes hf
    have hmk := List.getElem_mem hk
    have hus := used_mem (List.getElem_mem hk')
    rw [hfe] at hus
    have hu := ok.us
    have hrm := ok.rm
    refine (append1_at kd kn kb g bm ms[k] (ms.map pfN) s A n c bs w c0 c1 c2 c4 h.map hlk (h.is _ hmk) hr hn (by omega)).mono fun e w' ⟨r0, v', r1, r2, r3⟩ => ⟨r0, ?_⟩
    obtain ⟨a, b⟩ := h.setFile hk (m' := ⟨ms[k].g, v', { ms[k].f with bs := ms[k].f.bs ++ bs }⟩) rfl rfl r2 r1 r3
    rw [addF_some hf, modify_setP _ _ hk', hfe]
    exact ⟨_, a, r2.mono (fun b e => .inr (.inr ⟨_, hmk, e⟩)), b⟩
set_option maxHeartbeats 2000000 in
theorem append_pd (s : ByteArray) (A : Option Addr) (n c : Nat) (bs : List Int) (h : PDx w g bm ms d) (ok : Dv.Ok d) (hr : Row .u8 w w.heap.size A bs) (hn : bs.length = n) (hb : n ≤ 100000000) (hA : ∀ a, A = some a → 0 < n → ¬ PG g bm ms a.block) :
    Calls Tryz.prog 16 #[.pointer (some ⟨g, 0, none⟩), .string s, .slice A n c] w fun e w' => e = .returned (.int .i64 (appD d s bs).2) ∧ PRes g bm ms (appD d s bs).1 w w' := by
  obtain ⟨b1, e1, z1⟩ := box_one w (.pointer (some ⟨g, 0, none⟩)) 26
  generalize hw1 : w.alloc (.cells #[.pointer (some ⟨g, 0, none⟩)] 26) = w1 at *
  obtain ⟨b2, e2, z2⟩ := box_one w1 (.string s) 9
  have f1 : (w1.alloc (.cells #[.string s] 9)).cell? ⟨w.heap.size, 0, none⟩ = some (.pointer (some ⟨g, 0, none⟩)) := (b2.cell (p := ⟨w.heap.size, 0, none⟩) (by show w.heap.size < _; omega)).trans e1
  generalize hw2 : w1.alloc (.cells #[.string s] 9) = w2 at *
  obtain ⟨b3, e3, z3⟩ := box_one w2 (.slice A n c) 47
  have g1 : (w2.alloc (.cells #[.slice A n c] 47)).cell? ⟨w.heap.size, 0, none⟩ = some (.pointer (some ⟨g, 0, none⟩)) := (b3.cell (p := ⟨w.heap.size, 0, none⟩) (by show w.heap.size < _; omega)).trans f1
  have g2 : (w2.alloc (.cells #[.slice A n c] 47)).cell? ⟨w1.heap.size, 0, none⟩ = some (.string s) := (b3.cell (p := ⟨w1.heap.size, 0, none⟩) (by show w1.heap.size < _; omega)).trans e2
  generalize hw3 : w2.alloc (.cells #[.slice A n c] 47) = w3 at *
  have B2 := b1.trans (b2.mono b1.size)
  have B3 := B2.trans (b3.mono B2.size)
  have hx := h.below B3
  have HP : Hid (∀ W, Below w.heap.size w W → PRes g bm ms d w W) := Lib.hid (fun W hW => (PRes.same (h.below hW)).from_below hW)
  have HB3 := Lib.hid B3
  have HN : Hid (Calls Tryz.prog 39 #[.string s] w3 fun e w' => e = .returned (.bool (okN s)) ∧ w' = w3) := Lib.hid (isName_any s w3)
  have HD : Hid (Calls Tryz.prog 33 #[.pointer (some ⟨g, 0, none⟩)] w3 fun e w' => e = .returned (.bool d.off) ∧ w' = w3) := Lib.hid (down_pd hx)
  cases hu : okN s with
  | false =>
    rw [hu] at HN
    have hs : appD d s bs = (d, 8) := by unfold appD; rw [if_pos hu]
    rw [hs]
    clear h hx ok hu hs z1 z2 z3 b1 b2 b3 B2 B3 hr hn hb hA
    go_enter Tryz.func16, Tryz.ntmps16
    go_wp2_with (go_at_call 39; refine HN.out.mono ?_; rintro e w' ⟨rfl, rfl⟩)
    go_ret
    exact ⟨rfl, HP.out _ HB3.out⟩
  | true =>
    rw [hu] at HN
    have hu2 : ¬ okN s = false := by rw [hu]; simp
    cases ho : d.off with
    | true =>
      rw [ho] at HD
      have hs : appD d s bs = (d, 10) := by unfold appD; rw [if_neg hu2, if_pos ho]
      rw [hs]
      clear h hx ok ho hs hu hu2 z1 z2 z3 b1 b2 b3 B2 B3 hr hn hb hA
      go_enter Tryz.func16, Tryz.ntmps16
      go_wp2_with (first
        | (go_at_call 39; refine HN.out.mono ?_; rintro e w' ⟨rfl, rfl⟩)
        | (go_at_call 33; refine HD.out.mono ?_; rintro e w' ⟨rfl, rfl⟩))
      go_ret
      exact ⟨rfl, HP.out _ HB3.out⟩
    | false =>
      rw [ho] at HD
      have ho2 : ¬ d.off = true := by rw [ho]; simp
      have HH : Hid (∀ W, Below w3.heap.size w3 W → Calls Tryz.prog 40 #[.pointer (some ⟨g, 0, none⟩), .string s] W fun e w' => e = .returned (.bool (!decide (findD d.fs s = none ∧ ¬ d.fs.length < 64))) ∧ w' = W) := Lib.hid (fun W hW => hasPlace_pd s (hx.below hW))
      have hln := ok.ln
      by_cases hp : findD d.fs s = none ∧ d.fs.length = 64
      · have hs : appD d s bs = (d, 9) := by unfold appD; rw [if_neg hu2, if_neg ho2, if_pos (.inl hp)]
        rw [hs]
        rw [decide_eq_true (show findD d.fs s = none ∧ ¬ d.fs.length < 64 from ⟨hp.1, by omega⟩)] at HH
        clear h hx ok ho hs hu hu2 ho2 z1 z2 z3 b1 b2 b3 B2 B3 hr hn hb hA hln hp
        go_enter Tryz.func16, Tryz.ntmps16
        go_wp2_with (first
          | (go_at_call 39; refine HN.out.mono ?_; rintro e w' ⟨rfl, rfl⟩)
          | (go_at_call 33; refine HD.out.mono ?_; rintro e w' ⟨rfl, rfl⟩))
        go_quiet ((go_at_call 40; refine Calls.quiet_of_same (HH.out _ (bel_drewN _ _))))
        go_wp2
        go_ret
        exact ⟨rfl, HP.out _ (below_drewN HB3.out _)⟩
      have hp1 : ¬ (findD d.fs s = none ∧ ¬ d.fs.length < 64) := fun e => hp ⟨e.1, by omega⟩
      rw [decide_eq_false hp1] at HH
      have hzz : w3.heap.size = w.heap.size + 3 := by omega
      have HFr : Hid (∀ W, Below w3.heap.size w3 W → Calls Tryz.prog 22 #[.pointer (some ⟨g, 0, none⟩)] W fun e w' => e = .returned (.int .i64 ((d.room : Int) - usedD d.fs)) ∧ Below w3.heap.size w3 w' ∧ w'.cell? ⟨w.heap.size, 0, none⟩ = some (.pointer (some ⟨g, 0, none⟩)) ∧ w'.cell? ⟨w1.heap.size, 0, none⟩ = some (.string s) ∧ w'.cell? ⟨w2.heap.size, 0, none⟩ = some (.slice A n c)) := Lib.hid (fun W hW => (free_pd (hx.below hW) ok).mono fun e w' ⟨h1, h2⟩ => by
        have hb' := hW.trans (h2.mono hW.size)
        exact ⟨h1, hb', (hb'.cell (p := ⟨w.heap.size, 0, none⟩) (by show w.heap.size < _; omega)).trans g1, (hb'.cell (p := ⟨w1.heap.size, 0, none⟩) (by show w1.heap.size < _; omega)).trans g2, (hb'.cell (p := ⟨w2.heap.size, 0, none⟩) (by show w2.heap.size < _; omega)).trans e3⟩)
      have hus := ok.us
      have hrm := ok.rm
      by_cases hfu : (d.room : Int) - usedD d.fs < n
      · have hs : appD d s bs = (d, 9) := by unfold appD; rw [if_neg hu2, if_neg ho2, if_pos (.inr (by rw [hn]; exact hfu))]
        rw [hs]
        obtain ⟨F, hF⟩ : ∃ F : Int, (d.room : Int) - usedD d.fs = F := ⟨_, rfl⟩
        rw [hF] at HFr hfu
        have hfu2 : (n : Int) > F := hfu
        clear h hx ok ho hs hu hu2 ho2 z1 z2 z3 b1 b2 b3 B2 B3 hr hn hb hA hln hp hp1 hus hrm hF hzz
        go_enter Tryz.func16, Tryz.ntmps16
        go_wp2_with (first
          | (go_at_call 39; refine HN.out.mono ?_; rintro e w' ⟨rfl, rfl⟩)
          | (go_at_call 33; refine HD.out.mono ?_; rintro e w' ⟨rfl, rfl⟩))
        go_region_with (first
          | (go_at_call 40; refine (HH.out _ (below_drew (Below.refl _ _))).mono ?_; rintro e w' ⟨rfl, rfl⟩)
          | (go_at_call 22; refine (HFr.out _ (below_drew (Below.refl _ _))).mono ?_; rintro e w' ⟨rfl, hb5, x0, x1, x2⟩))
        all_goals
          (try go_wp2)
          go_ret
          exact ⟨rfl, HP.out _ (HB3.out.trans (hb5.mono HB3.out.size))⟩
      obtain ⟨X, hX⟩ : ∃ X, X = addF d.fs s bs := ⟨_, rfl⟩
      have hs : appD d s bs = opD d { spentD d with fs := X } := by
        unfold appD
        rw [if_neg hu2, if_neg ho2, if_neg (fun e => e.elim hp (fun e => hfu (by rw [← hn]; exact e))), hX]
      have hgl := h.lt g (.inl rfl)
      have hbl := h.map.lt
      have HO : Hid (∀ W, Below w3.heap.size w3 W → Calls Tryz.prog 41 #[.pointer (some ⟨g, 0, none⟩), .func (.func 42) #[] #[.pointer (some ⟨w.heap.size, 0, none⟩), .pointer (some ⟨w1.heap.size, 0, none⟩), .pointer (some ⟨w2.heap.size, 0, none⟩)]] W (OperTo g bm ms d W (fun w' => PRes g bm ms { spentD d with fs := X } W w'))) := Lib.hid (fun W hW => by
        have hWs := hW.size
        have hbw : Below w.heap.size w W := B3.trans (hW.mono B3.size)
        have q0 := (hW.cell (p := ⟨w.heap.size, 0, none⟩) (by show w.heap.size < _; omega)).trans g1
        have q1 := (hW.cell (p := ⟨w1.heap.size, 0, none⟩) (by show w1.heap.size < _; omega)).trans g2
        have q2 := (hW.cell (p := ⟨w2.heap.size, 0, none⟩) (by show w2.heap.size < _; omega)).trans e3
        have hrW : Row .u8 W W.heap.size A bs := (hr.below hbw).more hbw.size
        refine operate_append w.heap.size w1.heap.size w2.heap.size (fun w' => PRes g bm ms { spentD d with fs := X } W w') (hx.below hW) ok (fun _ W2 hW2 hFr => ?_)
        have hz2 := hFr.size
        refine (append1_pd _ _ _ s A n c bs hW2 (spent_okP ok) hu ((hFr.cellP (by omega) (by omega)).trans q0) ((hFr.cellP (by omega) (by omega)).trans q1) ((hFr.cellP (by omega) (by omega)).trans q2) (hFr.row hrW (fun a ha hp e => hA a ha (by omega) (.inl e))) hn hb ⟨by omega, by omega⟩ ⟨by omega, by omega⟩ ⟨by omega, by omega⟩ (fun a ha hp e => hA a ha hp (.inr (.inl e)))).mono fun e w' ⟨r1, r2⟩ => ⟨r1, ?_⟩
        rw [spentD_fs, ← hX] at r2
        exact r2.from_ hFr)
      rw [hs]
      have HR : Hid (∀ W e w', Below w3.heap.size w3 W → OperTo g bm ms d W (fun w' => PRes g bm ms { spentD d with fs := X } W w') e w' → e = .returned (.int .i64 (opD d { spentD d with fs := X }).2) ∧ PRes g bm ms (opD d { spentD d with fs := X }).1 w w') := Lib.hid (fun W e w' hW h => ⟨h.res.1, h.res.2.from_below (B3.trans (hW.mono B3.size))⟩)
      generalize (opD d { spentD d with fs := X }).1 = d1 at HR ⊢
      generalize (opD d { spentD d with fs := X }).2 = E at HR ⊢
      obtain ⟨F, hF⟩ : ∃ F : Int, (d.room : Int) - usedD d.fs = F := ⟨_, rfl⟩
      rw [hF] at HFr hfu
      have hfu2 : ¬ (n : Int) > F := hfu
      clear h hx ok ho hs hu hu2 ho2 z1 z2 z3 b1 b2 b3 B2 B3 hr hn hb hA hln hp hp1 hus hrm hF hzz hX hfu hgl hbl
      go_enter Tryz.func16, Tryz.ntmps16
      go_wp2_with (first
        | (go_at_call 39; refine HN.out.mono ?_; rintro e w' ⟨rfl, rfl⟩)
        | (go_at_call 33; refine HD.out.mono ?_; rintro e w' ⟨rfl, rfl⟩))
      go_region_with (first
        | (go_at_call 40; refine (HH.out _ (below_drew (Below.refl _ _))).mono ?_; rintro e w' ⟨rfl, rfl⟩)
        | (go_at_call 22; refine (HFr.out _ (below_drew (Below.refl _ _))).mono ?_; rintro e w' ⟨rfl, hb5, x0, x1, x2⟩))
      all_goals
        have HB5 := Lib.hid hb5
        clear hb5
        go_wp2_with (go_at_call 41; refine (HO.out _ HB5.out).mono ?_; intro e w9 ht; obtain ⟨rfl, hr9⟩ := HR.out _ _ _ HB5.out ht)
        go_ret
        exact ⟨rfl, hr9⟩
end
end Go.Proofs.YtbdhhmhlcdganaaGreatDoor
namespace Go.Proofs.YtbdhhmhlcdganaaGreatDoor
open Go.RowKit Go.Maps
set_option linter.unusedVariables false
set_option maxRecDepth 100000

def wkF (keep : Int) (left : Lit → Bool) (f : Fl) : Fl := bif left (kS f.nm) then f else wakeF keep f
theorem wkF_start {keep : Int} {left : Lit → Bool} {l : List Fl} (h : ∀ f ∈ l, left (kS f.nm) = true) : l.map (wkF keep left) = l := by
  conv => rhs; rw [← List.map_id l]
  exact List.map_congr_left (fun f hf => by unfold wkF; rw [h f hf]; rfl)
theorem wkF_end {keep : Int} {left : Lit → Bool} {l : List Fl} (h : ∀ kl, left kl = false) : l.map (wkF keep left) = l.map (wakeF keep) :=
  List.map_congr_left (fun f hf => by unfold wkF; rw [h]; rfl)
theorem wkF_step {keep : Int} {left : Lit → Bool} {l : List Fl} (hu : l.Pairwise (fun a b => sameN a.nm b.nm = false)) {k : Nat} (hk : k < l.length) :
    (l.map (wkF keep left)).set k (wakeF keep l[k]) = l.map (wkF keep (fun z => left z && !z.sameKey (kS l[k].nm))) := by
  apply List.ext_getElem
  · simp
  · intro i h1 h2
    have hi : i < l.length := by simpa using h2
    rw [List.getElem_set, List.getElem_map, List.getElem_map]
    split
    · rename_i e
      subst e
      unfold wkF
      simp only [WideAt.sameKey_self (kS_key _), Bool.not_true, Bool.and_false, cond_false]
    · rename_i e
      have hp := List.pairwise_iff_getElem.1 hu
      have hs : sameN l[i].nm l[k].nm = false := by
        rcases Nat.lt_or_gt_of_ne e with h | h
        · rw [sameN_comm]; exact hp k i hk hi h
        · exact hp i k hi hk h
      unfold wkF
      simp only [sameKey_ne (kS_ne hs), Bool.not_false, Bool.and_true]
theorem ranges_same {w w' : World} {b r n cnt : Nat} {D : DataW Unit} {left : Lit → Bool} (h : w.ranges Tryz.prog 9 ptrR b r n D left cnt) (hb : w'.heap[b]? = w.heap[b]?) (hr : w'.heap[r]? = w.heap[r]?) : w'.ranges Tryz.prog 9 ptrR b r n D left cnt := by
  obtain ⟨es, clock, since, seen, c0, h1, F, hs, hD, h2, rest⟩ := h
  exact ⟨es, clock, since, seen, c0, hb.trans h1, F, hs, hD, hr.trans h2, rest⟩
theorem max_lit (y : Int) : ∃ q : Nat, (∀ (ts : Array TypeId) (t : TypeId) (W : World), (Builtin.max_ ts t #[.int .i64 y, .int .i64 0]).run Tryz.prog W = .ok (.int .i64 (q : Int)) W) ∧ q = y.toNat := by
  refine ⟨y.toNat, fun ts t W => ?_, rfl⟩
  rw [run_max_int2]
  congr 2
  split <;> omega
section
variable {w w' : World} {g bm : Nat} {ms ms1 : List Pf} {d : Dv}
theorem PDx.not_iter (h : PDx w g bm ms d) {r : Nat} {m : Option Nat} {s : Nat} {seen : Array Nat} {c : Nat} (hr : w.heap[r]? = some (.mapIter m s seen c)) : ¬ PG g bm ms r := by
  intro hb
  rcases hb with rfl | rfl | ⟨m, hm, rfl | hv⟩
  · obtain ⟨c, hc⟩ := h.gbox
    rw [hc] at hr; cases hr
  · obtain ⟨es, clock, hc⟩ := h.map.block
    rw [hc] at hr; cases hr
  · rw [(h.is m hm).box] at hr; cases hr
  · obtain ⟨c, hc⟩ := (h.is m hm).own.at_block hv
    rw [hc] at hr; cases hr
theorem ranges_iter {b r n cnt : Nat} {D : DataW Unit} {left : Lit → Bool} (h : w.ranges Tryz.prog 9 ptrR b r n D left cnt) : ∃ m s seen c, w.heap[r]? = some (.mapIter m s seen c) := by
  obtain ⟨es, clock, since, seen, c0, h1, F, hs, hD, h2, rest⟩ := h
  exact ⟨_, _, _, _, h2⟩
def WkTo (g bm : Nat) (ms : List Pf) (d : Dv) (keep : Int) (left : Lit → Bool) (w wr : World) : Prop :=
  ∃ ms', PDx wr g bm ms' { d with fs := d.fs.map (wkF keep left) } ∧ ms'.map pfN = ms.map pfN ∧ Frm (PG g bm ms) w wr ∧ ∀ b, PG g bm ms' b → PG g bm ms b ∨ w.heap.size ≤ b
theorem wake_fl (keep : Int) (f : Fl) (n : Nat) (hn : n = f.sy + min keep.toNat (f.bs.length - f.sy)) (hs : f.sy ≤ f.bs.length) :
    ({ ({ f with bs := f.bs.take n, sy := min f.sy n } : Fl) with sy := (f.bs.take n).length } : Fl) = wakeF keep f := by
  unfold wakeF
  rw [List.length_take, Nat.min_eq_left (show f.sy ≤ n by omega), Nat.min_eq_left (show n ≤ f.bs.length by omega), ← hn]
set_option maxHeartbeats 2000000 in
theorem wake_pd (keep : Int) (h : PDx w g bm ms d) (ok : Dv.Ok d) : Calls Tryz.prog 17 #[.pointer (some ⟨g, 0, none⟩), .int .i64 keep] w fun e w' => e = .returned (.tuple #[]) ∧ PRes g bm ms (wakeD d keep) w w' := by
  obtain ⟨L, c0, c1, c2, c3, c4, cf, _⟩ := h.cells
  obtain ⟨D, hown, hi⟩ := h.map
  generalize (ms.map pfN).length = nn at hown
  have HI := Lib.hid hi
  have HH := Lib.hid h
  have HK := Lib.hid ok
  obtain ⟨K, hmax, hKK⟩ := max_lit keep
  have HKK := Lib.hid hKK
  clear h hi ok hKK
  go_enter Tryz.func17, Tryz.ntmps17
  go_wp2_with (first
    | (at_range; refine wpList_range_own _ rfl _ 36 rfl 9 76 lawS Tryz.underlying36 _ bm _ _ rfl hown ?_; intro w0 hrg0 hg0 hs0)
    | go_in)
  go_frame
  have F0 : Hid (WkTo g bm ms d keep (Maps.has D) w w0) := Lib.hid (by
    have f : Frm (fun _ => False) w w0 := ⟨hg0.os, hg0.tape, hg0.output, hg0.size, fun k hk _ => hg0.block k hk (by simp)⟩
    have e : d.fs.map (wkF keep (Maps.has D)) = d.fs := wkF_start (fun f hf => by
      rw [← HH.out.fs] at hf
      obtain ⟨m, hm, rfl⟩ := List.mem_map.1 hf
      rw [HI.out.has]
      exact List.any_eq_true.2 ⟨pfN m, List.mem_map.2 ⟨m, hm, rfl⟩, sameN_refl _⟩)
    refine ⟨ms, ?_, rfl, f.mono (fun b e => e.elim), fun b hb => .inl hb⟩
    rw [e]
    exact HH.out.frm f (fun _ _ e => e))
  clear hg0
  go_loopw [5, 6] (fun _ _ wr => ∃ (left : Lit → Bool) (cnt : Nat), wr.ranges Tryz.prog 9 ptrR bm w.heap.size nn D left cnt ∧ Hid (WkTo g bm ms d keep left w wr))
    (fun _ _ wr => wr.rangeLeft bm w.heap.size)
  case atStart => exact ⟨_, _, hrg0, F0⟩
  case round =>
    obtain ⟨left, cnt, hrg, hF⟩ := hrel
    go_wp2_with (first
      | (at_next; refine wpList_next_pm _ rfl _ rfl bm w.heap.size _ _ _ HI.out _ _ rfl hrg ?_ ?_)
      | go_in)
    · intro hl
      obtain ⟨ms', q1, q2, q3, q4⟩ := hF.out
      rw [wkF_end hl] at q1
      have HR := Lib.hid (restore_pd q1)
      obtain ⟨L', x0, x1, x2, x3, x4, xf, _⟩ := q1.cells
      have HQ : Hid (∀ w', PDx w' g bm ms' { ({ d with fs := d.fs.map (wakeF keep) } : Dv) with left := -1, off := false } → Frm (fun b => b = g) wr w' → PRes g bm ms (wakeD d keep) w w') := Lib.hid (fun w' a b => ⟨ms', a, q3.trans b (fun i hi => .inl (.inl hi)), q4⟩)
      clear hF q1 q2 q3 q4 hl
      go_wp2_with (go_at_call 46; refine HR.out.mono ?_; rintro e w9 ⟨rfl, y1, y2⟩)
      go_end0
      exact ⟨rfl, HQ.out _ y1 y2⟩
    · intro m hm hl w1 cnt1 hrg1 hlt hF1 hs1 hen
      obtain ⟨k, hk, rfl⟩ := List.mem_iff_getElem.1 hm
      obtain ⟨ms', q1, q2, q3, q4⟩ := hF.out
      have hlen : ms'.length = ms.length := by have := congrArg List.length q2; simpa using this
      have hk' : k < ms'.length := by omega
      have hkd : k < d.fs.length := by rw [← HH.out.len]; exact hk
      have hfe : d.fs[k] = ms[k].f := by simp only [← HH.out.fs, List.getElem_map]
      have hpe : pfN ms'[k] = pfN ms[k] := by
        have : (ms'.map pfN)[k]'(by rw [List.length_map]; exact hk') = (ms.map pfN)[k]'(by rw [List.length_map]; exact hk) := by simp only [q2]
        simpa using this
      have hge : ms'[k].g = ms[k].g := congrArg Prod.snd hpe
      have hwe : ms'[k].f = ms[k].f := by
        have e1 : (ms'.map (·.f))[k]'(by rw [List.length_map]; exact hk') = (d.fs.map (wkF keep left))[k]'(by rw [List.length_map]; exact hkd) := by simp only [q1.fs]
        rw [List.getElem_map, List.getElem_map, hfe] at e1
        rw [e1]
        unfold wkF
        rw [show left (kS ms[k].f.nm) = true from hl]
        rfl
      obtain ⟨im, is, isn, ic, hit⟩ := ranges_iter hrg
      have hni : ¬ PG g bm ms' w.heap.size := q1.not_iter hit
      have hx1 : PDx w1 g bm ms' { d with fs := d.fs.map (wkF keep left) } := q1.frm hF1 (fun b hb e => hni (e ▸ hb))
      have hmk := List.getElem_mem hk'
      have hpf := hx1.is _ hmk
      have hfl := HK.out.fl _ (List.getElem_mem hkd)
      have hus := used_mem (List.getElem_mem hkd)
      have hu := HK.out.us
      have hrm := HK.out.rm
      rw [hfe] at hfl hus
      have hsy := hfl.sy
      obtain ⟨m0, m1, mf⟩ := hpf.cells
      obtain ⟨A, c, hv, hvl, hvc⟩ := hpf.own.val
      rw [hv] at m0
      rw [hwe, hge] at m0
      rw [hwe, hge] at m1
      rw [hge] at mf
      obtain ⟨y, hy⟩ : ∃ y, y = ms[k].f.bs.length - ms[k].f.sy := ⟨_, rfl⟩
      obtain ⟨q, hmin, hq⟩ := min_lit K y
      obtain ⟨n, hn⟩ : ∃ n, n = ms[k].f.sy + q := ⟨_, rfl⟩
      have w1e : IntKind.i64.wrap ((ms[k].f.bs.length : Int) - (ms[k].f.sy : Int)) = (y : Int) := by rw [IntKind.wrap_i64]; omega
      have w2e : IntKind.i64.wrap ((ms[k].f.sy : Int) + (q : Int)) = (n : Int) := by rw [IntKind.wrap_i64]; omega
      have hnn : n = ms[k].f.sy + min keep.toNat (ms[k].f.bs.length - ms[k].f.sy) := by rw [hn, hq, hy, HKK.out]
      have hpd : PfIs w1.drew ms'[k] := hpf.frm (F := fun _ => False) (Frm.of_below (below_drew (Below.refl _ _))) (fun e => e) (fun _ _ e => e)
      have HC : Hid (Calls Tryz.prog 44 #[.pointer (some ⟨ms[k].g, 0, none⟩), .int .i64 (n : Int)] w1.drew (PfTo ms'[k] { ms[k].f with bs := ms[k].f.bs.take n, sy := min ms[k].f.sy n } w1.drew)) := Lib.hid (by
        have := cut_pf ms'[k] n w1.drew hpd (by rw [hwe]; exact hfl.wf) (by rw [hwe]; omega)
        rw [hwe, hge] at this
        exact this)
      have HS : Hid (∀ e w2, PfTo ms'[k] { ms[k].f with bs := ms[k].f.bs.take n, sy := min ms[k].f.sy n } w1.drew e w2 → e = .returned (.tuple #[]) ∧ Calls Tryz.prog 45 #[.pointer (some ⟨ms[k].g, 0, none⟩)] w2 (fun e w3 => e = .returned (.tuple #[]) ∧
          w3.ranges Tryz.prog 9 ptrR bm w.heap.size nn D (fun z => left z && !z.sameKey (kS ms[k].f.nm)) cnt1 ∧ Hid (WkTo g bm ms d keep (fun z => left z && !z.sameKey (kS ms[k].f.nm)) w w3))) := Lib.hid (fun e w2 ⟨he, v1, p1, p2, p3⟩ => ⟨he, by
        have hsync := sync_pf ⟨ms'[k].g, v1, { ms[k].f with bs := ms[k].f.bs.take n, sy := min ms[k].f.sy n }⟩ w2 p1
        rw [show (⟨ms'[k].g, v1, { ms[k].f with bs := ms[k].f.bs.take n, sy := min ms[k].f.sy n }⟩ : Pf).g = ms[k].g from hge] at hsync
        refine hsync.mono fun e w3 ⟨he3, v2, r1, r2, r3⟩ => ⟨he3, ?_⟩
        simp only at r1 r2 r3
        have hfin := wake_fl keep ms[k].f n hnn hsy
        have r1' : PfIs w3 ⟨ms'[k].g, v2, wakeF keep ms[k].f⟩ := by
          rw [← hfin, hge]; exact r1
        have f13 : Frm (fun b => b = ms'[k].g) w1 w3 := ((Frm.of_below (F := fun b => b = ms'[k].g) (below_drew (Below.refl _ w1))).trans p2 (fun i hi => .inl hi)).trans r2 (fun i hi => .inl (hi.trans hge.symm))
        have vb : ∀ b, v2.ownBlock = some b → ms'[k].v.ownBlock = some b ∨ w1.heap.size ≤ b := fun b hb => by
          rcases r3 with e | e
          · rw [e] at hb
            rcases p3 with e' | e'
            · exact .inl (by rw [← e']; exact hb)
            · exact .inr (e' b hb)
          · have h1 := e b hb
            have h2 := p2.size
            have h3 : w1.drew.heap.size = w1.heap.size := rfl
            exact .inr (by omega)
        obtain ⟨a1, a2⟩ := hx1.setFile hk' (m' := ⟨ms'[k].g, v2, wakeF keep ms[k].f⟩) rfl (by show (wakeF keep ms[k].f).nm = ms'[k].f.nm; rw [hwe]; rfl) (f13.mono (fun b e => .inl e)) r1' vb
        have hups : d.fs.Pairwise (fun a b => sameN a.nm b.nm = false) := HK.out.up.imp (fun {a b} hab => (lessN_not hab).2.1)
        have hst := wkF_step (keep := keep) (left := left) hups hkd
        rw [hfe] at hst
        simp only [hst] at a1
        have hne : ∀ b, PG g bm ms' b → b ≠ w.heap.size := fun b hb e => hni (e ▸ hb)
        refine ⟨ranges_same hrg1 (f13.block bm hx1.map.lt (fun e => (hx1.g_ne.2 _ hmk).2.1 e.symm)) (f13.block w.heap.size hrg1.lt (fun e => hne _ (.inr (.inr ⟨_, hmk, .inl e⟩)) rfl)), Lib.hid ⟨_, a1, ?_, ?_, fun b hb => ?_⟩⟩
        · rw [List.map_set, q2]
          have : pfN ⟨ms'[k].g, v2, wakeF keep ms[k].f⟩ = (ms.map pfN)[k]'(by rw [List.length_map]; exact hk) := by
            rw [List.getElem_map]
            show ((wakeF keep ms[k].f).nm, ms'[k].g) = (ms[k].f.nm, ms[k].g)
            rw [hge]; rfl
          rw [this, List.set_getElem_self]
        · refine (q3.trans hF1 (fun i hi => .inr (by rw [hi]; exact Nat.le_refl _))).trans f13 (fun i hi => .inl (by rw [hi, hge]; exact .inr (.inr ⟨_, List.getElem_mem hk, .inl rfl⟩)))
        · rcases a2 b hb with e | e
          · exact q4 b e
          · exact .inr (by have h1 := q3.size; have h2 := hF1.size; omega)⟩)
      have HW := Lib.hid hrg1
      have HRO := Lib.hid hrg
      have HLT := Lib.hid hlt
      simp only [pfN] at hen
      generalize ms[k].f.bs.length = N at m0 w1e
      generalize ms[k].f.sy = sy at m1 w1e w2e
      generalize ms[k].g = gm at m0 m1 mf hen HC HS
      generalize (PfTo ms'[k] _ w1.drew) = T at HC HS
      clear hrg1 hrg hlt hs1 hF hF1 q1 q2 q3 q4 hlen hkd hfe hpe hge hwe hit hni hx1 hpf hfl hus hu hrm hsy hv hvl hvc hy hq hn hnn hpd hmk
      go_wp2_with fail
      go_region
      go_wp2_with (first
        | (go_at_call 44; refine HC.out.mono ?_; intro e w2 ht; obtain ⟨rfl, hsy2⟩ := HS.out _ _ ht; have HS2 := Lib.hid hsy2; clear hsy2 ht)
        | (go_at_call 45; refine HS2.out.mono ?_; rintro e w3 ⟨rfl, hr3, hW3⟩))
      go_roundw
      case rel => exact ⟨_, cnt1, hr3, hW3⟩
      case measure => rw [hr3.left_eq, HRO.out.left_eq]; exact HLT.out
end
end Go.Proofs.YtbdhhmhlcdganaaGreatDoor
namespace Go.Proofs.YtbdhhmhlcdganaaGreatDoor
open Go.RowKit
set_option linter.unusedVariables false
set_option maxRecDepth 100000

theorem zero_tx (m : Nat) : Builtin.zeroCells (Value.string ⟨#[]⟩).cells m = tblk (List.replicate m ⟨#[]⟩) := by
  have h := toList_madeCells_one (Value.string ⟨#[]⟩) m
  apply Array.toList_inj.1
  show (madeCells (Value.string ⟨#[]⟩).cells (m * 1)).toList = _
  rw [Nat.mul_one, show (Value.string ⟨#[]⟩).cells = #[Value.string ⟨#[]⟩] from rfl, h]
  simp [tblk]
theorem zeros_tx (m : Nat) : ∀ s ∈ List.replicate m (⟨#[]⟩ : ByteArray), s.size ≤ 1000 := fun s hs => by
  rw [List.eq_of_mem_replicate hs]; decide
theorem run_append_TK (w : World) (base : Nat) (v : Value) (l : List ByteArray) (hown : TkOwn w base v l) (ad : Addr) (c : Nat) (t : ByteArray) (hn : w.cell? ad = some (.string t)) (hb : l.length < 1000000) (hbase : base ≤ w.heap.size) :
    ∃ A' n' c' w', (∀ ty, (Builtin.append_ #[51, 51] ty #[v, .slice (some ad) 1 c]).run Tryz.prog w = .ok (.slice A' n' c') w') ∧ TkOwn w' base (.slice A' n' c') (l ++ [t]) ∧ Frm (fun b => v.ownBlock = some b) w w' := by
  obtain ⟨i, hi1, hz, hsz, hby⟩ := info_parts info_tx
  have hnews : ∀ j u, [Value.string t][j]? = some u → w.cell? (ad.add j) = some u := by
    intro j u hu
    cases j with
    | zero =>
      simp at hu
      subst hu
      have : ad.add 0 = ad := by simp [Addr.add]
      rw [this]; exact hn
    | succ j => simp at hu
  have hone : ∀ u ∈ [Value.string t], u.oneCell' = true := by
    intro u hu
    simp at hu
    subst hu; rfl
  have h63 : (9223372036854775807 : Nat) = maxLen := rfl
  rcases hown with ⟨rfl, rfl⟩ | ⟨g, n, cap, r, rfl, h2, h3, h4, h5, h6, h7, h8⟩
  · have hrun := fun ty => run_append_nil (P := Tryz.prog) w 51 ty 9 i _ Tryz.underlying51 hi1 hz ad 1 c [Value.string t] (by simp [hsz]) hnews (by omega) (by omega) (by rw [hby]; omega)
    have hge := grownCap_ge w 1 0 9
    refine ⟨_, _, _, _, hrun, .inr ⟨w.heap.size, 1, grownCap w 1 0 9, List.replicate (grownCap w 1 0 9 - 1) ⟨#[]⟩, rfl, hbase, rfl, ?_, hge, grownCap_le_maxLen w 1 0 9 (by unfold maxLen; omega), by simp; omega, zeros_tx _⟩, ⟨rfl, rfl, rfl, by simp, fun q hq _ => heap_alloc_old w.drew _ hq⟩⟩
    rw [zero_tx, show ([Value.string t].toArray ++ tblk (List.replicate (grownCap w 1 0 9 - 1) ⟨#[]⟩)) = tblk ([] ++ [t] ++ List.replicate (grownCap w 1 0 9 - 1) ⟨#[]⟩) by simp [tblk]]
    exact heap_alloc_new w.drew _
  · by_cases hroom : n + 1 ≤ cap
    · have hsz4 : (tblk (l ++ r)).size = cap := by rw [tblk_size, List.length_append]; exact h7
      have hrun := fun ty => run_append_room (P := Tryz.prog) w 51 ty 9 i Tryz.underlying51 hi1 g n cap (tblk (l ++ r)) h4 ad 1 c [Value.string t] (by simp [hsz]) hnews hone hroom (by rw [hsz4, hsz, Nat.mul_one]; simp; omega)
      refine ⟨_, _, _, _, hrun, .inr ⟨g, n + 1, cap, r.drop 1, rfl, h2, by rw [List.length_append, h3]; rfl, ?_, hroom, h6, by rw [List.length_append, List.length_drop]; simp; omega, fun x hx => h8 x (List.mem_of_mem_drop hx)⟩, ⟨rfl, rfl, rfl, by simp, fun q _ hq => setRow_other w g q _ (fun e => hq (by simp [Value.ownBlock, e]))⟩⟩
      have hcells : ((tblk (l ++ r)).toList.take (n * i.size) ++ [Value.string t] ++ (tblk (l ++ r)).toList.drop (n * i.size + [Value.string t].length)).toArray = tblk (l ++ [t] ++ r.drop 1) := by
        rw [hsz, Nat.mul_one]
        simp only [tblk, List.map_append, ← h3, List.length_singleton]
        congr 1
        rw [List.take_left' (by simp), ← List.drop_drop, List.drop_left' (by simp), List.map_drop]
        rfl
      rw [hcells]
      exact setRow_heap w g _ _ 9 _ h4
    · have holds : ∀ j u, (l.map Value.string)[j]? = some u → w.cell? ((⟨g, 0, none⟩ : Addr).add j) = some u := by
        intro j u hu
        have hj : j < l.length := by have := (List.getElem?_eq_some_iff.1 hu).1; simpa using this
        rw [Go.WideShapes.add_plain, Nat.zero_add, cell_of_row w g j _ _ _ h4, tblk_get _ _ (by rw [List.length_append]; omega), List.getElem_append_left hj]
        rw [List.getElem?_map, List.getElem?_eq_getElem hj] at hu
        exact hu
      have hrun := fun ty => run_append_grow (P := Tryz.prog) w 51 ty 9 i _ Tryz.underlying51 hi1 hz ⟨g, 0, none⟩ n cap (l.map Value.string) (by rw [hsz]; simp; omega) holds ad 1 c [Value.string t] (by simp [hsz]) hnews (by omega) (by omega) (growslice_fits (by omega) (by rw [hby]; omega))
      have hge := grownCap_ge w (n + 1) cap 9
      refine ⟨_, _, _, _, hrun, .inr ⟨w.heap.size, n + 1, grownCap w (n + 1) cap 9, List.replicate (grownCap w (n + 1) cap 9 - (n + 1)) ⟨#[]⟩, rfl, hbase, by rw [List.length_append, h3]; rfl, ?_, hge, grownCap_le_maxLen w (n + 1) cap 9 (by unfold maxLen; omega), by rw [List.length_append, List.length_replicate]; simp; omega, zeros_tx _⟩, ⟨rfl, rfl, rfl, by simp, fun q hq _ => heap_alloc_old w.drew _ hq⟩⟩
      rw [zero_tx, show ((l.map Value.string).toArray ++ [Value.string t].toArray ++ tblk (List.replicate (grownCap w (n + 1) cap 9 - (n + 1)) ⟨#[]⟩)) = tblk (l ++ [t] ++ List.replicate (grownCap w (n + 1) cap 9 - (n + 1)) ⟨#[]⟩) by simp [tblk]]
      exact heap_alloc_new w.drew _
end Go.Proofs.YtbdhhmhlcdganaaGreatDoor
namespace Go.Proofs.YtbdhhmhlcdganaaGreatDoor
open Go.RowKit Go.Maps Go.Sort
set_option linter.unusedVariables false
set_option maxRecDepth 100000

theorem gone_perm {l : List Pf} (nd : l.Pairwise (fun a b => sameN a.f.nm b.f.nm = false)) (left : Lit → Bool) {m : Pf} (hm : m ∈ l) (hl : left (kS m.f.nm) = true) :
    (gone (fun z => left z && !z.sameKey (kS m.f.nm)) l).Perm (m :: gone left l) := by
  have other : ∀ k : Pf, sameN k.f.nm m.f.nm = false → (left (kS k.f.nm) && !(kS k.f.nm).sameKey (kS m.f.nm)) = left (kS k.f.nm) := fun k hk => by
    rw [sameKey_ne (kS_ne hk)]; simp
  induction l with
  | nil => cases hm
  | cons a l ih =>
    obtain ⟨h1, h2⟩ := List.pairwise_cons.1 nd
    unfold gone at ih ⊢
    rcases List.mem_cons.1 hm with rfl | hm
    · have e : l.filter (fun k => !(left (kS k.f.nm) && !(kS k.f.nm).sameKey (kS m.f.nm))) = l.filter (fun k => !left (kS k.f.nm)) :=
        List.filter_congr (fun k hk => by rw [other k (by rw [sameN_comm]; exact h1 k hk)])
      rw [List.filter_cons, List.filter_cons, e]
      simp only [hl, WideAt.sameKey_self (kS_key _)]
      simp
    · have ih := ih h2 hm
      have ho := other a (h1 m hm)
      simp only at ih ho
      rw [List.filter_cons, List.filter_cons]
      simp only [ho]
      split
      · exact (List.Perm.cons a ih).trans (List.Perm.swap m a _)
      · exact ih
def byt (s : ByteArray) : List UInt8 := s.data.toList
theorem enc_byt (s : ByteArray) : encStr (byt s) = .string s := by unfold encStr byt; simp
theorem sort_names {l n : List ByteArray} (hp : l.Perm n) (hu : n.Pairwise (fun a b => lessN a b = true)) : ((l.map byt).mergeSort fun x y => decide (x ≤ y)) = n.map byt := by
  have h1 := mergeSort_of_perm (hp.map byt)
  have h2 : (n.map byt).mergeSort leB = n.map byt := by
    refine List.mergeSort_of_pairwise ?_
    rw [List.pairwise_map]
    refine hu.imp (fun {a b} hab => ?_)
    have := lessN_iff.1 hab
    rw [ByteArray.toList_eq, ByteArray.toList_eq] at this
    exact decide_eq_true (Std.le_of_lt this)
  exact h1.trans h2
theorem put_tblk (n m r : List ByteArray) (h : n.length = m.length) : putCells encStr 0 (n.map byt).toArray (tblk (m ++ r)) = tblk (n ++ r) := by
  apply Array.ext_getElem?
  intro j
  by_cases hj : j < n.length
  · rw [tblk_get _ _ (by rw [List.length_append]; omega), List.getElem_append_left hj]
    have : j < (tblk (m ++ r)).size := by rw [tblk_size, List.length_append]; omega
    simp [putCells, hj, this, enc_byt]
  · by_cases h2 : j < (m ++ r).length
    · have h3 : j < (n ++ r).length := by rw [List.length_append] at h2 ⊢; omega
      rw [tblk_get _ _ h3, List.getElem_append_right (by omega)]
      have h4 : (tblk (m ++ r))[j]? = some (.string (r[j - n.length]'(by rw [List.length_append] at h2; omega))) := by
        rw [tblk_get _ _ h2, List.getElem_append_right (by omega)]
        simp only [h]
      have h5 : j < (tblk (m ++ r)).size := by rw [tblk_size]; exact h2
      simp only [Array.getElem?_eq_getElem h5] at h4
      injection h4 with h4
      simp [putCells, hj, h5, h4]
    · have h3 : ¬ j < (n ++ r).length := by rw [List.length_append] at h2 ⊢; omega
      rw [Array.getElem?_eq_none (by simp [putCells, tblk_size]; simp at h2; omega), Array.getElem?_eq_none (by rw [tblk_size]; omega)]
theorem block_lt' {w : World} {b : Nat} {o : Obj} (h : w.heap[b]? = some o) : b < w.heap.size := (Array.getElem?_eq_some_iff.1 h).1
theorem TkOwn.lt {w : World} {base : Nat} {v : Value} {l : List ByteArray} (h : TkOwn w base v l) : ∀ b, v.ownBlock = some b → base ≤ b ∧ b < w.heap.size := by
  intro b hb
  rcases h with ⟨rfl, _⟩ | ⟨g', k', cap, r, rfl, h2, _, h4, _⟩
  · cases hb
  · injection hb with hb
    subst hb
    exact ⟨h2, block_lt' h4⟩
theorem sort_tk (v : Value) (l n : List ByteArray) (w : World) (base : Nat) (h : TkOwn w base v l) (hp : l.Perm n) (hu : n.Pairwise (fun a b => lessN a b = true)) (hl : l.length ≤ 1000000) (hb : base ≤ w.heap.size) :
    Calls Tryz.prog 53 #[v] w fun e w' => e = .returned (.tuple #[]) ∧ TkOwn w' base v n ∧ Below base w w' := by
  rcases h with ⟨rfl, rfl⟩ | ⟨g, k, cap, r, rfl, h2, h3, h4, h5, h6, h7, h8⟩
  · refine (Any.slices_Sort_string_none Tryz.sortStr none 0 w).mono fun e w' ⟨e1, e2⟩ => ⟨e1, ?_, ?_⟩
    · rw [← List.Perm.nil_eq hp]
      exact .inl ⟨rfl, rfl⟩
    · rw [e2]; exact Below.refl _ _
  · subst h3
    have hlen : n.length = l.length := hp.length_eq.symm
    have hH : Holds encStr w g 0 (l.map byt).toArray := holds_of_block h4 (by
      rw [List.length_map]
      simp only [tblk, List.map_append]
      rw [List.take_left' (by simp), List.map_map]
      exact List.map_congr_left (fun s _ => (enc_byt s).symm))
    have hc := Any.slices_Sort_string Tryz.sortStr g 0 cap (l.map byt) w hH (block_lt h4) (by rw [List.length_map]; omega)
    rw [List.length_map] at hc
    refine hc.mono fun e w' ⟨e1, nn, os, e2⟩ => ⟨e1, ?_, ?_⟩
    · rw [sort_names hp hu] at e2
      refine .inr ⟨g, l.length, cap, r, rfl, h2, hlen, ?_, h5, h6, by omega, h8⟩
      rw [e2, heap_sorted _ h4, put_tblk _ _ _ hlen]
    · rw [e2]
      exact Below.grown (Below.refl base w) (grownBy_sorted _) hb (fun j hj => by injection hj with hj; omega)

section
variable {w w' : World} {g bm : Nat} {ms ms1 : List Pf} {d : Dv}
def nmsP (l : List Pf) : List ByteArray := l.map (·.f.nm)
set_option maxHeartbeats 2000000 in
theorem names_pd (h : PDx w g bm ms d) (ok : Dv.Ok d) : Calls Tryz.prog 23 #[.pointer (some ⟨g, 0, none⟩)] w fun e w' => ∃ v, e = .returned v ∧ TkOwn w' w.heap.size v (namesD d) ∧ Below w.heap.size w w' := by
  obtain ⟨L, c0, c1, c2, c3, c4, cf, _⟩ := h.cells
  obtain ⟨D, hown, hi⟩ := h.map
  generalize (ms.map pfN).length = nn at hown
  have HI := Lib.hid hi
  have HNM : Hid (nmsP ms = namesD d) := Lib.hid (by unfold nmsP namesD; rw [← h.fs, List.map_map]; rfl)
  have HND := Lib.hid h.nds
  have HLN : Hid (ms.length ≤ 64) := Lib.hid (by rw [h.len]; exact ok.ln)
  have HUP : Hid ((namesD d).Pairwise (fun a b => lessN a b = true)) := Lib.hid (by unfold namesD; rw [List.pairwise_map]; exact ok.up)
  have HSZ : Hid (∀ m ∈ ms, m.f.nm.size ≤ 1000000) := Lib.hid (fun m hm => by
    have := ok_size (ok.fl m.f (by rw [← h.fs]; exact List.mem_map.2 ⟨m, hm, rfl⟩)).nm
    omega)
  clear h ok hi
  go_enter Tryz.func23, Tryz.ntmps23
  go_wp2_with (first
    | (at_range; refine wpList_range_own _ rfl _ 36 rfl 9 76 lawS Tryz.underlying36 _ bm _ _ rfl hown ?_; intro w0 hrg0 hg0 hs0)
    | go_in)
  go_frame
  have F0 : Hid (Frm (fun _ => False) w w0) := Lib.hid ⟨hg0.os, hg0.tape, hg0.output, hg0.size, fun k hk _ => hg0.block k hk (by simp)⟩
  clear hg0
  go_loopw [3, 4] (fun v _ wr => ∃ (left : Lit → Bool) (cnt : Nat), wr.ranges Tryz.prog 9 ptrR bm w.heap.size nn D left cnt ∧ Hid (∃ ss, TkOwn wr w.heap.size v ss ∧ ss.Perm (nmsP (gone left ms)) ∧ Frm (fun _ => False) w wr))
    (fun _ _ wr => wr.rangeLeft bm w.heap.size)
  case atStart =>
    refine ⟨_, _, hrg0, Lib.hid ⟨[], TkOwn.nil _ _, ?_, F0.out⟩⟩
    rw [gone_none (fun m hm => by rw [HI.out.has]; exact List.any_eq_true.2 ⟨pfN m, List.mem_map.2 ⟨m, hm, rfl⟩, sameN_refl _⟩)]
    exact List.Perm.refl _
  case round =>
    obtain ⟨left, cnt, hrg, hF⟩ := hrel
    go_wp2_with (first
      | (at_next; refine wpList_next_pm _ rfl _ rfl bm w.heap.size _ _ _ HI.out _ _ rfl hrg ?_ ?_)
      | go_in)
    · intro hl
      obtain ⟨ss, h1, h2, h3⟩ := hF.out
      rw [gone_all hl, HNM.out] at h2
      have hlen : ss.length ≤ 64 := by rw [h2.length_eq, ← HNM.out]; unfold nmsP; rw [List.length_map]; exact HLN.out
      have HS := Lib.hid (sort_tk _ ss (namesD d) wr w.heap.size h1 h2 HUP.out (by omega) h3.size)
      have H3 := Lib.hid (h3.below (Below.refl w.heap.size _) (Nat.le_refl _) (fun i hi => hi.elim))
      obtain ⟨A, c, hv⟩ := h1.letters
      subst hv
      clear h1 h2 h3 hF hl
      go_wp2_with (go_at_call 53; refine HS.out.mono ?_; rintro e w9 ⟨rfl, y1, y2⟩)
      go_ret
      exact ⟨_, rfl, y1, H3.out.trans y2⟩
    · intro m hm hl w1 cnt1 hrg1 hlt hF1 hs1 hen
      obtain ⟨ss, h1, h2, h3⟩ := hF.out
      have hl2 : left (kS m.f.nm) = true := hl
      have hpm := gone_perm HND.out left hm hl2
      have hlen : ss.length ≤ 64 := by
        rw [h2.length_eq]; unfold nmsP; rw [List.length_map]
        exact Nat.le_trans (List.length_filter_le _ _) HLN.out
      obtain ⟨im, is, isn, ic, hit⟩ := ranges_iter hrg
      have hvc : ∀ b, u3.ownBlock = some b → ∃ c, wr.heap[b]? = some (.cells c 9 (0, 0)) := fun b hb => by
        rcases h1 with ⟨rfl, _⟩ | ⟨g', k', cap, r, rfl, _, _, h4, _⟩
        · cases hb
        · injection hb with hb
          subst hb
          exact ⟨_, h4⟩
      have hvr : ∀ b, u3.ownBlock = some b → b ≠ w.heap.size := fun b hb e => by
        obtain ⟨c, hc⟩ := hvc b hb
        rw [e, hit] at hc; cases hc
      obtain ⟨es, clock, hbm⟩ : ∃ es clock, wr.heap[bm]? = some (.map es clock) := by
        obtain ⟨es, clock, _, _, _, hb, _⟩ := hrg
        exact ⟨es, clock, hb⟩
      have hvm : ∀ b, u3.ownBlock = some b → b ≠ bm := fun b hb => by
        obtain ⟨c, hc⟩ := hvc b hb
        exact cells_nm hc hbm
      have hk1 : TkOwn w1 w.heap.size u3 ss := h1.frm hF1 (fun b hb e => hvr b hb e)
      have hnsz := HSZ.out m hm
      have HCl : Hid (Calls Tryz.prog 52 #[.string m.f.nm] w1 fun e w' => e = .returned (.string m.f.nm) ∧ Below w1.heap.size w1 w') := Lib.hid (sclone_any _ w1 hnsz)
      have hsz1 : w.heap.size ≤ w1.heap.size := Nat.le_trans h3.size hF1.size
      have HAP : Hid (∀ wc, Below w1.heap.size w1 wc → ∃ A' n' c' w2, (∀ ty, (Builtin.append_ #[51, 51] ty #[u3, .slice (some ⟨wc.heap.size, 0, none⟩) 1 1]).run Tryz.prog (wc.alloc (.cells #[.string m.f.nm] 9)) = .ok (.slice A' n' c') w2) ∧
          w2.ranges Tryz.prog 9 ptrR bm w.heap.size nn D (fun z => left z && !z.sameKey (kS m.f.nm)) cnt1 ∧ Hid (∃ ss, TkOwn w2 w.heap.size (.slice A' n' c') ss ∧ ss.Perm (nmsP (gone (fun z => left z && !z.sameKey (kS m.f.nm)) ms)) ∧ Frm (fun _ => False) w w2)) := Lib.hid (fun wc hwc => by
        obtain ⟨bo, bc, bz⟩ := box_one wc (.string m.f.nm) 9
        have hb2 : Below w1.heap.size w1 (wc.alloc (.cells #[.string m.f.nm] 9)) := hwc.trans (bo.mono hwc.size)
        have hk2 : TkOwn (wc.alloc (.cells #[.string m.f.nm] 9)) w.heap.size u3 ss := hk1.frm (F := fun _ => False) (Frm.of_below hb2) (fun _ _ e => e)
        obtain ⟨A', n', c', w2, r1, r2, r3⟩ := run_append_TK (wc.alloc (.cells #[.string m.f.nm] 9)) w.heap.size u3 ss hk2 ⟨wc.heap.size, 0, none⟩ 1 m.f.nm bc (by omega) (Nat.le_trans hsz1 hb2.size)
        have f12 : Frm (fun b => u3.ownBlock = some b) w1 w2 := (Frm.of_below (F := fun b => u3.ownBlock = some b) hb2).trans r3 (fun i hi => .inl hi)
        have hb1 : bm < w1.heap.size := by
          have h1 : bm < wr.heap.size := block_lt' hbm
          have h2 := hF1.size
          omega
        refine ⟨A', n', c', w2, r1, ranges_same hrg1 (f12.block bm hb1 (fun e => hvm _ e rfl)) (f12.block w.heap.size hrg1.lt (fun e => hvr _ e rfl)), Lib.hid ⟨ss ++ [m.f.nm], r2, ?_, ?_⟩⟩
        · have e1 := hpm.map (fun m : Pf => m.f.nm)
          rw [List.map_cons] at e1
          exact ((List.perm_append_singleton _ _).trans (List.Perm.cons _ h2)).trans e1.symm
        · have hbase := fun b hb => (TkOwn.lt h1 b hb).1
          exact (h3.trans hF1 (fun i hi => .inr (by rw [hi]; exact Nat.le_refl _))).trans f12 (fun i hi => .inr (hbase i hi)))
      have HRO := Lib.hid hrg
      have HLT := Lib.hid hlt
      simp only [pfN] at hen
      obtain ⟨A, c, hv⟩ := h1.letters
      subst hv
      generalize m.f.nm = nm at *
      generalize m.g = gm at *
      clear hrg1 hrg hlt hs1 hF hF1 h1 h2 h3 hpm hlen hit hvc hvr hbm hvm hk1 hnsz hsz1 hl2
      go_wp2_with (first
        | (go_at_call 52; refine HCl.out.mono ?_; rintro e wc ⟨rfl, hbc⟩; obtain ⟨A', n', c', w2, hrun, hr3, hW3⟩ := HAP.out _ hbc; have HR3 := Lib.hid hr3; clear hr3 hbc)
        | (at_builtin; refine wpList_append_run _ rfl _ _ 51 rfl _ _ _ _ rfl rfl hrun ?_))
      go_roundw
      case rel => exact ⟨_, cnt1, HR3.out, hW3⟩
      case measure => rw [HR3.out.left_eq, HRO.out.left_eq]; exact HLT.out
end
end Go.Proofs.YtbdhhmhlcdganaaGreatDoor
namespace Go.Proofs.YtbdhhmhlcdganaaGreatDoor
open Go.RowKit
set_option linter.unusedVariables false
set_option maxRecDepth 100000

def LongTo (n : Nat) (l : List Opm) (w : World) (e : Ending) (w' : World) : Prop := ∃ b : Bool, e = .returned (.bool b) ∧ w = w' ∧ (b = false → n ≤ 200 ∧ ∀ j (hj : j < l.length), l[j].n ≤ 4096 ∧ l[j].nm.size ≤ 4096 ∧ l[j].tn.size ≤ 4096)
end Go.Proofs.YtbdhhmhlcdganaaGreatDoor
namespace Go.Proofs.YtbdhhmhlcdganaaGreatDoor
open Go.RowKit
set_option linter.unusedVariables false
set_option maxRecDepth 100000

def BothTo (D : DevP) (G1 G2 : Nat → Prop) (g1 g2 : Nat) (d : Dv) (w : World) (e : Ending) (w' : World) : Prop := e = .returned (.bool true) ∧ Twins D RDe G1 G2 g1 g2 d w w'

end Go.Proofs.YtbdhhmhlcdganaaGreatDoor
namespace Go.Proofs.YtbdhhmhlcdganaaGreatDoor
open Go.RowKit Go.Maps
set_option linter.unusedVariables false
set_option maxRecDepth 100000

theorem new_no12 (r : Int) (w : World) (hr : r < 0 ∨ 16777216 < r) : Calls Tryz.prog 9 #[.int .i64 r] w fun e w' => e = .returned (.tuple #[.pointer none, .int .i64 3]) ∧ Below w.heap.size w w' := by
  by_cases h1 : r < 0
  · go_enter Tryz.func9, Tryz.ntmps9
    go_wp2
    go_ret2
    exact ⟨rfl, Below.refl _ _⟩
  · have h2 : r > 16777216 := by omega
    go_enter Tryz.func9, Tryz.ntmps9
    go_wp2
    go_ret2
    exact ⟨rfl, Below.refl _ _⟩
theorem new_yes12 (r : Nat) (w : World) (hr : r ≤ 16777216) : Calls Tryz.prog 9 #[.int .i64 (r : Int)] w fun e w' => ∃ g G, e = .returned (.tuple #[.pointer (some ⟨g, 0, none⟩), .int .i64 0]) ∧ PDe w' G g (newD r) ∧ Below w.heap.size w w' ∧ ∀ b, G b → w.heap.size ≤ b := by
  have h1 : ¬ (r : Int) < 0 := by omega
  have h2 : ¬ (r : Int) > 16777216 := by omega
  have hmm := @run_makeMap Tryz.prog
  have hm := PMap.made w
  have bm := bel_alloc w (.map #[] 0)
  have zm : (w.alloc (.map #[] 0)).heap.size = w.heap.size + 1 := by simp
  have HQ : Hid (∃ g G, Ending.returned (.tuple #[.pointer (some ⟨w.heap.size + 1, 0, none⟩), .int .i64 0]) = Ending.returned (.tuple #[.pointer (some ⟨g, 0, none⟩), .int .i64 0]) ∧ PDe ((w.alloc (.map #[] 0)).alloc (.cells #[.bool false, .bool false, .int .i64 0, .int .i64 (r : Int), .map (some w.heap.size)] 38)) G g (newD r) ∧
      Below w.heap.size w ((w.alloc (.map #[] 0)).alloc (.cells #[.bool false, .bool false, .int .i64 0, .int .i64 (r : Int), .map (some w.heap.size)] 38)) ∧ ∀ b, G b → w.heap.size ≤ b) := Lib.hid (by
    have hb2 := bel_alloc (w.alloc (.map #[] 0)) (.cells #[.bool false, .bool false, .int .i64 0, .int .i64 (r : Int), .map (some w.heap.size)] 38)
    refine ⟨w.heap.size + 1, PG (w.heap.size + 1) w.heap.size [], rfl, ⟨w.heap.size, [], ⟨⟨0, ?_, fun e => absurd (show (0 : Int) ≤ -1 from e) (by decide), by omega, by omega⟩, hm.same (hb2.block _ (by omega)), fun m hm => absurd hm (by simp), rfl, List.Pairwise.nil⟩, fun b => Iff.rfl⟩, bm.trans (hb2.mono (by omega)), fun b hb => ?_⟩
    · have := heap_alloc_new (w.alloc (.map #[] 0)) (.cells #[.bool false, .bool false, .int .i64 0, .int .i64 (r : Int), .map (some w.heap.size)] 38)
      rw [zm] at this
      exact this
    · rcases hb with rfl | rfl | ⟨m, hm, _⟩
      · omega
      · exact Nat.le_refl _
      · exact absurd hm (by simp))
  clear hm bm zm
  go_enter Tryz.func9, Tryz.ntmps9
  go_wp2
  go_ret2
  obtain ⟨g, G, h1, h2, h3, h4⟩ := HQ.out
  exact ⟨g, h1, G, h2, h3, h4⟩
theorem devOk12z : DevOk0 PDe where
  dev := pde_dev
  sync s h ok := by
    obtain ⟨bm, ms, hx, hg⟩ := h
    exact (sync_pd s hx ok).mono fun e w' ⟨h1, h2⟩ => h1 ▸ h2.stp hg _
  truncate s n h ok _ := by
    obtain ⟨bm, ms, hx, hg⟩ := h
    exact (truncate_pd s n hx ok).mono fun e w' ⟨h1, h2⟩ => h1 ▸ h2.stp hg _
  remove s h ok := by
    obtain ⟨bm, ms, hx, hg⟩ := h
    exact (remove_pd s hx ok).mono fun e w' ⟨h1, h2⟩ => h1 ▸ h2.stp hg _
  append s A n c bs h ok hr hn _ _ hb hA := by
    obtain ⟨bm, ms, hx, hg⟩ := h
    exact (append_pd s A n c bs hx ok hr hn hb (fun a ha hp e => hA a ha hp ((hg _).1 e))).mono fun e w' ⟨h1, h2⟩ => h1 ▸ h2.stp hg _
  wake keep h ok _ := by
    obtain ⟨bm, ms, hx, hg⟩ := h
    exact (wake_pd keep hx ok).mono fun e w' ⟨h1, h2⟩ => h1 ▸ h2.stp hg _
  arm n h ok hn := by
    obtain ⟨bm, ms, hx, hg⟩ := h
    refine (arm_pd n hx hn).mono fun e w' ⟨h1, h2, h3⟩ => ?_
    subst h1
    exact PRes.stp hg ⟨ms, h2, h3.mono (fun b e => .inl e), fun b hb => .inl hb⟩ _
  names h ok := by
    obtain ⟨bm, ms, hx, hg⟩ := h
    exact names_pd hx ok
  read s h ok := by
    obtain ⟨bm, ms, hx, hg⟩ := h
    exact read_pd s hx ok
  used h ok := by
    obtain ⟨bm, ms, hx, hg⟩ := h
    exact used_pd hx (by have := ok.us; have := ok.rm; omega)
  free h ok := by
    obtain ⟨bm, ms, hx, hg⟩ := h
    exact free_pd hx ok
  down h ok := by
    obtain ⟨bm, ms, hx, hg⟩ := h
    exact (down_pd hx).mono fun e w' ⟨h1, h2⟩ => ⟨h1, by rw [h2]; exact Below.refl _ _⟩
  newNo := new_no12
  newYes := new_yes12
end Go.Proofs.YtbdhhmhlcdganaaGreatDoor
namespace Go.Proofs.YtbdhhmhlcdganaaGreatDoor
open Go.RowKit
set_option linter.unusedVariables false

theorem walk_SegsLasts (A : Option Addr) (n c : Nat) (l : List Lm) (SA : Option Addr) (sn sc : Nat) (ss : List Bool) (cut keep : Int) (w : World) (hr : VRow w w.heap.size A (flatV lmC l)) (hn : l.length = n) (hok : ∀ m ∈ l, Lm.Ok w w.heap.size m) (hnc : n ≤ c) (hb : c * 24 ≤ 140737488351232)
    (hsr : L.Row () w w.heap.size SA ss) (hsn : ss.length = sn) (hsc : sn ≤ sc) (hsb : sc ≤ 140737488351232) (wc : (Lit.int .i64 cut).wf = true) (wk : (Lit.int .i64 keep).wf = true) (gl : Gl w) :
    Calls Tryz.prog 3 #[.slice A n c, .slice SA sn sc, .int .i64 cut, .int .i64 keep] w fun e w' => e = .returned (.bool true) ∧ Below w.heap.size w w' :=
  lasts14_any (devG_of devOk12z) (logOk14 (devG_of devOk12z)) A n c l SA sn sc ss cut keep w hr hn (by omega) hok hsr hsn (by omega) (wf_i64 wk) gl
end Go.Proofs.YtbdhhmhlcdganaaGreatDoor
namespace Go.Proofs.YtbdhhmhlcdganaaGreatDoor.segsLasts
open Go.ChangeShapes Go.WideShapes Go.ChangeAt Go.RowKit
open Go.ChangeMaps (open_string shut_string)
set_option linter.unusedVariables false

theorem own : ownKnob Tryz.prog.godebug = none := by kernel_rfl
theorem laidOut : laidOutB Tryz.prog = true := by kernel_rfl

set_option maxRecDepth 100000 in
theorem lifted (os : Os) (started : os.Started) (H : Type) (enc : TypeId × Value → H) :
    ReturnsInHanded {} Tryz.checked os 3 .any (fun w args => (Rows.segsLastsSpec.pre enc Tryz.prog Tryz.f3 [] false w args ∧ laidMetH Tryz.prog Rows.segsLastsRow.laid w) ∧ sizedMet enc Tryz.prog Tryz.f3 (OpenSpec.ofChange Rows.segsLastsSpec) false w args) (Rows.segsLastsSpec.post enc Tryz.prog Tryz.f3 false true false false) := by
  refine returnsInHanded_of_change_and (C := Tryz.checked) (X := fun w _ => laidMetH Tryz.prog Rows.segsLastsRow.laid w) (fun _ _ _ hh h => h.of_heap hh) own started (by kernel_rfl) Tryz.func3
    (ChangeSpec.witness_shaped (enc := enc) (C := Tryz.checked) (os := os) (X := fun w _ => laidMetH Tryz.prog Rows.segsLastsRow.laid w) false (World.doorLaid Tryz.prog 400 os) #[.slice none 0 0, .slice none 0 0, .int .i64 0, .int .i64 0] 8 rfl (World.shaped_of_RefB (by kernel_rfl) (by kernel_rfl)) (by kernel_rfl) (by kernel_rfl) (by kernel_rfl) (door14 os _)) ?_
  intro W base args ds gs before hval0 hW hcnd hsz0 hL _
  have gl := gl_of hL
  have hsz : (DataW.weightsEach Tryz.prog (Tryz.f3.params.toList ++ Rows.segsLastsSpec.plain.varTypes Tryz.prog) (ds ++ gs)).all (· ≤ reachBytes) = true := hsz0
  clear hsz0
  have hval : ∀ (j : Nat) t v, Tryz.f3.params[j]? = some t → args[j]? = some v → Value.okWide Tryz.prog W .any base t v := hval0
  have hW' := hW
  obtain ⟨p, q, hA0, hV, rfl, hfz, hnd⟩ := hW
  have hA : DataW.TrodAll enc Tryz.prog W 0 (fun _ => true) true Tryz.f3.params.toList args.toList ds p := hA0
  rw [Tryz.params3] at hA hval hsz
  obtain ⟨v0, vs0, d0, ds0, p0, q0, hargs, rfl, rfl, h0, r0⟩ := trodAll_cons hA
  obtain ⟨v1, vs1, d1, ds1, p1, q1, rfl, rfl, rfl, h1, r1⟩ := trodAll_cons r0
  obtain ⟨v2, vs2, d2, ds2, p2, q2, rfl, rfl, rfl, h2, r2⟩ := trodAll_cons r1
  obtain ⟨v3, vs3, d3, ds3, p3, q3, rfl, rfl, rfl, h3, r3⟩ := trodAll_cons r2
  obtain ⟨rfl, rfl, rfl⟩ := trodAll_nil r3
  obtain rfl : args = #[v0, v1, v2, v3] := by cases args; simp_all
  obtain ⟨rfl, rfl⟩ := trodVars_none hV
  obtain ⟨a0, l0, c0, rfl⟩ := okWide_slice Tryz.underlying22 (hval 0 22 v0 rfl rfl)
  have k0 := h0
  have lt0 : ∀ x ∈ p0, x.block < W.heap.size := by obtain ⟨m, hm⟩ := k0; exact DataW.trod_lt m _ _ _ hm
  obtain ⟨x0, w0, n0, o0, s0, r0d⟩ := lists_in h0 lt0 (fun n hn => of_decide_eq_true (List.all_eq_true.1 hsz _ (DataW.weights_mem_each (j := 0) (t := 22) (d := d0) rfl rfl n hn)))
  have m0 := reach_lists hsz 0 rfl rfl r0d
  obtain ⟨a1, l1, c1, rfl⟩ := okWide_slice Tryz.underlying23 (hval 1 23 v1 rfl rfl)
  have k1 := h1
  have lt1 : ∀ x ∈ p1, x.block < W.heap.size := by obtain ⟨m, hm⟩ := k1; exact DataW.trod_lt m _ _ _ hm
  obtain ⟨x1, w1, n1, s1, r1d⟩ := L.row_in Tryz.underlying23 Tryz.underlying4 (by kernel_rfl) h1 lt1
  have m1 := reach_in hsz 1 rfl rfl Tryz.underlying23 (of_decide_eq_true (by kernel_rfl)) r1d
  obtain ⟨a2, rfl, rfl, rfl, w2⟩ := open_int Tryz.underlying3 (hval 2 3 v2 rfl rfl) h2
  obtain ⟨a3, rfl, rfl, rfl, w3⟩ := open_int Tryz.underlying3 (hval 3 3 v3 rfl rfl) h3
  clear hA0 hval0
  refine (walk_SegsLasts a0 l0 c0 x0 a1 l1 c1 x1 a2 a3 W w0 n0 o0 s0 m0 w1 n1 s1 m1 w2 w3 gl).mono fun e W' ⟨he, bel⟩ => ?_
  subst he
  exact ⟨_, rfl, _, _, _, [], _, [], hW', trodAll_mk1 (shut_bool Tryz.underlying4 _), (trodAll_cons_mk (Below.trod laidOut (by kernel_rfl) (of_decide_eq_true (by kernel_rfl)) k0 bel lt0) (trodAll_cons_mk (Below.trod laidOut (by kernel_rfl) (of_decide_eq_true (by kernel_rfl)) k1 bel lt1) (trodAll_cons_mk (shut_int Tryz.underlying3 w2) (trodAll_cons_mk (shut_int Tryz.underlying3 w3) trodAll_mk0)))), rfl, bel.frame _, fun h => by cases h⟩

theorem over : Rows.segsLastsRow.holds Tryz.pinned (OpenSpec.ofChange Rows.segsLastsSpec) :=
  OpenClaim.holds_of_wide 3 Tryz.f3 rfl rfl rfl rfl rfl rfl rfl ⟨rfl, rfl, rfl, rfl, rfl⟩ rfl rfl rfl rfl rfl (by kernel_rfl) Tryz.func3 (by kernel_rfl)
    (of_decide_eq_true (by kernel_rfl)) (by unfold Func.isWrapper; first | (rw [if_pos (by decide +kernel)]; kernel_rfl) | (rw [if_neg (by decide +kernel)]; exact ⟨rfl, rfl⟩))
    (fun os started H enc _ => lifted os started H enc)

theorem proved : Rows.SegsLastsCardSaid :=
  Claim7.holds_tied_plain_at .later [] [.data, .data, .data, .sentinel, .sentinel] true Rows.segsLastsCard.stood.harness true
    over (fun _ h => by cases h) (by kernel_rfl) (fun _ h => by cases h) segsLasts_row_tie rfl ⟨rfl, rfl⟩ (by kernel_rfl) rfl
    (fun f fn hf hfn => by
      obtain rfl : f = 3 := Option.some.inj ((show Tryz.prog.funcNamed Rows.segsLastsRow.func = some 3 by kernel_rfl).symm.trans hf) |>.symm
      obtain rfl : fn = Tryz.f3 := (Option.some.inj (Tryz.func3.symm.trans hfn)).symm
      exact ⟨by kernel_rfl, fun j t ht => by
        rw [Tryz.params3] at ht
        have hm : t ∈ [22, 23, 3, 3] := by simpa using Array.mem_of_getElem? ht
        have hall : ([22, 23, 3, 3].all fun u => !Tryz.prog.wantsStandIn u) = true := by kernel_rfl
        exact (show Tryz.prog.wantsStandIn t = false by simpa using List.all_eq_true.1 hall t hm)⟩)
    (by kernel_rfl)
#print axioms proved
end Go.Proofs.YtbdhhmhlcdganaaGreatDoor.segsLasts
