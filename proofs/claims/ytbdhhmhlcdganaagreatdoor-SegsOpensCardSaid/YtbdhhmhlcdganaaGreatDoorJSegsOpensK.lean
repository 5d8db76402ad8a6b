/-
  The statement SegsOpens of outstationlaw14 holds: for every input that can be read, the call returns true, and each argument reads as it did. The package-level variables that the road reads start as the program's text lays them: the tied card.
-/
import Derived.Test.YtbdhhmhlcdganaaGreatDoorJSegsOpensJ
import Derived.Test.YtbdhhmhlcdganaaGreatDoorJSegsOpensC
import Derived.Test.YtbdhhmhlcdganaaGreatDoorJSegsOpensB
import Derived.Sort.OwnSorted
import Derived.Shelf.Slices.In.SortNone
import Derived.Test.YtbdhhmhlcdganaaGreatDoorJSegsOpensA
import Derived.Test.YtbdhhmhlcdganaaGreatDoorJSegsOpensE
import Derived.Laws.Cover1
import Derived.Deep.CutRange
import Derived.Deep.RegionHeld3
import Derived.Carry
import Derived.Test.YtbdhhmhlcdganaaGreatDoorJSegsOpensF
import Derived.Test.YtbdhhmhlcdganaaGreatDoorJSegsOpensI
import Derived.Test.YtbdhhmhlcdganaaGreatDoorRows
import Derived.Test.YtbdhhmhlcdganaaGreatDoorCards
import Derived.Test.YtbdhhmhlcdganaaGreatDoorTie
import Derived.ProofKit
import Derived.SevenTiedAt
import Derived.LaidMore
namespace Go.Proofs.YtbdhhmhlcdganaaGreatDoor
open Go.RowKit Go.Maps
set_option linter.unusedVariables false
set_option maxRecDepth 100000

def wkF (keep : Int) (left : Lit → Bool) (f : Fl) : Fl := bif left (kS f.nm) then f else wakeF keep f
theorem wkF_start {keep : Int} {left : Lit → Bool} {l : List Fl} (h : ∀ f ∈ l, left (kS f.nm) = true) : l.map (wkF keep left) = l := by
  conv => rhs; rw [← List.map_id l]
  exact List.map_congr_left (fun f hf => by unfold wkF; rw [h f hf]; rfl)
theorem wkF_end {keep : Int} {left : Lit → Bool} {l : List Fl} (h : ∀ kl, left kl = false) : l.map (wkF keep left) = l.map (wakeF keep) :=
  List.map_congr_left (fun f hf => by unfold wkF; rw [h]; rfl)
theorem wkF_step {keep : Int} {left : Lit → Bool} {l : List Fl} (hu : l.Pairwise (fun a b => sameN a.nm b.nm = false)) {k : Nat} (hk : k < l.length) :
    (l.map (wkF keep left)).set k (wakeF keep l[k]) = l.map (wkF keep (fun z => left z && !z.sameKey (kS l[k].nm))) := by
  apply List.ext_getElem
  · simp
  · intro i h1 h2
    have hi : i < l.length := by simpa using h2
    rw [List.getElem_set, List.getElem_map, List.getElem_map]
    split
    · rename_i e
      subst e
      unfold wkF
      simp only [WideAt.sameKey_self (kS_key _), Bool.not_true, Bool.and_false, cond_false]
    · rename_i e
      have hp := List.pairwise_iff_getElem.1 hu
      have hs : sameN l[i].nm l[k].nm = false := by
        rcases Nat.lt_or_gt_of_ne e with h | h
        · rw [sameN_comm]; exact hp k i hk hi h
        · exact hp i k hi hk h
      unfold wkF
      simp only [sameKey_ne (kS_ne hs), Bool.not_false, Bool.and_true]
theorem ranges_same {w w' : World} {b r n cnt : Nat} {D : DataW Unit} {left : Lit → Bool} (h : w.ranges Tryz.prog 9 ptrR b r n D left cnt) (hb : w'.heap[b]? = w.heap[b]?) (hr : w'.heap[r]? = w.heap[r]?) : w'.ranges Tryz.prog 9 ptrR b r n D left cnt := by
  obtain ⟨es, clock, since, seen, c0, h1, F, hs, hD, h2, rest⟩ := h
  exact ⟨es, clock, since, seen, c0, hb.trans h1, F, hs, hD, hr.trans h2, rest⟩
theorem max_lit (y : Int) : ∃ q : Nat, (∀ (ts : Array TypeId) (t : TypeId) (W : World), (Builtin.max_ ts t #[.int .i64 y, .int .i64 0]).run Tryz.prog W = .ok (.int .i64 (q : Int)) W) ∧ q = y.toNat := by
  refine ⟨y.toNat, fun ts t W => ?_, rfl⟩
  rw [run_max_int2]
  congr 2
  split <;> omega
section
variable {w w' : World} {g bm : Nat} {ms ms1 : List Pf} {d : Dv}
theorem PDx.not_iter (h : PDx w g bm ms d) {r : Nat} {m : Option Nat} {s : Nat} {seen : Array Nat} {c : Nat} (hr : w.heap[r]? = some (.mapIter m s seen c)) : ¬ PG g bm ms r := by
  intro hb
  rcases hb with rfl | rfl | ⟨m, hm, rfl | hv⟩
  · obtain ⟨c, hc⟩ := h.gbox
    rw [hc] at hr; cases hr
  · obtain ⟨es, clock, hc⟩ := h.map.block
    rw [hc] at hr; cases hr
  · rw [(h.is m hm).box] at hr; cases hr
  · obtain ⟨c, hc⟩ := (h.is m hm).own.at_block hv
    rw [hc] at hr; cases hr
theorem ranges_iter {b r n cnt : Nat} {D : DataW Unit} {left : Lit → Bool} (h : w.ranges Tryz.prog 9 ptrR b r n D left cnt) : ∃ m s seen c, w.heap[r]? = some (.mapIter m s seen c) := by
  obtain ⟨es, clock, since, seen, c0, h1, F, hs, hD, h2, rest⟩ := h
  exact ⟨_, _, _, _, h2⟩
def WkTo (g bm : Nat) (ms : List Pf) (d : Dv) (keep : Int) (left : Lit → Bool) (w wr : World) : Prop :=
  ∃ ms', PDx wr g bm ms' { d with fs := d.fs.map (wkF keep left) } ∧ ms'.map pfN = ms.map pfN ∧ Frm (PG g bm ms) w wr ∧ ∀ b, PG g bm ms' b → PG g bm ms b ∨ w.heap.size ≤ b
theorem wake_fl (keep : Int) (f : Fl) (n : Nat) (hn : n = f.sy + min keep.toNat (f.bs.length - f.sy)) (hs : f.sy ≤ f.bs.length) :
    ({ ({ f with bs := f.bs.take n, sy := min f.sy n } : Fl) with sy := (f.bs.take n).length } : Fl) = wakeF keep f := by
  unfold wakeF
  rw [List.length_take, Nat.min_eq_left (show f.sy ≤ n by omega), Nat.min_eq_left (show n ≤ f.bs.length by omega), ← hn]
set_option maxHeartbeats 2000000 in
theorem wake_pd (keep : Int) (h : PDx w g bm ms d) (ok : Dv.Ok d) : Calls Tryz.prog 17 #[.pointer (some ⟨g, 0, none⟩), .int .i64 keep] w fun e w' => e = .returned (.tuple #[]) ∧ PRes g bm ms (wakeD d keep) w w' := by
  obtain ⟨L, c0, c1, c2, c3, c4, cf, _⟩ := h.cells
  obtain ⟨D, hown, hi⟩ := h.map
  generalize (ms.map pfN).length = nn at hown
  have HI := Lib.hid hi
  have HH := Lib.hid h
  have HK := Lib.hid ok
  obtain ⟨K, hmax, hKK⟩ := max_lit keep
  have HKK := Lib.hid hKK
  clear h hi ok hKK
  go_enter Tryz.func17, Tryz.ntmps17
  go_wp2_with (first
    | (at_range; refine wpList_range_own _ rfl _ 36 rfl 9 76 lawS Tryz.underlying36 _ bm _ _ rfl hown ?_; intro w0 hrg0 hg0 hs0)
    | go_in)
  go_frame
  have F0 : Hid (WkTo g bm ms d keep (Maps.has D) w w0) := Lib.hid (by
    have f : Frm (fun _ => False) w w0 := ⟨hg0.os, hg0.tape, hg0.output, hg0.size, fun k hk _ => hg0.block k hk (by simp)⟩
    have e : d.fs.map (wkF keep (Maps.has D)) = d.fs := wkF_start (fun f hf => by
      rw [← HH.out.fs] at hf
      obtain ⟨m, hm, rfl⟩ := List.mem_map.1 hf
      rw [HI.out.has]
      exact List.any_eq_true.2 ⟨pfN m, List.mem_map.2 ⟨m, hm, rfl⟩, sameN_refl _⟩)
    refine ⟨ms, ?_, rfl, f.mono (fun b e => e.elim), fun b hb => .inl hb⟩
    rw [e]
    exact HH.out.frm f (fun _ _ e => e))
  clear hg0
  go_loopw [5, 6] (fun _ _ wr => ∃ (left : Lit → Bool) (cnt : Nat), wr.ranges Tryz.prog 9 ptrR bm w.heap.size nn D left cnt ∧ Hid (WkTo g bm ms d keep left w wr))
    (fun _ _ wr => wr.rangeLeft bm w.heap.size)
  case atStart => exact ⟨_, _, hrg0, F0⟩
  case round =>
    obtain ⟨left, cnt, hrg, hF⟩ := hrel
    go_wp2_with (first
      | (at_next; refine wpList_next_pm _ rfl _ rfl bm w.heap.size _ _ _ HI.out _ _ rfl hrg ?_ ?_)
      | go_in)
    · intro hl
      obtain ⟨ms', q1, q2, q3, q4⟩ := hF.out
      rw [wkF_end hl] at q1
      have HR := Lib.hid (restore_pd q1)
      obtain ⟨L', x0, x1, x2, x3, x4, xf, _⟩ := q1.cells
      have HQ : Hid (∀ w', PDx w' g bm ms' { ({ d with fs := d.fs.map (wakeF keep) } : Dv) with left := -1, off := false } → Frm (fun b => b = g) wr w' → PRes g bm ms (wakeD d keep) w w') := Lib.hid (fun w' a b => ⟨ms', a, q3.trans b (fun i hi => .inl (.inl hi)), q4⟩)
      clear hF q1 q2 q3 q4 hl
      go_wp2_with (go_at_call 46; refine HR.out.mono ?_; rintro e w9 ⟨rfl, y1, y2⟩)
      go_end0
      exact ⟨rfl, HQ.out _ y1 y2⟩
    · intro m hm hl w1 cnt1 hrg1 hlt hF1 hs1 hen
      obtain ⟨k, hk, rfl⟩ := List.mem_iff_getElem.1 hm
      obtain ⟨ms', q1, q2, q3, q4⟩ := hF.out
      have hlen : ms'.length = ms.length := by have := congrArg List.length q2; simpa using this
      have hk' : k < ms'.length := by omega
      have hkd : k < d.fs.length := by rw [← HH.out.len]; exact hk
      have hfe : d.fs[k] = ms[k].f := by simp only [← HH.out.fs, List.getElem_map]
      have hpe : pfN ms'[k] = pfN ms[k] := by
        have : (ms'.map pfN)[k]'(by rw [List.length_map]; exact hk') = (ms.map pfN)[k]'(by rw [List.length_map]; exact hk) := by simp only [q2]
        simpa using this
      have hge : ms'[k].g = ms[k].g := congrArg Prod.snd hpe
      have hwe : ms'[k].f = ms[k].f := by
        have e1 : (ms'.map (·.f))[k]'(by rw [List.length_map]; exact hk') = (d.fs.map (wkF keep left))[k]'(by rw [List.length_map]; exact hkd) := by simp only [q1.fs]
        rw [List.getElem_map, List.getElem_map, hfe] at e1
        rw [e1]
        unfold wkF
        rw [show left (kS ms[k].f.nm) = true from hl]
        rfl
      obtain ⟨im, is, isn, ic, hit⟩ := ranges_iter hrg
      have hni : ¬ PG g bm ms' w.heap.size := q1.not_iter hit
      have hx1 : PDx w1 g bm ms' { d with fs := d.fs.map (wkF keep left) } := q1.frm hF1 (fun b hb e => hni (e ▸ hb))
      have hmk := List.getElem_mem hk'
      have hpf := hx1.is _ hmk
      have hfl := HK.out.fl _ (List.getElem_mem hkd)
      have hus := used_mem (List.getElem_mem hkd)
      have hu := HK.out.us
      have hrm := HK.out.rm
      rw [hfe] at hfl hus
      have hsy := hfl.sy
      obtain ⟨m0, m1, mf⟩ := hpf.cells
      obtain ⟨A, c, hv, hvl, hvc⟩ := hpf.own.val
      rw [hv] at m0
      rw [hwe, hge] at m0
      rw [hwe, hge] at m1
      rw [hge] at mf
      obtain ⟨y, hy⟩ : ∃ y, y = ms[k].f.bs.length - ms[k].f.sy := ⟨_, rfl⟩
      obtain ⟨q, hmin, hq⟩ := min_lit K y
      obtain ⟨n, hn⟩ : ∃ n, n = ms[k].f.sy + q := ⟨_, rfl⟩
      have w1e : IntKind.i64.wrap ((ms[k].f.bs.length : Int) - (ms[k].f.sy : Int)) = (y : Int) := by rw [IntKind.wrap_i64]; omega
      have w2e : IntKind.i64.wrap ((ms[k].f.sy : Int) + (q : Int)) = (n : Int) := by rw [IntKind.wrap_i64]; omega
      have hnn : n = ms[k].f.sy + min keep.toNat (ms[k].f.bs.length - ms[k].f.sy) := by rw [hn, hq, hy, HKK.out]
      have hpd : PfIs w1.drew ms'[k] := hpf.frm (F := fun _ => False) (Frm.of_below (below_drew (Below.refl _ _))) (fun e => e) (fun _ _ e => e)
      have HC : Hid (Calls Tryz.prog 44 #[.pointer (some ⟨ms[k].g, 0, none⟩), .int .i64 (n : Int)] w1.drew (PfTo ms'[k] { ms[k].f with bs := ms[k].f.bs.take n, sy := min ms[k].f.sy n } w1.drew)) := Lib.hid (by
        have := cut_pf ms'[k] n w1.drew hpd (by rw [hwe]; exact hfl.wf) (by rw [hwe]; omega)
        rw [hwe, hge] at this
        exact this)
      have HS : Hid (∀ e w2, PfTo ms'[k] { ms[k].f with bs := ms[k].f.bs.take n, sy := min ms[k].f.sy n } w1.drew e w2 → e = .returned (.tuple #[]) ∧ Calls Tryz.prog 45 #[.pointer (some ⟨ms[k].g, 0, none⟩)] w2 (fun e w3 => e = .returned (.tuple #[]) ∧
          w3.ranges Tryz.prog 9 ptrR bm w.heap.size nn D (fun z => left z && !z.sameKey (kS ms[k].f.nm)) cnt1 ∧ Hid (WkTo g bm ms d keep (fun z => left z && !z.sameKey (kS ms[k].f.nm)) w w3))) := Lib.hid (fun e w2 ⟨he, v1, p1, p2, p3⟩ => ⟨he, by
        have hsync := sync_pf ⟨ms'[k].g, v1, { ms[k].f with bs := ms[k].f.bs.take n, sy := min ms[k].f.sy n }⟩ w2 p1
        rw [show (⟨ms'[k].g, v1, { ms[k].f with bs := ms[k].f.bs.take n, sy := min ms[k].f.sy n }⟩ : Pf).g = ms[k].g from hge] at hsync
        refine hsync.mono fun e w3 ⟨he3, v2, r1, r2, r3⟩ => ⟨he3, ?_⟩
        simp only at r1 r2 r3
        have hfin := wake_fl keep ms[k].f n hnn hsy
        have r1' : PfIs w3 ⟨ms'[k].g, v2, wakeF keep ms[k].f⟩ := by
          rw [← hfin, hge]; exact r1
        have f13 : Frm (fun b => b = ms'[k].g) w1 w3 := ((Frm.of_below (F := fun b => b = ms'[k].g) (below_drew (Below.refl _ w1))).trans p2 (fun i hi => .inl hi)).trans r2 (fun i hi => .inl (hi.trans hge.symm))
        have vb : ∀ b, v2.ownBlock = some b → ms'[k].v.ownBlock = some b ∨ w1.heap.size ≤ b := fun b hb => by
          rcases r3 with e | e
          · rw [e] at hb
            rcases p3 with e' | e'
            · exact .inl (by rw [← e']; exact hb)
            · exact .inr (e' b hb)
          · have h1 := e b hb
            have h2 := p2.size
            have h3 : w1.drew.heap.size = w1.heap.size := rfl
            exact .inr (by omega)
        obtain ⟨a1, a2⟩ := hx1.setFile hk' (m' := ⟨ms'[k].g, v2, wakeF keep ms[k].f⟩) rfl (by show (wakeF keep ms[k].f).nm = ms'[k].f.nm; rw [hwe]; rfl) (f13.mono (fun b e => .inl e)) r1' vb
        have hups : d.fs.Pairwise (fun a b => sameN a.nm b.nm = false) := HK.out.up.imp (fun {a b} hab => (lessN_not hab).2.1)
        have hst := wkF_step (keep := keep) (left := left) hups hkd
        rw [hfe] at hst
        simp only [hst] at a1
        have hne : ∀ b, PG g bm ms' b → b ≠ w.heap.size := fun b hb e => hni (e ▸ hb)
        refine ⟨ranges_same hrg1 (f13.block bm hx1.map.lt (fun e => (hx1.g_ne.2 _ hmk).2.1 e.symm)) (f13.block w.heap.size hrg1.lt (fun e => hne _ (.inr (.inr ⟨_, hmk, .inl e⟩)) rfl)), Lib.hid ⟨_, a1, ?_, ?_, fun b hb => ?_⟩⟩
        · rw [List.map_set, q2]
          have : pfN ⟨ms'[k].g, v2, wakeF keep ms[k].f⟩ = (ms.map pfN)[k]'(by rw [List.length_map]; exact hk) := by
            rw [List.getElem_map]
            show ((wakeF keep ms[k].f).nm, ms'[k].g) = (ms[k].f.nm, ms[k].g)
            rw [hge]; rfl
          rw [this, List.set_getElem_self]
        · refine (q3.trans hF1 (fun i hi => .inr (by rw [hi]; exact Nat.le_refl _))).trans f13 (fun i hi => .inl (by rw [hi, hge]; exact .inr (.inr ⟨_, List.getElem_mem hk, .inl rfl⟩)))
        · rcases a2 b hb with e | e
          · exact q4 b e
          · exact .inr (by have h1 := q3.size; have h2 := hF1.size; omega)⟩)
      have HW := Lib.hid hrg1
      have HRO := Lib.hid hrg
      have HLT := Lib.hid hlt
      simp only [pfN] at hen
      generalize ms[k].f.bs.length = N at m0 w1e
      generalize ms[k].f.sy = sy at m1 w1e w2e
      generalize ms[k].g = gm at m0 m1 mf hen HC HS
      generalize (PfTo ms'[k] _ w1.drew) = T at HC HS
      clear hrg1 hrg hlt hs1 hF hF1 q1 q2 q3 q4 hlen hkd hfe hpe hge hwe hit hni hx1 hpf hfl hus hu hrm hsy hv hvl hvc hy hq hn hnn hpd hmk
      go_wp2_with fail
      go_region
      go_wp2_with (first
        | (go_at_call 44; refine HC.out.mono ?_; intro e w2 ht; obtain ⟨rfl, hsy2⟩ := HS.out _ _ ht; have HS2 := Lib.hid hsy2; clear hsy2 ht)
        | (go_at_call 45; refine HS2.out.mono ?_; rintro e w3 ⟨rfl, hr3, hW3⟩))
      go_roundw
      case rel => exact ⟨_, cnt1, hr3, hW3⟩
      case measure => rw [hr3.left_eq, HRO.out.left_eq]; exact HLT.out
end
end Go.Proofs.YtbdhhmhlcdganaaGreatDoor
namespace Go.Proofs.YtbdhhmhlcdganaaGreatDoor
open Go.RowKit
set_option linter.unusedVariables false
set_option maxRecDepth 100000

theorem zero_tx (m : Nat) : Builtin.zeroCells (Value.string ⟨#[]⟩).cells m = tblk (List.replicate m ⟨#[]⟩) := by
  have h := toList_madeCells_one (Value.string ⟨#[]⟩) m
  apply Array.toList_inj.1
  show (madeCells (Value.string ⟨#[]⟩).cells (m * 1)).toList = _
  rw [Nat.mul_one, show (Value.string ⟨#[]⟩).cells = #[Value.string ⟨#[]⟩] from rfl, h]
  simp [tblk]
theorem zeros_tx (m : Nat) : ∀ s ∈ List.replicate m (⟨#[]⟩ : ByteArray), s.size ≤ 1000 := fun s hs => by
  rw [List.eq_of_mem_replicate hs]; decide
theorem run_append_TK (w : World) (base : Nat) (v : Value) (l : List ByteArray) (hown : TkOwn w base v l) (ad : Addr) (c : Nat) (t : ByteArray) (hn : w.cell? ad = some (.string t)) (hb : l.length < 1000000) (hbase : base ≤ w.heap.size) :
    ∃ A' n' c' w', (∀ ty, (Builtin.append_ #[51, 51] ty #[v, .slice (some ad) 1 c]).run Tryz.prog w = .ok (.slice A' n' c') w') ∧ TkOwn w' base (.slice A' n' c') (l ++ [t]) ∧ Frm (fun b => v.ownBlock = some b) w w' := by
  obtain ⟨i, hi1, hz, hsz, hby⟩ := info_parts info_tx
  have hnews : ∀ j u, [Value.string t][j]? = some u → w.cell? (ad.add j) = some u := by
    intro j u hu
    cases j with
    | zero =>
      simp at hu
      subst hu
      have : ad.add 0 = ad := by simp [Addr.add]
      rw [this]; exact hn
    | succ j => simp at hu
  have hone : ∀ u ∈ [Value.string t], u.oneCell' = true := by
    intro u hu
    simp at hu
    subst hu; rfl
  have h63 : (9223372036854775807 : Nat) = maxLen := rfl
  rcases hown with ⟨rfl, rfl⟩ | ⟨g, n, cap, r, rfl, h2, h3, h4, h5, h6, h7, h8⟩
  · have hrun := fun ty => run_append_nil (P := Tryz.prog) w 51 ty 9 i _ Tryz.underlying51 hi1 hz ad 1 c [Value.string t] (by simp [hsz]) hnews (by omega) (by omega) (by rw [hby]; omega)
    have hge := grownCap_ge w 1 0 9
    refine ⟨_, _, _, _, hrun, .inr ⟨w.heap.size, 1, grownCap w 1 0 9, List.replicate (grownCap w 1 0 9 - 1) ⟨#[]⟩, rfl, hbase, rfl, ?_, hge, grownCap_le_maxLen w 1 0 9 (by unfold maxLen; omega), by simp; omega, zeros_tx _⟩, ⟨rfl, rfl, rfl, by simp, fun q hq _ => heap_alloc_old w.drew _ hq⟩⟩
    rw [zero_tx, show ([Value.string t].toArray ++ tblk (List.replicate (grownCap w 1 0 9 - 1) ⟨#[]⟩)) = tblk ([] ++ [t] ++ List.replicate (grownCap w 1 0 9 - 1) ⟨#[]⟩) by simp [tblk]]
    exact heap_alloc_new w.drew _
  · by_cases hroom : n + 1 ≤ cap
    · have hsz4 : (tblk (l ++ r)).size = cap := by rw [tblk_size, List.length_append]; exact h7
      have hrun := fun ty => run_append_room (P := Tryz.prog) w 51 ty 9 i Tryz.underlying51 hi1 g n cap (tblk (l ++ r)) h4 ad 1 c [Value.string t] (by simp [hsz]) hnews hone hroom (by rw [hsz4, hsz, Nat.mul_one]; simp; omega)
      refine ⟨_, _, _, _, hrun, .inr ⟨g, n + 1, cap, r.drop 1, rfl, h2, by rw [List.length_append, h3]; rfl, ?_, hroom, h6, by rw [List.length_append, List.length_drop]; simp; omega, fun x hx => h8 x (List.mem_of_mem_drop hx)⟩, ⟨rfl, rfl, rfl, by simp, fun q _ hq => setRow_other w g q _ (fun e => hq (by simp [Value.ownBlock, e]))⟩⟩
      have hcells : ((tblk (l ++ r)).toList.take (n * i.size) ++ [Value.string t] ++ (tblk (l ++ r)).toList.drop (n * i.size + [Value.string t].length)).toArray = tblk (l ++ [t] ++ r.drop 1) := by
        rw [hsz, Nat.mul_one]
        simp only [tblk, List.map_append, ← h3, List.length_singleton]
        congr 1
        rw [List.take_left' (by simp), ← List.drop_drop, List.drop_left' (by simp), List.map_drop]
        rfl
      rw [hcells]
      exact setRow_heap w g _ _ 9 _ h4
    · have holds : ∀ j u, (l.map Value.string)[j]? = some u → w.cell? ((⟨g, 0, none⟩ : Addr).add j) = some u := by
        intro j u hu
        have hj : j < l.length := by have := (List.getElem?_eq_some_iff.1 hu).1; simpa using this
        rw [Go.WideShapes.add_plain, Nat.zero_add, cell_of_row w g j _ _ _ h4, tblk_get _ _ (by rw [List.length_append]; omega), List.getElem_append_left hj]
        rw [List.getElem?_map, List.getElem?_eq_getElem hj] at hu
        exact hu
      have hrun := fun ty => run_append_grow (P := Tryz.prog) w 51 ty 9 i _ Tryz.underlying51 hi1 hz ⟨g, 0, none⟩ n cap (l.map Value.string) (by rw [hsz]; simp; omega) holds ad 1 c [Value.string t] (by simp [hsz]) hnews (by omega) (by omega) (growslice_fits (by omega) (by rw [hby]; omega))
      have hge := grownCap_ge w (n + 1) cap 9
      refine ⟨_, _, _, _, hrun, .inr ⟨w.heap.size, n + 1, grownCap w (n + 1) cap 9, List.replicate (grownCap w (n + 1) cap 9 - (n + 1)) ⟨#[]⟩, rfl, hbase, by rw [List.length_append, h3]; rfl, ?_, hge, grownCap_le_maxLen w (n + 1) cap 9 (by unfold maxLen; omega), by rw [List.length_append, List.length_replicate]; simp; omega, zeros_tx _⟩, ⟨rfl, rfl, rfl, by simp, fun q hq _ => heap_alloc_old w.drew _ hq⟩⟩
      rw [zero_tx, show ((l.map Value.string).toArray ++ [Value.string t].toArray ++ tblk (List.replicate (grownCap w (n + 1) cap 9 - (n + 1)) ⟨#[]⟩)) = tblk (l ++ [t] ++ List.replicate (grownCap w (n + 1) cap 9 - (n + 1)) ⟨#[]⟩) by simp [tblk]]
      exact heap_alloc_new w.drew _
end Go.Proofs.YtbdhhmhlcdganaaGreatDoor
namespace Go.Proofs.YtbdhhmhlcdganaaGreatDoor
open Go.RowKit Go.Maps Go.Sort
set_option linter.unusedVariables false
set_option maxRecDepth 100000

theorem gone_perm {l : List Pf} (nd : l.Pairwise (fun a b => sameN a.f.nm b.f.nm = false)) (left : Lit → Bool) {m : Pf} (hm : m ∈ l) (hl : left (kS m.f.nm) = true) :
    (gone (fun z => left z && !z.sameKey (kS m.f.nm)) l).Perm (m :: gone left l) := by
  have other : ∀ k : Pf, sameN k.f.nm m.f.nm = false → (left (kS k.f.nm) && !(kS k.f.nm).sameKey (kS m.f.nm)) = left (kS k.f.nm) := fun k hk => by
    rw [sameKey_ne (kS_ne hk)]; simp
  induction l with
  | nil => cases hm
  | cons a l ih =>
    obtain ⟨h1, h2⟩ := List.pairwise_cons.1 nd
    unfold gone at ih ⊢
    rcases List.mem_cons.1 hm with rfl | hm
    · have e : l.filter (fun k => !(left (kS k.f.nm) && !(kS k.f.nm).sameKey (kS m.f.nm))) = l.filter (fun k => !left (kS k.f.nm)) :=
        List.filter_congr (fun k hk => by rw [other k (by rw [sameN_comm]; exact h1 k hk)])
      rw [List.filter_cons, List.filter_cons, e]
      simp only [hl, WideAt.sameKey_self (kS_key _)]
      simp
    · have ih := ih h2 hm
      have ho := other a (h1 m hm)
      simp only at ih ho
      rw [List.filter_cons, List.filter_cons]
      simp only [ho]
      split
      · exact (List.Perm.cons a ih).trans (List.Perm.swap m a _)
      · exact ih
def byt (s : ByteArray) : List UInt8 := s.data.toList
theorem enc_byt (s : ByteArray) : encStr (byt s) = .string s := by unfold encStr byt; simp
theorem sort_names {l n : List ByteArray} (hp : l.Perm n) (hu : n.Pairwise (fun a b => lessN a b = true)) : ((l.map byt).mergeSort fun x y => decide (x ≤ y)) = n.map byt := by
  have h1 := mergeSort_of_perm (hp.map byt)
  have h2 : (n.map byt).mergeSort leB = n.map byt := by
    refine List.mergeSort_of_pairwise ?_
    rw [List.pairwise_map]
    refine hu.imp (fun {a b} hab => ?_)
    have := lessN_iff.1 hab
    rw [ByteArray.toList_eq, ByteArray.toList_eq] at this
    exact decide_eq_true (Std.le_of_lt this)
  exact h1.trans h2
theorem put_tblk (n m r : List ByteArray) (h : n.length = m.length) : putCells encStr 0 (n.map byt).toArray (tblk (m ++ r)) = tblk (n ++ r) := by
  apply Array.ext_getElem?
  intro j
  by_cases hj : j < n.length
  · rw [tblk_get _ _ (by rw [List.length_append]; omega), List.getElem_append_left hj]
    have : j < (tblk (m ++ r)).size := by rw [tblk_size, List.length_append]; omega
    simp [putCells, hj, this, enc_byt]
  · by_cases h2 : j < (m ++ r).length
    · have h3 : j < (n ++ r).length := by rw [List.length_append] at h2 ⊢; omega
      rw [tblk_get _ _ h3, List.getElem_append_right (by omega)]
      have h4 : (tblk (m ++ r))[j]? = some (.string (r[j - n.length]'(by rw [List.length_append] at h2; omega))) := by
        rw [tblk_get _ _ h2, List.getElem_append_right (by omega)]
        simp only [h]
      have h5 : j < (tblk (m ++ r)).size := by rw [tblk_size]; exact h2
      simp only [Array.getElem?_eq_getElem h5] at h4
      injection h4 with h4
      simp [putCells, hj, h5, h4]
    · have h3 : ¬ j < (n ++ r).length := by rw [List.length_append] at h2 ⊢; omega
      rw [Array.getElem?_eq_none (by simp [putCells, tblk_size]; simp at h2; omega), Array.getElem?_eq_none (by rw [tblk_size]; omega)]
theorem block_lt' {w : World} {b : Nat} {o : Obj} (h : w.heap[b]? = some o) : b < w.heap.size := (Array.getElem?_eq_some_iff.1 h).1
theorem TkOwn.lt {w : World} {base : Nat} {v : Value} {l : List ByteArray} (h : TkOwn w base v l) : ∀ b, v.ownBlock = some b → base ≤ b ∧ b < w.heap.size := by
  intro b hb
  rcases h with ⟨rfl, _⟩ | ⟨g', k', cap, r, rfl, h2, _, h4, _⟩
  · cases hb
  · injection hb with hb
    subst hb
    exact ⟨h2, block_lt' h4⟩
theorem sort_tk (v : Value) (l n : List ByteArray) (w : World) (base : Nat) (h : TkOwn w base v l) (hp : l.Perm n) (hu : n.Pairwise (fun a b => lessN a b = true)) (hl : l.length ≤ 1000000) (hb : base ≤ w.heap.size) :
    Calls Tryz.prog 53 #[v] w fun e w' => e = .returned (.tuple #[]) ∧ TkOwn w' base v n ∧ Below base w w' := by
  rcases h with ⟨rfl, rfl⟩ | ⟨g, k, cap, r, rfl, h2, h3, h4, h5, h6, h7, h8⟩
  · refine (Any.slices_Sort_string_none Tryz.sortStr none 0 w).mono fun e w' ⟨e1, e2⟩ => ⟨e1, ?_, ?_⟩
    · rw [← List.Perm.nil_eq hp]
      exact .inl ⟨rfl, rfl⟩
    · rw [e2]; exact Below.refl _ _
  · subst h3
    have hlen : n.length = l.length := hp.length_eq.symm
    have hH : Holds encStr w g 0 (l.map byt).toArray := holds_of_block h4 (by
      rw [List.length_map]
      simp only [tblk, List.map_append]
      rw [List.take_left' (by simp), List.map_map]
      exact List.map_congr_left (fun s _ => (enc_byt s).symm))
    have hc := Any.slices_Sort_string Tryz.sortStr g 0 cap (l.map byt) w hH (block_lt h4) (by rw [List.length_map]; omega)
    rw [List.length_map] at hc
    refine hc.mono fun e w' ⟨e1, nn, os, e2⟩ => ⟨e1, ?_, ?_⟩
    · rw [sort_names hp hu] at e2
      refine .inr ⟨g, l.length, cap, r, rfl, h2, hlen, ?_, h5, h6, by omega, h8⟩
      rw [e2, heap_sorted _ h4, put_tblk _ _ _ hlen]
    · rw [e2]
      exact Below.grown (Below.refl base w) (grownBy_sorted _) hb (fun j hj => by injection hj with hj; omega)

section
variable {w w' : World} {g bm : Nat} {ms ms1 : List Pf} {d : Dv}
def nmsP (l : List Pf) : List ByteArray := l.map (·.f.nm)
set_option maxHeartbeats 2000000 in
theorem names_pd (h : PDx w g bm ms d) (ok : Dv.Ok d) : Calls Tryz.prog 23 #[.pointer (some ⟨g, 0, none⟩)] w fun e w' => ∃ v, e = .returned v ∧ TkOwn w' w.heap.size v (namesD d) ∧ Below w.heap.size w w' := by
  obtain ⟨L, c0, c1, c2, c3, c4, cf, _⟩ := h.cells
  obtain ⟨D, hown, hi⟩ := h.map
  generalize (ms.map pfN).length = nn at hown
  have HI := Lib.hid hi
  have HNM : Hid (nmsP ms = namesD d) := Lib.hid (by unfold nmsP namesD; rw [← h.fs, List.map_map]; rfl)
  have HND := Lib.hid h.nds
  have HLN : Hid (ms.length ≤ 64) := Lib.hid (by rw [h.len]; exact ok.ln)
  have HUP : Hid ((namesD d).Pairwise (fun a b => lessN a b = true)) := Lib.hid (by unfold namesD; rw [List.pairwise_map]; exact ok.up)
  have HSZ : Hid (∀ m ∈ ms, m.f.nm.size ≤ 1000000) := Lib.hid (fun m hm => by
    have := ok_size (ok.fl m.f (by rw [← h.fs]; exact List.mem_map.2 ⟨m, hm, rfl⟩)).nm
    omega)
  clear h ok hi
  go_enter Tryz.func23, Tryz.ntmps23
  go_wp2_with (first
    | (at_range; refine wpList_range_own _ rfl _ 36 rfl 9 76 lawS Tryz.underlying36 _ bm _ _ rfl hown ?_; intro w0 hrg0 hg0 hs0)
    | go_in)
  go_frame
  have F0 : Hid (Frm (fun _ => False) w w0) := Lib.hid ⟨hg0.os, hg0.tape, hg0.output, hg0.size, fun k hk _ => hg0.block k hk (by simp)⟩
  clear hg0
  go_loopw [3, 4] (fun v _ wr => ∃ (left : Lit → Bool) (cnt : Nat), wr.ranges Tryz.prog 9 ptrR bm w.heap.size nn D left cnt ∧ Hid (∃ ss, TkOwn wr w.heap.size v ss ∧ ss.Perm (nmsP (gone left ms)) ∧ Frm (fun _ => False) w wr))
    (fun _ _ wr => wr.rangeLeft bm w.heap.size)
  case atStart =>
    refine ⟨_, _, hrg0, Lib.hid ⟨[], TkOwn.nil _ _, ?_, F0.out⟩⟩
    rw [gone_none (fun m hm => by rw [HI.out.has]; exact List.any_eq_true.2 ⟨pfN m, List.mem_map.2 ⟨m, hm, rfl⟩, sameN_refl _⟩)]
    exact List.Perm.refl _
  case round =>
    obtain ⟨left, cnt, hrg, hF⟩ := hrel
    go_wp2_with (first
      | (at_next; refine wpList_next_pm _ rfl _ rfl bm w.heap.size _ _ _ HI.out _ _ rfl hrg ?_ ?_)
      | go_in)
    · intro hl
      obtain ⟨ss, h1, h2, h3⟩ := hF.out
      rw [gone_all hl, HNM.out] at h2
      have hlen : ss.length ≤ 64 := by rw [h2.length_eq, ← HNM.out]; unfold nmsP; rw [List.length_map]; exact HLN.out
      have HS := Lib.hid (sort_tk _ ss (namesD d) wr w.heap.size h1 h2 HUP.out (by omega) h3.size)
      have H3 := Lib.hid (h3.below (Below.refl w.heap.size _) (Nat.le_refl _) (fun i hi => hi.elim))
      obtain ⟨A, c, hv⟩ := h1.letters
      subst hv
      clear h1 h2 h3 hF hl
      go_wp2_with (go_at_call 53; refine HS.out.mono ?_; rintro e w9 ⟨rfl, y1, y2⟩)
      go_ret
      exact ⟨_, rfl, y1, H3.out.trans y2⟩
    · intro m hm hl w1 cnt1 hrg1 hlt hF1 hs1 hen
      obtain ⟨ss, h1, h2, h3⟩ := hF.out
      have hl2 : left (kS m.f.nm) = true := hl
      have hpm := gone_perm HND.out left hm hl2
      have hlen : ss.length ≤ 64 := by
        rw [h2.length_eq]; unfold nmsP; rw [List.length_map]
        exact Nat.le_trans (List.length_filter_le _ _) HLN.out
      obtain ⟨im, is, isn, ic, hit⟩ := ranges_iter hrg
      have hvc : ∀ b, u3.ownBlock = some b → ∃ c, wr.heap[b]? = some (.cells c 9 (0, 0)) := fun b hb => by
        rcases h1 with ⟨rfl, _⟩ | ⟨g', k', cap, r, rfl, _, _, h4, _⟩
        · cases hb
        · injection hb with hb
          subst hb
          exact ⟨_, h4⟩
      have hvr : ∀ b, u3.ownBlock = some b → b ≠ w.heap.size := fun b hb e => by
        obtain ⟨c, hc⟩ := hvc b hb
        rw [e, hit] at hc; cases hc
      obtain ⟨es, clock, hbm⟩ : ∃ es clock, wr.heap[bm]? = some (.map es clock) := by
        obtain ⟨es, clock, _, _, _, hb, _⟩ := hrg
        exact ⟨es, clock, hb⟩
      have hvm : ∀ b, u3.ownBlock = some b → b ≠ bm := fun b hb => by
        obtain ⟨c, hc⟩ := hvc b hb
        exact cells_nm hc hbm
      have hk1 : TkOwn w1 w.heap.size u3 ss := h1.frm hF1 (fun b hb e => hvr b hb e)
      have hnsz := HSZ.out m hm
      have HCl : Hid (Calls Tryz.prog 52 #[.string m.f.nm] w1 fun e w' => e = .returned (.string m.f.nm) ∧ Below w1.heap.size w1 w') := Lib.hid (sclone_any _ w1 hnsz)
      have hsz1 : w.heap.size ≤ w1.heap.size := Nat.le_trans h3.size hF1.size
      have HAP : Hid (∀ wc, Below w1.heap.size w1 wc → ∃ A' n' c' w2, (∀ ty, (Builtin.append_ #[51, 51] ty #[u3, .slice (some ⟨wc.heap.size, 0, none⟩) 1 1]).run Tryz.prog (wc.alloc (.cells #[.string m.f.nm] 9)) = .ok (.slice A' n' c') w2) ∧
          w2.ranges Tryz.prog 9 ptrR bm w.heap.size nn D (fun z => left z && !z.sameKey (kS m.f.nm)) cnt1 ∧ Hid (∃ ss, TkOwn w2 w.heap.size (.slice A' n' c') ss ∧ ss.Perm (nmsP (gone (fun z => left z && !z.sameKey (kS m.f.nm)) ms)) ∧ Frm (fun _ => False) w w2)) := Lib.hid (fun wc hwc => by
        obtain ⟨bo, bc, bz⟩ := box_one wc (.string m.f.nm) 9
        have hb2 : Below w1.heap.size w1 (wc.alloc (.cells #[.string m.f.nm] 9)) := hwc.trans (bo.mono hwc.size)
        have hk2 : TkOwn (wc.alloc (.cells #[.string m.f.nm] 9)) w.heap.size u3 ss := hk1.frm (F := fun _ => False) (Frm.of_below hb2) (fun _ _ e => e)
        obtain ⟨A', n', c', w2, r1, r2, r3⟩ := run_append_TK (wc.alloc (.cells #[.string m.f.nm] 9)) w.heap.size u3 ss hk2 ⟨wc.heap.size, 0, none⟩ 1 m.f.nm bc (by omega) (Nat.le_trans hsz1 hb2.size)
        have f12 : Frm (fun b => u3.ownBlock = some b) w1 w2 := (Frm.of_below (F := fun b => u3.ownBlock = some b) hb2).trans r3 (fun i hi => .inl hi)
        have hb1 : bm < w1.heap.size := by
          have h1 : bm < wr.heap.size := block_lt' hbm
          have h2 := hF1.size
          omega
        refine ⟨A', n', c', w2, r1, ranges_same hrg1 (f12.block bm hb1 (fun e => hvm _ e rfl)) (f12.block w.heap.size hrg1.lt (fun e => hvr _ e rfl)), Lib.hid ⟨ss ++ [m.f.nm], r2, ?_, ?_⟩⟩
        · have e1 := hpm.map (fun m : Pf => m.f.nm)
          rw [List.map_cons] at e1
          exact ((List.perm_append_singleton _ _).trans (List.Perm.cons _ h2)).trans e1.symm
        · have hbase := fun b hb => (TkOwn.lt h1 b hb).1
          exact (h3.trans hF1 (fun i hi => .inr (by rw [hi]; exact Nat.le_refl _))).trans f12 (fun i hi => .inr (hbase i hi)))
      have HRO := Lib.hid hrg
      have HLT := Lib.hid hlt
      simp only [pfN] at hen
      obtain ⟨A, c, hv⟩ := h1.letters
      subst hv
      generalize m.f.nm = nm at *
      generalize m.g = gm at *
      clear hrg1 hrg hlt hs1 hF hF1 h1 h2 h3 hpm hlen hit hvc hvr hbm hvm hk1 hnsz hsz1 hl2
      go_wp2_with (first
        | (go_at_call 52; refine HCl.out.mono ?_; rintro e wc ⟨rfl, hbc⟩; obtain ⟨A', n', c', w2, hrun, hr3, hW3⟩ := HAP.out _ hbc; have HR3 := Lib.hid hr3; clear hr3 hbc)
        | (at_builtin; refine wpList_append_run _ rfl _ _ 51 rfl _ _ _ _ rfl rfl hrun ?_))
      go_roundw
      case rel => exact ⟨_, cnt1, HR3.out, hW3⟩
      case measure => rw [HR3.out.left_eq, HRO.out.left_eq]; exact HLT.out
end
end Go.Proofs.YtbdhhmhlcdganaaGreatDoor
namespace Go.Proofs.YtbdhhmhlcdganaaGreatDoor
open Go.RowKit
set_option linter.unusedVariables false
set_option maxRecDepth 100000

def LongTo (n : Nat) (l : List Opm) (w : World) (e : Ending) (w' : World) : Prop := ∃ b : Bool, e = .returned (.bool b) ∧ w = w' ∧ (b = false → n ≤ 200 ∧ ∀ j (hj : j < l.length), l[j].n ≤ 4096 ∧ l[j].nm.size ≤ 4096 ∧ l[j].tn.size ≤ 4096)
end Go.Proofs.YtbdhhmhlcdganaaGreatDoor
namespace Go.Proofs.YtbdhhmhlcdganaaGreatDoor
open Go.RowKit
set_option linter.unusedVariables false
set_option maxRecDepth 100000

def BothTo (D : DevP) (G1 G2 : Nat → Prop) (g1 g2 : Nat) (d : Dv) (w : World) (e : Ending) (w' : World) : Prop := e = .returned (.bool true) ∧ Twins D RDe G1 G2 g1 g2 d w w'

end Go.Proofs.YtbdhhmhlcdganaaGreatDoor
namespace Go.Proofs.YtbdhhmhlcdganaaGreatDoor
open Go.RowKit Go.Maps
set_option linter.unusedVariables false
set_option maxRecDepth 100000

theorem new_no12 (r : Int) (w : World) (hr : r < 0 ∨ 16777216 < r) : Calls Tryz.prog 9 #[.int .i64 r] w fun e w' => e = .returned (.tuple #[.pointer none, .int .i64 3]) ∧ Below w.heap.size w w' := by
  by_cases h1 : r < 0
  · go_enter Tryz.func9, Tryz.ntmps9
    go_wp2
    go_ret2
    exact ⟨rfl, Below.refl _ _⟩
  · have h2 : r > 16777216 := by omega
    go_enter Tryz.func9, Tryz.ntmps9
    go_wp2
    go_ret2
    exact ⟨rfl, Below.refl _ _⟩
theorem new_yes12 (r : Nat) (w : World) (hr : r ≤ 16777216) : Calls Tryz.prog 9 #[.int .i64 (r : Int)] w fun e w' => ∃ g G, e = .returned (.tuple #[.pointer (some ⟨g, 0, none⟩), .int .i64 0]) ∧ PDe w' G g (newD r) ∧ Below w.heap.size w w' ∧ ∀ b, G b → w.heap.size ≤ b := by
  have h1 : ¬ (r : Int) < 0 := by omega
  have h2 : ¬ (r : Int) > 16777216 := by omega
  have hmm := @run_makeMap Tryz.prog
  have hm := PMap.made w
  have bm := bel_alloc w (.map #[] 0)
  have zm : (w.alloc (.map #[] 0)).heap.size = w.heap.size + 1 := by simp
  have HQ : Hid (∃ g G, Ending.returned (.tuple #[.pointer (some ⟨w.heap.size + 1, 0, none⟩), .int .i64 0]) = Ending.returned (.tuple #[.pointer (some ⟨g, 0, none⟩), .int .i64 0]) ∧ PDe ((w.alloc (.map #[] 0)).alloc (.cells #[.bool false, .bool false, .int .i64 0, .int .i64 (r : Int), .map (some w.heap.size)] 38)) G g (newD r) ∧
      Below w.heap.size w ((w.alloc (.map #[] 0)).alloc (.cells #[.bool false, .bool false, .int .i64 0, .int .i64 (r : Int), .map (some w.heap.size)] 38)) ∧ ∀ b, G b → w.heap.size ≤ b) := Lib.hid (by
    have hb2 := bel_alloc (w.alloc (.map #[] 0)) (.cells #[.bool false, .bool false, .int .i64 0, .int .i64 (r : Int), .map (some w.heap.size)] 38)
    refine ⟨w.heap.size + 1, PG (w.heap.size + 1) w.heap.size [], rfl, ⟨w.heap.size, [], ⟨⟨0, ?_, fun e => absurd (show (0 : Int) ≤ -1 from e) (by decide), by omega, by omega⟩, hm.same (hb2.block _ (by omega)), fun m hm => absurd hm (by simp), rfl, List.Pairwise.nil⟩, fun b => Iff.rfl⟩, bm.trans (hb2.mono (by omega)), fun b hb => ?_⟩
    · have := heap_alloc_new (w.alloc (.map #[] 0)) (.cells #[.bool false, .bool false, .int .i64 0, .int .i64 (r : Int), .map (some w.heap.size)] 38)
      rw [zm] at this
      exact this
    · rcases hb with rfl | rfl | ⟨m, hm, _⟩
      · omega
      · exact Nat.le_refl _
      · exact absurd hm (by simp))
  clear hm bm zm
  go_enter Tryz.func9, Tryz.ntmps9
  go_wp2
  go_ret2
  obtain ⟨g, G, h1, h2, h3, h4⟩ := HQ.out
  exact ⟨g, h1, G, h2, h3, h4⟩
theorem devOk12z : DevOk0 PDe where
  dev := pde_dev
  sync s h ok := by
    obtain ⟨bm, ms, hx, hg⟩ := h
    exact (sync_pd s hx ok).mono fun e w' ⟨h1, h2⟩ => h1 ▸ h2.stp hg _
  truncate s n h ok _ := by
    obtain ⟨bm, ms, hx, hg⟩ := h
    exact (truncate_pd s n hx ok).mono fun e w' ⟨h1, h2⟩ => h1 ▸ h2.stp hg _
  remove s h ok := by
    obtain ⟨bm, ms, hx, hg⟩ := h
    exact (remove_pd s hx ok).mono fun e w' ⟨h1, h2⟩ => h1 ▸ h2.stp hg _
  append s A n c bs h ok hr hn _ _ hb hA := by
    obtain ⟨bm, ms, hx, hg⟩ := h
    exact (append_pd s A n c bs hx ok hr hn hb (fun a ha hp e => hA a ha hp ((hg _).1 e))).mono fun e w' ⟨h1, h2⟩ => h1 ▸ h2.stp hg _
  wake keep h ok _ := by
    obtain ⟨bm, ms, hx, hg⟩ := h
    exact (wake_pd keep hx ok).mono fun e w' ⟨h1, h2⟩ => h1 ▸ h2.stp hg _
  arm n h ok hn := by
    obtain ⟨bm, ms, hx, hg⟩ := h
    refine (arm_pd n hx hn).mono fun e w' ⟨h1, h2, h3⟩ => ?_
    subst h1
    exact PRes.stp hg ⟨ms, h2, h3.mono (fun b e => .inl e), fun b hb => .inl hb⟩ _
  names h ok := by
    obtain ⟨bm, ms, hx, hg⟩ := h
    exact names_pd hx ok
  read s h ok := by
    obtain ⟨bm, ms, hx, hg⟩ := h
    exact read_pd s hx ok
  used h ok := by
    obtain ⟨bm, ms, hx, hg⟩ := h
    exact used_pd hx (by have := ok.us; have := ok.rm; omega)
  free h ok := by
    obtain ⟨bm, ms, hx, hg⟩ := h
    exact free_pd hx ok
  down h ok := by
    obtain ⟨bm, ms, hx, hg⟩ := h
    exact (down_pd hx).mono fun e w' ⟨h1, h2⟩ => ⟨h1, by rw [h2]; exact Below.refl _ _⟩
  newNo := new_no12
  newYes := new_yes12
end Go.Proofs.YtbdhhmhlcdganaaGreatDoor
namespace Go.Proofs.YtbdhhmhlcdganaaGreatDoor
open Go.RowKit
set_option linter.unusedVariables false

theorem walk_SegsOpens (A : Option Addr) (n c : Nat) (l : List Lm) (SA : Option Addr) (sn sc : Nat) (ss : List Bool) (keep : Int) (CA : Option Addr) (cn cc : Nat) (cs : List Int) (w : World) (hr : VRow w w.heap.size A (flatV lmC l)) (hn : l.length = n) (hok : ∀ m ∈ l, Lm.Ok w w.heap.size m) (hnc : n ≤ c) (hb : c * 24 ≤ 140737488351232)
    (hsr : L.Row () w w.heap.size SA ss) (hsn : ss.length = sn) (hsc : sn ≤ sc) (hsb : sc ≤ 140737488351232) (wk : (Lit.int .i64 keep).wf = true) (hcr : Row .i64 w w.heap.size CA cs) (hcn : cs.length = cn) (hcc : cn ≤ cc) (hcb : cc ≤ 140737488351232) (gl : Gl w) :
    Calls Tryz.prog 4 #[.slice A n c, .slice SA sn sc, .int .i64 keep, .slice CA cn cc] w fun e w' => e = .returned (.bool true) ∧ Below w.heap.size w w' :=
  opens14_any (devG_of devOk12z) (logOk14 (devG_of devOk12z)) A n c l SA sn sc ss keep CA cn cc cs w hr hn (by omega) hok hsr hsn (by omega) (wf_i64 wk) hcr hcn (by omega) gl
end Go.Proofs.YtbdhhmhlcdganaaGreatDoor
namespace Go.Proofs.YtbdhhmhlcdganaaGreatDoor.segsOpens
open Go.ChangeShapes Go.WideShapes Go.ChangeAt Go.RowKit
open Go.ChangeMaps (open_string shut_string)
set_option linter.unusedVariables false

theorem own : ownKnob Tryz.prog.godebug = none := by kernel_rfl
theorem laidOut : laidOutB Tryz.prog = true := by kernel_rfl

set_option maxRecDepth 100000 in
theorem lifted (os : Os) (started : os.Started) (H : Type) (enc : TypeId × Value → H) :
    ReturnsInHanded {} Tryz.checked os 4 .any (fun w args => (Rows.segsOpensSpec.pre enc Tryz.prog Tryz.f4 [] false w args ∧ laidMetH Tryz.prog Rows.segsOpensRow.laid w) ∧ sizedMet enc Tryz.prog Tryz.f4 (OpenSpec.ofChange Rows.segsOpensSpec) false w args) (Rows.segsOpensSpec.post enc Tryz.prog Tryz.f4 false true false false) := by
  refine returnsInHanded_of_change_and (C := Tryz.checked) (X := fun w _ => laidMetH Tryz.prog Rows.segsOpensRow.laid w) (fun _ _ _ hh h => h.of_heap hh) own started (by kernel_rfl) Tryz.func4
    (ChangeSpec.witness_shaped (enc := enc) (C := Tryz.checked) (os := os) (X := fun w _ => laidMetH Tryz.prog Rows.segsOpensRow.laid w) false (World.doorLaid Tryz.prog 400 os) #[.slice none 0 0, .slice none 0 0, .int .i64 0, .slice none 0 0] 8 rfl (World.shaped_of_RefB (by kernel_rfl) (by kernel_rfl)) (by kernel_rfl) (by kernel_rfl) (by kernel_rfl) (door14 os _)) ?_
  intro W base args ds gs before hval0 hW hcnd hsz0 hL _
  have gl := gl_of hL
  have hsz : (DataW.weightsEach Tryz.prog (Tryz.f4.params.toList ++ Rows.segsOpensSpec.plain.varTypes Tryz.prog) (ds ++ gs)).all (· ≤ reachBytes) = true := hsz0
  clear hsz0
  have hval : ∀ (j : Nat) t v, Tryz.f4.params[j]? = some t → args[j]? = some v → Value.okWide Tryz.prog W .any base t v := hval0
  have hW' := hW
  obtain ⟨p, q, hA0, hV, rfl, hfz, hnd⟩ := hW
  have hA : DataW.TrodAll enc Tryz.prog W 0 (fun _ => true) true Tryz.f4.params.toList args.toList ds p := hA0
  rw [Tryz.params4] at hA hval hsz
  obtain ⟨v0, vs0, d0, ds0, p0, q0, hargs, rfl, rfl, h0, r0⟩ := trodAll_cons hA
  obtain ⟨v1, vs1, d1, ds1, p1, q1, rfl, rfl, rfl, h1, r1⟩ := trodAll_cons r0
  obtain ⟨v2, vs2, d2, ds2, p2, q2, rfl, rfl, rfl, h2, r2⟩ := trodAll_cons r1
  obtain ⟨v3, vs3, d3, ds3, p3, q3, rfl, rfl, rfl, h3, r3⟩ := trodAll_cons r2
  obtain ⟨rfl, rfl, rfl⟩ := trodAll_nil r3
  obtain rfl : args = #[v0, v1, v2, v3] := by cases args; simp_all
  obtain ⟨rfl, rfl⟩ := trodVars_none hV
  obtain ⟨a0, l0, c0, rfl⟩ := okWide_slice Tryz.underlying22 (hval 0 22 v0 rfl rfl)
  have k0 := h0
  have lt0 : ∀ x ∈ p0, x.block < W.heap.size := by obtain ⟨m, hm⟩ := k0; exact DataW.trod_lt m _ _ _ hm
  obtain ⟨x0, w0, n0, o0, s0, r0d⟩ := lists_in h0 lt0 (fun n hn => of_decide_eq_true (List.all_eq_true.1 hsz _ (DataW.weights_mem_each (j := 0) (t := 22) (d := d0) rfl rfl n hn)))
  have m0 := reach_lists hsz 0 rfl rfl r0d
  obtain ⟨a1, l1, c1, rfl⟩ := okWide_slice Tryz.underlying23 (hval 1 23 v1 rfl rfl)
  have k1 := h1
  have lt1 : ∀ x ∈ p1, x.block < W.heap.size := by obtain ⟨m, hm⟩ := k1; exact DataW.trod_lt m _ _ _ hm
  obtain ⟨x1, w1, n1, s1, r1d⟩ := L.row_in Tryz.underlying23 Tryz.underlying4 (by kernel_rfl) h1 lt1
  have m1 := reach_in hsz 1 rfl rfl Tryz.underlying23 (of_decide_eq_true (by kernel_rfl)) r1d
  obtain ⟨a2, rfl, rfl, rfl, w2⟩ := open_int Tryz.underlying3 (hval 2 3 v2 rfl rfl) h2
  obtain ⟨a3, l3, c3, rfl⟩ := okWide_slice Tryz.underlying45 (hval 3 45 v3 rfl rfl)
  have k3 := h3
  have lt3 : ∀ x ∈ p3, x.block < W.heap.size := by obtain ⟨m, hm⟩ := k3; exact DataW.trod_lt m _ _ _ hm
  obtain ⟨x3, w3, n3, s3, r3d⟩ := row_in Tryz.underlying45 Tryz.underlying3 (by kernel_rfl) h3 lt3
  have m3 := reach_in hsz 3 rfl rfl Tryz.underlying45 (of_decide_eq_true (by kernel_rfl)) r3d
  clear hA0 hval0
  refine (walk_SegsOpens a0 l0 c0 x0 a1 l1 c1 x1 a2 a3 l3 c3 x3 W w0 n0 o0 s0 m0 w1 n1 s1 m1 w2 w3 n3 s3 m3 gl).mono fun e W' ⟨he, bel⟩ => ?_
  subst he
  exact ⟨_, rfl, _, _, _, [], _, [], hW', trodAll_mk1 (shut_bool Tryz.underlying4 _), (trodAll_cons_mk (Below.trod laidOut (by kernel_rfl) (of_decide_eq_true (by kernel_rfl)) k0 bel lt0) (trodAll_cons_mk (Below.trod laidOut (by kernel_rfl) (of_decide_eq_true (by kernel_rfl)) k1 bel lt1) (trodAll_cons_mk (shut_int Tryz.underlying3 w2) (trodAll_cons_mk (Below.trod laidOut (by kernel_rfl) (of_decide_eq_true (by kernel_rfl)) k3 bel lt3) trodAll_mk0)))), rfl, bel.frame _, fun h => by cases h⟩

theorem over : Rows.segsOpensRow.holds Tryz.pinned (OpenSpec.ofChange Rows.segsOpensSpec) :=
  OpenClaim.holds_of_wide 4 Tryz.f4 rfl rfl rfl rfl rfl rfl rfl ⟨rfl, rfl, rfl, rfl, rfl⟩ rfl rfl rfl rfl rfl (by kernel_rfl) Tryz.func4 (by kernel_rfl)
    (of_decide_eq_true (by kernel_rfl)) (by unfold Func.isWrapper; first | (rw [if_pos (by decide +kernel)]; kernel_rfl) | (rw [if_neg (by decide +kernel)]; exact ⟨rfl, rfl⟩))
    (fun os started H enc _ => lifted os started H enc)

theorem proved : Rows.SegsOpensCardSaid :=
  Claim7.holds_tied_plain_at .later [] [.data, .data, .data, .sentinel, .sentinel] true Rows.segsOpensCard.stood.harness true
    over (fun _ h => by cases h) (by kernel_rfl) (fun _ h => by cases h) segsOpens_row_tie rfl ⟨rfl, rfl⟩ (by kernel_rfl) rfl
    (fun f fn hf hfn => by
      obtain rfl : f = 4 := Option.some.inj ((show Tryz.prog.funcNamed Rows.segsOpensRow.func = some 4 by kernel_rfl).symm.trans hf) |>.symm
      obtain rfl : fn = Tryz.f4 := (Option.some.inj (Tryz.func4.symm.trans hfn)).symm
      exact ⟨by kernel_rfl, fun j t ht => by
        rw [Tryz.params4] at ht
        have hm : t ∈ [22, 23, 3, 45] := by simpa using Array.mem_of_getElem? ht
        have hall : ([22, 23, 3, 45].all fun u => !Tryz.prog.wantsStandIn u) = true := by kernel_rfl
        exact (show Tryz.prog.wantsStandIn t = false by simpa using List.all_eq_true.1 hall t hm)⟩)
    (by kernel_rfl)
#print axioms proved
end Go.Proofs.YtbdhhmhlcdganaaGreatDoor.segsOpens
