/-
  Texts of the proof of DeviceLasts, joined.
-/
import Derived.Test.YtfclgjdlkcmnfaaJDeviceLastsD
import Derived.Test.YtfclgjdlkcmnfaaJDeviceLastsA
import Derived.Test.YtfclgjdlkcmnfaaJDeviceLastsC
import Derived.Test.YtfclgjdlkcmnfaaJDeviceLastsB
import Derived.Laws.Cover1
import Derived.Deep.CutRange
import Derived.Deep.RegionHeld3
import Derived.Sort.OwnSorted
import Derived.Shelf.Slices.In.SortNone
import Derived.Carry
import Derived.Test.YtfclgjdlkcmnfaaProg
import Derived.IntWalk
namespace Go.Proofs.Ytfclgjdlkcmnfaa
open Go.RowKit Go.Maps
set_option linter.unusedVariables false
set_option maxRecDepth 100000

def wkF (keep : Int) (left : Lit → Bool) (f : Fl) : Fl := bif left (kS f.nm) then f else wakeF keep f
theorem wkF_nm (keep : Int) (left : Lit → Bool) (f : Fl) : (wkF keep left f).nm = f.nm := by unfold wkF; cases left (kS f.nm) <;> rfl
theorem wkF_start {keep : Int} {left : Lit → Bool} {l : List Fl} (h : ∀ f ∈ l, left (kS f.nm) = true) : l.map (wkF keep left) = l := by
  conv => rhs; rw [← List.map_id l]
  exact List.map_congr_left (fun f hf => by unfold wkF; rw [h f hf]; rfl)
theorem wkF_end {keep : Int} {left : Lit → Bool} {l : List Fl} (h : ∀ kl, left kl = false) : l.map (wkF keep left) = l.map (wakeF keep) :=
  List.map_congr_left (fun f hf => by unfold wkF; rw [h]; rfl)
theorem wkF_step {keep : Int} {left : Lit → Bool} {l : List Fl} (hu : l.Pairwise (fun a b => sameN a.nm b.nm = false)) {k : Nat} (hk : k < l.length) :
    (l.map (wkF keep left)).set k (wakeF keep l[k]) = l.map (wkF keep (fun z => left z && !z.sameKey (kS l[k].nm))) := by
  apply List.ext_getElem
  · simp
  · intro i h1 h2
    have hi : i < l.length := by simpa using h2
    rw [List.getElem_set, List.getElem_map, List.getElem_map]
    split
    · rename_i e
      subst e
      unfold wkF
      simp only [WideAt.sameKey_self (kS_key _), Bool.not_true, Bool.and_false, cond_false]
    · rename_i e
      have hp := List.pairwise_iff_getElem.1 hu
      have hs : sameN l[i].nm l[k].nm = false := by
        rcases Nat.lt_or_gt_of_ne e with h | h
        · rw [sameN_comm]; exact hp k i hk hi h
        · exact hp i k hi hk h
      unfold wkF
      simp only [sameKey_ne (kS_ne hs), Bool.not_false, Bool.and_true]
theorem ranges_same {w w' : World} {b r n cnt : Nat} {D : DataW Unit} {left : Lit → Bool} (h : w.ranges Try.prog 9 ptrR b r n D left cnt) (hb : w'.heap[b]? = w.heap[b]?) (hr : w'.heap[r]? = w.heap[r]?) : w'.ranges Try.prog 9 ptrR b r n D left cnt := by
  obtain ⟨es, clock, since, seen, c0, h1, F, hs, hD, h2, rest⟩ := h
  exact ⟨es, clock, since, seen, c0, hb.trans h1, F, hs, hD, hr.trans h2, rest⟩
theorem max_lit (y : Int) : ∃ q : Nat, (∀ (ts : Array TypeId) (t : TypeId) (W : World), (Builtin.max_ ts t #[.int .i64 y, .int .i64 0]).run Try.prog W = .ok (.int .i64 (q : Int)) W) ∧ q = y.toNat := by
  refine ⟨y.toNat, fun ts t W => ?_, rfl⟩
  rw [run_max_int2]
  congr 2
  split <;> omega
section
variable {w w' : World} {g bm : Nat} {ms ms1 : List Pf} {d : Dv}
/-- A block of another kind is none of the device's. -/
theorem PDx.not_iter (h : PDx w g bm ms d) {r : Nat} {m : Option Nat} {s : Nat} {seen : Array Nat} {c : Nat} (hr : w.heap[r]? = some (.mapIter m s seen c)) : ¬ PG g bm ms r := by
  intro hb
  rcases hb with rfl | rfl | ⟨m, hm, rfl | hv⟩
  · obtain ⟨c, hc⟩ := h.gbox
    rw [hc] at hr; cases hr
  · obtain ⟨es, clock, hc⟩ := h.map.block
    rw [hc] at hr; cases hr
  · rw [(h.is m hm).box] at hr; cases hr
  · obtain ⟨c, hc⟩ := (h.is m hm).own.at_block hv
    rw [hc] at hr; cases hr
theorem ranges_iter {b r n cnt : Nat} {D : DataW Unit} {left : Lit → Bool} (h : w.ranges Try.prog 9 ptrR b r n D left cnt) : ∃ m s seen c, w.heap[r]? = some (.mapIter m s seen c) := by
  obtain ⟨es, clock, since, seen, c0, h1, F, hs, hD, h2, rest⟩ := h
  exact ⟨_, _, _, _, h2⟩
/-- What has been done so far. -/
def WkTo (g bm : Nat) (ms : List Pf) (d : Dv) (keep : Int) (left : Lit → Bool) (w wr : World) : Prop :=
  ∃ ms', PDx wr g bm ms' { d with fs := d.fs.map (wkF keep left) } ∧ ms'.map pfN = ms.map pfN ∧ Frm (PG g bm ms) w wr ∧ ∀ b, PG g bm ms' b → PG g bm ms b ∨ w.heap.size ≤ b
theorem wake_fl (keep : Int) (f : Fl) (n : Nat) (hn : n = f.sy + min keep.toNat (f.bs.length - f.sy)) (hs : f.sy ≤ f.bs.length) :
    ({ ({ f with bs := f.bs.take n, sy := min f.sy n } : Fl) with sy := (f.bs.take n).length } : Fl) = wakeF keep f := by
  unfold wakeF
  rw [List.length_take, Nat.min_eq_left (show f.sy ≤ n by omega), Nat.min_eq_left (show n ≤ f.bs.length by omega), ← hn]
set_option maxHeartbeats 2000000 in
theorem wake_pd (keep : Int) (h : PDx w g bm ms d) (ok : Dv.Ok d) : Calls Try.prog 27 #[.pointer (some ⟨g, 0, none⟩), .int .i64 keep] w fun e w' => e = .returned (.tuple #[]) ∧ PRes g bm ms (wakeD d keep) w w' := by
  obtain ⟨L, c0, c1, c2, c3, c4, cf, _⟩ := h.cells
  obtain ⟨D, hown, hi⟩ := h.map
  generalize (ms.map pfN).length = nn at hown
  have HI := Lib.hid hi
  have HH := Lib.hid h
  have HK := Lib.hid ok
  obtain ⟨K, hmax, hKK⟩ := max_lit keep
  have HKK := Lib.hid hKK
  clear h hi ok hKK
  go_enter Try.func27, Try.ntmps27
  go_wp2_with (first
    | (at_range; refine wpList_range_own _ rfl _ 38 rfl 9 66 lawS Try.underlying38 _ bm _ _ rfl hown ?_; intro w0 hrg0 hg0 hs0)
    | go_in)
  go_frame
  have F0 : Hid (WkTo g bm ms d keep (Maps.has D) w w0) := Lib.hid (by
    have f : Frm (fun _ => False) w w0 := ⟨hg0.os, hg0.tape, hg0.output, hg0.size, fun k hk _ => hg0.block k hk (by simp)⟩
    have e : d.fs.map (wkF keep (Maps.has D)) = d.fs := wkF_start (fun f hf => by
      rw [← HH.out.fs] at hf
      obtain ⟨m, hm, rfl⟩ := List.mem_map.1 hf
      rw [HI.out.has]
      exact List.any_eq_true.2 ⟨pfN m, List.mem_map.2 ⟨m, hm, rfl⟩, sameN_refl _⟩)
    refine ⟨ms, ?_, rfl, f.mono (fun b e => e.elim), fun b hb => .inl hb⟩
    rw [e]
    exact HH.out.frm f (fun _ _ e => e))
  clear hg0
  go_loopw [5, 6] (fun _ _ wr => ∃ (left : Lit → Bool) (cnt : Nat), wr.ranges Try.prog 9 ptrR bm w.heap.size nn D left cnt ∧ Hid (WkTo g bm ms d keep left w wr))
    (fun _ _ wr => wr.rangeLeft bm w.heap.size)
  case atStart => exact ⟨_, _, hrg0, F0⟩
  case round =>
    obtain ⟨left, cnt, hrg, hF⟩ := hrel
    go_wp2_with (first
      | (at_next; refine wpList_next_pm _ rfl _ rfl bm w.heap.size _ _ _ HI.out _ _ rfl hrg ?_ ?_)
      | go_in)
    · intro hl
      obtain ⟨ms', q1, q2, q3, q4⟩ := hF.out
      rw [wkF_end hl] at q1
      have HR := Lib.hid (restore_pd q1)
      obtain ⟨L', x0, x1, x2, x3, x4, xf, _⟩ := q1.cells
      have HQ : Hid (∀ w', PDx w' g bm ms' { ({ d with fs := d.fs.map (wakeF keep) } : Dv) with left := -1, off := false } → Frm (fun b => b = g) wr w' → PRes g bm ms (wakeD d keep) w w') := Lib.hid (fun w' a b => ⟨ms', a, q3.trans b (fun i hi => .inl (.inl hi)), q4⟩)
      clear hF q1 q2 q3 q4 hl
      go_wp2_with (go_at_call 63; refine HR.out.mono ?_; rintro e w9 ⟨rfl, y1, y2⟩)
      go_end0
      exact ⟨rfl, HQ.out _ y1 y2⟩
    · intro m hm hl w1 cnt1 hrg1 hlt hF1 hs1 hen
      obtain ⟨k, hk, rfl⟩ := List.mem_iff_getElem.1 hm
      obtain ⟨ms', q1, q2, q3, q4⟩ := hF.out
      have hlen : ms'.length = ms.length := by have := congrArg List.length q2; simpa using this
      have hk' : k < ms'.length := by omega
      have hkd : k < d.fs.length := by rw [← HH.out.len]; exact hk
      have hfe : d.fs[k] = ms[k].f := by simp only [← HH.out.fs, List.getElem_map]
      have hpe : pfN ms'[k] = pfN ms[k] := by
        have : (ms'.map pfN)[k]'(by rw [List.length_map]; exact hk') = (ms.map pfN)[k]'(by rw [List.length_map]; exact hk) := by simp only [q2]
        simpa using this
      have hge : ms'[k].g = ms[k].g := congrArg Prod.snd hpe
      have hwe : ms'[k].f = ms[k].f := by
        have e1 : (ms'.map (·.f))[k]'(by rw [List.length_map]; exact hk') = (d.fs.map (wkF keep left))[k]'(by rw [List.length_map]; exact hkd) := by simp only [q1.fs]
        rw [List.getElem_map, List.getElem_map, hfe] at e1
        rw [e1]
        unfold wkF
        rw [show left (kS ms[k].f.nm) = true from hl]
        rfl
      obtain ⟨im, is, isn, ic, hit⟩ := ranges_iter hrg
      have hni : ¬ PG g bm ms' w.heap.size := q1.not_iter hit
      have hx1 : PDx w1 g bm ms' { d with fs := d.fs.map (wkF keep left) } := q1.frm hF1 (fun b hb e => hni (e ▸ hb))
      have hmk := List.getElem_mem hk'
      have hpf := hx1.is _ hmk
      have hfl := HK.out.fl _ (List.getElem_mem hkd)
      have hus := used_mem (List.getElem_mem hkd)
      have hu := HK.out.us
      have hrm := HK.out.rm
      rw [hfe] at hfl hus
      have hsy := hfl.sy
      obtain ⟨m0, m1, mf⟩ := hpf.cells
      obtain ⟨A, c, hv, hvl, hvc⟩ := hpf.own.val
      rw [hv] at m0
      rw [hwe, hge] at m0
      rw [hwe, hge] at m1
      rw [hge] at mf
      obtain ⟨y, hy⟩ : ∃ y, y = ms[k].f.bs.length - ms[k].f.sy := ⟨_, rfl⟩
      obtain ⟨q, hmin, hq⟩ := min_lit K y
      obtain ⟨n, hn⟩ : ∃ n, n = ms[k].f.sy + q := ⟨_, rfl⟩
      have w1e : IntKind.i64.wrap ((ms[k].f.bs.length : Int) - (ms[k].f.sy : Int)) = (y : Int) := by rw [IntKind.wrap_i64]; omega
      have w2e : IntKind.i64.wrap ((ms[k].f.sy : Int) + (q : Int)) = (n : Int) := by rw [IntKind.wrap_i64]; omega
      have hnn : n = ms[k].f.sy + min keep.toNat (ms[k].f.bs.length - ms[k].f.sy) := by rw [hn, hq, hy, HKK.out]
      have hpd : PfIs w1.drew ms'[k] := hpf.frm (F := fun _ => False) (Frm.of_below (below_drew (Below.refl _ _))) (fun e => e) (fun _ _ e => e)
      have HC : Hid (Calls Try.prog 62 #[.pointer (some ⟨ms[k].g, 0, none⟩), .int .i64 (n : Int)] w1.drew (PfTo ms'[k] { ms[k].f with bs := ms[k].f.bs.take n, sy := min ms[k].f.sy n } w1.drew)) := Lib.hid (by
        have := cut_pf ms'[k] n w1.drew hpd (by rw [hwe]; exact hfl.wf) (by rw [hwe]; omega)
        rw [hwe, hge] at this
        exact this)
      have HS : Hid (∀ e w2, PfTo ms'[k] { ms[k].f with bs := ms[k].f.bs.take n, sy := min ms[k].f.sy n } w1.drew e w2 → e = .returned (.tuple #[]) ∧ Calls Try.prog 61 #[.pointer (some ⟨ms[k].g, 0, none⟩)] w2 (fun e w3 => e = .returned (.tuple #[]) ∧
          w3.ranges Try.prog 9 ptrR bm w.heap.size nn D (fun z => left z && !z.sameKey (kS ms[k].f.nm)) cnt1 ∧ Hid (WkTo g bm ms d keep (fun z => left z && !z.sameKey (kS ms[k].f.nm)) w w3))) := Lib.hid (fun e w2 ⟨he, v1, p1, p2, p3⟩ => ⟨he, by
        have hsync := sync_pf ⟨ms'[k].g, v1, { ms[k].f with bs := ms[k].f.bs.take n, sy := min ms[k].f.sy n }⟩ w2 p1
        rw [show (⟨ms'[k].g, v1, { ms[k].f with bs := ms[k].f.bs.take n, sy := min ms[k].f.sy n }⟩ : Pf).g = ms[k].g from hge] at hsync
        refine hsync.mono fun e w3 ⟨he3, v2, r1, r2, r3⟩ => ⟨he3, ?_⟩
        simp only at r1 r2 r3
        have hfin := wake_fl keep ms[k].f n hnn hsy
        have r1' : PfIs w3 ⟨ms'[k].g, v2, wakeF keep ms[k].f⟩ := by
          rw [← hfin, hge]; exact r1
        have f13 : Frm (fun b => b = ms'[k].g) w1 w3 := ((Frm.of_below (F := fun b => b = ms'[k].g) (below_drew (Below.refl _ w1))).trans p2 (fun i hi => .inl hi)).trans r2 (fun i hi => .inl (hi.trans hge.symm))
        have vb : ∀ b, v2.ownBlock = some b → ms'[k].v.ownBlock = some b ∨ w1.heap.size ≤ b := fun b hb => by
          rcases r3 with e | e
          · rw [e] at hb
            rcases p3 with e' | e'
            · exact .inl (by rw [← e']; exact hb)
            · exact .inr (e' b hb)
          · have h1 := e b hb
            have h2 := p2.size
            have h3 : w1.drew.heap.size = w1.heap.size := rfl
            exact .inr (by omega)
        obtain ⟨a1, a2⟩ := hx1.setFile hk' (m' := ⟨ms'[k].g, v2, wakeF keep ms[k].f⟩) rfl (by show (wakeF keep ms[k].f).nm = ms'[k].f.nm; rw [hwe]; rfl) (f13.mono (fun b e => .inl e)) r1' vb
        have hups : d.fs.Pairwise (fun a b => sameN a.nm b.nm = false) := HK.out.up.imp (fun {a b} hab => (lessN_not hab).2.1)
        have hst := wkF_step (keep := keep) (left := left) hups hkd
        rw [hfe] at hst
        simp only [hst] at a1
        have hne : ∀ b, PG g bm ms' b → b ≠ w.heap.size := fun b hb e => hni (e ▸ hb)
        refine ⟨ranges_same hrg1 (f13.block bm hx1.map.lt (fun e => (hx1.g_ne.2 _ hmk).2.1 e.symm)) (f13.block w.heap.size hrg1.lt (fun e => hne _ (.inr (.inr ⟨_, hmk, .inl e⟩)) rfl)), Lib.hid ⟨_, a1, ?_, ?_, fun b hb => ?_⟩⟩
        · rw [List.map_set, q2]
          have : pfN ⟨ms'[k].g, v2, wakeF keep ms[k].f⟩ = (ms.map pfN)[k]'(by rw [List.length_map]; exact hk) := by
            rw [List.getElem_map]
            show ((wakeF keep ms[k].f).nm, ms'[k].g) = (ms[k].f.nm, ms[k].g)
            rw [hge]; rfl
          rw [this, List.set_getElem_self]
        · refine (q3.trans hF1 (fun i hi => .inr (by rw [hi]; exact Nat.le_refl _))).trans f13 (fun i hi => .inl (by rw [hi, hge]; exact .inr (.inr ⟨_, List.getElem_mem hk, .inl rfl⟩)))
        · rcases a2 b hb with e | e
          · exact q4 b e
          · exact .inr (by have h1 := q3.size; have h2 := hF1.size; omega)⟩)
      have HW := Lib.hid hrg1
      have HRO := Lib.hid hrg
      have HLT := Lib.hid hlt
      simp only [pfN] at hen
      generalize ms[k].f.bs.length = N at m0 w1e
      generalize ms[k].f.sy = sy at m1 w1e w2e
      generalize ms[k].g = gm at m0 m1 mf hen HC HS
      generalize (PfTo ms'[k] _ w1.drew) = T at HC HS
      clear hrg1 hrg hlt hs1 hF hF1 q1 q2 q3 q4 hlen hkd hfe hpe hge hwe hit hni hx1 hpf hfl hus hu hrm hsy hv hvl hvc hy hq hn hnn hpd hmk
      go_wp2_with fail
      go_region
      go_wp2_with (first
        | (go_at_call 62; refine HC.out.mono ?_; intro e w2 ht; obtain ⟨rfl, hsy2⟩ := HS.out _ _ ht; have HS2 := Lib.hid hsy2; clear hsy2 ht)
        | (go_at_call 61; refine HS2.out.mono ?_; rintro e w3 ⟨rfl, hr3, hW3⟩))
      go_roundw
      case rel => exact ⟨_, cnt1, hr3, hW3⟩
      case measure => rw [hr3.left_eq, HRO.out.left_eq]; exact HLT.out
end
end Go.Proofs.Ytfclgjdlkcmnfaa
namespace Go.Proofs.Ytfclgjdlkcmnfaa
open Go.RowKit
set_option linter.unusedVariables false
set_option maxRecDepth 100000

/-- What long tells. -/
def LongTo (n : Nat) (l : List Opm) (w : World) (e : Ending) (w' : World) : Prop := ∃ b : Bool, e = .returned (.bool b) ∧ w = w' ∧ (b = false → n ≤ 200 ∧ ∀ j (hj : j < l.length), l[j].n ≤ 4096 ∧ l[j].nm.size ≤ 4096 ∧ l[j].tn.size ≤ 4096)
theorem long_any (A : Option Addr) (n c : Nat) (l : List Opm) (w : World) (hr : VRow w w.heap.size A (flatV opC l)) (hn : l.length = n) (hb : n ≤ 4611686018427387904) :
    Calls Try.prog 18 #[.slice A n c] w (LongTo n l w) := by
  by_cases hbig : (n : Int) > 200
  · clear hr
    go_enter Try.func18, Try.ntmps18
    go_wp2
    go_ret
    exact ⟨true, rfl, rfl, fun h => nomatch h⟩
  have HN := Lib.hid hn
  have HR := Lib.hid hr
  have hn2 : n ≤ 200 := by omega
  clear hn hr hb
  go_enter Try.func18, Try.ntmps18
  go_wp2
  go_loop [3] (fun i => ∃ k : Nat, k ≤ n ∧ i = .int .i64 k ∧ Hid (∀ j (hj : j < l.length), j < k → l[j].n ≤ 4096 ∧ l[j].nm.size ≤ 4096 ∧ l[j].tn.size ≤ 4096)) (fun i => n - (intOf i).toNat)
  case atStart => exact ⟨0, by omega, rfl, Lib.hid (fun j _ hj => absurd hj (by omega))⟩
  case round =>
    obtain ⟨k, hk, rfl, hall⟩ := hrel
    by_cases hlt : k < n
    · have hkl : k < l.length := by have := HN.out; omega
      obtain ⟨b, o, rfl, hb1, hc⟩ := HR.out.elem opC_len (by omega) hkl
      have c1 := hc 1 _ rfl
      have c2 := hc 2 _ rfl
      have c3 := hc 3 _ rfl
      have HNX : Hid (l[k].n ≤ 4096 ∧ l[k].nm.size ≤ 4096 ∧ l[k].tn.size ≤ 4096 → ∀ j (hj : j < l.length), j < k + 1 → l[j].n ≤ 4096 ∧ l[j].nm.size ≤ 4096 ∧ l[j].tn.size ≤ 4096) := Lib.hid (fun h j hj hj2 => by
        by_cases e : j = k
        · subst e; exact h
        · exact hall.out j hj (by omega))
      clear hc hb1
      generalize l[k] = t at *
      obtain ⟨ki, nm, tn, A', n', c', N', bs'⟩ := t
      simp only at c1 c2 c3
      by_cases g1 : (n' : Int) > 4096
      · go_wp2
        go_ret
        exact ⟨true, rfl, rfl, fun h => nomatch h⟩
      by_cases g2 : (nm.size : Int) > 4096
      · go_wp2
        go_ret
        exact ⟨true, rfl, rfl, fun h => nomatch h⟩
      by_cases g3 : (tn.size : Int) > 4096
      · go_wp2
        go_ret
        exact ⟨true, rfl, rfl, fun h => nomatch h⟩
      go_wp2
      go_round
      case rel => exact ⟨k + 1, by omega, by go_num, Lib.hid (HNX.out ⟨by show n' ≤ _; omega, by show nm.size ≤ _; omega, by show tn.size ≤ _; omega⟩)⟩
      case measure => simp [intOf]; omega
    · obtain rfl : k = n := by omega
      go_wp2
      go_ret
      exact ⟨false, rfl, rfl, fun _ => ⟨hn2, fun j hj => hall.out j hj (by have := HN.out; omega)⟩⟩
end Go.Proofs.Ytfclgjdlkcmnfaa
namespace Go.Proofs.Ytfclgjdlkcmnfaa
open Go.RowKit
set_option linter.unusedVariables false
set_option maxRecDepth 100000

/-- What is known of the program's device. -/
structure DevOk (D : DevP) : Prop where
  dev : Dev D
  sync : ∀ {w : World} {G : Nat → Prop} {g : Nat} {d : Dv} (s : ByteArray), D w G g d → Dv.Ok d → Calls Try.prog 26 #[.pointer (some ⟨g, 0, none⟩), .string s] w (Stp D G g (syncD d s).1 (.int .i64 (syncD d s).2) w)
  truncate : ∀ {w : World} {G : Nat → Prop} {g : Nat} {d : Dv} (s : ByteArray) (n : Int), D w G g d → Dv.Ok d → -9223372036854775808 ≤ n ∧ n < 9223372036854775808 → Calls Try.prog 41 #[.pointer (some ⟨g, 0, none⟩), .string s, .int .i64 n] w (Stp D G g (truncD d s n).1 (.int .i64 (truncD d s n).2) w)
  rename : ∀ {w : World} {G : Nat → Prop} {g : Nat} {d : Dv} (s u : ByteArray), D w G g d → Dv.Ok d → Calls Try.prog 31 #[.pointer (some ⟨g, 0, none⟩), .string s, .string u] w (Stp D G g (renD d s u).1 (.int .i64 (renD d s u).2) w)
  remove : ∀ {w : World} {G : Nat → Prop} {g : Nat} {d : Dv} (s : ByteArray), D w G g d → Dv.Ok d → Calls Try.prog 44 #[.pointer (some ⟨g, 0, none⟩), .string s] w (Stp D G g (remD d s).1 (.int .i64 (remD d s).2) w)
  append : ∀ {w : World} {G : Nat → Prop} {g : Nat} {d : Dv} (s : ByteArray) (A : Option Addr) (n c : Nat) (bs : List Int), D w G g d → Dv.Ok d → Row .u8 w w.heap.size A bs → bs.length = n → n ≤ c → c ≤ 140737488355328 → n ≤ 100000000 → (∀ a, A = some a → 0 < n → ¬ G a.block) → Calls Try.prog 25 #[.pointer (some ⟨g, 0, none⟩), .string s, .slice A n c] w (Stp D G g (appD d s bs).1 (.int .i64 (appD d s bs).2) w)
  wake : ∀ {w : World} {G : Nat → Prop} {g : Nat} {d : Dv} (keep : Int), D w G g d → Dv.Ok d → -9223372036854775808 ≤ keep ∧ keep < 9223372036854775808 → Calls Try.prog 27 #[.pointer (some ⟨g, 0, none⟩), .int .i64 keep] w (Stp D G g (wakeD d keep) (.tuple #[]) w)
  arm : ∀ {w : World} {G : Nat → Prop} {g : Nat} {d : Dv} (n : Int), D w G g d → Dv.Ok d → -9223372036854775808 ≤ n ∧ n < 9223372036854775808 → Calls Try.prog 23 #[.pointer (some ⟨g, 0, none⟩), .int .i64 n] w (Stp D G g (armD d n) (.tuple #[]) w)
  names : ∀ {w : World} {G : Nat → Prop} {g : Nat} {d : Dv}, D w G g d → Dv.Ok d → Calls Try.prog 16 #[.pointer (some ⟨g, 0, none⟩)] w fun e w' => ∃ v, e = .returned v ∧ TkOwn w' w.heap.size v (namesD d) ∧ Below w.heap.size w w'
  read : ∀ {w : World} {G : Nat → Prop} {g : Nat} {d : Dv} (s : ByteArray), D w G g d → Dv.Ok d → Calls Try.prog 13 #[.pointer (some ⟨g, 0, none⟩), .string s] w fun e w' => ∃ v, e = .returned (.tuple #[v, .int .i64 (readE d s)]) ∧ KOwn .u8 5 w' w.heap.size v (readL d s) ∧ Below w.heap.size w w'
  used : ∀ {w : World} {G : Nat → Prop} {g : Nat} {d : Dv}, D w G g d → Dv.Ok d → Calls Try.prog 15 #[.pointer (some ⟨g, 0, none⟩)] w fun e w' => e = .returned (.int .i64 (usedD d.fs : Nat)) ∧ Below w.heap.size w w'
  free : ∀ {w : World} {G : Nat → Prop} {g : Nat} {d : Dv}, D w G g d → Dv.Ok d → Calls Try.prog 14 #[.pointer (some ⟨g, 0, none⟩)] w fun e w' => e = .returned (.int .i64 ((d.room : Int) - usedD d.fs)) ∧ Below w.heap.size w w'
  down : ∀ {w : World} {G : Nat → Prop} {g : Nat} {d : Dv}, D w G g d → Dv.Ok d → Calls Try.prog 17 #[.pointer (some ⟨g, 0, none⟩)] w fun e w' => e = .returned (.bool d.off) ∧ Below w.heap.size w w'
  newNo : ∀ (r : Int) (w : World), r < 0 ∨ 16777216 < r → Calls Try.prog 10 #[.int .i64 r] w fun e w' => e = .returned (.tuple #[.pointer none, .int .i64 3]) ∧ Below w.heap.size w w'
  newYes : ∀ (r : Nat) (w : World), r ≤ 16777216 → Calls Try.prog 10 #[.int .i64 r] w fun e w' => ∃ g G, e = .returned (.tuple #[.pointer (some ⟨g, 0, none⟩), .int .i64 0]) ∧ D w' G g (newD r) ∧ Below w.heap.size w w' ∧ ∀ b, G b → w.heap.size ≤ b
theorem Frm.cell {F : Nat → Prop} {w w' : World} (h : Frm F w w') {b o : Nat} (hb : b < w.heap.size) (hn : ¬ F b) : w'.cell? ⟨b, o, none⟩ = w.cell? ⟨b, o, none⟩ := World.cell?_of_block (h.block b hb hn)

/-- What both makes. -/
def BothTo (D : DevP) (G1 G2 : Nat → Prop) (g1 g2 : Nat) (d : Dv) (w : World) (e : Ending) (w' : World) : Prop := e = .returned (.bool true) ∧ Twins D RDe G1 G2 g1 g2 d w w'

set_option maxHeartbeats 1000000 in
theorem both_sync {D : DevP} (X : DevOk D) (nm tn : ByteArray) (A : Option Addr) (n c : Nat) (N : Int) {w : World} {G1 G2 : Nat → Prop} {g1 g2 : Nat} {d : Dv} (h : Twin D RDe w G1 G2 g1 g2 d) (ok : Dv.Ok d) :
    Calls Try.prog 19 #[.pointer (some ⟨g1, 0, none⟩), .pointer (some ⟨g2, 0, none⟩), .agg #[.int .i64 1, .string nm, .string tn, .slice A n c, .int .i64 N]] w (BothTo D G1 G2 g1 g2 (syncD d nm).1 w) := by
  have hx := heap_alloc_new w (.cells #[.int .i64 1, .string nm, .string tn, .slice A n c, .int .i64 N] 46)
  have FB : Frm (fun _ => False) w (w.alloc (.cells #[.int .i64 1, .string nm, .string tn, .slice A n c, .int .i64 N] 46)) := Frm.of_below (bel_alloc w _)
  have hsz : w.heap.size < (w.alloc (.cells #[.int .i64 1, .string nm, .string tn, .slice A n c, .int .i64 N] 46)).heap.size := by simp
  have c0 := cell_of_row _ w.heap.size 0 _ _ _ hx
  have c1 := cell_of_row _ w.heap.size 1 _ _ _ hx
  have n1 : ¬ G1 w.heap.size := fun e => Nat.lt_irrefl _ (X.dev.lt h.one _ e)
  have n2 : ¬ G2 w.heap.size := fun e => Nat.lt_irrefl _ (rde_dev.lt h.two _ e)
  have l1 := X.dev.lt h.one
  have l2 := rde_dev.lt h.two
  obtain ⟨d', hd'⟩ : ∃ d', (syncD d nm).1 = d' := ⟨_, rfl⟩
  obtain ⟨E, hE⟩ : ∃ E, (syncD d nm).2 = E := ⟨_, rfl⟩
  have HP : Hid (∀ W, Frm G2 w W → Calls Try.prog 26 #[.pointer (some ⟨g1, 0, none⟩), .string nm] W (Stp D G1 g1 d' (.int .i64 E) W)) := Lib.hid (fun W hW => by
    rw [← hd', ← hE]; exact X.sync nm (X.dev.frm h.one hW (fun b hb => h.off b hb)) ok)
  have HR : Hid (∀ W, Frm G1 w W → Calls Try.prog 40 #[.pointer (some ⟨g2, 0, none⟩), .string nm] W (Stp RDe G2 g2 d' (.int .i64 E) W)) := Lib.hid (fun W hW => by
    rw [← hd', ← hE]; exact refSync_s nm (rde_dev.frm h.two hW (fun b hb h1 => h.off b h1 hb)) ok)
  rw [hd']
  have H := Lib.hid h
  have XD := Lib.hid X.dev
  clear hd' hE h ok X hx
  generalize hwb : w.alloc (.cells #[.int .i64 1, .string nm, .string tn, .slice A n c, .int .i64 N] 46) = wb at *
  go_enter Try.func19, Try.ntmps19
  have FBd : Frm (fun _ => False) w wb.drew := FB.drew
  have FB1 : Frm G1 w wb.drew := FBd.mono (fun b hb => hb.elim)
  have FB2 : Frm G2 w wb.drew := FBd.mono (fun b hb => hb.elim)
  go_wp2_with fail
  go_region_with (first
    | (go_at_call 26; refine (HP.out _ FB2).mono ?_; rintro e wp ⟨rfl, GP, SP⟩; have cP : wp.cell? ⟨w.heap.size, 1, none⟩ = some (.string nm) := (SP.2.1.cell hsz n1).trans c1; have FR : Frm G1 w wp := FB1.trans SP.2.1 (fun i hi => .inl hi))
    | (go_at_call 40; refine (HR.out _ FR).mono ?_; rintro e wr ⟨rfl, GR, SR⟩))
  all_goals
    (try go_wp2)
    go_ret
    exact ⟨rfl, H.out.steps XD.out rde_dev FBd SP (Frm.refl _ _) SR (Frm.refl _ _)⟩
set_option maxHeartbeats 1000000 in
theorem both_truncate {D : DevP} (X : DevOk D) (nm tn : ByteArray) (A : Option Addr) (n c : Nat) (N : Int) {w : World} {G1 G2 : Nat → Prop} {g1 g2 : Nat} {d : Dv} (h : Twin D RDe w G1 G2 g1 g2 d) (ok : Dv.Ok d) (hN : -9223372036854775808 ≤ N ∧ N < 9223372036854775808) :
    Calls Try.prog 19 #[.pointer (some ⟨g1, 0, none⟩), .pointer (some ⟨g2, 0, none⟩), .agg #[.int .i64 2, .string nm, .string tn, .slice A n c, .int .i64 N]] w (BothTo D G1 G2 g1 g2 (truncD d nm N).1 w) := by
  have hx := heap_alloc_new w (.cells #[.int .i64 2, .string nm, .string tn, .slice A n c, .int .i64 N] 46)
  have FB : Frm (fun _ => False) w (w.alloc (.cells #[.int .i64 2, .string nm, .string tn, .slice A n c, .int .i64 N] 46)) := Frm.of_below (bel_alloc w _)
  have hsz : w.heap.size < (w.alloc (.cells #[.int .i64 2, .string nm, .string tn, .slice A n c, .int .i64 N] 46)).heap.size := by simp
  have c0 := cell_of_row _ w.heap.size 0 _ _ _ hx
  have c1 := cell_of_row _ w.heap.size 1 _ _ _ hx
  have c4 := cell_of_row _ w.heap.size 4 _ _ _ hx
  have n1 : ¬ G1 w.heap.size := fun e => Nat.lt_irrefl _ (X.dev.lt h.one _ e)
  have n2 : ¬ G2 w.heap.size := fun e => Nat.lt_irrefl _ (rde_dev.lt h.two _ e)
  have l1 := X.dev.lt h.one
  have l2 := rde_dev.lt h.two
  obtain ⟨d', hd'⟩ : ∃ d', (truncD d nm N).1 = d' := ⟨_, rfl⟩
  obtain ⟨E, hE⟩ : ∃ E, (truncD d nm N).2 = E := ⟨_, rfl⟩
  have HP : Hid (∀ W, Frm G2 w W → Calls Try.prog 41 #[.pointer (some ⟨g1, 0, none⟩), .string nm, .int .i64 N] W (Stp D G1 g1 d' (.int .i64 E) W)) := Lib.hid (fun W hW => by
    rw [← hd', ← hE]; exact X.truncate nm N (X.dev.frm h.one hW (fun b hb => h.off b hb)) ok hN)
  have HR : Hid (∀ W, Frm G1 w W → Calls Try.prog 42 #[.pointer (some ⟨g2, 0, none⟩), .string nm, .int .i64 N] W (Stp RDe G2 g2 d' (.int .i64 E) W)) := Lib.hid (fun W hW => by
    rw [← hd', ← hE]; exact refTruncate_s nm N (rde_dev.frm h.two hW (fun b hb h1 => h.off b h1 hb)) ok)
  rw [hd']
  have H := Lib.hid h
  have XD := Lib.hid X.dev
  clear hd' hE h ok X hx hN
  generalize hwb : w.alloc (.cells #[.int .i64 2, .string nm, .string tn, .slice A n c, .int .i64 N] 46) = wb at *
  go_enter Try.func19, Try.ntmps19
  have FBd : Frm (fun _ => False) w wb.drew := FB.drew
  have FB1 : Frm G1 w wb.drew := FBd.mono (fun b hb => hb.elim)
  have FB2 : Frm G2 w wb.drew := FBd.mono (fun b hb => hb.elim)
  go_wp2_with fail
  refine wp_region_held_drew (S := (fun W => W.cell? ⟨w.heap.size, 1, none⟩ = some (.string nm) ∧ W.cell? ⟨w.heap.size, 4, none⟩ = some (.int .i64 N))) (by kernel_rfl) (⟨c1, c4⟩) (fun hHeld => ?_)
  refine wpAnyH_take (i := 0) (oi := { dst := some 51, op := Op.move (Operand.tmp 0), type := 22, pos := "law.go:56", after := #[], guard := none }) (v := ?v1) rfl (by kernel_rfl) (by kernel_rfl) (by kernel_rfl) (fun _ _ _ h => h) (Or.inl ⟨by rfl, ?hy1⟩) (by assumption) ?rest1
  case hy1 => (intro w' hSw; (try dsimp only at hSw); go_simp; try with_reducible rfl)
  simp only [Act.put, List.setIfInBounds_toArray, List.set_cons_zero, List.set_cons_succ]
  refine wpAnyH_take (i := 1) (oi := { dst := some 52, op := Op.fieldAddr 46 (Operand.tmp 5) 1, type := 0, pos := "law.go:56", after := #[], guard := none }) (v := ?v2) rfl (by kernel_rfl) (by kernel_rfl) (by kernel_rfl) (fun _ _ _ h => h) (Or.inl ⟨by rfl, ?hy2⟩) (by assumption) ?rest2
  case hy2 => (intro w' hSw; (try dsimp only at hSw); go_simp; try with_reducible rfl)
  simp only [Act.put, List.setIfInBounds_toArray, List.set_cons_zero, List.set_cons_succ]
  refine wpAnyH_take (i := 2) (oi := { dst := some 53, op := Op.load 9 (Operand.tmp 52), type := 9, pos := "law.go:56", after := #[{ on := 1, ground := Ground.data }], guard := none }) (v := ?v3) rfl (by kernel_rfl) (by kernel_rfl) (by kernel_rfl) (fun _ _ _ h => h) (Or.inl ⟨by rfl, ?hy3⟩) (by assumption) ?rest3
  case hy3 => (intro w' hSw; (try dsimp only at hSw); go_simp; try with_reducible rfl)
  simp only [Act.put, List.setIfInBounds_toArray, List.set_cons_zero, List.set_cons_succ]
  refine wpAnyH_take (i := 3) (oi := { dst := some 54, op := Op.fieldAddr 46 (Operand.tmp 5) 4, type := 0, pos := "law.go:56", after := #[], guard := none }) (v := ?v4) rfl (by kernel_rfl) (by kernel_rfl) (by kernel_rfl) (fun _ _ _ h => h) (Or.inl ⟨by rfl, ?hy4⟩) (by assumption) ?rest4
  case hy4 => (intro w' hSw; (try dsimp only at hSw); go_simp; try with_reducible rfl)
  simp only [Act.put, List.setIfInBounds_toArray, List.set_cons_zero, List.set_cons_succ]
  refine wpAnyH_take (i := 4) (oi := { dst := some 55, op := Op.load 3 (Operand.tmp 54), type := 3, pos := "law.go:56", after := #[{ on := 3, ground := Ground.data }], guard := none }) (v := ?v5) rfl (by kernel_rfl) (by kernel_rfl) (by kernel_rfl) (fun _ _ _ h => h) (Or.inl ⟨by rfl, ?hy5⟩) (by assumption) ?rest5
  case hy5 => (intro w' hSw; (try dsimp only at hSw); go_simp; try with_reducible rfl)
  simp only [Act.put, List.setIfInBounds_toArray, List.set_cons_zero, List.set_cons_succ]
  refine wpAnyH_take (i := 6) (oi := { dst := some 57, op := Op.move (Operand.tmp 1), type := 26, pos := "law.go:56", after := #[], guard := none }) (v := ?v6) rfl (by kernel_rfl) (by kernel_rfl) (by kernel_rfl) (fun _ _ _ h => h) (Or.inl ⟨by rfl, ?hy6⟩) (by assumption) ?rest6
  case hy6 => (intro w' hSw; (try dsimp only at hSw); go_simp; try with_reducible rfl)
  simp only [Act.put, List.setIfInBounds_toArray, List.set_cons_zero, List.set_cons_succ]
  refine wpAnyH_take (i := 7) (oi := { dst := some 58, op := Op.fieldAddr 46 (Operand.tmp 5) 1, type := 0, pos := "law.go:56", after := #[], guard := none }) (v := ?v7) rfl (by kernel_rfl) (by kernel_rfl) (by kernel_rfl) (fun _ _ _ h => h) (Or.inl ⟨by rfl, ?hy7⟩) (by assumption) ?rest7
  case hy7 => (intro w' hSw; (try dsimp only at hSw); go_simp; try with_reducible rfl)
  simp only [Act.put, List.setIfInBounds_toArray, List.set_cons_zero, List.set_cons_succ]
  refine wpAnyH_take (i := 8) (oi := { dst := some 59, op := Op.load 9 (Operand.tmp 58), type := 9, pos := "law.go:56", after := #[{ on := 7, ground := Ground.data }], guard := none }) (v := ?v8) rfl (by kernel_rfl) (by kernel_rfl) (by kernel_rfl) (fun _ _ _ h => h) (Or.inl ⟨by rfl, ?hy8⟩) (by assumption) ?rest8
  case hy8 => (intro w' hSw; (try dsimp only at hSw); go_simp; try with_reducible rfl)
  simp only [Act.put, List.setIfInBounds_toArray, List.set_cons_zero, List.set_cons_succ]
  refine wpAnyH_take (i := 9) (oi := { dst := some 60, op := Op.fieldAddr 46 (Operand.tmp 5) 4, type := 0, pos := "law.go:56", after := #[], guard := none }) (v := ?v9) rfl (by kernel_rfl) (by kernel_rfl) (by kernel_rfl) (fun _ _ _ h => h) (Or.inl ⟨by rfl, ?hy9⟩) (by assumption) ?rest9
  case hy9 => (intro w' hSw; (try dsimp only at hSw); go_simp; try with_reducible rfl)
  simp only [Act.put, List.setIfInBounds_toArray, List.set_cons_zero, List.set_cons_succ]
  refine wpAnyH_take (i := 10) (oi := { dst := some 61, op := Op.load 3 (Operand.tmp 60), type := 3, pos := "law.go:56", after := #[{ on := 9, ground := Ground.data }], guard := none }) (v := ?v10) rfl (by kernel_rfl) (by kernel_rfl) (by kernel_rfl) (fun _ _ _ h => h) (Or.inl ⟨by rfl, ?hy10⟩) (by assumption) ?rest10
  case hy10 => (intro w' hSw; (try dsimp only at hSw); go_simp; try with_reducible rfl)
  simp only [Act.put, List.setIfInBounds_toArray, List.set_cons_zero, List.set_cons_succ]
  refine wpAnyH_ready (rs := [5]) (by kernel_rfl) (by simp) ?_
  refine AllReadyH.cons (o := { dst := some 56, op := Op.call { callee := Callee.value (Operand.func 41), args := #[Operand.tmp 51, Operand.tmp 53, Operand.tmp 55], argTypes := #[22, 9, 3] }, type := 23, pos := "law.go:56", after := #[{ on := 0, ground := Ground.data }, { on := 2, ground := Ground.data }, { on := 4, ground := Ground.data }], guard := none }) rfl (fun K hK => ?_) AllReadyH.nil
  go_simp
  go_at_call 41
  refine (HP.out _ FB2).mono ?_
  rintro e wp ⟨rfl, GP, SP⟩
  have FR : Frm G1 w wp := FB1.trans SP.2.1 (fun i hi => .inl hi)
  refine hK.out _ _ (⟨(SP.2.1.cell hsz n1).trans c1, (SP.2.1.cell hsz n1).trans c4⟩) (fun hHeld => ?_)
  clear hK K
  (try simp only [Act.put, List.setIfInBounds_toArray, List.set_cons_zero, List.set_cons_succ])
  refine wpAnyH_ready (rs := [11]) (by kernel_rfl) (by simp) ?_
  refine AllReadyH.cons (o := { dst := some 62, op := Op.call { callee := Callee.value (Operand.func 42), args := #[Operand.tmp 57, Operand.tmp 59, Operand.tmp 61], argTypes := #[26, 9, 3] }, type := 23, pos := "law.go:56", after := #[{ on := 6, ground := Ground.data }, { on := 8, ground := Ground.data }, { on := 10, ground := Ground.data }, { on := 5, ground := Ground.chain }], guard := none }) rfl (fun K hK => ?_) AllReadyH.nil
  go_simp
  go_at_call 42
  refine (HR.out _ FR).mono ?_
  rintro e wr ⟨rfl, GR, SR⟩
  refine hK.out _ _ (⟨(SR.2.1.cell (Nat.lt_of_lt_of_le hsz SP.2.1.size) n2).trans ((SP.2.1.cell hsz n1).trans c1), (SR.2.1.cell (Nat.lt_of_lt_of_le hsz SP.2.1.size) n2).trans ((SP.2.1.cell hsz n1).trans c4)⟩) (fun hHeld => ?_)
  clear hK K
  (try simp only [Act.put, List.setIfInBounds_toArray, List.set_cons_zero, List.set_cons_succ])
  refine wpAnyH_take (i := 12) (oi := { dst := some 63, op := Op.binOp BinOp.eql 23 (Operand.tmp 56) (Operand.tmp 62) 23, type := 4, pos := "law.go:56", after := #[{ on := 5, ground := Ground.data }, { on := 11, ground := Ground.data }], guard := none }) (v := ?v11) rfl (by kernel_rfl) (by kernel_rfl) (by kernel_rfl) (fun _ _ _ h => h) (Or.inl ⟨by rfl, ?hy11⟩) (by assumption) ?rest11
  case hy11 => (intro w' hSw; (try dsimp only at hSw); go_simp; try with_reducible rfl)
  simp only [Act.put, List.setIfInBounds_toArray, List.set_cons_zero, List.set_cons_succ]
  refine wpAnyH_take (i := 13) (oi := { dst := some 6, op := Op.assign (Operand.tmp 63), type := 4, pos := "law.go:56", after := #[{ on := 12, ground := Ground.data }, { on := 11, ground := Ground.chain }, { on := 0, ground := Ground.phase }, { on := 1, ground := Ground.phase }, { on := 2, ground := Ground.phase }, { on := 3, ground := Ground.phase }, { on := 4, ground := Ground.phase }, { on := 5, ground := Ground.phase }, { on := 6, ground := Ground.phase }, { on := 7, ground := Ground.phase }, { on := 8, ground := Ground.phase }, { on := 9, ground := Ground.phase }, { on := 10, ground := Ground.phase }, { on := 11, ground := Ground.phase }, { on := 12, ground := Ground.phase }], guard := none }) (v := ?v12) rfl (by kernel_rfl) (by kernel_rfl) (by kernel_rfl) (fun _ _ _ h => h) (Or.inl ⟨by rfl, ?hy12⟩) (by assumption) ?rest12
  case hy12 => (intro w' hSw; (try dsimp only at hSw); go_simp; try with_reducible rfl)
  simp only [Act.put, List.setIfInBounds_toArray, List.set_cons_zero, List.set_cons_succ]
  refine wpAnyH_done (by kernel_rfl) ?_ _
  (try go_wp2)
  go_ret
  exact ⟨rfl, H.out.steps XD.out rde_dev FBd SP (Frm.refl _ _) SR (Frm.refl _ _)⟩
set_option maxHeartbeats 1000000 in
theorem both_rename {D : DevP} (X : DevOk D) (nm tn : ByteArray) (A : Option Addr) (n c : Nat) (N : Int) {w : World} {G1 G2 : Nat → Prop} {g1 g2 : Nat} {d : Dv} (h : Twin D RDe w G1 G2 g1 g2 d) (ok : Dv.Ok d) :
    Calls Try.prog 19 #[.pointer (some ⟨g1, 0, none⟩), .pointer (some ⟨g2, 0, none⟩), .agg #[.int .i64 3, .string nm, .string tn, .slice A n c, .int .i64 N]] w (BothTo D G1 G2 g1 g2 (renD d nm tn).1 w) := by
  have hx := heap_alloc_new w (.cells #[.int .i64 3, .string nm, .string tn, .slice A n c, .int .i64 N] 46)
  have FB : Frm (fun _ => False) w (w.alloc (.cells #[.int .i64 3, .string nm, .string tn, .slice A n c, .int .i64 N] 46)) := Frm.of_below (bel_alloc w _)
  have hsz : w.heap.size < (w.alloc (.cells #[.int .i64 3, .string nm, .string tn, .slice A n c, .int .i64 N] 46)).heap.size := by simp
  have c0 := cell_of_row _ w.heap.size 0 _ _ _ hx
  have c1 := cell_of_row _ w.heap.size 1 _ _ _ hx
  have c2 := cell_of_row _ w.heap.size 2 _ _ _ hx
  have n1 : ¬ G1 w.heap.size := fun e => Nat.lt_irrefl _ (X.dev.lt h.one _ e)
  have n2 : ¬ G2 w.heap.size := fun e => Nat.lt_irrefl _ (rde_dev.lt h.two _ e)
  have l1 := X.dev.lt h.one
  have l2 := rde_dev.lt h.two
  obtain ⟨d', hd'⟩ : ∃ d', (renD d nm tn).1 = d' := ⟨_, rfl⟩
  obtain ⟨E, hE⟩ : ∃ E, (renD d nm tn).2 = E := ⟨_, rfl⟩
  have HP : Hid (∀ W, Frm G2 w W → Calls Try.prog 31 #[.pointer (some ⟨g1, 0, none⟩), .string nm, .string tn] W (Stp D G1 g1 d' (.int .i64 E) W)) := Lib.hid (fun W hW => by
    rw [← hd', ← hE]; exact X.rename nm tn (X.dev.frm h.one hW (fun b hb => h.off b hb)) ok)
  have HR : Hid (∀ W, Frm G1 w W → Calls Try.prog 43 #[.pointer (some ⟨g2, 0, none⟩), .string nm, .string tn] W (Stp RDe G2 g2 d' (.int .i64 E) W)) := Lib.hid (fun W hW => by
    rw [← hd', ← hE]; exact refRename_s nm tn (rde_dev.frm h.two hW (fun b hb h1 => h.off b h1 hb)) ok)
  rw [hd']
  have H := Lib.hid h
  have XD := Lib.hid X.dev
  clear hd' hE h ok X hx
  generalize hwb : w.alloc (.cells #[.int .i64 3, .string nm, .string tn, .slice A n c, .int .i64 N] 46) = wb at *
  go_enter Try.func19, Try.ntmps19
  have FBd : Frm (fun _ => False) w wb.drew := FB.drew
  have FB1 : Frm G1 w wb.drew := FBd.mono (fun b hb => hb.elim)
  have FB2 : Frm G2 w wb.drew := FBd.mono (fun b hb => hb.elim)
  go_wp2_with fail
  refine wp_region_held_drew (S := (fun W => W.cell? ⟨w.heap.size, 1, none⟩ = some (.string nm) ∧ W.cell? ⟨w.heap.size, 2, none⟩ = some (.string tn))) (by kernel_rfl) (⟨c1, c2⟩) (fun hHeld => ?_)
  refine wpAnyH_take (i := 0) (oi := { dst := some 66, op := Op.move (Operand.tmp 0), type := 22, pos := "law.go:58", after := #[], guard := none }) (v := ?v13) rfl (by kernel_rfl) (by kernel_rfl) (by kernel_rfl) (fun _ _ _ h => h) (Or.inl ⟨by rfl, ?hy13⟩) (by assumption) ?rest13
  case hy13 => (intro w' hSw; (try dsimp only at hSw); go_simp; try with_reducible rfl)
  simp only [Act.put, List.setIfInBounds_toArray, List.set_cons_zero, List.set_cons_succ]
  refine wpAnyH_take (i := 1) (oi := { dst := some 67, op := Op.fieldAddr 46 (Operand.tmp 5) 1, type := 0, pos := "law.go:58", after := #[], guard := none }) (v := ?v14) rfl (by kernel_rfl) (by kernel_rfl) (by kernel_rfl) (fun _ _ _ h => h) (Or.inl ⟨by rfl, ?hy14⟩) (by assumption) ?rest14
  case hy14 => (intro w' hSw; (try dsimp only at hSw); go_simp; try with_reducible rfl)
  simp only [Act.put, List.setIfInBounds_toArray, List.set_cons_zero, List.set_cons_succ]
  refine wpAnyH_take (i := 2) (oi := { dst := some 68, op := Op.load 9 (Operand.tmp 67), type := 9, pos := "law.go:58", after := #[{ on := 1, ground := Ground.data }], guard := none }) (v := ?v15) rfl (by kernel_rfl) (by kernel_rfl) (by kernel_rfl) (fun _ _ _ h => h) (Or.inl ⟨by rfl, ?hy15⟩) (by assumption) ?rest15
  case hy15 => (intro w' hSw; (try dsimp only at hSw); go_simp; try with_reducible rfl)
  simp only [Act.put, List.setIfInBounds_toArray, List.set_cons_zero, List.set_cons_succ]
  refine wpAnyH_take (i := 3) (oi := { dst := some 69, op := Op.fieldAddr 46 (Operand.tmp 5) 2, type := 0, pos := "law.go:58", after := #[], guard := none }) (v := ?v16) rfl (by kernel_rfl) (by kernel_rfl) (by kernel_rfl) (fun _ _ _ h => h) (Or.inl ⟨by rfl, ?hy16⟩) (by assumption) ?rest16
  case hy16 => (intro w' hSw; (try dsimp only at hSw); go_simp; try with_reducible rfl)
  simp only [Act.put, List.setIfInBounds_toArray, List.set_cons_zero, List.set_cons_succ]
  refine wpAnyH_take (i := 4) (oi := { dst := some 70, op := Op.load 9 (Operand.tmp 69), type := 9, pos := "law.go:58", after := #[{ on := 3, ground := Ground.data }], guard := none }) (v := ?v17) rfl (by kernel_rfl) (by kernel_rfl) (by kernel_rfl) (fun _ _ _ h => h) (Or.inl ⟨by rfl, ?hy17⟩) (by assumption) ?rest17
  case hy17 => (intro w' hSw; (try dsimp only at hSw); go_simp; try with_reducible rfl)
  simp only [Act.put, List.setIfInBounds_toArray, List.set_cons_zero, List.set_cons_succ]
  refine wpAnyH_take (i := 6) (oi := { dst := some 72, op := Op.move (Operand.tmp 1), type := 26, pos := "law.go:58", after := #[], guard := none }) (v := ?v18) rfl (by kernel_rfl) (by kernel_rfl) (by kernel_rfl) (fun _ _ _ h => h) (Or.inl ⟨by rfl, ?hy18⟩) (by assumption) ?rest18
  case hy18 => (intro w' hSw; (try dsimp only at hSw); go_simp; try with_reducible rfl)
  simp only [Act.put, List.setIfInBounds_toArray, List.set_cons_zero, List.set_cons_succ]
  refine wpAnyH_take (i := 7) (oi := { dst := some 73, op := Op.fieldAddr 46 (Operand.tmp 5) 1, type := 0, pos := "law.go:58", after := #[], guard := none }) (v := ?v19) rfl (by kernel_rfl) (by kernel_rfl) (by kernel_rfl) (fun _ _ _ h => h) (Or.inl ⟨by rfl, ?hy19⟩) (by assumption) ?rest19
  case hy19 => (intro w' hSw; (try dsimp only at hSw); go_simp; try with_reducible rfl)
  simp only [Act.put, List.setIfInBounds_toArray, List.set_cons_zero, List.set_cons_succ]
  refine wpAnyH_take (i := 8) (oi := { dst := some 74, op := Op.load 9 (Operand.tmp 73), type := 9, pos := "law.go:58", after := #[{ on := 7, ground := Ground.data }], guard := none }) (v := ?v20) rfl (by kernel_rfl) (by kernel_rfl) (by kernel_rfl) (fun _ _ _ h => h) (Or.inl ⟨by rfl, ?hy20⟩) (by assumption) ?rest20
  case hy20 => (intro w' hSw; (try dsimp only at hSw); go_simp; try with_reducible rfl)
  simp only [Act.put, List.setIfInBounds_toArray, List.set_cons_zero, List.set_cons_succ]
  refine wpAnyH_take (i := 9) (oi := { dst := some 75, op := Op.fieldAddr 46 (Operand.tmp 5) 2, type := 0, pos := "law.go:58", after := #[], guard := none }) (v := ?v21) rfl (by kernel_rfl) (by kernel_rfl) (by kernel_rfl) (fun _ _ _ h => h) (Or.inl ⟨by rfl, ?hy21⟩) (by assumption) ?rest21
  case hy21 => (intro w' hSw; (try dsimp only at hSw); go_simp; try with_reducible rfl)
  simp only [Act.put, List.setIfInBounds_toArray, List.set_cons_zero, List.set_cons_succ]
  refine wpAnyH_take (i := 10) (oi := { dst := some 76, op := Op.load 9 (Operand.tmp 75), type := 9, pos := "law.go:58", after := #[{ on := 9, ground := Ground.data }], guard := none }) (v := ?v22) rfl (by kernel_rfl) (by kernel_rfl) (by kernel_rfl) (fun _ _ _ h => h) (Or.inl ⟨by rfl, ?hy22⟩) (by assumption) ?rest22
  case hy22 => (intro w' hSw; (try dsimp only at hSw); go_simp; try with_reducible rfl)
  simp only [Act.put, List.setIfInBounds_toArray, List.set_cons_zero, List.set_cons_succ]
  refine wpAnyH_ready (rs := [5]) (by kernel_rfl) (by simp) ?_
  refine AllReadyH.cons (o := { dst := some 71, op := Op.call { callee := Callee.value (Operand.func 31), args := #[Operand.tmp 66, Operand.tmp 68, Operand.tmp 70], argTypes := #[22, 9, 9] }, type := 23, pos := "law.go:58", after := #[{ on := 0, ground := Ground.data }, { on := 2, ground := Ground.data }, { on := 4, ground := Ground.data }], guard := none }) rfl (fun K hK => ?_) AllReadyH.nil
  go_simp
  go_at_call 31
  refine (HP.out _ FB2).mono ?_
  rintro e wp ⟨rfl, GP, SP⟩
  have FR : Frm G1 w wp := FB1.trans SP.2.1 (fun i hi => .inl hi)
  refine hK.out _ _ (⟨(SP.2.1.cell hsz n1).trans c1, (SP.2.1.cell hsz n1).trans c2⟩) (fun hHeld => ?_)
  clear hK K
  (try simp only [Act.put, List.setIfInBounds_toArray, List.set_cons_zero, List.set_cons_succ])
  refine wpAnyH_ready (rs := [11]) (by kernel_rfl) (by simp) ?_
  refine AllReadyH.cons (o := { dst := some 77, op := Op.call { callee := Callee.value (Operand.func 43), args := #[Operand.tmp 72, Operand.tmp 74, Operand.tmp 76], argTypes := #[26, 9, 9] }, type := 23, pos := "law.go:58", after := #[{ on := 6, ground := Ground.data }, { on := 8, ground := Ground.data }, { on := 10, ground := Ground.data }, { on := 5, ground := Ground.chain }], guard := none }) rfl (fun K hK => ?_) AllReadyH.nil
  go_simp
  go_at_call 43
  refine (HR.out _ FR).mono ?_
  rintro e wr ⟨rfl, GR, SR⟩
  refine hK.out _ _ (⟨(SR.2.1.cell (Nat.lt_of_lt_of_le hsz SP.2.1.size) n2).trans ((SP.2.1.cell hsz n1).trans c1), (SR.2.1.cell (Nat.lt_of_lt_of_le hsz SP.2.1.size) n2).trans ((SP.2.1.cell hsz n1).trans c2)⟩) (fun hHeld => ?_)
  clear hK K
  (try simp only [Act.put, List.setIfInBounds_toArray, List.set_cons_zero, List.set_cons_succ])
  refine wpAnyH_take (i := 12) (oi := { dst := some 78, op := Op.binOp BinOp.eql 23 (Operand.tmp 71) (Operand.tmp 77) 23, type := 4, pos := "law.go:58", after := #[{ on := 5, ground := Ground.data }, { on := 11, ground := Ground.data }], guard := none }) (v := ?v23) rfl (by kernel_rfl) (by kernel_rfl) (by kernel_rfl) (fun _ _ _ h => h) (Or.inl ⟨by rfl, ?hy23⟩) (by assumption) ?rest23
  case hy23 => (intro w' hSw; (try dsimp only at hSw); go_simp; try with_reducible rfl)
  simp only [Act.put, List.setIfInBounds_toArray, List.set_cons_zero, List.set_cons_succ]
  refine wpAnyH_take (i := 13) (oi := { dst := some 6, op := Op.assign (Operand.tmp 78), type := 4, pos := "law.go:58", after := #[{ on := 12, ground := Ground.data }, { on := 11, ground := Ground.chain }, { on := 0, ground := Ground.phase }, { on := 1, ground := Ground.phase }, { on := 2, ground := Ground.phase }, { on := 3, ground := Ground.phase }, { on := 4, ground := Ground.phase }, { on := 5, ground := Ground.phase }, { on := 6, ground := Ground.phase }, { on := 7, ground := Ground.phase }, { on := 8, ground := Ground.phase }, { on := 9, ground := Ground.phase }, { on := 10, ground := Ground.phase }, { on := 11, ground := Ground.phase }, { on := 12, ground := Ground.phase }], guard := none }) (v := ?v24) rfl (by kernel_rfl) (by kernel_rfl) (by kernel_rfl) (fun _ _ _ h => h) (Or.inl ⟨by rfl, ?hy24⟩) (by assumption) ?rest24
  case hy24 => (intro w' hSw; (try dsimp only at hSw); go_simp; try with_reducible rfl)
  simp only [Act.put, List.setIfInBounds_toArray, List.set_cons_zero, List.set_cons_succ]
  refine wpAnyH_done (by kernel_rfl) ?_ _
  (try go_wp2)
  go_ret
  exact ⟨rfl, H.out.steps XD.out rde_dev FBd SP (Frm.refl _ _) SR (Frm.refl _ _)⟩
set_option maxHeartbeats 1000000 in
theorem both_remove {D : DevP} (X : DevOk D) (nm tn : ByteArray) (A : Option Addr) (n c : Nat) (N : Int) {w : World} {G1 G2 : Nat → Prop} {g1 g2 : Nat} {d : Dv} (h : Twin D RDe w G1 G2 g1 g2 d) (ok : Dv.Ok d) :
    Calls Try.prog 19 #[.pointer (some ⟨g1, 0, none⟩), .pointer (some ⟨g2, 0, none⟩), .agg #[.int .i64 4, .string nm, .string tn, .slice A n c, .int .i64 N]] w (BothTo D G1 G2 g1 g2 (remD d nm).1 w) := by
  have hx := heap_alloc_new w (.cells #[.int .i64 4, .string nm, .string tn, .slice A n c, .int .i64 N] 46)
  have FB : Frm (fun _ => False) w (w.alloc (.cells #[.int .i64 4, .string nm, .string tn, .slice A n c, .int .i64 N] 46)) := Frm.of_below (bel_alloc w _)
  have hsz : w.heap.size < (w.alloc (.cells #[.int .i64 4, .string nm, .string tn, .slice A n c, .int .i64 N] 46)).heap.size := by simp
  have c0 := cell_of_row _ w.heap.size 0 _ _ _ hx
  have c1 := cell_of_row _ w.heap.size 1 _ _ _ hx
  have n1 : ¬ G1 w.heap.size := fun e => Nat.lt_irrefl _ (X.dev.lt h.one _ e)
  have n2 : ¬ G2 w.heap.size := fun e => Nat.lt_irrefl _ (rde_dev.lt h.two _ e)
  have l1 := X.dev.lt h.one
  have l2 := rde_dev.lt h.two
  obtain ⟨d', hd'⟩ : ∃ d', (remD d nm).1 = d' := ⟨_, rfl⟩
  obtain ⟨E, hE⟩ : ∃ E, (remD d nm).2 = E := ⟨_, rfl⟩
  have HP : Hid (∀ W, Frm G2 w W → Calls Try.prog 44 #[.pointer (some ⟨g1, 0, none⟩), .string nm] W (Stp D G1 g1 d' (.int .i64 E) W)) := Lib.hid (fun W hW => by
    rw [← hd', ← hE]; exact X.remove nm (X.dev.frm h.one hW (fun b hb => h.off b hb)) ok)
  have HR : Hid (∀ W, Frm G1 w W → Calls Try.prog 45 #[.pointer (some ⟨g2, 0, none⟩), .string nm] W (Stp RDe G2 g2 d' (.int .i64 E) W)) := Lib.hid (fun W hW => by
    rw [← hd', ← hE]; exact refRemove_s nm (rde_dev.frm h.two hW (fun b hb h1 => h.off b h1 hb)) ok)
  rw [hd']
  have H := Lib.hid h
  have XD := Lib.hid X.dev
  clear hd' hE h ok X hx
  generalize hwb : w.alloc (.cells #[.int .i64 4, .string nm, .string tn, .slice A n c, .int .i64 N] 46) = wb at *
  go_enter Try.func19, Try.ntmps19
  have FBd : Frm (fun _ => False) w wb.drew := FB.drew
  have FB1 : Frm G1 w wb.drew := FBd.mono (fun b hb => hb.elim)
  have FB2 : Frm G2 w wb.drew := FBd.mono (fun b hb => hb.elim)
  go_wp2_with fail
  go_region_with (first
    | (go_at_call 44; refine (HP.out _ FB2).mono ?_; rintro e wp ⟨rfl, GP, SP⟩; have cP : wp.cell? ⟨w.heap.size, 1, none⟩ = some (.string nm) := (SP.2.1.cell hsz n1).trans c1; have FR : Frm G1 w wp := FB1.trans SP.2.1 (fun i hi => .inl hi))
    | (go_at_call 45; refine (HR.out _ FR).mono ?_; rintro e wr ⟨rfl, GR, SR⟩))
  all_goals
    (try go_wp2)
    go_ret
    exact ⟨rfl, H.out.steps XD.out rde_dev FBd SP (Frm.refl _ _) SR (Frm.refl _ _)⟩
end Go.Proofs.Ytfclgjdlkcmnfaa
namespace Go.Proofs.Ytfclgjdlkcmnfaa
open Go.RowKit
set_option linter.unusedVariables false
set_option maxRecDepth 100000

/-- One step with each, the one behind the other; then something new is written that is of neither. -/
theorem Twin.stepsF {D1 D2 : DevP} (X1 : Dev D1) (X2 : Dev D2) {w W1 W2 W3 W4 W5 : World} {G1 G2 G1' G2' F : Nat → Prop} {g1 g2 : Nat} {d d' : Dv} (h : Twin D1 D2 w G1 G2 g1 g2 d)
    (f0 : Frm (fun _ => False) w W1) (s1 : Did D1 G1 g1 d' W1 W2 G1') (f1 : Frm (fun _ => False) W2 W3) (s2 : Did D2 G2 g2 d' W3 W4 G2') (f2 : Frm F W4 W5) (hF : ∀ b, F b → w.heap.size ≤ b ∧ b < W1.heap.size) : Twins D1 D2 G1 G2 g1 g2 d' w W5 := by
  have l1 := X1.lt h.one
  have l2 := X2.lt h.two
  have t := h.steps X1 X2 f0 s1 f1 s2 (Frm.refl (fun _ => False) W4)
  obtain ⟨a1, a2, a3⟩ := s1
  obtain ⟨b1, b2, b3⟩ := s2
  have z0 := f0.size
  have z1 := f1.size
  have z2 := a2.size
  have hF1 : ∀ b, F b → ¬ G1' b := fun b hb h1 => (a3 b h1).elim (fun e => by have := l1 b e; have := (hF b hb).1; omega) (fun e => by have := (hF b hb).2; omega)
  have hF2 : ∀ b, F b → ¬ G2' b := fun b hb h1 => (b3 b h1).elim (fun e => by have := l2 b e; have := (hF b hb).1; omega) (fun e => by have := (hF b hb).2; omega)
  have m1 := X1.lt a1
  have off2 : ∀ b, G1' b → ¬ G2 b := fun b hb h2 => (a3 b hb).elim (fun e => h.off b e h2) (fun e => by have := l2 b h2; omega)
  refine ⟨G1', G2', ⟨?_, ?_, fun b hb h2 => ?_⟩, ?_, fun b hb => ?_⟩
  · exact X1.frm (X1.frm (X1.frm a1 f1 (fun _ _ e => e)) b2 (fun b hb => off2 b hb)) f2 (fun b hb e => hF1 b e hb)
  · exact X2.frm b1 f2 (fun b hb e => hF2 b e hb)
  · exact (b3 b h2).elim (fun e => off2 b hb e) (fun e => by have := m1 b hb; omega)
  · obtain ⟨_, _, _, t2, _⟩ := t
    exact t2.trans f2 (fun i hi => .inr (hF i hi).1)
  · rcases hb with hb | hb
    · exact (a3 b hb).imp .inl (fun e => by omega)
    · exact (b3 b hb).imp .inr (fun e => by omega)

theorem Frm.of_grownB {w w' : World} {g : Nat} (h : w.grownBy w' (some g)) : Frm (fun b => b = g) w w' := ⟨h.os, h.tape, h.output, h.size, fun k hk hn => h.block k hk (fun e => hn (by injection e with e))⟩

set_option maxHeartbeats 2000000 in
theorem both_append {D : DevP} (X : DevOk D) (nm tn : ByteArray) (A : Option Addr) (n c : Nat) (N : Int) (bs : List Int) {w : World} {G1 G2 : Nat → Prop} {g1 g2 : Nat} {d : Dv} (h : Twin D RDe w G1 G2 g1 g2 d) (ok : Dv.Ok d)
    (hr : Row .u8 w w.heap.size A bs) (hbn : bs.length = n) (hnc : n ≤ c) (hc : c ≤ 140737488355328) (hb : n ≤ 4096) (hA : ∀ a, A = some a → 0 < n → ¬ (G1 a.block ∨ G2 a.block)) :
    Calls Try.prog 19 #[.pointer (some ⟨g1, 0, none⟩), .pointer (some ⟨g2, 0, none⟩), .agg #[.int .i64 0, .string nm, .string tn, .slice A n c, .int .i64 N]] w (BothTo D G1 G2 g1 g2 (appD d nm bs).1 w) := by
  have hx := heap_alloc_new w (.cells #[.int .i64 0, .string nm, .string tn, .slice A n c, .int .i64 N] 46)
  have FB : Frm (fun _ => False) w (w.alloc (.cells #[.int .i64 0, .string nm, .string tn, .slice A n c, .int .i64 N] 46)) := Frm.of_below (bel_alloc w _)
  have hsz : w.heap.size < (w.alloc (.cells #[.int .i64 0, .string nm, .string tn, .slice A n c, .int .i64 N] 46)).heap.size := by simp
  have c0 := cell_of_row _ w.heap.size 0 _ _ _ hx
  have c1 := cell_of_row _ w.heap.size 1 _ _ _ hx
  have c3 := cell_of_row _ w.heap.size 3 _ _ _ hx
  have l1 := X.dev.lt h.one
  have l2 := rde_dev.lt h.two
  have n1 : ∀ b, w.heap.size ≤ b → ¬ G1 b := fun b hb e => by have := l1 b e; omega
  have n2 : ∀ b, w.heap.size ≤ b → ¬ G2 b := fun b hb e => by have := l2 b e; omega
  obtain ⟨d', hd'⟩ : ∃ d', (appD d nm bs).1 = d' := ⟨_, rfl⟩
  obtain ⟨E, hE⟩ : ∃ E, (appD d nm bs).2 = E := ⟨_, rfl⟩
  have tE : (E == E) = true := by simp
  have HP : Hid (∀ W A' c', Frm (fun _ => False) w W → Row .u8 W W.heap.size A' bs → n ≤ c' → c' ≤ 140737488355328 → (∀ a, A' = some a → 0 < n → w.heap.size ≤ a.block) → Calls Try.prog 25 #[.pointer (some ⟨g1, 0, none⟩), .string nm, .slice A' n c'] W (Stp D G1 g1 d' (.int .i64 E) W)) := Lib.hid (fun W A' c' hW hR hc1 hc2 hA' => by
    rw [← hd', ← hE]; exact X.append nm A' n c' bs (X.dev.frm h.one hW (fun b hb e => e)) ok hR hbn hc1 hc2 (by omega) (fun a ha hp => n1 _ (hA' a ha hp)))
  have HR : Hid (∀ W, Frm G1 w W → Row .u8 W W.heap.size A bs → Calls Try.prog 37 #[.pointer (some ⟨g2, 0, none⟩), .string nm, .slice A n c] W (Stp RDe G2 g2 d' (.int .i64 E) W)) := Lib.hid (fun W hW hR => by
    rw [← hd', ← hE]; exact refAppend_s nm A n c bs (rde_dev.frm h.two hW (fun b hb h1 => h.off b h1 hb)) ok hR hbn (by omega) (fun a ha hp e => hA a ha hp (.inr e)))
  rw [hd']
  have H := Lib.hid h
  have XD := Lib.hid X.dev
  have HRW := Lib.hid hr
  have HBN := Lib.hid hbn
  have rb := FB.row hr (fun a ha hp e => e)
  clear hd' hE h ok X hx hr hbn
  generalize hwb : w.alloc (.cells #[.int .i64 0, .string nm, .string tn, .slice A n c, .int .i64 N] 46) = wb at *
  go_enter Try.func19, Try.ntmps19
  go_wp2_with fail
  refine (lent_u8 A n c bs wb rb HBN.out (by omega)).mono ?_
  rintro e w1 ⟨rfl, hw1⟩
  have b01 : Below wb.heap.size wb w1 := by rw [hw1]; exact bel_alloc _ _
  have f01 : Frm (fun _ => False) w w1 := FB.trans (Frm.of_below (F := fun _ => False) b01) (fun i hi => hi.elim)
  have hb1 : w1.heap[wb.heap.size]? = some (.cells (blk .u8 (bs ++ marks5)) 5 (0, 0)) := by rw [hw1]; exact heap_alloc_new _ _
  have hlt1 := block_lt hb1
  have d1 := (b01.cell (p := ⟨w.heap.size, 1, none⟩) hsz).trans c1
  have d3 := (b01.cell (p := ⟨w.heap.size, 3, none⟩) hsz).trans c3
  have hsz1 : w.heap.size < w1.heap.size := Nat.lt_of_lt_of_le hsz b01.size
  clear hw1 c0 c1 c3
  go_wp2_with fail
  refine (HP.out w1 _ _ f01 ((Row.of_block hb1 bs HRW.out.1 (List.prefix_append _ _)).more hlt1) (by omega) (by omega) (fun a ha _ => by injection ha with ha; rw [← ha]; show w.heap.size ≤ wb.heap.size; omega)).mono ?_
  rintro e wp ⟨rfl, GP, SP⟩
  have fP : Frm G1 w wp := (f01.mono (fun b hb => hb.elim)).trans SP.2.1 (fun i hi => .inl hi)
  have e1 := (SP.2.1.cell (o := 1) hsz1 (n1 _ (Nat.le_refl _))).trans d1
  have e3 := (SP.2.1.cell (o := 3) hsz1 (n1 _ (Nat.le_refl _))).trans d3
  have hb2 := (SP.2.1.block _ hlt1 (n1 _ (by omega))).trans hb1
  have rp := fP.row HRW.out (fun a ha hp e => hA a ha (by rw [← HBN.out]; exact hp) (.inl e))
  have hsz2 : w.heap.size < wp.heap.size := Nat.lt_of_lt_of_le hsz1 SP.2.1.size
  clear d1 d3 rb
  go_wp2_with fail
  refine (HR.out wp fP rp).mono ?_
  rintro e wr ⟨rfl, GR, SR⟩
  have fR : Frm (fun b => G1 b ∨ G2 b) w wr := (fP.mono (fun b hb => .inl hb)).trans SR.2.1 (fun i hi => .inl (.inr hi))
  have k3 := (SR.2.1.cell (o := 3) hsz2 (n2 _ (Nat.le_refl _))).trans e3
  have hb3 := (SR.2.1.block _ (block_lt hb2) (n2 _ (by omega))).trans hb2
  have rr := fR.row HRW.out (fun a ha hp e => hA a ha (by rw [← HBN.out]; exact hp) e)
  clear e1 e3 rp
  go_wp2_with fail
  refine (kept_u8 A n c wb.heap.size bs wr _ rr HBN.out (by omega) hb3).mono ?_
  rintro e w6 ⟨rfl, m6, rfl⟩
  go_wp2_with fail
  refine (spoil_u8 wb.heap.size n (n + 5) (bs ++ marks5) [] (wr.drewN m6) (by rw [List.append_nil]; exact hb3) (by rw [List.length_append, HBN.out]; rfl) (by omega) (by omega)).mono ?_
  rintro e w7 ⟨rfl, _, g7, _⟩
  have f7 : Frm (fun b => b = wb.heap.size) wr w7 := (Frm.of_below (F := fun b => b = wb.heap.size) (bel_drewN wr m6)).trans (Frm.of_grownB g7) (fun i hi => .inl hi)
  go_wp2
  go_ret
  exact ⟨rfl, H.out.stepsF XD.out rde_dev f01 SP (Frm.refl _ _) SR f7 (fun b hb => by rw [hb]; exact ⟨by omega, hlt1⟩)⟩

set_option maxHeartbeats 1000000 in
theorem both_wake {D : DevP} (X : DevOk D) (nm tn : ByteArray) (A : Option Addr) (n c : Nat) (N : Int) {w : World} {G1 G2 : Nat → Prop} {g1 g2 : Nat} {d : Dv} (h : Twin D RDe w G1 G2 g1 g2 d) (ok : Dv.Ok d) (hN : -9223372036854775808 ≤ N ∧ N < 9223372036854775808) :
    Calls Try.prog 19 #[.pointer (some ⟨g1, 0, none⟩), .pointer (some ⟨g2, 0, none⟩), .agg #[.int .i64 6, .string nm, .string tn, .slice A n c, .int .i64 N]] w (BothTo D G1 G2 g1 g2 (wakeD d N) w) := by
  have hx := heap_alloc_new w (.cells #[.int .i64 6, .string nm, .string tn, .slice A n c, .int .i64 N] 46)
  have FB : Frm (fun _ => False) w (w.alloc (.cells #[.int .i64 6, .string nm, .string tn, .slice A n c, .int .i64 N] 46)) := Frm.of_below (bel_alloc w _)
  have hsz : w.heap.size < (w.alloc (.cells #[.int .i64 6, .string nm, .string tn, .slice A n c, .int .i64 N] 46)).heap.size := by simp
  have c0 := cell_of_row _ w.heap.size 0 _ _ _ hx
  have c4 := cell_of_row _ w.heap.size 4 _ _ _ hx
  have n1 : ¬ G1 w.heap.size := fun e => Nat.lt_irrefl _ (X.dev.lt h.one _ e)
  have HP : Hid (∀ W, Frm G2 w W → Calls Try.prog 27 #[.pointer (some ⟨g1, 0, none⟩), .int .i64 N] W (Stp D G1 g1 (wakeD d N) (.tuple #[]) W)) := Lib.hid (fun W hW => X.wake N (X.dev.frm h.one hW (fun b hb => h.off b hb)) ok hN)
  have HR : Hid (∀ W, Frm G1 w W → Calls Try.prog 47 #[.pointer (some ⟨g2, 0, none⟩), .int .i64 N] W (Stp RDe G2 g2 (wakeD d N) (.tuple #[]) W)) := Lib.hid (fun W hW => refWake_s N (rde_dev.frm h.two hW (fun b hb h1 => h.off b h1 hb)) ok)
  have H := Lib.hid h
  have XD := Lib.hid X.dev
  clear h ok X hx hN
  generalize hwb : w.alloc (.cells #[.int .i64 6, .string nm, .string tn, .slice A n c, .int .i64 N] 46) = wb at *
  have FB1 : Frm G1 w wb := FB.mono (fun b hb => hb.elim)
  have FB2 : Frm G2 w wb := FB.mono (fun b hb => hb.elim)
  go_enter Try.func19, Try.ntmps19
  go_wp2_with fail
  refine (HP.out _ FB2).mono ?_
  rintro e wp ⟨rfl, GP, SP⟩
  have cP : wp.cell? ⟨w.heap.size, 4, none⟩ = some (.int .i64 N) := (SP.2.1.cell hsz n1).trans c4
  have FR : Frm G1 w wp := FB1.trans SP.2.1 (fun i hi => .inl hi)
  go_wp2_with fail
  refine (HR.out _ FR).mono ?_
  rintro e wr ⟨rfl, GR, SR⟩
  go_wp2
  go_ret
  exact ⟨rfl, H.out.steps XD.out rde_dev FB SP (Frm.refl _ _) SR (Frm.refl _ _)⟩

set_option maxHeartbeats 1000000 in
theorem both_arm {D : DevP} (X : DevOk D) (nm tn : ByteArray) (A : Option Addr) (n c : Nat) (N : Int) {w : World} {G1 G2 : Nat → Prop} {g1 g2 : Nat} {d : Dv} (h : Twin D RDe w G1 G2 g1 g2 d) (ok : Dv.Ok d) (hN : -9223372036854775808 ≤ N ∧ N < 9223372036854775808) :
    Calls Try.prog 19 #[.pointer (some ⟨g1, 0, none⟩), .pointer (some ⟨g2, 0, none⟩), .agg #[.int .i64 5, .string nm, .string tn, .slice A n c, .int .i64 N]] w (BothTo D G1 G2 g1 g2 (armD d N) w) := by
  have hx := heap_alloc_new w (.cells #[.int .i64 5, .string nm, .string tn, .slice A n c, .int .i64 N] 46)
  have FB : Frm (fun _ => False) w (w.alloc (.cells #[.int .i64 5, .string nm, .string tn, .slice A n c, .int .i64 N] 46)) := Frm.of_below (bel_alloc w _)
  have hsz : w.heap.size < (w.alloc (.cells #[.int .i64 5, .string nm, .string tn, .slice A n c, .int .i64 N] 46)).heap.size := by simp
  have c0 := cell_of_row _ w.heap.size 0 _ _ _ hx
  have c4 := cell_of_row _ w.heap.size 4 _ _ _ hx
  have n1 : ¬ G1 w.heap.size := fun e => Nat.lt_irrefl _ (X.dev.lt h.one _ e)
  have HP : Hid (∀ W, Frm G2 w W → Calls Try.prog 23 #[.pointer (some ⟨g1, 0, none⟩), .int .i64 N] W (Stp D G1 g1 (armD d N) (.tuple #[]) W)) := Lib.hid (fun W hW => X.arm N (X.dev.frm h.one hW (fun b hb => h.off b hb)) ok hN)
  have HR : Hid (∀ W, Frm G1 w W → Calls Try.prog 46 #[.pointer (some ⟨g2, 0, none⟩), .int .i64 N] W (Stp RDe G2 g2 (armD d N) (.tuple #[]) W)) := Lib.hid (fun W hW => refArm_s N (rde_dev.frm h.two hW (fun b hb h1 => h.off b h1 hb)))
  have H := Lib.hid h
  have XD := Lib.hid X.dev
  clear h ok X hx hN
  generalize hwb : w.alloc (.cells #[.int .i64 5, .string nm, .string tn, .slice A n c, .int .i64 N] 46) = wb at *
  have FBd : Frm (fun _ => False) w wb.drew := FB.drew
  have FB1 : Frm G1 w wb.drew := FBd.mono (fun b hb => hb.elim)
  have FB2 : Frm G2 w wb.drew := FBd.mono (fun b hb => hb.elim)
  go_enter Try.func19, Try.ntmps19
  go_wp2_with fail
  go_region_with (go_at_call 23; refine (HP.out _ FB2).mono ?_; rintro e wp ⟨rfl, GP, SP⟩; have cP : wp.cell? ⟨w.heap.size, 4, none⟩ = some (.int .i64 N) := (SP.2.1.cell hsz n1).trans c4; have FR : Frm G1 w wp := FB1.trans SP.2.1 (fun i hi => .inl hi))
  all_goals
    go_wp2_with fail
    refine (HR.out _ FR).mono ?_
    rintro e wr ⟨rfl, GR, SR⟩
    go_wp2
    go_ret
    exact ⟨rfl, H.out.steps XD.out rde_dev FBd SP (Frm.refl _ _) SR (Frm.refl _ _)⟩

theorem both_none {D : DevP} (X : DevOk D) (ki : Int) (nm tn : ByteArray) (A : Option Addr) (n c : Nat) (N : Int) {w : World} {G1 G2 : Nat → Prop} {g1 g2 : Nat} {d : Dv} (h : Twin D RDe w G1 G2 g1 g2 d) (hk : ki < 0 ∨ 6 < ki) :
    Calls Try.prog 19 #[.pointer (some ⟨g1, 0, none⟩), .pointer (some ⟨g2, 0, none⟩), .agg #[.int .i64 ki, .string nm, .string tn, .slice A n c, .int .i64 N]] w (BothTo D G1 G2 g1 g2 d w) := by
  have hx := heap_alloc_new w (.cells #[.int .i64 ki, .string nm, .string tn, .slice A n c, .int .i64 N] 46)
  have FB : Frm (fun _ => False) w (w.alloc (.cells #[.int .i64 ki, .string nm, .string tn, .slice A n c, .int .i64 N] 46)) := Frm.of_below (bel_alloc w _)
  have c0 := cell_of_row _ w.heap.size 0 _ _ _ hx
  have k0 : (ki == 0) = false := beq_false_of_ne (by omega)
  have k1 : (ki == 1) = false := beq_false_of_ne (by omega)
  have k2 : (ki == 2) = false := beq_false_of_ne (by omega)
  have k3 : (ki == 3) = false := beq_false_of_ne (by omega)
  have k4 : (ki == 4) = false := beq_false_of_ne (by omega)
  have k5 : (ki == 5) = false := beq_false_of_ne (by omega)
  have k6 : (ki == 6) = false := beq_false_of_ne (by omega)
  have H := Lib.hid (h.frm X.dev rde_dev FB (fun _ _ e => e))
  clear hk h X hx
  generalize hwb : w.alloc (.cells #[.int .i64 ki, .string nm, .string tn, .slice A n c, .int .i64 N] 46) = wb at *
  go_enter Try.func19, Try.ntmps19
  go_wp2
  go_ret
  exact ⟨rfl, G1, G2, H.out, FB.mono (fun b hb => hb.elim), fun b hb => .inl hb⟩
end Go.Proofs.Ytfclgjdlkcmnfaa
namespace Go.Proofs.Ytfclgjdlkcmnfaa
open Go.RowKit
set_option linter.unusedVariables false
set_option maxRecDepth 100000

/-- What a call makes of a device, and what it answers. -/
def callD (d : Dv) (ki : Int) (nm tn : ByteArray) (bs : List Int) (N : Int) : Dv × Int :=
  if ki = 0 then appD d nm bs else if ki = 1 then syncD d nm else if ki = 2 then truncD d nm N else if ki = 3 then renD d nm tn else if ki = 4 then remD d nm else if ki = 5 then (armD d N, 0) else if ki = 6 then (wakeD d N, 0) else (d, 0)
theorem call_ok {d : Dv} (h : Dv.Ok d) (ki : Int) (nm tn : ByteArray) {bs : List Int} {N : Int} (hb : ∀ x ∈ bs, (Lit.int .u8 x).wf = true) (hN : N < 9223372036854775808) : Dv.Ok (callD d ki nm tn bs N).1 := by
  unfold callD
  split
  · exact app_ok h nm bs hb
  split
  · exact sync_ok h nm
  split
  · exact trunc_ok h nm N
  split
  · exact ren_ok h nm tn
  split
  · exact rem_ok h nm
  split
  · exact arm_ok h N hN
  split
  · exact wake_ok h N
  · exact h
theorem both_any {D : DevP} (X : DevOk D) (ki : Int) (nm tn : ByteArray) (A : Option Addr) (n c : Nat) (N : Int) (bs : List Int) {w : World} {G1 G2 : Nat → Prop} {g1 g2 : Nat} {d : Dv} (h : Twin D RDe w G1 G2 g1 g2 d) (ok : Dv.Ok d)
    (hr : Row .u8 w w.heap.size A bs) (hbn : bs.length = n) (hnc : n ≤ c) (hc : c ≤ 140737488355328) (hb : n ≤ 4096) (hA : ∀ a, A = some a → 0 < n → ¬ (G1 a.block ∨ G2 a.block)) (hN : -9223372036854775808 ≤ N ∧ N < 9223372036854775808) :
    Calls Try.prog 19 #[.pointer (some ⟨g1, 0, none⟩), .pointer (some ⟨g2, 0, none⟩), .agg #[.int .i64 ki, .string nm, .string tn, .slice A n c, .int .i64 N]] w (BothTo D G1 G2 g1 g2 (callD d ki nm tn bs N).1 w) := by
  unfold callD
  split
  · rename_i e; subst e; exact both_append X nm tn A n c N bs h ok hr hbn hnc hc hb hA
  split
  · rename_i e; subst e; exact both_sync X nm tn A n c N h ok
  split
  · rename_i e; subst e; exact both_truncate X nm tn A n c N h ok hN
  split
  · rename_i e; subst e; exact both_rename X nm tn A n c N h ok
  split
  · rename_i e; subst e; exact both_remove X nm tn A n c N h ok
  split
  · rename_i e; subst e; exact both_arm X nm tn A n c N h ok hN
  split
  · rename_i e; subst e; exact both_wake X nm tn A n c N h ok hN
  · exact both_none X ki nm tn A n c N h (by omega)
end Go.Proofs.Ytfclgjdlkcmnfaa
namespace Go.Proofs.Ytfclgjdlkcmnfaa
open Go.RowKit
set_option linter.unusedVariables false
set_option maxRecDepth 100000

section
variable {G : Nat → Prop} {g : Nat} {d : Dv} {w : World}
theorem refNames_s (h : RDe w G g d) (ok : Dv.Ok d) : Calls Try.prog 48 #[.pointer (some ⟨g, 0, none⟩)] w fun e w' => ∃ v, e = .returned v ∧ TxOwn w' w.heap.size v (namesD d) ∧ Below w.heap.size w w' := by
  obtain ⟨fv, ms, hx, hg⟩ := h
  exact refNames_dv g fv ms d w hx (by have := ok.ln; omega)
theorem refRead_s (s : ByteArray) (h : RDe w G g d) (ok : Dv.Ok d) : Calls Try.prog 21 #[.pointer (some ⟨g, 0, none⟩), .string s] w fun e w' => ∃ v, e = .returned (.tuple #[v, .int .i64 (readE d s)]) ∧ Own .u8 5 w' w.heap.size v (readL d s) ∧ Below w.heap.size w w' := by
  obtain ⟨fv, ms, hx, hg⟩ := h
  exact refRead_dv g fv ms d s w hx ok
theorem refUsed_s (h : RDe w G g d) (ok : Dv.Ok d) : Calls Try.prog 49 #[.pointer (some ⟨g, 0, none⟩)] w fun e w' => e = .returned (.int .i64 (usedD d.fs : Nat)) ∧ Below w.heap.size w w' := by
  obtain ⟨fv, ms, hx, hg⟩ := h
  exact (refUsed_dv g fv ms d w hx (by have := ok.ln; omega) (by have := ok.us; have := ok.rm; omega)).mono fun e w' ⟨h1, h2⟩ => ⟨h1, by rw [← h2]; exact Below.refl _ _⟩
theorem refFree_s (h : RDe w G g d) (ok : Dv.Ok d) : Calls Try.prog 50 #[.pointer (some ⟨g, 0, none⟩)] w fun e w' => e = .returned (.int .i64 ((d.room : Int) - usedD d.fs)) ∧ Below w.heap.size w w' := by
  obtain ⟨fv, ms, hx, hg⟩ := h
  exact (refFree_dv g fv ms d w hx ok).mono fun e w' ⟨h1, m, h2⟩ => ⟨h1, by rw [h2]; exact bel_drewN w m⟩
theorem refDown_s (h : RDe w G g d) : Calls Try.prog 51 #[.pointer (some ⟨g, 0, none⟩)] w fun e w' => e = .returned (.bool d.off) ∧ Below w.heap.size w w' := by
  obtain ⟨fv, ms, hx, hg⟩ := h
  exact (refDown_dv g fv ms d w hx).mono fun e w' ⟨h1, h2⟩ => ⟨h1, by rw [← h2]; exact Below.refl _ _⟩
end
theorem Own.frm8 {F : Nat → Prop} {w w' : World} {base : Nat} {v : Value} {l : List Int} (h : Own .u8 5 w base v l) (hf : Frm F w w') (hn : ∀ b, v.ownBlock = some b → ¬ F b) : Own .u8 5 w' base v l := by
  refine ⟨h.1, ?_⟩
  rcases h.2 with h0 | ⟨g, cap, cur, hv, h1, h2, h3⟩
  · exact .inl h0
  · exact .inr ⟨g, cap, cur, hv, h1, (hf.block g (block_lt h2) (hn g (by rw [hv]; rfl))).trans h2, h3⟩
theorem read_there {d : Dv} {k : Nat} (hk : k < d.fs.length) : readE d d.fs[k].nm = 0 := by
  unfold readE
  cases hf : findD d.fs d.fs[k].nm with
  | none => exact absurd (sameN_refl _) (by rw [findD_none.1 hf _ (List.getElem_mem hk)]; decide)
  | some j => rfl
theorem readL_wf {d : Dv} (ok : Dv.Ok d) (s : ByteArray) : (∀ x ∈ readL d s, (Lit.int .u8 x).wf = true) ∧ (readL d s).length ≤ 16777216 := by
  unfold readL
  cases hf : findD d.fs s with
  | none => exact ⟨fun x hx => absurd hx (by simp), by simp⟩
  | some j =>
    obtain ⟨hj, _, _⟩ := findD_some hf
    simp only [List.getElem?_eq_getElem hj, Option.map_some, Option.getD_some]
    exact ⟨(ok.fl _ (List.getElem_mem hj)).wf, by have := used_mem (List.getElem_mem hj); have := ok.us; have := ok.rm; omega⟩
theorem names_size {d : Dv} (ok : Dv.Ok d) : ∀ s ∈ namesD d, s.size ≤ 1000 := by
  intro s hs
  obtain ⟨f, hf, rfl⟩ := List.mem_map.1 hs
  have := (ok.fl f hf).nm
  unfold okN at this
  simp at this
  omega

set_option maxHeartbeats 4000000 in
theorem looks_any {D : DevP} (X : DevOk D) {w : World} {G1 G2 : Nat → Prop} {g1 g2 : Nat} {d : Dv} (h : Twin D RDe w G1 G2 g1 g2 d) (ok : Dv.Ok d) :
    Calls Try.prog 20 #[.pointer (some ⟨g1, 0, none⟩), .pointer (some ⟨g2, 0, none⟩)] w fun e w' => e = .returned (.bool true) ∧ Below w.heap.size w w' := by
  have HT : Hid (∀ W, Below w.heap.size w W → Twin D RDe W G1 G2 g1 g2 d) := Lib.hid (fun W hW => h.frm X.dev rde_dev (Frm.of_below (F := fun _ => False) hW) (fun _ _ e => e))
  have HX := Lib.hid X
  have OK := Lib.hid ok
  obtain ⟨NL, hNL⟩ : ∃ l, namesD d = l := ⟨_, rfl⟩
  have HNL := Lib.hid hNL
  obtain ⟨n, hn⟩ : ∃ n, NL.length = n := ⟨_, rfl⟩
  have HN := Lib.hid hn
  have hn64 : n ≤ 64 := by rw [← hn, ← hNL]; unfold namesD; rw [List.length_map]; exact ok.ln
  have HSZ : Hid (∀ s ∈ NL, s.size ≤ 1000) := Lib.hid (by rw [← hNL]; exact names_size ok)
  have HRD : Hid (∀ k (hk : k < NL.length), readE d NL[k] = 0) := Lib.hid (fun k hk => by
    subst hNL
    have h2 : k < d.fs.length := by simpa [namesD] using hk
    have := read_there h2
    simpa [namesD] using this)
  obtain ⟨U, hU⟩ : ∃ U : Nat, usedD d.fs = U := ⟨_, rfl⟩
  have HU := Lib.hid hU
  obtain ⟨FR, hFR⟩ : ∃ F : Int, (d.room : Int) - usedD d.fs = F := ⟨_, rfl⟩
  have HFR := Lib.hid hFR
  obtain ⟨OF, hOF⟩ : ∃ o, d.off = o := ⟨_, rfl⟩
  have HOF := Lib.hid hOF
  clear hNL hn hU hFR hOF X h ok
  go_enter Try.func20, Try.ntmps20
  go_wp2_with fail
  refine (HX.out.names (HT.out _ (Below.refl _ _)).one OK.out).mono ?_
  rintro e w1 ⟨v1, rfl, own1, bel1⟩
  rw [HNL.out] at own1
  obtain ⟨A1, c1, rfl, row1, _, _⟩ := own1.own.row
  rw [HN.out] at own1 ⊢
  go_wp2_with fail
  refine (refNames_s (HT.out _ bel1).two OK.out).mono ?_
  rintro e w2 ⟨v2, rfl, own2, b2⟩
  rw [HNL.out] at own2
  have bel2 := bel1.trans (b2.mono bel1.size)
  obtain ⟨A2, c2, rfl, row2, hc2, hm2⟩ := own2.row
  rw [HN.out] at own2 hc2 ⊢
  go_wp2_with fail
  refine (same_yes_tx A1 A2 n c1 c2 NL w2 _ _ (row1.below b2) row2 HN.out (by omega)).mono ?_
  rintro e w3 ⟨rfl, m3, rfl⟩
  have bel3 := below_drewN bel2 m3
  go_wp2_with fail
  refine (HX.out.used (HT.out _ bel3).one OK.out).mono ?_
  rintro e w4 ⟨rfl, b4⟩
  rw [HU.out]
  have bel4 := bel3.trans (b4.mono bel3.size)
  go_wp2_with fail
  refine (refUsed_s (HT.out _ bel4).two OK.out).mono ?_
  rintro e w5 ⟨rfl, b5⟩
  rw [HU.out]
  have bel5 := bel4.trans (b5.mono bel4.size)
  go_wp2_with fail
  refine (HX.out.free (HT.out _ bel5).one OK.out).mono ?_
  rintro e w6 ⟨rfl, b6⟩
  rw [HFR.out]
  have bel6 := bel5.trans (b6.mono bel5.size)
  go_wp2_with fail
  refine (refFree_s (HT.out _ bel6).two OK.out).mono ?_
  rintro e w7 ⟨rfl, b7⟩
  rw [HFR.out]
  have bel7 := bel6.trans (b7.mono bel6.size)
  go_wp2_with fail
  refine (HX.out.down (HT.out _ bel7).one OK.out).mono ?_
  rintro e w8 ⟨rfl, b8⟩
  rw [HOF.out]
  have bel8 := bel7.trans (b8.mono bel7.size)
  go_wp2_with fail
  refine (refDown_s (HT.out _ bel8).two).mono ?_
  rintro e w9 ⟨rfl, b9⟩
  rw [HOF.out]
  have bel9 := bel8.trans (b9.mono bel8.size)
  have b29 : Below w2.heap.size w2 w9 := ((((((bel_drewN w2 m3).trans (b4.mono (Nat.le_refl _))).trans (b5.mono b4.size)).trans (b6.mono (Nat.le_trans b4.size b5.size))).trans (b7.mono (Nat.le_trans (Nat.le_trans b4.size b5.size) b6.size))).trans (b8.mono (Nat.le_trans (Nat.le_trans (Nat.le_trans b4.size b5.size) b6.size) b7.size))).trans (b9.mono (Nat.le_trans (Nat.le_trans (Nat.le_trans (Nat.le_trans b4.size b5.size) b6.size) b7.size) b8.size))
  have own19 : TkOwn w9 w.heap.size (.slice A1 n c1) NL := (own1.below b2 (Nat.le_refl _)).below b29 (Nat.le_refl _)
  have hv1 : ∀ b, (Value.slice A1 n c1).ownBlock = some b → w.heap.size ≤ b ∧ b < w1.heap.size := fun b hb => own1.own.lt b hb
  have own29 : TxOwn w9 w1.heap.size (.slice A2 n c2) NL := own2.below b29
  clear b4 b5 b6 b7 b8 b9 bel3 bel4 bel5 bel6 bel7 bel8
  go_wp2_with fail
  refine (spoil_tk _ _ NL w9 own19 HSZ.out).mono ?_
  rintro e wa ⟨rfl, ga, _⟩
  have bela : Below w.heap.size w wa := bel9.grown ga bel9.size (fun q e => (hv1 q e).1)
  have own2a : TxOwn wa w1.heap.size (.slice A2 n c2) NL := own29.frm (F := fun b => (Value.slice A1 n c1).ownBlock = some b) ⟨ga.os, ga.tape, ga.output, ga.size, fun k hk hn => ga.block k hk (fun e => hn e.symm)⟩ (fun b hb e => by have := (hv1 b e).2; have := (own29.lt b hb).1; omega)
  clear own19 own29 own1 own2 row1 row2 ga b29 bel9 bel2 b2
  have HO2 : Hid (Below w.heap.size w wa ∧ TxOwn wa w1.heap.size (.slice A2 n c2) NL) := Lib.hid ⟨bela, own2a⟩
  clear bela own2a
  go_wp2_with fail
  go_loopw [7] (fun i wr => ∃ k : Nat, k ≤ n ∧ i = .int .i64 k ∧ Hid (Below w.heap.size w wr ∧ TxOwn wr w1.heap.size (.slice A2 n c2) NL)) (fun i _ => n - (intOf i).toNat)
  case atStart => exact ⟨0, by omega, rfl, HO2⟩
  case round =>
    obtain ⟨k, hk, rfl, hrel⟩ := hrel
    by_cases hlt : k < n
    · have hkN : k < NL.length := by rw [HN.out]; exact hlt
      obtain ⟨b, cap', e, hb1, hbW, _, _, e0, _⟩ := hrel.out.2.elem hkN
      injection e with eA en ec
      subst eA ec
      clear en HO2
      obtain ⟨bel, own⟩ := hrel.out
      have HOW := Lib.hid own
      have hrd := HRD.out k hkN
      obtain ⟨s, hs⟩ : ∃ s, NL[k] = s := ⟨_, rfl⟩
      rw [hs] at e0 hrd
      have hwl := readL_wf OK.out s
      obtain ⟨L, hL⟩ : ∃ L, readL d s = L := ⟨_, rfl⟩
      rw [hL] at hwl
      obtain ⟨M, hM⟩ : ∃ M, L.length = M := ⟨_, rfl⟩
      have hM2 : M ≤ 16777216 := by rw [← hM]; exact hwl.2
      have HWL := Lib.hid hwl.1
      have HM := Lib.hid hM
      have HLL := Lib.hid hL
      have HRK := Lib.hid hrd
      clear hrd hwl hL hM hs own hrel
      go_wp2_with fail
      refine (HX.out.read s (HT.out _ bel).one OK.out).mono ?_
      rintro e wb ⟨v3, rfl, own3, p1⟩
      rw [HRK.out]
      rw [HLL.out] at own3
      obtain ⟨A3, c3, rfl, row3, _, _⟩ := own3.own.row HWL.out
      rw [HM.out] at own3 ⊢
      have q1 := bel.trans (p1.mono bel.size)
      have e01 := (p1.cell (p := ⟨b, k, none⟩) hbW).trans e0
      have hbW1 : b < wb.heap.size := Nat.lt_of_lt_of_le hbW p1.size
      clear e0
      go_wp2_with fail
      refine (HX.out.read s (HT.out _ q1).one OK.out).mono ?_
      rintro e wc ⟨v4, rfl, own4, p2⟩
      rw [HRK.out]
      rw [HLL.out] at own4
      obtain ⟨A4, c4, rfl, row4, _, _⟩ := own4.own.row HWL.out
      rw [HM.out] at own4 ⊢
      have q2 := q1.trans (p2.mono q1.size)
      have e02 := (p2.cell (p := ⟨b, k, none⟩) hbW1).trans e01
      have row3c := row3.below p2
      have hlt3 := own3.block
      have own3c := own3.below p2 (Nat.le_refl _)
      clear e01 own3 row3
      go_wp2_with fail
      refine (refRead_s s (HT.out _ q2).two OK.out).mono ?_
      rintro e wd ⟨v5, rfl, own5, p3⟩
      rw [HRK.out]
      rw [HLL.out] at own5
      obtain ⟨A5, c5, rfl, row5, _, _⟩ := own5.row HWL.out
      rw [HM.out] at own5 ⊢
      have q3 := q2.trans (p3.mono q2.size)
      have row3d := row3c.below (p3.mono p2.size)
      have row4d := row4.below p3
      have hlt4 := own4.block
      have own3d := own3c.below p3 (Nat.le_refl _)
      have own4d := own4.below p3 (Nat.le_refl _)
      have hlt5 := own5.lt
      clear e02 row3c row4 own3c own4
      go_wp2_with fail
      refine (same_yes_u8 A3 A5 M c3 c5 L wd _ _ row3d row5 HM.out (by omega)).mono ?_
      rintro e we ⟨rfl, m1, rfl⟩
      go_wp2_with fail
      refine (same_yes_u8 A4 A5 M c4 c5 L (wd.drewN m1) _ _ (row4d.drewN m1) (row5.drewN m1) HM.out (by omega)).mono ?_
      rintro e we ⟨rfl, m2, rfl⟩
      go_wp2_with fail
      refine (spoil_kown8 _ _ L (wd.drewN (m1 + m2)) (own3d.drewN (m1 + m2))).mono ?_
      rintro e wf ⟨rfl, gf, _⟩
      have q4 : Below w.heap.size w wf := (below_drewN q3 (m1 + m2)).grown gf q3.size (fun q e => Nat.le_trans bel.size (hlt3 q e).1)
      have fF : Frm (fun i => (Value.slice A3 M c3).ownBlock = some i) wd wf := ⟨gf.os, gf.tape, gf.output, gf.size, fun k hk hn => gf.block k hk (fun e => hn e.symm)⟩
      have row4f := ((own4d.own.frm8 fF (fun i hi e => by have := (hlt3 i e).2; have := (hlt4 i hi).1; omega)).row HWL.out)
      have row5f := ((own5.frm8 fF (fun i hi e => by have := (hlt3 i e).2; have := (hlt5 i hi).1; have := p2.size; omega)).row HWL.out)
      have HNX : Hid (Below w.heap.size w wf ∧ TxOwn wf w1.heap.size (.slice (some ⟨b, 0, none⟩) n c2) NL) := Lib.hid ⟨q4, ((HOW.out.below p1).below p2 |>.below p3).frm fF (fun i hi e => by have := (hlt3 i e).1; have := (HOW.out.lt i hi).2; omega)⟩
      obtain ⟨A4', c4', e4, row4g, _, _⟩ := row4f
      obtain ⟨A5', c5', e5, row5g, _, _⟩ := row5f
      injection e4 with e4A _ _
      injection e5 with e5A _ _
      subst e4A e5A
      clear gf q4 fF own3d own4d own5 row3d row4d row5 hlt3 hlt4 hlt5 p1 p2 p3 q1 q2 q3
      go_wp2_with fail
      refine (same_yes_u8 _ _ _ _ _ L wf _ _ row4g row5g rfl (by omega)).mono ?_
      rintro e we ⟨rfl, m3', rfl⟩
      go_wp2
      go_roundw
      case rel => exact ⟨k + 1, by omega, by go_num, Lib.hid ⟨below_drewN HNX.out.1 m3', HNX.out.2.below (bel_drewN wf m3')⟩⟩
      case measure => simp [intOf]; omega
    · obtain rfl : k = n := by omega
      go_wp2
      go_ret
      exact ⟨rfl, hrel.out.1⟩
end Go.Proofs.Ytfclgjdlkcmnfaa
namespace Go.Proofs.Ytfclgjdlkcmnfaa
open Go.RowKit
set_option linter.unusedVariables false
set_option maxRecDepth 100000

theorem opD_room {d d' : Dv} (h : d'.room = d.room) : (opD d d').1.room = d.room := by
  unfold opD
  split
  · rfl
  · exact h
theorem spent_room (d : Dv) : (spentD d).room = d.room := by unfold spentD; split <;> rfl
theorem callD_room (d : Dv) (ki : Int) (nm tn : ByteArray) (bs : List Int) (N : Int) : (callD d ki nm tn bs N).1.room = d.room := by
  unfold callD
  split
  · unfold appD
    split
    · rfl
    split
    · rfl
    split
    · rfl
    · exact opD_room (spent_room d)
  split
  · unfold syncD
    split
    · rfl
    split
    · rfl
    · exact opD_room (spent_room d)
  split
  · unfold truncD
    split
    · rfl
    split
    · rfl
    split
    · rfl
    · exact opD_room (spent_room d)
  split
  · unfold renD
    split
    · rfl
    split
    · rfl
    split
    · rfl
    · exact opD_room (spent_room d)
  split
  · unfold remD
    split
    · rfl
    split
    · rfl
    · exact opD_room (spent_room d)
  split
  · rfl
  split
  · rfl
  · rfl
theorem find_self {d : Dv} (ok : Dv.Ok d) {k : Nat} (hk : k < d.fs.length) : findD d.fs d.fs[k].nm = some k := by
  refine findD_at k hk (sameN_refl _) (fun j hj => ?_)
  have := List.pairwise_iff_getElem.1 ok.up j k (by omega) hk hj
  exact (lessN_not this).2.1
theorem read_bs {d : Dv} (ok : Dv.Ok d) {k : Nat} (hk : k < d.fs.length) : readL d d.fs[k].nm = d.fs[k].bs := by
  unfold readL
  rw [find_self ok hk]
  simp [List.getElem?_eq_getElem hk]
theorem used_take_succ (l : List Fl) {k : Nat} (hk : k < l.length) : usedD (l.take (k + 1)) = usedD (l.take k) + l[k].bs.length := by
  rw [List.take_succ_eq_append_getElem hk, used_append]; simp [usedD]
theorem used_take_le (l : List Fl) (k : Nat) : usedD (l.take k) ≤ usedD l := by
  conv => rhs; rw [← List.take_append_drop k l, used_append]
  omega
end Go.Proofs.Ytfclgjdlkcmnfaa
namespace Go.Proofs.Ytfclgjdlkcmnfaa
open Go.RowKit
set_option linter.unusedVariables false
set_option maxRecDepth 100000

def LastIs (d : Dv) (s : ByteArray) (all : List Int) (sy : Nat) : Prop := (d.fs = [] ∧ all = [] ∧ sy = 0) ∨ d.fs = [⟨s, all, sy⟩]
theorem find_one (s : ByteArray) (b : List Int) (y : Nat) : findD [⟨s, b, y⟩] s = some 0 := findD_at 0 (by simp) (sameN_refl s) (fun j hj => absurd hj (by omega))
theorem opD_E (d d' : Dv) : ((opD d d').2 = 0 → (opD d d').1 = d') ∧ ((opD d d').2 ≠ 0 → (opD d d').1.fs = d.fs) := by
  unfold opD
  split
  · exact ⟨fun h => absurd (show (10 : Int) = 0 from h) (by decide), fun _ => rfl⟩
  · exact ⟨fun _ => rfl, fun h => absurd rfl h⟩
theorem LastIs.fs {d d' : Dv} {s : ByteArray} {all : List Int} {sy : Nat} (h : LastIs d s all sy) (e : d'.fs = d.fs) : LastIs d' s all sy := by
  unfold LastIs
  rw [e]; exact h
theorem last_app {d : Dv} {s : ByteArray} {all : List Int} {sy : Nat} (h : LastIs d s all sy) (b : List Int) : ((appD d s b).2 = 0 → LastIs (appD d s b).1 s (all ++ b) sy) ∧ ((appD d s b).2 ≠ 0 → LastIs (appD d s b).1 s all sy) := by
  unfold appD
  split
  · exact ⟨fun e => absurd (show (8 : Int) = 0 from e) (by decide), fun _ => h⟩
  split
  · exact ⟨fun e => absurd (show (10 : Int) = 0 from e) (by decide), fun _ => h⟩
  split
  · exact ⟨fun e => absurd (show (9 : Int) = 0 from e) (by decide), fun _ => h⟩
  · obtain ⟨h1, h2⟩ := opD_E d { spentD d with fs := addF d.fs s b }
    refine ⟨fun e => ?_, fun e => h.fs (h2 e)⟩
    rw [h1 e]
    right
    show addF d.fs s b = _
    rcases h with ⟨hf, rfl, rfl⟩ | hf
    · rw [hf]; rfl
    · rw [hf]
      unfold addF
      rw [find_one]
      rfl
theorem last_sync {d : Dv} {s : ByteArray} {all : List Int} {sy : Nat} (h : LastIs d s all sy) : ((syncD d s).2 = 0 → LastIs (syncD d s).1 s all all.length) ∧ ((syncD d s).2 ≠ 0 → LastIs (syncD d s).1 s all sy) := by
  unfold syncD
  split
  · exact ⟨fun e => absurd (show (10 : Int) = 0 from e) (by decide), fun _ => h⟩
  rcases h with ⟨hf, rfl, rfl⟩ | hf
  · rw [hf]
    exact ⟨fun e => absurd (show (6 : Int) = 0 from e) (by decide), fun _ => .inl ⟨hf, rfl, rfl⟩⟩
  · simp only [hf, find_one]
    obtain ⟨h1, h2⟩ := opD_E d { spentD d with fs := [(⟨s, all, sy⟩ : Fl)].modify 0 (fun f => { f with sy := f.bs.length }) }
    refine ⟨fun e => ?_, fun e => LastIs.fs (Or.inr hf) (h2 e)⟩
    rw [h1 e]
    right
    rfl
theorem last_read {d : Dv} {s : ByteArray} {all : List Int} {sy : Nat} (h : LastIs d s all sy) : (readE d s = 6 ∧ all = [] ∧ namesD d = []) ∨ (readE d s = 0 ∧ readL d s = all ∧ d.fs = [⟨s, all, sy⟩]) := by
  rcases h with ⟨hf, rfl, rfl⟩ | hf
  · left
    unfold readE namesD
    rw [hf]
    exact ⟨rfl, rfl, rfl⟩
  · right
    unfold readE readL
    rw [hf, find_one]
    exact ⟨rfl, rfl, rfl⟩
theorem last_wake {d : Dv} {s : ByteArray} {all : List Int} {sy : Nat} (h : d.fs = [⟨s, all, sy⟩]) (keep : Int) {N : Nat} (hN : N = sy + min keep.toNat (all.length - sy)) : (wakeD d keep).fs = [⟨s, all.take N, N⟩] ∧ readE (wakeD d keep) s = 0 ∧ readL (wakeD d keep) s = all.take N := by
  have e : (wakeD d keep).fs = [⟨s, all.take N, N⟩] := by
    show d.fs.map (wakeF keep) = _
    rw [h, hN]
    rfl
  refine ⟨e, ?_, ?_⟩
  · unfold readE; rw [e, find_one]
  · unfold readL; rw [e, find_one]; rfl
end Go.Proofs.Ytfclgjdlkcmnfaa
namespace Go.Proofs.Ytfclgjdlkcmnfaa
open Go.RowKit
set_option linter.unusedVariables false
set_option maxRecDepth 100000

theorem findD_one (s : ByteArray) (b : List Int) (y : Nat) : findD [⟨s, b, y⟩] s = some 0 := findD_at 0 (by simp) (sameN_refl s) (fun j hj => absurd hj (by omega))
theorem wk_facts : ∃ d1 d2 d3, appD (newD 10) ⟨#[97]⟩ [1, 2] = (d1, 0) ∧ syncD d1 ⟨#[97]⟩ = (d2, 0) ∧ appD d2 ⟨#[97]⟩ [3, 4] = (d3, 0) ∧ readE (wakeD d3 1) ⟨#[97]⟩ = 0 ∧ readL (wakeD d3 1) ⟨#[97]⟩ = [1, 2, 3] ∧ ((wakeD d3 1).room : Int) - usedD (wakeD d3 1).fs = 7 := by
  obtain ⟨s, hs⟩ : ∃ s : ByteArray, s = ⟨#[97]⟩ := ⟨_, rfl⟩
  rw [← hs]
  have ho : okN s = true := by rw [hs]; decide
  have h1 : appD (newD 10) s [1, 2] = (⟨10, -1, false, [⟨s, [1, 2], 0⟩]⟩, 0) := by
    unfold appD newD addF
    simp [ho, findD, opD, spentD, insD, usedD]
  have h2 : syncD ⟨10, -1, false, [⟨s, [1, 2], 0⟩]⟩ s = (⟨10, -1, false, [⟨s, [1, 2], 2⟩]⟩, 0) := by
    unfold syncD
    simp [findD_one, opD, spentD]
  have h3 : appD ⟨10, -1, false, [⟨s, [1, 2], 2⟩]⟩ s [3, 4] = (⟨10, -1, false, [⟨s, [1, 2, 3, 4], 2⟩]⟩, 0) := by
    unfold appD addF
    simp [ho, findD_one, opD, spentD, usedD]
  have h4 : wakeD ⟨10, -1, false, [⟨s, [1, 2, 3, 4], 2⟩]⟩ 1 = ⟨10, -1, false, [⟨s, [1, 2, 3], 3⟩]⟩ := by
    simp [wakeD, wakeF]
  refine ⟨_, _, _, h1, h2, h3, ?_⟩
  rw [h4]
  simp [readE, readL, findD_one, usedD]

/-- What a step makes of a device that is new. -/
theorem Did.new {D : DevP} {G G' : Nat → Prop} {g : Nat} {d' : Dv} {w W W' : World} (s : Did D G g d' W W' G') (hG : ∀ b, G b → w.heap.size ≤ b) (hb : Below w.heap.size w W) : (∀ b, G' b → w.heap.size ≤ b) ∧ Below w.heap.size w W' :=
  ⟨fun b hb' => (s.2.2 b hb').elim (hG b) (fun e => Nat.le_trans hb.size e), s.2.1.below hb hb.size hG⟩
theorem row_two (w : World) (a b : Int) (h : ∀ x ∈ [a, b], (Lit.int .u8 x).wf = true) : Row .u8 (w.alloc (.cells #[.int .u8 a, .int .u8 b] 5)) (w.alloc (.cells #[.int .u8 a, .int .u8 b] 5)).heap.size (some ⟨w.heap.size, 0, none⟩) [a, b] := by
  have hx : (w.alloc (.cells #[.int .u8 a, .int .u8 b] 5)).heap[w.heap.size]? = some (.cells (blk .u8 [a, b]) 5 (0, 0)) := heap_alloc_new w _
  exact (Row.of_block hx [a, b] h (List.prefix_refl _)).more (block_lt hx)
theorem row_three (w : World) (a b c : Int) (h : ∀ x ∈ [a, b, c], (Lit.int .u8 x).wf = true) : Row .u8 (w.alloc (.cells #[.int .u8 a, .int .u8 b, .int .u8 c] 5)) (w.alloc (.cells #[.int .u8 a, .int .u8 b, .int .u8 c] 5)).heap.size (some ⟨w.heap.size, 0, none⟩) [a, b, c] := by
  have hx : (w.alloc (.cells #[.int .u8 a, .int .u8 b, .int .u8 c] 5)).heap[w.heap.size]? = some (.cells (blk .u8 [a, b, c]) 5 (0, 0)) := heap_alloc_new w _
  exact (Row.of_block hx [a, b, c] h (List.prefix_refl _)).more (block_lt hx)

set_option maxHeartbeats 2000000 in
theorem works12 {D : DevP} (X : DevOk D) (w : World) : Calls Try.prog 12 #[] w fun e w' => e = .returned (.bool true) ∧ Below w.heap.size w w' := by
  obtain ⟨d1, d2, d3, f1, f2, f3, f4, f5, f6⟩ := wk_facts
  have ok0 := new_ok 10 (by omega)
  have wf12 : ∀ x ∈ [(1 : Int), 2], (Lit.int .u8 x).wf = true := by decide
  have wf34 : ∀ x ∈ [(3 : Int), 4], (Lit.int .u8 x).wf = true := by decide
  have wf123 : ∀ x ∈ [(1 : Int), 2, 3], (Lit.int .u8 x).wf = true := by decide
  have ok1 : Dv.Ok d1 := by have := app_ok ok0 ⟨#[97]⟩ [1, 2] wf12; rw [f1] at this; exact this
  have ok2 : Dv.Ok d2 := by have := sync_ok ok1 ⟨#[97]⟩; rw [f2] at this; exact this
  have ok3 : Dv.Ok d3 := by have := app_ok ok2 ⟨#[97]⟩ [3, 4] wf34; rw [f3] at this; exact this
  have ok4 := wake_ok ok3 1
  have H0 : Hid (Calls Try.prog 10 #[.int .i64 10] w fun e w' => ∃ g G, e = .returned (.tuple #[.pointer (some ⟨g, 0, none⟩), .int .i64 0]) ∧ D w' G g (newD 10) ∧ Below w.heap.size w w' ∧ ∀ b, G b → w.heap.size ≤ b) := Lib.hid (X.newYes 10 w (by omega))
  have HA : Hid (∀ (W : World) (G : Nat → Prop) (g : Nat), D W G g (newD 10) → Calls Try.prog 25 #[.pointer (some ⟨g, 0, none⟩), .string ⟨#[97]⟩, .slice (some ⟨W.heap.size, 0, none⟩) 2 2] (W.alloc (.cells #[.int .u8 1, .int .u8 2] 5)) (Stp D G g d1 (.int .i64 0) (W.alloc (.cells #[.int .u8 1, .int .u8 2] 5)))) := Lib.hid (fun W G g h => by
    have := X.append ⟨#[97]⟩ (some ⟨W.heap.size, 0, none⟩) 2 2 [1, 2] (X.dev.frm h (Frm.of_below (F := fun _ => False) (bel_alloc W (.cells #[.int .u8 1, .int .u8 2] 5))) (fun _ _ e => e)) ok0 (row_two W 1 2 wf12) rfl (by omega) (by omega) (by omega) (fun a ha _ e => by injection ha with ha; subst ha; exact Nat.lt_irrefl _ (X.dev.lt h _ e))
    rw [f1] at this
    exact this)
  have HS : Hid (∀ (W : World) (G : Nat → Prop) (g : Nat), D W G g d1 → Calls Try.prog 26 #[.pointer (some ⟨g, 0, none⟩), .string ⟨#[97]⟩] W (Stp D G g d2 (.int .i64 0) W)) := Lib.hid (fun W G g h => by
    have := X.sync ⟨#[97]⟩ h ok1
    rw [f2] at this
    exact this)
  have HB : Hid (∀ (W : World) (G : Nat → Prop) (g : Nat), D W G g d2 → Calls Try.prog 25 #[.pointer (some ⟨g, 0, none⟩), .string ⟨#[97]⟩, .slice (some ⟨W.heap.size, 0, none⟩) 2 2] (W.alloc (.cells #[.int .u8 3, .int .u8 4] 5)) (Stp D G g d3 (.int .i64 0) (W.alloc (.cells #[.int .u8 3, .int .u8 4] 5)))) := Lib.hid (fun W G g h => by
    have := X.append ⟨#[97]⟩ (some ⟨W.heap.size, 0, none⟩) 2 2 [3, 4] (X.dev.frm h (Frm.of_below (F := fun _ => False) (bel_alloc W (.cells #[.int .u8 3, .int .u8 4] 5))) (fun _ _ e => e)) ok2 (row_two W 3 4 wf34) rfl (by omega) (by omega) (by omega) (fun a ha _ e => by injection ha with ha; subst ha; exact Nat.lt_irrefl _ (X.dev.lt h _ e))
    rw [f3] at this
    exact this)
  have HW : Hid (∀ (W : World) (G : Nat → Prop) (g : Nat), D W G g d3 → Calls Try.prog 27 #[.pointer (some ⟨g, 0, none⟩), .int .i64 1] W (Stp D G g (wakeD d3 1) (.tuple #[]) W)) := Lib.hid (fun W G g h => X.wake 1 h ok3 (by omega))
  have HD : Hid (∀ (W : World) (G : Nat → Prop) (g : Nat), D W G g (wakeD d3 1) → Calls Try.prog 13 #[.pointer (some ⟨g, 0, none⟩), .string ⟨#[97]⟩] W fun e w' => ∃ v, e = .returned (.tuple #[v, .int .i64 0]) ∧ KOwn .u8 5 w' W.heap.size v [1, 2, 3] ∧ Below W.heap.size W w') := Lib.hid (fun W G g h => by
    have := X.read ⟨#[97]⟩ h ok4
    rw [f4, f5] at this
    exact this)
  have HF : Hid (∀ (W : World) (G : Nat → Prop) (g : Nat), D W G g (wakeD d3 1) → Calls Try.prog 14 #[.pointer (some ⟨g, 0, none⟩)] W fun e w' => e = .returned (.int .i64 7) ∧ Below W.heap.size W w') := Lib.hid (fun W G g h => by
    have := X.free h ok4
    rw [f6] at this
    exact this)
  have XD := Lib.hid X.dev
  have W3 := Lib.hid wf123
  generalize hd4 : wakeD d3 1 = d4 at *
  clear f1 f2 f3 f4 f5 f6 ok0 ok1 ok2 ok3 ok4 wf12 wf34 wf123 X hd4
  go_enter Try.func12, Try.ntmps12
  go_wp2_with fail
  refine H0.out.mono ?_
  rintro e w1 ⟨g, G, rfl, h1, b1, n1⟩
  go_wp2_with fail
  refine (HA.out w1 G g h1).mono ?_
  rintro e w2 ⟨rfl, G2, s2⟩
  have k2 := s2.new n1 (b1.alloc b1.size _)
  have h2 := s2.1
  clear s2 n1 b1 h1
  go_wp2_with fail
  refine (HS.out w2 G2 g h2).mono ?_
  rintro e w3 ⟨rfl, G3, s3⟩
  have k3 := s3.new k2.1 k2.2
  have h3 := s3.1
  clear s3 k2 h2
  go_wp2_with fail
  refine (HB.out w3 G3 g h3).mono ?_
  rintro e w4 ⟨rfl, G4, s4⟩
  have k4 := s4.new k3.1 (k3.2.alloc k3.2.size _)
  have h4 := s4.1
  clear s4 k3 h3
  go_wp2_with fail
  refine (HW.out w4 G4 g h4).mono ?_
  rintro e w5 ⟨rfl, G5, s5⟩
  have k5 := s5.new k4.1 k4.2
  have h5 := s5.1
  clear s5 k4 h4
  go_wp2_with fail
  refine (HD.out w5 G5 g h5).mono ?_
  rintro e w6 ⟨v, rfl, own6, b6⟩
  have bel6 := k5.2.trans (b6.mono k5.2.size)
  have h6 := XD.out.frm h5 (Frm.of_below (F := fun _ => False) b6) (fun _ _ e => e)
  obtain ⟨A6, c6, rfl, row6, _, _⟩ := own6.own.row W3.out
  have bel7 := bel6.alloc bel6.size (.cells #[.int .u8 1, .int .u8 2, .int .u8 3] 5)
  have h7 := XD.out.frm h6 (Frm.of_below (F := fun _ => False) (bel_alloc w6 (.cells #[.int .u8 1, .int .u8 2, .int .u8 3] 5))) (fun _ _ e => e)
  have row7 := row6.below (bel_alloc w6 (.cells #[.int .u8 1, .int .u8 2, .int .u8 3] 5))
  clear h5 h6 b6 own6 row6 k5 bel6
  go_wp2_with fail
  refine (same_yes_u8 A6 _ _ c6 _ [1, 2, 3] _ _ _ row7 (row_three w6 1 2 3 W3.out) rfl (by decide)).mono ?_
  rintro e w8 ⟨rfl, m8, rfl⟩
  go_wp2_with fail
  refine (HF.out _ G5 g (XD.out.frm h7 (Frm.of_below (F := fun _ => False) (bel_drewN _ m8)) (fun _ _ e => e))).mono ?_
  rintro e w9 ⟨rfl, b9⟩
  go_wp2
  go_ret
  exact ⟨rfl, (below_drewN bel7 m8).trans (b9.mono bel7.size)⟩
end Go.Proofs.Ytfclgjdlkcmnfaa
namespace Go.Proofs.Ytfclgjdlkcmnfaa
open Go.RowKit
set_option linter.unusedVariables false
set_option maxRecDepth 100000

theorem zero_tx (m : Nat) : Builtin.zeroCells (Value.string ⟨#[]⟩).cells m = tblk (List.replicate m ⟨#[]⟩) := by
  have h := toList_madeCells_one (Value.string ⟨#[]⟩) m
  apply Array.toList_inj.1
  show (madeCells (Value.string ⟨#[]⟩).cells (m * 1)).toList = _
  rw [Nat.mul_one, show (Value.string ⟨#[]⟩).cells = #[Value.string ⟨#[]⟩] from rfl, h]
  simp [tblk]
theorem zeros_tx (m : Nat) : ∀ s ∈ List.replicate m (⟨#[]⟩ : ByteArray), s.size ≤ 1000 := fun s hs => by
  rw [List.eq_of_mem_replicate hs]; decide
theorem run_append_TK (w : World) (base : Nat) (v : Value) (l : List ByteArray) (hown : TkOwn w base v l) (ad : Addr) (c : Nat) (t : ByteArray) (hn : w.cell? ad = some (.string t)) (hb : l.length < 1000000) (hbase : base ≤ w.heap.size) :
    ∃ A' n' c' w', (∀ ty, (Builtin.append_ #[34, 34] ty #[v, .slice (some ad) 1 c]).run Try.prog w = .ok (.slice A' n' c') w') ∧ TkOwn w' base (.slice A' n' c') (l ++ [t]) ∧ Frm (fun b => v.ownBlock = some b) w w' := by
  obtain ⟨i, hi1, hz, hsz, hby⟩ := info_parts info_tx
  have hnews : ∀ j u, [Value.string t][j]? = some u → w.cell? (ad.add j) = some u := by
    intro j u hu
    cases j with
    | zero =>
      simp at hu
      subst hu
      have : ad.add 0 = ad := by simp [Addr.add]
      rw [this]; exact hn
    | succ j => simp at hu
  have hone : ∀ u ∈ [Value.string t], u.oneCell' = true := by
    intro u hu
    simp at hu
    subst hu; rfl
  have h63 : (9223372036854775807 : Nat) = maxLen := rfl
  rcases hown with ⟨rfl, rfl⟩ | ⟨g, n, cap, r, rfl, h2, h3, h4, h5, h6, h7, h8⟩
  · have hrun := fun ty => run_append_nil (P := Try.prog) w 34 ty 9 i _ Try.underlying34 hi1 hz ad 1 c [Value.string t] (by simp [hsz]) hnews (by omega) (by omega) (by rw [hby]; omega)
    have hge := grownCap_ge w 1 0 9
    refine ⟨_, _, _, _, hrun, .inr ⟨w.heap.size, 1, grownCap w 1 0 9, List.replicate (grownCap w 1 0 9 - 1) ⟨#[]⟩, rfl, hbase, rfl, ?_, hge, grownCap_le_maxLen w 1 0 9 (by unfold maxLen; omega), by simp; omega, zeros_tx _⟩, ⟨rfl, rfl, rfl, by simp, fun q hq _ => heap_alloc_old w.drew _ hq⟩⟩
    rw [zero_tx, show ([Value.string t].toArray ++ tblk (List.replicate (grownCap w 1 0 9 - 1) ⟨#[]⟩)) = tblk ([] ++ [t] ++ List.replicate (grownCap w 1 0 9 - 1) ⟨#[]⟩) by simp [tblk]]
    exact heap_alloc_new w.drew _
  · by_cases hroom : n + 1 ≤ cap
    · have hsz4 : (tblk (l ++ r)).size = cap := by rw [tblk_size, List.length_append]; exact h7
      have hrun := fun ty => run_append_room (P := Try.prog) w 34 ty 9 i Try.underlying34 hi1 g n cap (tblk (l ++ r)) h4 ad 1 c [Value.string t] (by simp [hsz]) hnews hone hroom (by rw [hsz4, hsz, Nat.mul_one]; simp; omega)
      refine ⟨_, _, _, _, hrun, .inr ⟨g, n + 1, cap, r.drop 1, rfl, h2, by rw [List.length_append, h3]; rfl, ?_, hroom, h6, by rw [List.length_append, List.length_drop]; simp; omega, fun x hx => h8 x (List.mem_of_mem_drop hx)⟩, ⟨rfl, rfl, rfl, by simp, fun q _ hq => setRow_other w g q _ (fun e => hq (by simp [Value.ownBlock, e]))⟩⟩
      have hcells : ((tblk (l ++ r)).toList.take (n * i.size) ++ [Value.string t] ++ (tblk (l ++ r)).toList.drop (n * i.size + [Value.string t].length)).toArray = tblk (l ++ [t] ++ r.drop 1) := by
        rw [hsz, Nat.mul_one]
        simp only [tblk, List.map_append, ← h3, List.length_singleton]
        congr 1
        rw [List.take_left' (by simp), ← List.drop_drop, List.drop_left' (by simp), List.map_drop]
        rfl
      rw [hcells]
      exact setRow_heap w g _ _ 9 _ h4
    · have holds : ∀ j u, (l.map Value.string)[j]? = some u → w.cell? ((⟨g, 0, none⟩ : Addr).add j) = some u := by
        intro j u hu
        have hj : j < l.length := by have := (List.getElem?_eq_some_iff.1 hu).1; simpa using this
        rw [Go.WideShapes.add_plain, Nat.zero_add, cell_of_row w g j _ _ _ h4, tblk_get _ _ (by rw [List.length_append]; omega), List.getElem_append_left hj]
        rw [List.getElem?_map, List.getElem?_eq_getElem hj] at hu
        exact hu
      have hrun := fun ty => run_append_grow (P := Try.prog) w 34 ty 9 i _ Try.underlying34 hi1 hz ⟨g, 0, none⟩ n cap (l.map Value.string) (by rw [hsz]; simp; omega) holds ad 1 c [Value.string t] (by simp [hsz]) hnews (by omega) (by omega) (growslice_fits (by omega) (by rw [hby]; omega))
      have hge := grownCap_ge w (n + 1) cap 9
      refine ⟨_, _, _, _, hrun, .inr ⟨w.heap.size, n + 1, grownCap w (n + 1) cap 9, List.replicate (grownCap w (n + 1) cap 9 - (n + 1)) ⟨#[]⟩, rfl, hbase, by rw [List.length_append, h3]; rfl, ?_, hge, grownCap_le_maxLen w (n + 1) cap 9 (by unfold maxLen; omega), by rw [List.length_append, List.length_replicate]; simp; omega, zeros_tx _⟩, ⟨rfl, rfl, rfl, by simp, fun q hq _ => heap_alloc_old w.drew _ hq⟩⟩
      rw [zero_tx, show ((l.map Value.string).toArray ++ [Value.string t].toArray ++ tblk (List.replicate (grownCap w (n + 1) cap 9 - (n + 1)) ⟨#[]⟩)) = tblk (l ++ [t] ++ List.replicate (grownCap w (n + 1) cap 9 - (n + 1)) ⟨#[]⟩) by simp [tblk]]
      exact heap_alloc_new w.drew _
end Go.Proofs.Ytfclgjdlkcmnfaa
namespace Go.Proofs.Ytfclgjdlkcmnfaa
open Go.RowKit Go.Maps Go.Sort
set_option linter.unusedVariables false
set_option maxRecDepth 100000

theorem gone_perm {l : List Pf} (nd : l.Pairwise (fun a b => sameN a.f.nm b.f.nm = false)) (left : Lit → Bool) {m : Pf} (hm : m ∈ l) (hl : left (kS m.f.nm) = true) :
    (gone (fun z => left z && !z.sameKey (kS m.f.nm)) l).Perm (m :: gone left l) := by
  have other : ∀ k : Pf, sameN k.f.nm m.f.nm = false → (left (kS k.f.nm) && !(kS k.f.nm).sameKey (kS m.f.nm)) = left (kS k.f.nm) := fun k hk => by
    rw [sameKey_ne (kS_ne hk)]; simp
  induction l with
  | nil => cases hm
  | cons a l ih =>
    obtain ⟨h1, h2⟩ := List.pairwise_cons.1 nd
    unfold gone at ih ⊢
    rcases List.mem_cons.1 hm with rfl | hm
    · have e : l.filter (fun k => !(left (kS k.f.nm) && !(kS k.f.nm).sameKey (kS m.f.nm))) = l.filter (fun k => !left (kS k.f.nm)) :=
        List.filter_congr (fun k hk => by rw [other k (by rw [sameN_comm]; exact h1 k hk)])
      rw [List.filter_cons, List.filter_cons, e]
      simp only [hl, WideAt.sameKey_self (kS_key _)]
      simp
    · have ih := ih h2 hm
      have ho := other a (h1 m hm)
      simp only at ih ho
      rw [List.filter_cons, List.filter_cons]
      simp only [ho]
      split
      · exact (List.Perm.cons a ih).trans (List.Perm.swap m a _)
      · exact ih
def byt (s : ByteArray) : List UInt8 := s.data.toList
theorem enc_byt (s : ByteArray) : encStr (byt s) = .string s := by unfold encStr byt; simp
/-- What a sort makes of names that rise. -/
theorem sort_names {l n : List ByteArray} (hp : l.Perm n) (hu : n.Pairwise (fun a b => lessN a b = true)) : ((l.map byt).mergeSort fun x y => decide (x ≤ y)) = n.map byt := by
  have h1 := mergeSort_of_perm (hp.map byt)
  have h2 : (n.map byt).mergeSort leB = n.map byt := by
    refine List.mergeSort_of_pairwise ?_
    rw [List.pairwise_map]
    refine hu.imp (fun {a b} hab => ?_)
    have := lessN_iff.1 hab
    rw [ByteArray.toList_eq, ByteArray.toList_eq] at this
    exact decide_eq_true (Std.le_of_lt this)
  exact h1.trans h2
theorem put_tblk (n m r : List ByteArray) (h : n.length = m.length) : putCells encStr 0 (n.map byt).toArray (tblk (m ++ r)) = tblk (n ++ r) := by
  apply Array.ext_getElem?
  intro j
  by_cases hj : j < n.length
  · rw [tblk_get _ _ (by rw [List.length_append]; omega), List.getElem_append_left hj]
    have : j < (tblk (m ++ r)).size := by rw [tblk_size, List.length_append]; omega
    simp [putCells, hj, this, enc_byt]
  · by_cases h2 : j < (m ++ r).length
    · have h3 : j < (n ++ r).length := by rw [List.length_append] at h2 ⊢; omega
      rw [tblk_get _ _ h3, List.getElem_append_right (by omega)]
      have h4 : (tblk (m ++ r))[j]? = some (.string (r[j - n.length]'(by rw [List.length_append] at h2; omega))) := by
        rw [tblk_get _ _ h2, List.getElem_append_right (by omega)]
        simp only [h]
      have h5 : j < (tblk (m ++ r)).size := by rw [tblk_size]; exact h2
      simp only [Array.getElem?_eq_getElem h5] at h4
      injection h4 with h4
      simp [putCells, hj, h5, h4]
    · have h3 : ¬ j < (n ++ r).length := by rw [List.length_append] at h2 ⊢; omega
      rw [Array.getElem?_eq_none (by simp [putCells, tblk_size]; simp at h2; omega), Array.getElem?_eq_none (by rw [tblk_size]; omega)]
theorem block_lt' {w : World} {b : Nat} {o : Obj} (h : w.heap[b]? = some o) : b < w.heap.size := (Array.getElem?_eq_some_iff.1 h).1
theorem TkOwn.lt {w : World} {base : Nat} {v : Value} {l : List ByteArray} (h : TkOwn w base v l) : ∀ b, v.ownBlock = some b → base ≤ b ∧ b < w.heap.size := by
  intro b hb
  rcases h with ⟨rfl, _⟩ | ⟨g', k', cap, r, rfl, h2, _, h4, _⟩
  · cases hb
  · injection hb with hb
    subst hb
    exact ⟨h2, block_lt' h4⟩
theorem TkOwn.letters {w : World} {base : Nat} {v : Value} {l : List ByteArray} (h : TkOwn w base v l) : ∃ A c, v = .slice A l.length c := by
  rcases h with ⟨rfl, rfl⟩ | ⟨g, n, cap, r, rfl, _, h3, _⟩
  · exact ⟨_, _, rfl⟩
  · rw [h3]; exact ⟨_, _, rfl⟩
/-- slices.Sort, of texts of the call's own. -/
theorem sort_tk (v : Value) (l n : List ByteArray) (w : World) (base : Nat) (h : TkOwn w base v l) (hp : l.Perm n) (hu : n.Pairwise (fun a b => lessN a b = true)) (hl : l.length ≤ 1000000) (hb : base ≤ w.heap.size) :
    Calls Try.prog 35 #[v] w fun e w' => e = .returned (.tuple #[]) ∧ TkOwn w' base v n ∧ Below base w w' := by
  rcases h with ⟨rfl, rfl⟩ | ⟨g, k, cap, r, rfl, h2, h3, h4, h5, h6, h7, h8⟩
  · refine (Any.slices_Sort_string_none Try.sortStr none 0 w).mono fun e w' ⟨e1, e2⟩ => ⟨e1, ?_, ?_⟩
    · rw [← List.Perm.nil_eq hp]
      exact .inl ⟨rfl, rfl⟩
    · rw [e2]; exact Below.refl _ _
  · subst h3
    have hlen : n.length = l.length := hp.length_eq.symm
    have hH : Holds encStr w g 0 (l.map byt).toArray := holds_of_block h4 (by
      rw [List.length_map]
      simp only [tblk, List.map_append]
      rw [List.take_left' (by simp), List.map_map]
      exact List.map_congr_left (fun s _ => (enc_byt s).symm))
    have hc := Any.slices_Sort_string Try.sortStr g 0 cap (l.map byt) w hH (block_lt h4) (by rw [List.length_map]; omega)
    rw [List.length_map] at hc
    refine hc.mono fun e w' ⟨e1, nn, os, e2⟩ => ⟨e1, ?_, ?_⟩
    · rw [sort_names hp hu] at e2
      refine .inr ⟨g, l.length, cap, r, rfl, h2, hlen, ?_, h5, h6, by omega, h8⟩
      rw [e2, heap_sorted _ h4, put_tblk _ _ _ hlen]
    · rw [e2]
      exact Below.grown (Below.refl base w) (grownBy_sorted _) hb (fun j hj => by injection hj with hj; omega)

section
variable {w w' : World} {g bm : Nat} {ms ms1 : List Pf} {d : Dv}
def nmsP (l : List Pf) : List ByteArray := l.map (·.f.nm)
set_option maxHeartbeats 2000000 in
theorem names_pd (h : PDx w g bm ms d) (ok : Dv.Ok d) : Calls Try.prog 16 #[.pointer (some ⟨g, 0, none⟩)] w fun e w' => ∃ v, e = .returned v ∧ TkOwn w' w.heap.size v (namesD d) ∧ Below w.heap.size w w' := by
  obtain ⟨L, c0, c1, c2, c3, c4, cf, _⟩ := h.cells
  obtain ⟨D, hown, hi⟩ := h.map
  generalize (ms.map pfN).length = nn at hown
  have HI := Lib.hid hi
  have HNM : Hid (nmsP ms = namesD d) := Lib.hid (by unfold nmsP namesD; rw [← h.fs, List.map_map]; rfl)
  have HND := Lib.hid h.nds
  have HLN : Hid (ms.length ≤ 64) := Lib.hid (by rw [h.len]; exact ok.ln)
  have HUP : Hid ((namesD d).Pairwise (fun a b => lessN a b = true)) := Lib.hid (by unfold namesD; rw [List.pairwise_map]; exact ok.up)
  have HSZ : Hid (∀ m ∈ ms, m.f.nm.size ≤ 1000000) := Lib.hid (fun m hm => by
    have := ok_size (ok.fl m.f (by rw [← h.fs]; exact List.mem_map.2 ⟨m, hm, rfl⟩)).nm
    omega)
  clear h ok hi
  go_enter Try.func16, Try.ntmps16
  go_wp2_with (first
    | (at_range; refine wpList_range_own _ rfl _ 38 rfl 9 66 lawS Try.underlying38 _ bm _ _ rfl hown ?_; intro w0 hrg0 hg0 hs0)
    | go_in)
  go_frame
  have F0 : Hid (Frm (fun _ => False) w w0) := Lib.hid ⟨hg0.os, hg0.tape, hg0.output, hg0.size, fun k hk _ => hg0.block k hk (by simp)⟩
  clear hg0
  go_loopw [3, 4] (fun v _ wr => ∃ (left : Lit → Bool) (cnt : Nat), wr.ranges Try.prog 9 ptrR bm w.heap.size nn D left cnt ∧ Hid (∃ ss, TkOwn wr w.heap.size v ss ∧ ss.Perm (nmsP (gone left ms)) ∧ Frm (fun _ => False) w wr))
    (fun _ _ wr => wr.rangeLeft bm w.heap.size)
  case atStart =>
    refine ⟨_, _, hrg0, Lib.hid ⟨[], TkOwn.nil _ _, ?_, F0.out⟩⟩
    rw [gone_none (fun m hm => by rw [HI.out.has]; exact List.any_eq_true.2 ⟨pfN m, List.mem_map.2 ⟨m, hm, rfl⟩, sameN_refl _⟩)]
    exact List.Perm.refl _
  case round =>
    obtain ⟨left, cnt, hrg, hF⟩ := hrel
    go_wp2_with (first
      | (at_next; refine wpList_next_pm _ rfl _ rfl bm w.heap.size _ _ _ HI.out _ _ rfl hrg ?_ ?_)
      | go_in)
    · intro hl
      obtain ⟨ss, h1, h2, h3⟩ := hF.out
      rw [gone_all hl, HNM.out] at h2
      have hlen : ss.length ≤ 64 := by rw [h2.length_eq, ← HNM.out]; unfold nmsP; rw [List.length_map]; exact HLN.out
      have HS := Lib.hid (sort_tk _ ss (namesD d) wr w.heap.size h1 h2 HUP.out (by omega) h3.size)
      have H3 := Lib.hid (h3.below (Below.refl w.heap.size _) (Nat.le_refl _) (fun i hi => hi.elim))
      obtain ⟨A, c, hv⟩ := h1.letters
      subst hv
      clear h1 h2 h3 hF hl
      go_wp2_with (go_at_call 35; refine HS.out.mono ?_; rintro e w9 ⟨rfl, y1, y2⟩)
      go_ret
      exact ⟨_, rfl, y1, H3.out.trans y2⟩
    · intro m hm hl w1 cnt1 hrg1 hlt hF1 hs1 hen
      obtain ⟨ss, h1, h2, h3⟩ := hF.out
      have hl2 : left (kS m.f.nm) = true := hl
      have hpm := gone_perm HND.out left hm hl2
      have hlen : ss.length ≤ 64 := by
        rw [h2.length_eq]; unfold nmsP; rw [List.length_map]
        exact Nat.le_trans (List.length_filter_le _ _) HLN.out
      obtain ⟨im, is, isn, ic, hit⟩ := ranges_iter hrg
      have hvc : ∀ b, u3.ownBlock = some b → ∃ c, wr.heap[b]? = some (.cells c 9 (0, 0)) := fun b hb => by
        rcases h1 with ⟨rfl, _⟩ | ⟨g', k', cap, r, rfl, _, _, h4, _⟩
        · cases hb
        · injection hb with hb
          subst hb
          exact ⟨_, h4⟩
      have hvr : ∀ b, u3.ownBlock = some b → b ≠ w.heap.size := fun b hb e => by
        obtain ⟨c, hc⟩ := hvc b hb
        rw [e, hit] at hc; cases hc
      obtain ⟨es, clock, hbm⟩ : ∃ es clock, wr.heap[bm]? = some (.map es clock) := by
        obtain ⟨es, clock, _, _, _, hb, _⟩ := hrg
        exact ⟨es, clock, hb⟩
      have hvm : ∀ b, u3.ownBlock = some b → b ≠ bm := fun b hb => by
        obtain ⟨c, hc⟩ := hvc b hb
        exact cells_nm hc hbm
      have hk1 : TkOwn w1 w.heap.size u3 ss := h1.frm hF1 (fun b hb e => hvr b hb e)
      have hnsz := HSZ.out m hm
      have HCl : Hid (Calls Try.prog 34 #[.string m.f.nm] w1 fun e w' => e = .returned (.string m.f.nm) ∧ Below w1.heap.size w1 w') := Lib.hid (sclone_any _ w1 hnsz)
      have hsz1 : w.heap.size ≤ w1.heap.size := Nat.le_trans h3.size hF1.size
      have HAP : Hid (∀ wc, Below w1.heap.size w1 wc → ∃ A' n' c' w2, (∀ ty, (Builtin.append_ #[34, 34] ty #[u3, .slice (some ⟨wc.heap.size, 0, none⟩) 1 1]).run Try.prog (wc.alloc (.cells #[.string m.f.nm] 9)) = .ok (.slice A' n' c') w2) ∧
          w2.ranges Try.prog 9 ptrR bm w.heap.size nn D (fun z => left z && !z.sameKey (kS m.f.nm)) cnt1 ∧ Hid (∃ ss, TkOwn w2 w.heap.size (.slice A' n' c') ss ∧ ss.Perm (nmsP (gone (fun z => left z && !z.sameKey (kS m.f.nm)) ms)) ∧ Frm (fun _ => False) w w2)) := Lib.hid (fun wc hwc => by
        obtain ⟨bo, bc, bz⟩ := box_one wc (.string m.f.nm) 9
        have hb2 : Below w1.heap.size w1 (wc.alloc (.cells #[.string m.f.nm] 9)) := hwc.trans (bo.mono hwc.size)
        have hk2 : TkOwn (wc.alloc (.cells #[.string m.f.nm] 9)) w.heap.size u3 ss := hk1.frm (F := fun _ => False) (Frm.of_below hb2) (fun _ _ e => e)
        obtain ⟨A', n', c', w2, r1, r2, r3⟩ := run_append_TK (wc.alloc (.cells #[.string m.f.nm] 9)) w.heap.size u3 ss hk2 ⟨wc.heap.size, 0, none⟩ 1 m.f.nm bc (by omega) (Nat.le_trans hsz1 hb2.size)
        have f12 : Frm (fun b => u3.ownBlock = some b) w1 w2 := (Frm.of_below (F := fun b => u3.ownBlock = some b) hb2).trans r3 (fun i hi => .inl hi)
        have hb1 : bm < w1.heap.size := by
          have h1 : bm < wr.heap.size := block_lt' hbm
          have h2 := hF1.size
          omega
        refine ⟨A', n', c', w2, r1, ranges_same hrg1 (f12.block bm hb1 (fun e => hvm _ e rfl)) (f12.block w.heap.size hrg1.lt (fun e => hvr _ e rfl)), Lib.hid ⟨ss ++ [m.f.nm], r2, ?_, ?_⟩⟩
        · have e1 := hpm.map (fun m : Pf => m.f.nm)
          rw [List.map_cons] at e1
          exact ((List.perm_append_singleton _ _).trans (List.Perm.cons _ h2)).trans e1.symm
        · have hbase := fun b hb => (TkOwn.lt h1 b hb).1
          exact (h3.trans hF1 (fun i hi => .inr (by rw [hi]; exact Nat.le_refl _))).trans f12 (fun i hi => .inr (hbase i hi)))
      have HRO := Lib.hid hrg
      have HLT := Lib.hid hlt
      simp only [pfN] at hen
      obtain ⟨A, c, hv⟩ := h1.letters
      subst hv
      generalize m.f.nm = nm at *
      generalize m.g = gm at *
      clear hrg1 hrg hlt hs1 hF hF1 h1 h2 h3 hpm hlen hit hvc hvr hbm hvm hk1 hnsz hsz1 hl2
      go_wp2_with (first
        | (go_at_call 34; refine HCl.out.mono ?_; rintro e wc ⟨rfl, hbc⟩; obtain ⟨A', n', c', w2, hrun, hr3, hW3⟩ := HAP.out _ hbc; have HR3 := Lib.hid hr3; clear hr3 hbc)
        | (at_builtin; refine wpList_append_run _ rfl _ _ 34 rfl _ _ _ _ rfl rfl hrun ?_))
      go_roundw
      case rel => exact ⟨_, cnt1, HR3.out, hW3⟩
      case measure => rw [HR3.out.left_eq, HRO.out.left_eq]; exact HLT.out
end
end Go.Proofs.Ytfclgjdlkcmnfaa
namespace Go.Proofs.Ytfclgjdlkcmnfaa
open Go.RowKit Go.Maps
set_option linter.unusedVariables false
set_option maxRecDepth 100000

theorem new_no12 (r : Int) (w : World) (hr : r < 0 ∨ 16777216 < r) : Calls Try.prog 10 #[.int .i64 r] w fun e w' => e = .returned (.tuple #[.pointer none, .int .i64 3]) ∧ Below w.heap.size w w' := by
  by_cases h1 : r < 0
  · go_enter Try.func10, Try.ntmps10
    go_wp2
    go_ret2
    exact ⟨rfl, Below.refl _ _⟩
  · have h2 : r > 16777216 := by omega
    go_enter Try.func10, Try.ntmps10
    go_wp2
    go_ret2
    exact ⟨rfl, Below.refl _ _⟩
theorem new_yes12 (r : Nat) (w : World) (hr : r ≤ 16777216) : Calls Try.prog 10 #[.int .i64 (r : Int)] w fun e w' => ∃ g G, e = .returned (.tuple #[.pointer (some ⟨g, 0, none⟩), .int .i64 0]) ∧ PDe w' G g (newD r) ∧ Below w.heap.size w w' ∧ ∀ b, G b → w.heap.size ≤ b := by
  have h1 : ¬ (r : Int) < 0 := by omega
  have h2 : ¬ (r : Int) > 16777216 := by omega
  have hmm := @run_makeMap Try.prog
  have hm := PMap.made w
  have bm := bel_alloc w (.map #[] 0)
  have zm : (w.alloc (.map #[] 0)).heap.size = w.heap.size + 1 := by simp
  have HQ : Hid (∃ g G, Ending.returned (.tuple #[.pointer (some ⟨w.heap.size + 1, 0, none⟩), .int .i64 0]) = Ending.returned (.tuple #[.pointer (some ⟨g, 0, none⟩), .int .i64 0]) ∧ PDe ((w.alloc (.map #[] 0)).alloc (.cells #[.bool false, .bool false, .int .i64 0, .int .i64 (r : Int), .map (some w.heap.size)] 40)) G g (newD r) ∧
      Below w.heap.size w ((w.alloc (.map #[] 0)).alloc (.cells #[.bool false, .bool false, .int .i64 0, .int .i64 (r : Int), .map (some w.heap.size)] 40)) ∧ ∀ b, G b → w.heap.size ≤ b) := Lib.hid (by
    have hb2 := bel_alloc (w.alloc (.map #[] 0)) (.cells #[.bool false, .bool false, .int .i64 0, .int .i64 (r : Int), .map (some w.heap.size)] 40)
    refine ⟨w.heap.size + 1, PG (w.heap.size + 1) w.heap.size [], rfl, ⟨w.heap.size, [], ⟨⟨0, ?_, fun e => absurd (show (0 : Int) ≤ -1 from e) (by decide), by omega, by omega⟩, hm.same (hb2.block _ (by omega)), fun m hm => absurd hm (by simp), rfl, List.Pairwise.nil⟩, fun b => Iff.rfl⟩, bm.trans (hb2.mono (by omega)), fun b hb => ?_⟩
    · have := heap_alloc_new (w.alloc (.map #[] 0)) (.cells #[.bool false, .bool false, .int .i64 0, .int .i64 (r : Int), .map (some w.heap.size)] 40)
      rw [zm] at this
      exact this
    · rcases hb with rfl | rfl | ⟨m, hm, _⟩
      · omega
      · exact Nat.le_refl _
      · exact absurd hm (by simp))
  clear hm bm zm
  go_enter Try.func10, Try.ntmps10
  go_wp2
  go_ret2
  obtain ⟨g, G, h1, h2, h3, h4⟩ := HQ.out
  exact ⟨g, h1, G, h2, h3, h4⟩
theorem devOk12 : DevOk PDe where
  dev := pde_dev
  sync s h ok := by
    obtain ⟨bm, ms, hx, hg⟩ := h
    exact (sync_pd s hx ok).mono fun e w' ⟨h1, h2⟩ => h1 ▸ h2.stp hg _
  truncate s n h ok _ := by
    obtain ⟨bm, ms, hx, hg⟩ := h
    exact (truncate_pd s n hx ok).mono fun e w' ⟨h1, h2⟩ => h1 ▸ h2.stp hg _
  rename s u h ok := by
    obtain ⟨bm, ms, hx, hg⟩ := h
    exact (rename_pd s u hx ok).mono fun e w' ⟨h1, h2⟩ => h1 ▸ h2.stp hg _
  remove s h ok := by
    obtain ⟨bm, ms, hx, hg⟩ := h
    exact (remove_pd s hx ok).mono fun e w' ⟨h1, h2⟩ => h1 ▸ h2.stp hg _
  append s A n c bs h ok hr hn _ _ hb hA := by
    obtain ⟨bm, ms, hx, hg⟩ := h
    exact (append_pd s A n c bs hx ok hr hn hb (fun a ha hp e => hA a ha hp ((hg _).1 e))).mono fun e w' ⟨h1, h2⟩ => h1 ▸ h2.stp hg _
  wake keep h ok _ := by
    obtain ⟨bm, ms, hx, hg⟩ := h
    exact (wake_pd keep hx ok).mono fun e w' ⟨h1, h2⟩ => h1 ▸ h2.stp hg _
  arm n h ok hn := by
    obtain ⟨bm, ms, hx, hg⟩ := h
    refine (arm_pd n hx hn).mono fun e w' ⟨h1, h2, h3⟩ => ?_
    subst h1
    exact PRes.stp hg ⟨ms, h2, h3.mono (fun b e => .inl e), fun b hb => .inl hb⟩ _
  names h ok := by
    obtain ⟨bm, ms, hx, hg⟩ := h
    exact names_pd hx ok
  read s h ok := by
    obtain ⟨bm, ms, hx, hg⟩ := h
    exact read_pd s hx ok
  used h ok := by
    obtain ⟨bm, ms, hx, hg⟩ := h
    exact used_pd hx (by have := ok.us; have := ok.rm; omega)
  free h ok := by
    obtain ⟨bm, ms, hx, hg⟩ := h
    exact free_pd hx ok
  down h ok := by
    obtain ⟨bm, ms, hx, hg⟩ := h
    exact (down_pd hx).mono fun e w' ⟨h1, h2⟩ => ⟨h1, by rw [h2]; exact Below.refl _ _⟩
  newNo := new_no12
  newYes := new_yes12
end Go.Proofs.Ytfclgjdlkcmnfaa
namespace Go.Proofs.Ytfclgjdlkcmnfaa
open Go.RowKit
set_option linter.unusedVariables false

def pick (k : Int) (n : Nat) : Nat := (if k.tmod n < 0 then k.tmod n + n else k.tmod n).toNat
theorem pick_lt (k : Int) (n : Nat) (h : 1 ≤ n) : pick k n < n := by
  have h1 := Int.tmod_lt_of_pos k (show (0 : Int) < n by omega)
  have h2 : -(n : Int) < k.tmod n := by
    have := Int.lt_tmod_of_pos k (show (0 : Int) < n by omega)
    omega
  unfold pick
  split <;> omega
theorem pick_eq (k : Int) (n : Nat) (h : 1 ≤ n) : ((pick k n : Nat) : Int) = if k.tmod n < 0 then k.tmod n + n else k.tmod n := by
  have h2 : -(n : Int) < k.tmod n := by
    have := Int.lt_tmod_of_pos k (show (0 : Int) < n by omega)
    omega
  unfold pick
  split <;> omega
theorem Pick_any (k : Int) (n : Nat) (w : World) (h1 : 1 ≤ n) (hn : n ≤ 140737488355328) :
    Calls Try.prog 24 #[.int .i64 k, .int .i64 n] w fun e w' => e = .returned (.int .i64 (pick k n : Nat)) ∧ w = w' := by
  have hp := pick_eq k n h1
  have hlt := Int.tmod_lt_of_pos k (show (0 : Int) < n by omega)
  have hgt : -(n : Int) < k.tmod n := by
    have := Int.lt_tmod_of_pos k (show (0 : Int) < n by omega)
    omega
  obtain ⟨p, hpp⟩ : ∃ p : Int, Hid (((pick k n : Nat) : Int) = p) := ⟨_, Lib.hid rfl⟩
  rw [hpp.out] at hp ⊢
  have HP := Lib.hid hp
  have t1 : ¬ ((n : Int) < 1) := by omega
  clear hp hpp
  by_cases hneg : k.tmod n < 0
  · have hq : Hid (p = k.tmod n + n) := Lib.hid (by rw [HP.out, if_pos hneg])
    go_enter Try.func24, Try.ntmps24
    go_wp2
    go_ret
    exact ⟨by rw [hq.out]; rfl, rfl⟩
  · have hq : Hid (p = k.tmod n) := Lib.hid (by rw [HP.out, if_neg hneg])
    go_enter Try.func24, Try.ntmps24
    go_wp2
    go_ret
    exact ⟨by rw [hq.out]; rfl, rfl⟩
end Go.Proofs.Ytfclgjdlkcmnfaa
