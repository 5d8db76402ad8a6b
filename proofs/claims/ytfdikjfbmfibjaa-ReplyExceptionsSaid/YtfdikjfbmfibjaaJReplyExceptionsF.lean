/-
  The statement ReplyExceptions of outstationlaw04 holds: for every input that can be read, the call returns true, and each argument reads as it did. No condition of its own.
-/
import Derived.Test.YtfdikjfbmfibjaaJReplyExceptionsE
import Derived.Test.YtfdikjfbmfibjaaRows
import Derived.Test.YtfdikjfbmfibjaaJReplyExceptionsB
namespace Go.Proofs.Ytfdikjfbmfibjaa
open Go.RowKit
set_option linter.unusedVariables false

set_option maxHeartbeats 1000000 in
theorem rpCounted_any (c : Int) (A : Option Addr) (m cap : Nat) (ys : List Int) (w : World) (hr : Row .u8 w w.heap.size A ys) (hm : ys.length = m) (hm2 : m ≤ 255) (hc : 0 ≤ c ∧ c < 256) :
    Calls Try.prog 85 #[.int .i64 c, .slice A m cap] w (Makes .u8 5 w (c :: (m : Int) :: ys)) := by
  have e1 : IntKind.u8.wrap c = c := by rw [IntKind.wrap_u8]; omega
  have e2 : IntKind.u8.wrap (m : Int) = m := by rw [IntKind.wrap_u8]; omega
  have HR := Lib.hid (hr.alloc (Nat.le_refl _) (.cells (blk .u8 [c, (m : Int)]) 5))
  have HM := Lib.hid hm
  have hown := Own.laid (k := .u8) (base := w.heap.size) (n := 2) (heap_alloc_new w (.cells (blk .u8 [c, (m : Int)]) 5)) (Nat.le_refl _) (show [c, (m : Int)].length = 2 from rfl) (by simp [maxLen])
  have bel := bel_alloc w (.cells (blk .u8 [c, (m : Int)]) 5)
  clear hr hm
  go_enter Try.func85, Try.ntmps85
  go_wp2_with (at_builtin; refine wpList_append_row _ rfl (.tmp 10) (.tmp 11) 36 rfl w.heap.size .u8 5 1 Try.underlying36 info_u8 (.slice (some ⟨w.heap.size, 0, none⟩) 2 2) [c, (m : Int)] rfl hown _ _ m cap ys rfl HR.out HM.out (by simp; omega) (by simp [maxLen]; omega) (by simp) ?_; intro v1 w1 hown1 hg1)
  go_ret
  exact ⟨_, rfl, hown1, Below.own bel (by simp) hown hg1⟩

theorem Bytes_row (A : Option Addr) (n c z : Nat) (xs : List Int) (W : World) (hz : W.heap.size = z) (hr : Row .u16 W z A xs) (hn : xs.length = n) (hb : n ≤ 1000000) :
    Calls Try.prog 87 #[.slice A n c] W fun e w' => e = .returned (.slice (some ⟨z, 0, none⟩) (2 * n) (2 * n)) ∧ w'.heap[z]? = some (.cells (blk .u8 (wbytes xs)) 5 (0, 0)) ∧ Below z W w' := by
  subst hz; exact Bytes_any A n c xs W hr hn hb
theorem TB.below2 {w0 w w' : World} {B z : Nat} {o1 o2 : Obj} (h : TB w0 B o1 o2 w) (hb : Below z w w') (hz : B + 1 < z) : TB w0 B o1 o2 w' :=
  ⟨(hb.block B (by omega)).trans h.ret, (hb.block (B + 1) hz).trans h.box, h.bel.trans (hb.mono (by omega))⟩

set_option maxHeartbeats 1000000 in
set_option maxRecDepth 100000 in
theorem rpForm_words (q : Req) (r : Rep) (Ao As Ap Bo Bs Bf : Option Addr) (lo ls lp co cs cp mo ms mf eo es ef : Nat) (w : World) (h : Asked w w.heap.size q Ao As Ap lo ls lp) (hr : Repd w w.heap.size r Bo Bs Bf mo ms mf) (hc : q.c = 3 ∨ q.c = 4) (hm : ms ≤ 125) :
    Calls Try.prog 48 #[.agg #[.int .i64 q.c, .int .i64 q.a, .int .i64 q.n, .slice Ao lo co, .slice As ls cs, .slice Ap lp cp], .agg #[.int .i64 r.x, .slice Bo mo eo, .slice Bs ms es, .slice Bf mf ef]] w (Makes .u8 5 w (q.c :: 2 * (ms : Int) :: wbytes r.set)) := by
  obtain ⟨c, a, n, on, set, fl⟩ := q
  simp only at *
  have t0 := TB.new2 w #[.int .i64 c, .int .i64 a, .int .i64 n, .slice Ao lo co, .slice As ls cs, .slice Ap lp cp] #[.int .i64 r.x, .slice Bo mo eo, .slice Bs ms es, .slice Bf mf ef] 26 29
  have HSET := Lib.hid hr.set
  have HMS := Lib.hid hr.ms
  have HWL : Hid ((wbytes r.set).length = 2 * ms) := Lib.hid (by rw [wbytes_length, hr.ms])
  have hcast : ((2 * ms : Nat) : Int) = 2 * (ms : Int) := by omega
  obtain ⟨m2, hm2⟩ : ∃ m2, 2 * ms = m2 := ⟨_, rfl⟩
  rw [hm2] at HWL hcast
  rw [← hcast]
  have hm3 : m2 ≤ 255 := by omega
  have HM2 := Lib.hid hm2
  clear h hr hm2 hcast
  rcases hc with rfl | rfl
  · go_enter Try.func48, Try.ntmps48
    go_wp2_with fail
    go_region_held3 (fun w' => TB w w.heap.size (.cells #[.int .i64 3, .int .i64 a, .int .i64 n, .slice Ao lo co, .slice As ls cs, .slice Ap lp cp] 26 (0, 0)) (.cells #[.int .i64 r.x, .slice Bo mo eo, .slice Bs ms es, .slice Bf mf ef] 29 (0, 0)) w' ∧ w'.cell? ⟨w.heap.size, 0, none⟩ = some (.int .i64 3) ∧ w'.cell? ⟨w.heap.size + 1, 0, none⟩ = some (.int .i64 r.x) ∧ w'.cell? ⟨w.heap.size + 1, 1, none⟩ = some (.slice Bo mo eo) ∧ w'.cell? ⟨w.heap.size + 1, 2, none⟩ = some (.slice Bs ms es) ∧ w'.cell? ⟨w.heap.size + 1, 3, none⟩ = some (.slice Bf mf ef))
      ((first
        | exact ⟨t0.drew, t0.drew.r6.1, t0.drew.c4.1, t0.drew.c4.2.1, t0.drew.c4.2.2.1, t0.drew.c4.2.2.2.1⟩
        | exact ⟨t2, t2.r6.1, t2.c4.1, t2.c4.2.1, t2.c4.2.2.1, t2.c4.2.2.2.1⟩
        | exact ⟨t1, t1.r6.1, t1.c4.1, t1.c4.2.1, t1.c4.2.2.1, t1.c4.2.2.2.1⟩))
      (first
        | (go_at_call 87; refine (Bytes_row Bs ms es (w.heap.size + 1 + 1) r.set _ (by simp) ((HSET.out.below t0.drew.bel).more (by omega)) HMS.out (by omega)).mono ?_; rintro e w1 ⟨rfl, g1, b1⟩; rw [HM2.out]; have t1 := t0.drew.below2 b1 (by omega); have hg1 := block_lt g1)
        | (go_at_call 85; refine (rpCounted_any _ _ m2 m2 (wbytes r.set) _ ((Row.of_block g1 (wbytes r.set) (wbytes_wf r.set) (List.prefix_refl _)).more hg1) HWL.out hm3 (by omega)).mono ?_; rintro e w2 ⟨v2, rfl, own2, b2⟩; have t2 := t1.below b2))
    go_wp2
    go_ret
    exact ⟨_, rfl, own2.mono (by have := t1.lt; omega), t2.bel⟩
  · go_enter Try.func48, Try.ntmps48
    go_wp2_with fail
    go_region_held3 (fun w' => TB w w.heap.size (.cells #[.int .i64 4, .int .i64 a, .int .i64 n, .slice Ao lo co, .slice As ls cs, .slice Ap lp cp] 26 (0, 0)) (.cells #[.int .i64 r.x, .slice Bo mo eo, .slice Bs ms es, .slice Bf mf ef] 29 (0, 0)) w' ∧ w'.cell? ⟨w.heap.size, 0, none⟩ = some (.int .i64 4) ∧ w'.cell? ⟨w.heap.size + 1, 0, none⟩ = some (.int .i64 r.x) ∧ w'.cell? ⟨w.heap.size + 1, 1, none⟩ = some (.slice Bo mo eo) ∧ w'.cell? ⟨w.heap.size + 1, 2, none⟩ = some (.slice Bs ms es) ∧ w'.cell? ⟨w.heap.size + 1, 3, none⟩ = some (.slice Bf mf ef))
      ((first
        | exact ⟨t0.drew, t0.drew.r6.1, t0.drew.c4.1, t0.drew.c4.2.1, t0.drew.c4.2.2.1, t0.drew.c4.2.2.2.1⟩
        | exact ⟨t2, t2.r6.1, t2.c4.1, t2.c4.2.1, t2.c4.2.2.1, t2.c4.2.2.2.1⟩
        | exact ⟨t1, t1.r6.1, t1.c4.1, t1.c4.2.1, t1.c4.2.2.1, t1.c4.2.2.2.1⟩))
      (first
        | (go_at_call 87; refine (Bytes_row Bs ms es (w.heap.size + 1 + 1) r.set _ (by simp) ((HSET.out.below t0.drew.bel).more (by omega)) HMS.out (by omega)).mono ?_; rintro e w1 ⟨rfl, g1, b1⟩; rw [HM2.out]; have t1 := t0.drew.below2 b1 (by omega); have hg1 := block_lt g1)
        | (go_at_call 85; refine (rpCounted_any _ _ m2 m2 (wbytes r.set) _ ((Row.of_block g1 (wbytes r.set) (wbytes_wf r.set) (List.prefix_refl _)).more hg1) HWL.out hm3 (by omega)).mono ?_; rintro e w2 ⟨v2, rfl, own2, b2⟩; have t2 := t1.below b2))
    go_wp2
    go_ret
    exact ⟨_, rfl, own2.mono (by have := t1.lt; omega), t2.bel⟩

/-- The function that takes the next bytes. -/
theorem take_any (b o n c k g : Nat) (w : World) (hg : w.heap[g]? = some (.cells #[.slice (some ⟨b, o, none⟩) n c] 36 (0, 0))) (hn : n ≤ c) (hk : k ≤ n) (hb : c ≤ 9223372036854775807) :
    Calls Try.prog 119 #[.int .i64 k, .pointer (some ⟨g, 0, none⟩)] w fun e w' => e = .returned (.slice (some ⟨b, o, none⟩) k c) ∧ ∃ A', (k < c → A' = some ⟨b, o + k, none⟩) ∧ w' = w.setCell ⟨g, 0, none⟩ (.slice A' (n - k) (c - k)) := by
  have d0 : w.cell? ⟨g, 0, none⟩ = some (.slice (some ⟨b, o, none⟩) n c) := cell_of_row w g 0 _ _ _ hg
  have d1 : ∀ i, w.frozen? ⟨g, i, none⟩ = false := fun i => block_frozen w g i _ _ hg
  have i1 : (0 : Int) ≤ (k : Int) := by omega
  have i2 : (k : Int) ≤ (c : Int) := by omega
  have i3 : (k : Int) ≤ (n : Int) := by omega
  by_cases hkc : k = c
  · obtain rfl : n = c := by omega
    subst hkc
    go_enter Try.func119, Try.ntmps119
    go_wp2
    go_ret
    exact ⟨rfl, some ⟨b, o, none⟩, fun h => absurd h (by omega), by rw [Nat.sub_self]⟩
  · go_enter Try.func119, Try.ntmps119
    go_wp2
    go_ret
    exact ⟨rfl, _, fun _ => rfl, rfl⟩
end Go.Proofs.Ytfdikjfbmfibjaa
namespace Go.Proofs.Ytfdikjfbmfibjaa
open Go.RowKit
set_option linter.unusedVariables false

set_option maxHeartbeats 1000000 in
theorem rpPut_words (q : Req) (r : Rep) (Ao As Ap Bo Bs Bf : Option Addr) (lo ls lp co cs cp mo ms mf eo es ef : Nat) (w : World) (h : Asked w w.heap.size q Ao As Ap lo ls lp) (hr : Repd w w.heap.size r Bo Bs Bf mo ms mf) (hb : lp ≤ 100000) (hk : chkR q r = 0) (hx : r.x = 0) (hc : q.c = 3 ∨ q.c = 4) (hm : ms ≤ 125) :
    Calls Try.prog 16 #[.agg #[.int .i64 q.c, .int .i64 q.a, .int .i64 q.n, .slice Ao lo co, .slice As ls cs, .slice Ap lp cp], .agg #[.int .i64 r.x, .slice Bo mo eo, .slice Bs ms es, .slice Bf mf ef]] w fun e w' => ∃ v', e = .returned (.tuple #[v', .int .i64 0]) ∧ Own .u8 5 w' w.heap.size v' (q.c :: 2 * (ms : Int) :: wbytes r.set) ∧ Below w.heap.size w w' := by
  have t0 := TB.new2 w #[.int .i64 q.c, .int .i64 q.a, .int .i64 q.n, .slice Ao lo co, .slice As ls cs, .slice Ap lp cp] #[.int .i64 r.x, .slice Bo mo eo, .slice Bs ms es, .slice Bf mf ef] 26 29
  have hsz : w.heap.size ≤ ((w.alloc (.cells #[.int .i64 q.c, .int .i64 q.a, .int .i64 q.n, .slice Ao lo co, .slice As ls cs, .slice Ap lp cp] 26)).alloc (.cells #[.int .i64 r.x, .slice Bo mo eo, .slice Bs ms es, .slice Bf mf ef] 29)).heap.size := t0.bel.size
  have H := Lib.hid ((h.below t0.bel).more hsz)
  have HR := Lib.hid ((hr.below t0.bel).more hsz)
  have HC := Lib.hid (rpCheck_any q r Ao As Ap Bo Bs Bf lo ls lp co cs cp mo ms mf eo es ef _ H.out HR.out hb)
  rw [hk] at HC
  have u1 : (r.x != 0) = false := by simp [hx]
  have u2 : (r.x == 0) = true := by simp [hx]
  have HCC := Lib.hid hc
  clear h hr hk hx hc
  go_enter Try.func16, Try.ntmps16
  go_wp2_with fail
  refine HC.out.mono ?_
  rintro e w1 ⟨rfl, b1⟩
  have t1 := t0.below b1
  have hlt := t1.lt
  have HF := Lib.hid (rpForm_words q r Ao As Ap Bo Bs Bf lo ls lp co cs cp mo ms mf eo es ef w1 (H.out.up b1) (HR.out.up b1) HCC.out hm)
  clear b1 t0 HC hsz
  obtain ⟨d0, d1, d2, d3, d4⟩ := t1.c4
  obtain ⟨r0, r1, r2, r3, r4, r5, r6⟩ := t1.r6
  go_wp2_with fail
  refine HF.out.mono ?_
  rintro e w2 ⟨v2, rfl, own2, b2⟩
  have t2 := t1.below b2
  go_wp2
  go_ret2
  exact ⟨_, rfl, own2.mono (by omega), t2.bel⟩

set_option maxHeartbeats 1000000 in
theorem rpSize_words (c a : Int) (n : Nat) (Ao As Ap : Option Addr) (lo co ls cs lp cp : Nat) (w : World) (hc : c = 3 ∨ c = 4) (hn : n ≤ 1000) :
    Calls Try.prog 94 #[.agg #[.int .i64 c, .int .i64 a, .int .i64 n, .slice Ao lo co, .slice As ls cs, .slice Ap lp cp]] w fun e w' => e = .returned (.int .i64 ((2 + 2 * n : Nat) : Int)) ∧ Below w.heap.size w w' := by
  have e1 : IntKind.i64.wrap (2 * (n : Int)) = 2 * (n : Int) := IntWalk.i64_in _ (by omega)
  have e2 : IntKind.i64.wrap (2 + 2 * (n : Int)) = 2 + 2 * (n : Int) := IntWalk.i64_in _ (by omega)
  rw [show ((2 + 2 * n : Nat) : Int) = 2 + 2 * (n : Int) by omega]
  have bel := bel_alloc w (.cells #[.int .i64 c, .int .i64 a, .int .i64 n, .slice Ao lo co, .slice As ls cs, .slice Ap lp cp] 26)
  rcases hc with rfl | rfl
  all_goals
    go_enter Try.func94, Try.ntmps94
    go_wp2
    go_ret
    exact ⟨rfl, bel⟩

theorem taker_any (A : Option Addr) (n c : Nat) (w : World) :
    Calls Try.prog 113 #[.slice A n c] w fun e w' => e = .returned (.func (.func 119) #[] #[.pointer (some ⟨w.heap.size, 0, none⟩)]) ∧ w' = w.alloc (.cells #[.slice A n c] 36) := by
  go_enter Try.func113, Try.ntmps113
  go_wp2
  go_ret
  exact ⟨rfl, rfl⟩

theorem take_at (b o n c k g : Nat) (z : Int) (hz : z = k) (w : World) (hg : w.heap[g]? = some (.cells #[.slice (some ⟨b, o, none⟩) n c] 36 (0, 0))) (hn : n ≤ c) (hk : k ≤ n) (hb : c ≤ 9223372036854775807) :
    Calls Try.prog 119 #[.int .i64 z, .pointer (some ⟨g, 0, none⟩)] w fun e w' => e = .returned (.slice (some ⟨b, o, none⟩) k c) ∧ ∃ A', (k < c → A' = some ⟨b, o + k, none⟩) ∧ w' = w.setCell ⟨g, 0, none⟩ (.slice A' (n - k) (c - k)) := by
  subst hz; exact take_any b o n c k g w hg hn hk hb
theorem TB.far {w0 w : World} {B g : Nat} {o1 o2 : Obj} (h : TB w0 B o1 o2 w) (hg : B + 1 < g) (i : Nat) (v : Value) : TB w0 B o1 o2 (w.setCell ⟨g, i, none⟩ v) :=
  ⟨(Below.heap_setCell w ⟨g, i, none⟩ v B (by simp; omega)).trans h.ret, (Below.heap_setCell w ⟨g, i, none⟩ v (B + 1) (by simp; omega)).trans h.box, below_setCell h.bel (by omega) i v⟩
theorem put4_other {w : World} {g j : Nat} (h : j ≠ g) (v0 v1 v2 v3 : Value) : (put4 w g v0 v1 v2 v3).heap[j]? = w.heap[j]? := by
  unfold put4
  rw [Below.heap_setCell _ ⟨g, 3, none⟩ v3 j (by simpa using h), Below.heap_setCell _ ⟨g, 2, none⟩ v2 j (by simpa using h), Below.heap_setCell _ ⟨g, 1, none⟩ v1 j (by simpa using h), Below.heap_setCell _ ⟨g, 0, none⟩ v0 j (by simpa using h)]

set_option maxHeartbeats 2000000 in
set_option maxRecDepth 100000 in
theorem rpRead_words (c a : Int) (n : Nat) (Ao As Ap : Option Addr) (lo co ls cs lp cp : Nat) (b o m cap : Nat) (ys : List Int) (w : World) (hc : c = 3 ∨ c = 4) (hr : Row .u8 w w.heap.size (some ⟨b, o, none⟩) ys) (hy : ys.length = m) (hm : m = 2 + 2 * n) (hn : 1 ≤ n ∧ n ≤ 125) (hcap : m ≤ cap) (hcb : cap ≤ 9223372036854775807) (h1 : nth ys 1 = 2 * (n : Int)) :
    Calls Try.prog 95 #[.agg #[.int .i64 c, .int .i64 a, .int .i64 n, .slice Ao lo co, .slice As ls cs, .slice Ap lp cp], .slice (some ⟨b, o, none⟩) m cap] w fun e w' => ∃ g, w.heap.size ≤ g ∧ e = .returned (.tuple #[.agg #[.int .i64 0, .slice none 0 0, .slice (some ⟨g, 0, none⟩) n n, .slice none 0 0], .bool true]) ∧ w'.heap[g]? = some (.cells (blk .u16 (wwords (ys.drop 2))) 90 (0, 0)) ∧ Below w.heap.size w w' := by
  have HR := Lib.hid hr
  have HY := Lib.hid hy
  have HM := Lib.hid hm
  have HW : Hid (wrB c = false) := Lib.hid (decide_eq_false (by omega))
  obtain ⟨b', o', hA, hbB, hcell⟩ := hr.at_ (i := 1) (by omega)
  injection hA with hA
  injection hA with hA1 hA2
  subst hA1 hA2
  rw [h1] at hcell
  have t0 := TB.new2 w #[.int .i64 c, .int .i64 a, .int .i64 n, .slice Ao lo co, .slice As ls cs, .slice Ap lp cp] #[.int .i64 0, .slice none 0 0, .slice none 0 0, .slice none 0 0] 26 29
  have e0 : IntKind.i64.wrap (2 * (n : Int)) = 2 * (n : Int) := IntWalk.i64_in _ (by omega)
  have em : (m : Int) - 2 = 2 * (n : Int) := by omega
  have em1 : IntKind.i64.wrap ((m : Int) - 2) = 2 * (n : Int) := by rw [IntWalk.i64_in _ (by omega)]; omega
  have tn : (2 * (n : Int) != 2 * (n : Int)) = false := by simp
  have hm2 : 1 < m := by omega
  have HC1 := Lib.hid hcell
  clear hr hy hm h1 hcell
  rcases hc with rfl | rfl
  all_goals
    go_enter Try.func95, Try.ntmps95
    go_wp2_with fail
    refine (Writes_any _ a n Ao As Ap lo co ls cs lp cp _).mono ?_
    rintro e w1 ⟨rfl, b1⟩
    rw [HW.out]
    have t1 := t0.below b1
    clear t0 b1
    go_wp2_with fail
    refine (taker_any (some ⟨b, o, none⟩) m cap _).mono ?_
    rintro e w2' ⟨rfl, rfl⟩
    have t2 := t1.alloc (.cells #[.slice (some ⟨b, o, none⟩) m cap] 36)
    have hg2 := Lib.hid (heap_alloc_new w1 (.cells #[.slice (some ⟨b, o, none⟩) m cap] 36))
    have hz := t1.lt
    generalize w1.heap.size = g at *
    clear t1
    generalize w1.alloc (.cells #[.slice (some ⟨b, o, none⟩) m cap] 36) = w2 at *
    go_wp2_with fail
    refine (take_any b o m cap 2 g _ hg2.out hcap (by omega) hcb).mono ?_
    rintro e w3' ⟨rfl, A', hA', rfl⟩
    obtain rfl := hA' (by have := HM.out; omega)
    clear hA'
    have t3 := t2.far hz 0 (.slice (some ⟨b, o + 2, none⟩) (m - 2) (cap - 2))
    have hg3 : (w2.setCell ⟨g, 0, none⟩ (.slice (some ⟨b, o + 2, none⟩) (m - 2) (cap - 2))).heap[g]? = some (.cells #[.slice (some ⟨b, o + 2, none⟩) (m - 2) (cap - 2)] 36 (0, 0)) := box_set hg2.out 0 _
    have hc3 := (t3.bel.cell (p := ⟨b, o + 1, none⟩) hbB).trans HC1.out
    clear t2 hg2
    generalize w2.setCell ⟨g, 0, none⟩ (.slice (some ⟨b, o + 2, none⟩) (m - 2) (cap - 2)) = w3 at *
    have HG3 := Lib.hid hg3
    clear hg3
    obtain ⟨d0, d1, d2, d3, d4⟩ := t3.c4
    obtain ⟨r0, r1, r2, r3, r4, r5, r6⟩ := t3.r6
    go_wp2_with fail
    refine (take_at b (o + 2) (m - 2) (cap - 2) (2 * n) g _ (by omega) _ HG3.out (by omega) (by have := HM.out; omega) (by omega)).mono ?_
    rintro e w4' ⟨rfl, A', _, rfl⟩
    have t4 := t3.far hz 0 (.slice A' (m - 2 - 2 * n) (cap - 2 - 2 * n))
    have hz4 := t4.lt
    have HR4 := Lib.hid (((HR.out.drop 2).tb t4).more (Nat.le_of_lt (Nat.lt_of_succ_lt hz4)))
    clear t3 hc3 d0 d1 d2 d3 d4 r0 r1 r2 r3 r4 r5 r6 HG3
    generalize w3.setCell ⟨g, 0, none⟩ (.slice A' (m - 2 - 2 * n) (cap - 2 - 2 * n)) = w4 at *
    go_wp2_with fail
    refine (Words_ok _ (2 * n) (cap - 2) n (ys.drop 2) _ HR4.out (by rw [List.length_drop, HY.out, HM.out]; omega) (by have := HM.out; omega) (by omega) rfl).mono ?_
    rintro e w5' ⟨rfl, rfl⟩
    have t5 := t4.alloc (.cells (blk .u16 (wwords (ys.drop 2))) 90)
    have hn5 := Lib.hid (heap_alloc_new w4 (.cells (blk .u16 (wwords (ys.drop 2))) 90))
    clear t4 HR4
    generalize w4.heap.size = g5 at *
    generalize w4.alloc (.cells (blk .u16 (wwords (ys.drop 2))) 90) = w5 at *
    have P5 := Lib.hid (t5.put4 (.int .i64 0) (.slice none 0 0) (.slice (some ⟨g5, 0, none⟩) n n) (.slice none 0 0))
    have P6 := Lib.hid ((put4_other (w := w5) (g := w.heap.size + 1) (j := g5) (by omega) (.int .i64 0) (.slice none 0 0) (.slice (some ⟨g5, 0, none⟩) n n) (.slice none 0 0)).trans hn5.out)
    obtain ⟨d0, d1, d2, d3, d4⟩ := t5.c4
    go_wp2
    (try simp only [Exit.inBlock, Exit.then])
    show bodyPost _ _ _ _ _ (put4 (w5) (w.heap.size + 1) (.int .i64 0) (.slice none 0 0) (.slice (some ⟨g5, 0, none⟩) n n) (.slice none 0 0))
    generalize put4 (w5) (w.heap.size + 1) (.int .i64 0) (.slice none 0 0) (.slice (some ⟨g5, 0, none⟩) n n) (.slice none 0 0) = w6 at *
    obtain ⟨x0, x1, x2, x3⟩ := cells4 P5.out.1
    refine bodyPost_ret (v := .tuple #[.agg #[.int .i64 0, .slice none 0 0, .slice (some ⟨g5, 0, none⟩) n n, .slice none 0 0], .bool true]) (by simp [results, Try.results95, go_sem, x0, x1, x2, x3]) rfl ?_
    exact ⟨g5, by omega, rfl, P6.out, P5.out.2⟩
end Go.Proofs.Ytfdikjfbmfibjaa
namespace Go.Proofs.Ytfdikjfbmfibjaa
open Go.RowKit
set_option linter.unusedVariables false

set_option maxHeartbeats 2000000 in
set_option maxRecDepth 100000 in
theorem rpAnswer_words (q : Req) (n : Nat) (Ao As Ap : Option Addr) (lo co ls cs lp cp : Nat) (b o m cap : Nat) (ys : List Int) (w : World) (hc : q.c = 3 ∨ q.c = 4) (hr : Row .u8 w w.heap.size (some ⟨b, o, none⟩) ys) (hy : ys.length = m) (hm : m = 2 + 2 * n) (hn : 1 ≤ n ∧ n ≤ 125) (hcap : m ≤ cap) (hcb : cap ≤ 9223372036854775807) (h1 : nth ys 1 = 2 * (n : Int)) :
    Calls Try.prog 61 #[.agg #[.int .i64 q.c, .int .i64 q.a, .int .i64 n, .slice Ao lo co, .slice As ls cs, .slice Ap lp cp], .slice (some ⟨b, o, none⟩) m cap] w fun e w' => ∃ g, w.heap.size ≤ g ∧ e = .returned (.tuple #[.agg #[.int .i64 0, .slice none 0 0, .slice (some ⟨g, 0, none⟩) n n, .slice none 0 0], .int .i64 0]) ∧ w'.heap[g]? = some (.cells (blk .u16 (wwords (ys.drop 2))) 90 (0, 0)) ∧ Below w.heap.size w w' := by
  have HR := Lib.hid hr
  have t0 := TB.new2 w #[.int .i64 q.c, .int .i64 q.a, .int .i64 n, .slice Ao lo co, .slice As ls cs, .slice Ap lp cp] #[.int .i64 0, .slice none 0 0, .slice none 0 0, .slice none 0 0] 26 29
  have HM := Lib.hid hm
  have HC := Lib.hid hc
  have HY := Lib.hid hy
  have H1 := Lib.hid h1
  have HS : Hid (∀ W, Calls Try.prog 93 #[.slice (some ⟨b, o, none⟩) m cap, .int .i64 ((2 + 2 * n : Nat) : Int)] W fun e w' => e = .returned (.int .i64 0) ∧ w' = W) := Lib.hid (fun W => (checkSize_any (some ⟨b, o, none⟩) m cap ((2 + 2 * n : Nat) : Int) W).mono fun e w' h => ⟨h.1.trans (by rw [if_neg (by omega), if_neg (by omega)]), h.2⟩)
  clear hr hm hc hy h1
  go_enter Try.func61, Try.ntmps61
  go_wp2_with fail
  refine (rpSize_words q.c q.a n Ao As Ap lo co ls cs lp cp _ HC.out (by omega)).mono ?_
  rintro e w1 ⟨rfl, b1⟩
  have t1 := t0.below b1
  clear t0 b1
  obtain ⟨d0, d1, d2, d3, d4⟩ := t1.c4
  obtain ⟨r0, r1, r2, r3, r4, r5, r6⟩ := t1.r6
  go_wp2_with fail
  refine (HS.out _).mono ?_
  rintro e w1' ⟨rfl, hw1⟩
  rw [hw1]
  clear hw1
  go_wp2_with fail
  clear d0 d1 d2 d3 d4 r0 r1 r2 r3 r4 r5 r6
  refine (rpRead_words q.c q.a n Ao As Ap lo co ls cs lp cp b o m cap ys _ HC.out ((HR.out.tb t1).more (Nat.le_of_lt (Nat.lt_of_succ_lt t1.lt))) HY.out HM.out hn hcap hcb H1.out).mono ?_
  rintro e w2 ⟨g, hg, rfl, hb, b2⟩
  have t2 := t1.below b2
  have hz1 := t1.lt
  have t3 := t2.alloc (.cells #[.int .i64 0, .slice none 0 0, .slice (some ⟨g, 0, none⟩) n n, .slice none 0 0] 29)
  have hb3 := Lib.hid ((heap_alloc_old w2 (.cells #[.int .i64 0, .slice none 0 0, .slice (some ⟨g, 0, none⟩) n n, .slice none 0 0] 29) (block_lt hb)).trans hb)
  have hx3 := heap_alloc_new w2 (.cells #[.int .i64 0, .slice none 0 0, .slice (some ⟨g, 0, none⟩) n n, .slice none 0 0] 29)
  clear t1 b2 t2 hb
  have P5 := Lib.hid (t3.put4 (.int .i64 0) (.slice none 0 0) (.slice (some ⟨g, 0, none⟩) n n) (.slice none 0 0))
  have P6 := Lib.hid ((put4_other (w := w2.alloc (.cells #[.int .i64 0, .slice none 0 0, .slice (some ⟨g, 0, none⟩) n n, .slice none 0 0] 29)) (g := w.heap.size + 1) (j := g) (by omega) (.int .i64 0) (.slice none 0 0) (.slice (some ⟨g, 0, none⟩) n n) (.slice none 0 0)).trans hb3.out)
  obtain ⟨y0, y1, y2, y3⟩ := cells4 hx3
  obtain ⟨d0, d1, d2, d3, d4⟩ := t3.c4
  clear hx3
  go_wp2
  (try simp only [Exit.inBlock, Exit.then])
  show bodyPost _ _ _ _ _ (put4 (w2.alloc (.cells #[.int .i64 0, .slice none 0 0, .slice (some ⟨g, 0, none⟩) n n, .slice none 0 0] 29)) (w.heap.size + 1) (.int .i64 0) (.slice none 0 0) (.slice (some ⟨g, 0, none⟩) n n) (.slice none 0 0))
  generalize put4 (w2.alloc (.cells #[.int .i64 0, .slice none 0 0, .slice (some ⟨g, 0, none⟩) n n, .slice none 0 0] 29)) (w.heap.size + 1) (.int .i64 0) (.slice none 0 0) (.slice (some ⟨g, 0, none⟩) n n) (.slice none 0 0) = w6 at *
  obtain ⟨x0, x1, x2, x3⟩ := cells4 P5.out.1
  refine bodyPost_ret (v := .tuple #[.agg #[.int .i64 0, .slice none 0 0, .slice (some ⟨g, 0, none⟩) n n, .slice none 0 0], .int .i64 0]) (by simp [results, Try.results61, go_sem, x0, x1, x2, x3]) rfl ?_
  exact ⟨g, by omega, rfl, P6.out, P5.out.2⟩

set_option maxHeartbeats 2000000 in
set_option maxRecDepth 100000 in
theorem rpGet_words (q : Req) (n : Nat) (hqn : q.n = n) (Ao As Ap : Option Addr) (lo co ls cs lp cp : Nat) (b o m cap : Nat) (ys : List Int) (w : World) (h : Asked w w.heap.size q Ao As Ap lo ls lp) (hk : chkQ q = 0) (hc : q.c = 3 ∨ q.c = 4) (hr : Row .u8 w w.heap.size (some ⟨b, o, none⟩) ys) (hy : ys.length = m) (hm : m = 2 + 2 * n) (hn : 1 ≤ n ∧ n ≤ 125) (hcap : m ≤ cap) (hcb : cap ≤ 9223372036854775807) (h1 : nth ys 1 = 2 * (n : Int)) (h0 : nth ys 0 = q.c) :
    Calls Try.prog 24 #[.agg #[.int .i64 q.c, .int .i64 q.a, .int .i64 n, .slice Ao lo co, .slice As ls cs, .slice Ap lp cp], .slice (some ⟨b, o, none⟩) m cap] w fun e w' => ∃ g, w.heap.size ≤ g ∧ e = .returned (.tuple #[.agg #[.int .i64 0, .slice none 0 0, .slice (some ⟨g, 0, none⟩) n n, .slice none 0 0], .int .i64 0]) ∧ w'.heap[g]? = some (.cells (blk .u16 (wwords (ys.drop 2))) 90 (0, 0)) ∧ Below w.heap.size w w' := by
  have HR := Lib.hid hr
  have t0 := TB.new2 w #[.int .i64 q.c, .int .i64 q.a, .int .i64 n, .slice Ao lo co, .slice As ls cs, .slice Ap lp cp] #[.int .i64 0, .slice none 0 0, .slice none 0 0, .slice none 0 0] 26 29
  have hsz : w.heap.size ≤ ((w.alloc (.cells #[.int .i64 q.c, .int .i64 q.a, .int .i64 n, .slice Ao lo co, .slice As ls cs, .slice Ap lp cp] 26)).alloc (.cells #[.int .i64 0, .slice none 0 0, .slice none 0 0, .slice none 0 0] 29)).heap.size := t0.bel.size
  have HC := Lib.hid (Check_Q q Ao As Ap lo ls lp co cs cp _ ((h.below t0.bel).more hsz))
  rw [hk, hqn] at HC
  have HM := Lib.hid hm
  have HCC := Lib.hid hc
  have HY := Lib.hid hy
  have H1 := Lib.hid h1
  obtain ⟨b', o', hA, hbB, hcell⟩ := hr.at_ (i := 0) (by omega)
  injection hA with hA
  injection hA with hA1 hA2
  subst hA1 hA2
  rw [h0, Nat.add_zero] at hcell
  have e0 : IntKind.i64.wrap (q.c + 128) = q.c + 128 := IntWalk.i64_in _ (by omega)
  have e1 : IntKind.i64.wrap q.c = q.c := IntWalk.i64_in _ (by omega)
  have e2 : (q.c == q.c + 128) = false := beq_false_of_ne (by omega)
  have e3 : (q.c == q.c) = true := by simp
  have tm : ((m : Int) == 0) = false := beq_false_of_ne (by omega)
  have tm2 : (0 : Int) < (m : Int) := by omega
  have tm3 : 0 < m := by omega
  clear h hr hm hc hy h1 h0 hk hqn
  go_enter Try.func24, Try.ntmps24
  go_wp2_with fail
  refine HC.out.mono ?_
  rintro e w1 ⟨rfl, b1⟩
  have t1 := t0.below b1
  clear t0 b1 HC hsz
  have hc1 : w1.cell? ⟨b, o, none⟩ = some (.int .u8 q.c) := (t1.bel.cell (p := ⟨b, o, none⟩) hbB).trans hcell
  obtain ⟨d0, d1, d2, d3, d4⟩ := t1.c4
  obtain ⟨r0, r1, r2, r3, r4, r5, r6⟩ := t1.r6
  go_wp2_with fail
  clear d0 d1 d2 d3 d4 r0 r1 r2 r3 r4 r5 r6 hc1
  refine (rpAnswer_words q n Ao As Ap lo co ls cs lp cp b o m cap ys _ HCC.out ((HR.out.tb t1).more (Nat.le_of_lt (Nat.lt_of_succ_lt t1.lt))) HY.out HM.out hn hcap hcb H1.out).mono ?_
  rintro e w3 ⟨g, hg, rfl, hb, b2⟩
  have t3 := t1.below b2
  have hz1 := t1.lt
  have hb3 := Lib.hid hb
  clear t1 b2 hb
  have P5 := Lib.hid (t3.put4 (.int .i64 0) (.slice none 0 0) (.slice (some ⟨g, 0, none⟩) n n) (.slice none 0 0))
  have P6 := Lib.hid ((put4_other (w := w3) (g := w.heap.size + 1) (j := g) (by omega) (.int .i64 0) (.slice none 0 0) (.slice (some ⟨g, 0, none⟩) n n) (.slice none 0 0)).trans hb3.out)
  obtain ⟨d0, d1, d2, d3, d4⟩ := t3.c4
  go_wp2
  (try simp only [Exit.inBlock, Exit.then])
  show bodyPost _ _ _ _ _ (put4 (w3) (w.heap.size + 1) (.int .i64 0) (.slice none 0 0) (.slice (some ⟨g, 0, none⟩) n n) (.slice none 0 0))
  generalize put4 (w3) (w.heap.size + 1) (.int .i64 0) (.slice none 0 0) (.slice (some ⟨g, 0, none⟩) n n) (.slice none 0 0) = w6 at *
  obtain ⟨x0, x1, x2, x3⟩ := cells4 P5.out.1
  refine bodyPost_ret (v := .tuple #[.agg #[.int .i64 0, .slice none 0 0, .slice (some ⟨g, 0, none⟩) n n, .slice none 0 0], .int .i64 0]) (by simp [results, Try.results24, go_sem, x0, x1, x2, x3]) rfl ?_
  exact ⟨g, by omega, rfl, P6.out, P5.out.2⟩
end Go.Proofs.Ytfdikjfbmfibjaa
namespace Go.Proofs.Ytfdikjfbmfibjaa
open Go.RowKit
set_option linter.unusedVariables false

def exA : Req := ⟨3, 0, 2, [], [], []⟩
def exR : Rep := ⟨0, [], [1, 512], []⟩
theorem exA_chk : chkQ exA = 0 := by decide
theorem exR_chk : chkR exA exR = 0 := by decide

set_option maxHeartbeats 1000000 in
set_option maxRecDepth 100000 in
theorem two_any (w : World) : Calls Try.prog 42 #[] w fun e w' => ∃ g, w.heap.size ≤ g ∧ e = .returned (.tuple #[.agg #[.int .i64 3, .int .i64 0, .int .i64 2, .slice none 0 0, .slice none 0 0, .slice none 0 0], .agg #[.int .i64 0, .slice none 0 0, .slice (some ⟨g, 0, none⟩) 2 2, .slice none 0 0]]) ∧
    w'.heap[g]? = some (.cells (blk .u16 [1, 512]) 90 (0, 0)) ∧ Below w.heap.size w w' := by
  go_enter Try.func42, Try.ntmps42
  go_wp2
  (try simp only [Exit.inBlock, Exit.then])
  refine bodyPost_ret (v := .tuple #[.agg #[.int .i64 3, .int .i64 0, .int .i64 2, .slice none 0 0, .slice none 0 0, .slice none 0 0], .agg #[.int .i64 0, .slice none 0 0, .slice (some ⟨w.heap.size + 1 + 1, 0, none⟩) 2 2, .slice none 0 0]]) (by simp [results, Try.results42, go_sem]) rfl ?_
  exact ⟨w.heap.size + 1 + 1, by omega, rfl, heap_new_at _ _ (by simp), ((bel_alloc w _).alloc (by simp) _).alloc (by simp; omega) _⟩

set_option maxHeartbeats 1000000 in
/-- SameFiles, of two lists of none. -/
theorem SameFiles_nil (A A' : Option Addr) (c c' : Nat) (w : World) : Calls Try.prog 57 #[.slice A 0 c, .slice A' 0 c'] w fun e w' => e = .returned (.bool true) ∧ w' = w := by
  go_enter Try.func57, Try.ntmps57
  go_wp2
  go_loopw [5] (fun i wr => i = .int .i64 0 ∧ wr = w) (fun _ _ => 0)
  case atStart => exact ⟨rfl, rfl⟩
  case round =>
    obtain ⟨rfl, rfl⟩ := hrel
    go_wp2
    go_ret
    exact ⟨rfl, rfl⟩

set_option maxHeartbeats 1000000 in
set_option maxRecDepth 100000 in
/-- SameReply, of two answers that are the same and have no files. -/
theorem SameReply_flat (x : Int) (on : List Bool) (set : List Int) (Bo Bs Bf Bo' Bs' Bf' : Option Addr) (mo ms eo es ef eo' es' ef' : Nat) (w : World) (h1 : L.Row () w w.heap.size Bo on) (h2 : Row .u16 w w.heap.size Bs set) (h1' : L.Row () w w.heap.size Bo' on) (h2' : Row .u16 w w.heap.size Bs' set) (l1 : on.length = mo) (l2 : set.length = ms) (c1 : mo ≤ 1000000) (c2 : ms ≤ 1000000) :
    Calls Try.prog 20 #[.agg #[.int .i64 x, .slice Bo mo eo, .slice Bs ms es, .slice Bf 0 ef], .agg #[.int .i64 x, .slice Bo' mo eo', .slice Bs' ms es', .slice Bf' 0 ef']] w fun e w' => e = .returned (.bool true) ∧ Below w.heap.size w w' := by
  have t0 := TB.new2 w #[.int .i64 x, .slice Bo mo eo, .slice Bs ms es, .slice Bf 0 ef] #[.int .i64 x, .slice Bo' mo eo', .slice Bs' ms es', .slice Bf' 0 ef'] 29 29
  have bel := t0.bel
  have H1 := Lib.hid (h1.below bel)
  have H2 := Lib.hid (h2.below bel)
  have H1' := Lib.hid (h1'.below bel)
  have H2' := Lib.hid (h2'.below bel)
  have L1 := Lib.hid l1
  have L2 := Lib.hid l2
  have ex : (x == x) = true := by simp
  clear h1 h2 h1' h2' l1 l2 t0
  go_enter Try.func20, Try.ntmps20
  go_wp2_with fail
  refine (L.same_yes_bool _ _ _ _ _ on _ _ _ H1.out H1'.out L1.out (by omega)).mono ?_
  rintro e w' ⟨rfl, m1, rfl⟩
  go_wp2_with fail
  refine (W.same_yes_u16 _ _ _ _ _ set _ _ _ (H2.out.drewN m1) (H2'.out.drewN m1) L2.out (by omega)).mono ?_
  rintro e w' ⟨rfl, m2, rfl⟩
  rw [World.drewN_drewN]
  go_wp2_with fail
  refine (SameFiles_nil _ _ _ _ _).mono ?_
  rintro e w' ⟨rfl, rfl⟩
  go_wp2
  go_ret
  exact ⟨rfl, below_drewN bel _⟩

abbrev exAO : Obj := .cells #[.int .i64 3, .int .i64 0, .int .i64 2, .slice none 0 0, .slice none 0 0, .slice none 0 0] 26 (0, 0)
set_option maxHeartbeats 2000000 in
set_option maxRecDepth 100000 in
theorem works_yes (w : World) : Calls Try.prog 13 #[] w fun e w' => e = .returned (.bool true) ∧ Below w.heap.size w w' := by
  go_enter Try.func13, Try.ntmps13
  go_wp2_with fail
  refine (two_any _).mono ?_
  rintro e w1 ⟨g, hg, rfl, hb, b1⟩
  have t0 := TB.new2 w1 #[.int .i64 3, .int .i64 0, .int .i64 2, .slice none 0 0, .slice none 0 0, .slice none 0 0] #[.int .i64 0, .slice none 0 0, .slice (some ⟨g, 0, none⟩) 2 2, .slice none 0 0] 26 29
  have hgl := block_lt hb
  have hb0 := Lib.hid ((t0.bel.block g hgl).trans hb)
  have hsz0 : w1.heap.size ≤ ((w1.alloc (.cells #[.int .i64 3, .int .i64 0, .int .i64 2, .slice none 0 0, .slice none 0 0, .slice none 0 0] 26)).alloc (.cells #[.int .i64 0, .slice none 0 0, .slice (some ⟨g, 0, none⟩) 2 2, .slice none 0 0] 29)).heap.size := t0.bel.size
  have hwf : ∀ x ∈ [(1 : Int), 512], (Lit.int .u16 x).wf = true := by decide
  have HP := Lib.hid (rpPut_words exA exR none none none none (some ⟨g, 0, none⟩) none 0 0 0 0 0 0 0 2 0 0 2 0 _ (Asked.of_nil ((w1.alloc (.cells #[.int .i64 3, .int .i64 0, .int .i64 2, .slice none 0 0, .slice none 0 0, .slice none 0 0] 26)).alloc (.cells #[.int .i64 0, .slice none 0 0, .slice (some ⟨g, 0, none⟩) 2 2, .slice none 0 0] 29)) _ _ _ _) ⟨L.Row.nil _ _ _ _, (Row.of_block hb0.out [1, 512] hwf (List.prefix_refl _)).more (by omega), FRow.nil _ _ _, rfl, rfl, rfl⟩ (by omega) exR_chk rfl (.inl rfl) (by omega))
  go_wp2_with fail
  refine HP.out.mono ?_
  rintro e w2 ⟨v2, rfl, own2, b2⟩
  have eL : exA.c :: 2 * ((2 : Nat) : Int) :: wbytes exR.set = [3, 4, 0, 1, 2, 0] := by decide
  rw [eL] at own2
  have hwL : ∀ x ∈ [(3 : Int), 4, 0, 1, 2, 0], (Lit.int .u8 x).wf = true := by decide
  obtain ⟨A2, c2, rfl, row2, hle, hmx⟩ := own2.row hwL
  obtain ⟨b, o, rfl, hb2, _⟩ := row2.at_ (i := 0) (by simp)
  have t2 := t0.below b2
  have hz2 := t2.lt
  have hb02 := Lib.hid ((b2.block g (by omega)).trans hb0.out)
  have R2 := Lib.hid row2
  have hle' : 6 ≤ c2 := hle
  have hmx' : c2 ≤ 9223372036854775807 := by simpa [maxLen] using hmx
  have HG := Lib.hid (rpGet_words exA 2 rfl none none none 0 0 0 0 0 0 b o 6 c2 [3, 4, 0, 1, 2, 0] w2 (Asked.of_nil _ _ _ _ _) exA_chk (.inl rfl) R2.out rfl rfl ⟨by omega, by omega⟩ hle' hmx' rfl rfl)
  have eW : wwords (List.drop 2 [(3 : Int), 4, 0, 1, 2, 0]) = [1, 512] := by decide
  rw [eW] at HG
  clear own2 row2 hle hmx b2 t0 HP hsz0 hb0
  obtain ⟨d0, d1, d2, d3, d4⟩ := t2.c4
  obtain ⟨r0, r1, r2, r3, r4, r5, r6⟩ := t2.r6
  go_wp2_with fail
  clear d0 d1 d2 d3 d4 r0 r1 r2 r3 r4 r5 r6
  refine HG.out.mono ?_
  rintro e w3 ⟨g3, hg3, rfl, hb3, b3⟩
  have t3 := t2.below b3
  have hg3l := block_lt hb3
  have hbg3 := Lib.hid ((b3.block g (by omega)).trans hb02.out)
  have R3 := Lib.hid ((R2.out.below b3).more b3.size)
  -- the box of what was read, and the list to hold it against
  have b4 : Below w3.heap.size w3 ((w3.alloc (.cells #[.int .i64 0, .slice none 0 0, .slice (some ⟨g3, 0, none⟩) 2 2, .slice none 0 0] 29)).alloc (.cells (blk .u8 [3, 4, 0, 1, 2, 0]) 5)) := (bel_alloc w3 _).alloc (by simp) _
  have t4 := t3.below b4
  have hlit := Lib.hid (heap_alloc_new (w3.alloc (.cells #[.int .i64 0, .slice none 0 0, .slice (some ⟨g3, 0, none⟩) 2 2, .slice none 0 0] 29)) (.cells (blk .u8 [3, 4, 0, 1, 2, 0]) 5))
  have hz3 : (w3.alloc (.cells #[.int .i64 0, .slice none 0 0, .slice (some ⟨g3, 0, none⟩) 2 2, .slice none 0 0] 29)).heap.size = w3.heap.size + 1 := by simp
  rw [hz3] at hlit
  have R4 := Lib.hid (R3.out.below b4)
  have hb34 := Lib.hid ((b4.block g3 hg3l).trans hb3)
  have hbg4 := Lib.hid ((b4.block g (by have := t3.lt; have := b3.size; omega)).trans hbg3.out)
  have hbx4 := Lib.hid ((heap_alloc_old (w3.alloc (.cells #[.int .i64 0, .slice none 0 0, .slice (some ⟨g3, 0, none⟩) 2 2, .slice none 0 0] 29)) (.cells (blk .u8 [3, 4, 0, 1, 2, 0]) 5) (r := w3.heap.size) (by simp)).trans (heap_alloc_new w3 (.cells #[.int .i64 0, .slice none 0 0, .slice (some ⟨g3, 0, none⟩) 2 2, .slice none 0 0] 29)))
  have bel3 : Below w.heap.size w w3 := (b1.trans (t3.bel.mono b1.size))
  clear t2 HG hb02 b3 R2
  go_wp2_with fail
  refine (same_yes_u8 (some ⟨b, o, none⟩) _ 6 _ _ [3, 4, 0, 1, 2, 0] _ _ _ R4.out (Row.of_block hlit.out [3, 4, 0, 1, 2, 0] hwL (List.prefix_refl _)) rfl (by omega)).mono ?_
  rintro e w5 ⟨rfl, m, rfl⟩
  have b5 := bel_drewN ((w3.alloc (.cells #[.int .i64 0, .slice none 0 0, .slice (some ⟨g3, 0, none⟩) 2 2, .slice none 0 0] 29)).alloc (.cells (blk .u8 [3, 4, 0, 1, 2, 0]) 5)) m
  have hsz4 : w3.heap.size ≤ ((w3.alloc (.cells #[.int .i64 0, .slice none 0 0, .slice (some ⟨g3, 0, none⟩) 2 2, .slice none 0 0] 29)).alloc (.cells (blk .u8 [3, 4, 0, 1, 2, 0]) 5)).heap.size := b4.size
  have t5 := t4.below b5
  have RA := Lib.hid ((Row.of_block hb34.out [1, 512] hwf (List.prefix_refl _)).more (block_lt hb34.out))
  have RB := Lib.hid ((Row.of_block hbg4.out [1, 512] hwf (List.prefix_refl _)).more (block_lt hbg4.out))
  have hbx5 := (b5.block w3.heap.size (block_lt hbx4.out)).trans hbx4.out
  obtain ⟨y0, y1, y2, y3⟩ := cells4 hbx5
  obtain ⟨d0, d1, d2, d3, d4⟩ := t5.c4
  have bel5 := bel3.trans (((b4.mono (Nat.le_refl _)).trans (b5.mono hsz4)).mono bel3.size)
  clear hbx5 t5 t4 b4
  go_wp2_with fail
  clear y0 y1 y2 y3 d0 d1 d2 d3 d4
  refine (SameReply_flat 0 [] [1, 512] none (some ⟨g3, 0, none⟩) none none (some ⟨g, 0, none⟩) none 0 2 0 2 0 0 2 0 _ (L.Row.nil _ _ _ _) (RA.out.drewN m) (L.Row.nil _ _ _ _) (RB.out.drewN m) rfl rfl (by omega) (by omega)).mono ?_
  rintro e w6 ⟨rfl, b6⟩
  go_wp2
  go_ret
  exact ⟨rfl, bel5.trans (b6.mono bel5.size)⟩
end Go.Proofs.Ytfdikjfbmfibjaa
namespace Go.Proofs.Ytfdikjfbmfibjaa
open Go.RowKit
set_option linter.unusedVariables false

theorem chkQ_ne_one (q : Req) : chkQ q ≠ 1 := by
  unfold chkQ chk
  repeat' split
  all_goals first | omega | (unfold ptsE; repeat' split) <;> omega

set_option maxHeartbeats 2000000 in
set_option maxRecDepth 100000 in
theorem walk_ReplyExceptions (q : Req) (Ao As Ap : Option Addr) (lo ls lp co cs cp : Nat) (x : Int) (w : World) (h : Asked w w.heap.size q Ao As Ap lo ls lp) (hi : (Lit.int .i64 q.c).wf = true ∧ (Lit.int .i64 q.a).wf = true ∧ (Lit.int .i64 q.n).wf = true) (wx : (Lit.int .i64 x).wf = true) :
    Calls Try.prog 8 #[.agg #[.int .i64 q.c, .int .i64 q.a, .int .i64 q.n, .slice Ao lo co, .slice As ls cs, .slice Ap lp cp], .int .i64 x] w fun e w' => e = .returned (.bool true) ∧ Below w.heap.size w w' := by
  have bx := Bx.new w (.cells #[.int .i64 q.c, .int .i64 q.a, .int .i64 q.n, .slice Ao lo co, .slice As ls cs, .slice Ap lp cp] 26)
  have H := Lib.hid (h.upAlloc (.cells #[.int .i64 q.c, .int .i64 q.a, .int .i64 q.n, .slice Ao lo co, .slice As ls cs, .slice Ap lp cp] 26))
  have hxw := wf_i64 wx
  clear h hi wx
  by_cases hlong : 70000 < lo ∨ 70000 < ls ∨ 70000 < lp
  · have hlong' := Lib.hid hlong
    clear hlong
    go_enter Try.func8, Try.ntmps8
    go_wp2_with fail
    refine (LongAsk_yes q.c q.a q.n Ao As Ap lo co ls cs lp cp _ hlong'.out).mono ?_
    rintro e w1 ⟨rfl, b1⟩
    have bel1 := (bx.below b1).2
    go_wp2_with fail
    refine (works_yes _).mono ?_
    rintro e w2 ⟨rfl, b2⟩
    go_wp2
    go_ret
    exact ⟨rfl, bel1.trans (b2.mono bel1.size)⟩
  have hlo : lo ≤ 70000 := by omega
  have hls : ls ≤ 70000 := by omega
  have hlp : lp ≤ 70000 := by omega
  clear hlong
  obtain ⟨k, hk⟩ : ∃ k, Hid (chkQ q = k) := ⟨_, Lib.hid rfl⟩
  have hk1 : k ≠ 1 := by rw [← hk.out]; exact chkQ_ne_one q
  have HCR : Hid (∀ W, Asked W W.heap.size q Ao As Ap lo ls lp → Calls Try.prog 11 #[.agg #[.int .i64 q.c, .int .i64 q.a, .int .i64 q.n, .slice Ao lo co, .slice As ls cs, .slice Ap lp cp], .agg #[.int .i64 x, .slice none 0 0, .slice none 0 0, .slice none 0 0]] W fun e w' => e = .returned (.int .i64 (chkR q ⟨x, [], [], []⟩)) ∧ Below W.heap.size W w') :=
    Lib.hid (fun W h => rpCheck_any q ⟨x, [], [], []⟩ Ao As Ap none none none lo ls lp co cs cp 0 0 0 0 0 0 W h (Repd.zero _ _ x) (by omega))
  go_enter Try.func8, Try.ntmps8
  go_wp2_with fail
  refine (LongAsk_no q.c q.a q.n Ao As Ap lo co ls cs lp cp _ hlo hls hlp).mono ?_
  rintro e w1 ⟨rfl, b1⟩
  have bx1 := bx.below b1
  have H1 := Lib.hid (H.out.up b1)
  clear bx b1 H
  obtain ⟨d0, d1, d2, d3, d4, d5⟩ := bx1.six
  have hz1 := bx1.lt
  go_wp2_with fail
  clear d0 d1 d2 d3 d4 d5
  by_cases hk0 : k = 0
  · subst hk0
    refine (rpGet_none q Ao As Ap lo ls lp co cs cp none 0 _ H1.out hk.out).mono ?_
    rintro e w2 ⟨Bo, Bs, Bf, mo, ms, mf, eo, es, ef, rfl, hrep, b2⟩
    have bx2 := bx1.below b2
    have H2 := Lib.hid ((H1.out.up b2).upAlloc (.cells #[.int .i64 Rep.zero.x, .slice Bo mo eo, .slice Bs ms es, .slice Bf mf ef] 29))
    have bx3 := bx2.alloc (.cells #[.int .i64 Rep.zero.x, .slice Bo mo eo, .slice Bs ms es, .slice Bf mf ef] 29)
    obtain ⟨E, hE⟩ : ∃ E, Hid (chkR q ⟨x, [], [], []⟩ = E) := ⟨_, Lib.hid rfl⟩
    clear hk1 hrep bx1 b2 H1 bx2
    obtain ⟨d0, d1, d2, d3, d4, d5⟩ := bx3.six
    by_cases hin : x < 1 ∨ 127 < x
    · have HE3 : Hid (x = 0 ∨ E = 3) := Lib.hid (by
        by_cases hx0 : x = 0
        · exact .inl hx0
        · right
          rw [← hE.out]; unfold chkR
          rw [if_neg (show ¬ chkQ q ≠ 0 by rw [hk.out]; simp), if_pos (show (⟨x, [], [], []⟩ : Rep).x ≠ 0 from hx0), if_neg (show ¬ (1 ≤ (⟨x, [], [], []⟩ : Rep).x ∧ (⟨x, [], [], []⟩ : Rep).x ≤ 127) by simp only; omega)])
      by_cases hx0 : x = 0
      · subst hx0
        clear hin
        go_wp2_with fail
        clear d0 d1 d2 d3 d4 d5
        refine (HCR.out _ H2.out).mono ?_
        rintro e w3 ⟨rfl, b3⟩
        rw [hE.out]
        have bx4 := bx3.below b3
        clear bx3 b3
        go_wp2_with fail
        refine (works_yes _).mono ?_
        rintro e w4 ⟨rfl, b4⟩
        go_wp2
        go_ret
        exact ⟨rfl, bx4.2.trans (b4.mono bx4.2.size)⟩
      · obtain rfl : E = 3 := by rcases HE3.out with h | h <;> omega
        have v0 : (x == 0) = false := beq_false_of_ne hx0
        by_cases hx1 : x < 1
        · clear hin hx0
          go_wp2_with fail
          clear d0 d1 d2 d3 d4 d5
          refine (HCR.out _ H2.out).mono ?_
          rintro e w3 ⟨rfl, b3⟩
          rw [hE.out]
          have bx4 := bx3.below b3
          clear bx3 b3
          go_wp2_with fail
          refine (works_yes _).mono ?_
          rintro e w4 ⟨rfl, b4⟩
          go_wp2
          go_ret
          exact ⟨rfl, bx4.2.trans (b4.mono bx4.2.size)⟩
        · have hx2 : 127 < x := by omega
          clear hin hx0
          go_wp2_with fail
          clear d0 d1 d2 d3 d4 d5
          refine (HCR.out _ H2.out).mono ?_
          rintro e w3 ⟨rfl, b3⟩
          rw [hE.out]
          have bx4 := bx3.below b3
          clear bx3 b3
          go_wp2_with fail
          refine (works_yes _).mono ?_
          rintro e w4 ⟨rfl, b4⟩
          go_wp2
          go_ret
          exact ⟨rfl, bx4.2.trans (b4.mono bx4.2.size)⟩
    · have hx1 : ¬ x < 1 := by omega
      have hx2 : ¬ 127 < x := by omega
      have HXR := Lib.hid (show 1 ≤ x ∧ x ≤ 127 by omega)
      obtain rfl : E = 0 := by
        rw [← hE.out]; unfold chkR
        rw [if_neg (show ¬ chkQ q ≠ 0 by rw [hk.out]; simp), if_pos (show (⟨x, [], [], []⟩ : Rep).x ≠ 0 by simp only; omega), if_pos (show 1 ≤ (⟨x, [], [], []⟩ : Rep).x ∧ (⟨x, [], [], []⟩ : Rep).x ≤ 127 by simp only; omega)]
        rfl
      clear hin
      go_wp2_with fail
      clear d0 d1 d2 d3 d4 d5
      refine (HCR.out _ H2.out).mono ?_
      rintro e w3 ⟨rfl, b3⟩
      rw [hE.out]
      have bx4 := bx3.below b3
      have H4 := Lib.hid (H2.out.up b3)
      clear bx3 b3 H2
      obtain ⟨d0, d1, d2, d3, d4, d5⟩ := bx4.six
      go_wp2_with fail
      clear d0 d1 d2 d3 d4 d5
      refine (rpPut_exc q Ao As Ap lo ls lp co cs cp x _ H4.out (by omega) hk.out HXR.out).mono ?_
      rintro e w5 ⟨g, hg, rfl, hb, b5⟩
      have bx5 := bx4.below b5
      have H5 := Lib.hid (H4.out.up b5)
      have hcr := Lib.hid (mm_le _ (chk_code hk.out))
      have hwf : Hid (∀ z ∈ [q.c + 128, x], (Lit.int .u8 z).wf = true) := Lib.hid (by
        intro z hz
        simp only [List.mem_cons, List.not_mem_nil, or_false] at hz
        have h1 := hcr.out
        have h2 := HXR.out
        rcases hz with rfl | rfl
        · have := wf_byte (q.c + 128).toNat (by omega); rwa [show (((q.c + 128).toNat : Nat) : Int) = q.c + 128 by omega] at this
        · have := wf_byte z.toNat (by omega); rwa [show ((z.toNat : Nat) : Int) = z by omega] at this)
      have R5 := Lib.hid ((Row.of_block hb [q.c + 128, x] hwf.out (List.prefix_refl _)).more (block_lt hb))
      have HB5 := Lib.hid hb
      clear bx4 b5 H4 hb
      obtain ⟨d0, d1, d2, d3, d4, d5⟩ := bx5.six
      go_wp2_with fail
      clear d0 d1 d2 d3 d4 d5
      refine (rpGet_exc q Ao As Ap lo ls lp co cs cp (some ⟨g, 0, none⟩) 2 x _ H5.out hk.out R5.out HXR.out).mono ?_
      rintro e w6 ⟨Co, Cs, Cf, no, ns, nf, fo, fs, ff, rfl, hrep6, b6⟩
      obtain rfl : no = 0 := hrep6.mo.symm
      obtain rfl : ns = 0 := hrep6.ms.symm
      obtain rfl : nf = 0 := hrep6.mf.symm
      have bx6 := bx5.below b6
      have HB6 := (b6.block g (block_lt HB5.out)).trans HB5.out
      have bx7 := bx6.alloc (.cells #[.int .i64 x, .slice Co 0 fo, .slice Cs 0 fs, .slice Cf 0 ff] 29)
      have HB7 := (heap_alloc_old w6 (.cells #[.int .i64 x, .slice Co 0 fo, .slice Cs 0 fs, .slice Cf 0 ff] 29) (block_lt HB6)).trans HB6
      have c1 : (w6.alloc (.cells #[.int .i64 x, .slice Co 0 fo, .slice Cs 0 fs, .slice Cf 0 ff] 29)).cell? ⟨g, 1, none⟩ = some (.int .u8 x) := cell_of_row _ g 1 _ _ _ HB7
      have ex1 : IntKind.i64.wrap x = x := IntWalk.i64_in _ (by omega)
      have ex2 : (x == x) = true := by simp
      have bel7 := bx7.2
      clear bx5 b6 H5 bx6 HB6 HB7 hrep6 bx7
      go_wp2_with fail
      refine (SameReply_flat x [] [] Co Cs Cf none none none 0 0 fo fs ff 0 0 0 _ (L.Row.nil _ _ _ _) (Row.nil _ _ _ _) (L.Row.nil _ _ _ _) (Row.nil _ _ _ _) rfl rfl (by omega) (by omega)).mono ?_
      rintro e w8 ⟨rfl, b8⟩
      have bel8 := bel7.trans (b8.mono bel7.size)
      go_wp2_with fail
      refine (works_yes _).mono ?_
      rintro e w9 ⟨rfl, b9⟩
      go_wp2
      go_ret
      exact ⟨rfl, bel8.trans (b9.mono bel8.size)⟩
  · have HE : Hid (chkR q ⟨x, [], [], []⟩ = k) := Lib.hid (by unfold chkR; rw [if_pos (show chkQ q ≠ 0 by rw [hk.out]; exact hk0)]; exact hk.out)
    have u1 : (k != 1) = true := by simpa using hk1
    have u2 : (k == 1) = false := beq_false_of_ne hk1
    have u3 : (k == k) = true := by simp
    refine (rpGet_bad q Ao As Ap lo ls lp co cs cp none 0 0 _ H1.out (by rw [hk.out]; exact hk0)).mono ?_
    rintro e w2 ⟨Bo, Bs, Bf, mo, ms, mf, eo, es, ef, rfl, hrep, b2⟩
    rw [hk.out]
    have bx2 := bx1.below b2
    have H2 := Lib.hid ((H1.out.up b2).upAlloc (.cells #[.int .i64 Rep.zero.x, .slice Bo mo eo, .slice Bs ms es, .slice Bf mf ef] 29))
    have bx3 := bx2.alloc (.cells #[.int .i64 Rep.zero.x, .slice Bo mo eo, .slice Bs ms es, .slice Bf mf ef] 29)
    clear hk0 hk1 hrep bx1 b2 H1 bx2
    obtain ⟨d0, d1, d2, d3, d4, d5⟩ := bx3.six
    go_wp2_with fail
    clear d0 d1 d2 d3 d4 d5
    refine (HCR.out _ H2.out).mono ?_
    rintro e w3 ⟨rfl, b3⟩
    rw [HE.out]
    have bx4 := bx3.below b3
    clear bx3 b3
    go_wp2_with fail
    refine (works_yes _).mono ?_
    rintro e w4 ⟨rfl, b4⟩
    go_wp2
    go_ret
    exact ⟨rfl, bx4.2.trans (b4.mono bx4.2.size)⟩
end Go.Proofs.Ytfdikjfbmfibjaa
namespace Go.Proofs.Ytfdikjfbmfibjaa.replyExceptions
open Go.ChangeShapes Go.WideShapes Go.ChangeAt Go.RowKit
open Go.ChangeMaps (open_string shut_string)
set_option linter.unusedVariables false

theorem own : ownKnob Try.prog.godebug = none := by kernel_rfl
theorem laidOut : laidOutB Try.prog = true := by kernel_rfl

set_option maxRecDepth 100000 in
theorem lifted (os : Os) (started : os.Started) (H : Type) (enc : TypeId × Value → H) :
    ReturnsInHanded {} Try.checked os 8 .any (Rows.replyExceptionsSpec.pre6 enc Try.prog Try.f8 Rows.replyExceptionsRow.domain false) (Rows.replyExceptionsSpec.post enc Try.prog Try.f8 false true false false) := by
  refine returnsInHanded_of_change_sized (C := Try.checked) own started (by kernel_rfl) Try.func8
    (ChangeSpec.witness6 (enc := enc) (C := Try.checked) false ⟨#[], #[.agg #[.int .i64 0, .int .i64 0, .int .i64 0, .slice none 0 0, .slice none 0 0, .slice none 0 0], .int .i64 0], []⟩ 8 (by kernel_rfl) (by kernel_rfl) (by kernel_rfl) (by kernel_rfl)) ?_
  intro W base args ds gs before hval0 hW hcnd hsz0 _
  have hsz : (DataW.weightsEach Try.prog (Try.f8.params.toList ++ Rows.replyExceptionsSpec.plain.varTypes Try.prog) (ds ++ gs)).all (· ≤ reachBytes) = true := hsz0
  clear hsz0
  have hval : ∀ (j : Nat) t v, Try.f8.params[j]? = some t → args[j]? = some v → Value.okWide Try.prog W .any base t v := hval0
  have hW' := hW
  obtain ⟨p, q, hA0, hV, rfl, hfz, hnd⟩ := hW
  have hA : DataW.TrodAll enc Try.prog W 0 (fun _ => true) true Try.f8.params.toList args.toList ds p := hA0
  rw [Try.params8] at hA hval hsz
  obtain ⟨v0, vs0, d0, ds0, p0, q0, hargs, rfl, rfl, h0, r0⟩ := trodAll_cons hA
  obtain ⟨v1, vs1, d1, ds1, p1, q1, rfl, rfl, rfl, h1, r1⟩ := trodAll_cons r0
  obtain ⟨rfl, rfl, rfl⟩ := trodAll_nil r1
  obtain rfl : args = #[v0, v1] := by cases args; simp_all
  obtain ⟨rfl, rfl⟩ := trodVars_none hV
  have k0 := h0
  have lt0 : ∀ x ∈ p0, x.block < W.heap.size := by obtain ⟨m, hm⟩ := k0; exact DataW.trod_lt m _ _ _ hm
  obtain ⟨q_0, Ao0, As0, Ap0, lo0, ls0, lp0, co0, cs0, cp0, rfl, w0, wf0⟩ := ask_in Try.underlying26 (by kernel_rfl) (by kernel_rfl) Try.underlying3 Try.underlying3 Try.underlying3 Try.underlying22 Try.underlying4 (by kernel_rfl) Try.underlying23 Try.underlying90 (by kernel_rfl) Try.underlying24 Try.underlying61 (by kernel_rfl) (by kernel_rfl) Try.underlying3 Try.underlying3 Try.underlying3 (hval 0 26 v0 rfl rfl) h0 lt0
  obtain ⟨a1, rfl, rfl, rfl, w1⟩ := open_int Try.underlying3 (hval 1 3 v1 rfl rfl) h1
  clear hA0 hval0
  refine (walk_ReplyExceptions q_0 Ao0 As0 Ap0 lo0 ls0 lp0 co0 cs0 cp0 a1 W w0 wf0 w1).mono fun e W' ⟨he, bel⟩ => ?_
  subst he
  exact ⟨_, rfl, _, _, _, [], _, [], hW', trodAll_mk1 (shut_bool Try.underlying4 _), (trodAll_cons_mk (Below.trod laidOut (by kernel_rfl) (of_decide_eq_true (by kernel_rfl)) k0 bel lt0) (trodAll_cons_mk (shut_int Try.underlying3 w1) trodAll_mk0)), rfl, bel.frame _, fun h => by cases h⟩

theorem over : Rows.replyExceptionsRow.holds Try.pinned (OpenSpec.ofChange Rows.replyExceptionsSpec) :=
  OpenClaim.holds_of_wide 8 Try.f8 rfl rfl rfl rfl rfl rfl rfl ⟨rfl, rfl, rfl, rfl, rfl⟩ rfl rfl rfl rfl rfl (by kernel_rfl) Try.func8 (by kernel_rfl)
    (of_decide_eq_true (by kernel_rfl)) (by unfold Func.isWrapper; first | (rw [if_pos (by decide +kernel)]; kernel_rfl) | (rw [if_neg (by decide +kernel)]; exact ⟨rfl, rfl⟩))
    (fun os started H enc _ => lifted os started H enc)

theorem proved : Rows.ReplyExceptionsSaid := over
#print axioms proved
end Go.Proofs.Ytfdikjfbmfibjaa.replyExceptions
