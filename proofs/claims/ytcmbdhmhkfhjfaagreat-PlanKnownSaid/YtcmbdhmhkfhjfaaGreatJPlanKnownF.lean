/-
  Texts of the proof of PlanKnown, joined.
-/
import Derived.Test.YtcmbdhmhkfhjfaaGreatJPlanKnownB
import Derived.Laws.MakeOwn
import Derived.Test.YtcmbdhmhkfhjfaaGreatJPlanKnownE
import Derived.Laws.Strings
import Derived.Test.YtcmbdhmhkfhjfaaGreatJPlanKnownD
import Derived.Deep.RegionHeld3
import Derived.Test.YtcmbdhmhkfhjfaaGreatJPlanKnownA
import Derived.BigQuiet
namespace Go.Proofs.YtcmbdhmhkfhjfaaGreat
open Go.RowKit
set_option linter.unusedVariables false
set_option maxRecDepth 100000

theorem run_neq_tag (t : Tg) (w : World) : (binOp .neq 51 (tgV t) (tgV t)).run Tryz.prog w = .ok (.bool false) w := by
  obtain ⟨nm, un, ki, ad, ev, we, sg, sw, mu, di, aa, de, qu, ul, uh, la, lo, hi, hy⟩ := t
  unfold tgV tgC
  simp [go_sem]
theorem run_eqGuard_tag (op : BinOp) (x y : Operand) (a b : Tg) (w : World) : (eqGuard op 51 x y (tgV a) (tgV b)).run Tryz.prog w = .ok () w :=
  run_eqGuard_agg w op _ x y _ _ (by kernel_rfl)
def stTag (v u : Value) : Sem Unit := Instr.storeAt 51 v u
theorem stTag_fold (v u : Value) : Instr.storeAt 51 v u = stTag v u := rfl
theorem tgC_one (t : Tg) : ∀ v ∈ tgC t, v.oneCell' = true := by
  obtain ⟨nm, un, ki, ad, ev, we, sg, sw, mu, di, aa, de, qu, ul, uh, la, lo, hi, hy⟩ := t
  intro v hv
  simp only [tgC, List.mem_cons, List.not_mem_nil, or_false] at hv
  rcases hv with rfl | rfl | rfl | rfl | rfl | rfl | rfl | rfl | rfl | rfl | rfl | rfl | rfl | rfl | rfl | rfl | rfl | rfl | rfl <;> rfl
theorem stTag_run {w : World} {b o : Nat} (t : Tg) (ht : w.there b o 19) : (stTag (.pointer (some ⟨b, o, none⟩)) (tgV t)).run Tryz.prog w = .ok () (w.setCells b o (tgC t)) :=
  run_storeAt_mid w b o _ (tgC t).toArray ht size_tag (all_oneCell_toArray (tgC_one t))
attribute [local go_sem ↓] ldTag_fold stTag_fold
attribute [local go_sem] run_neq_tag run_eqGuard_tag

theorem setL_after (arr : Array Value) (p : Nat) (vs : List Value) (i : Nat) (h : p + vs.length ≤ i) : (setL arr p vs)[i]? = arr[i]? := by
  induction vs generalizing arr p with
  | nil => rfl
  | cons v vs ih =>
    rw [List.length_cons] at h
    rw [setL, ih _ _ (by omega), Array.getElem?_setIfInBounds_ne (by omega)]
theorem set_flat (L1 L2 : List Tg) (z t : Tg) (k : Nat) (hk : L1.length = k) : setL (flatV tgC (L1 ++ z :: L2)).toArray (k * 19) (tgC t) = (flatV tgC (L1 ++ t :: L2)).toArray := by
  have e1 : (flatV tgC L1).length = k * 19 := by rw [flatV_len tgC_len, hk]
  have key : ∀ u : Tg, ∀ i, ((flatV tgC (L1 ++ u :: L2)).toArray)[i]? = if i < k * 19 then (flatV tgC L1)[i]? else if i < k * 19 + 19 then (tgC u)[i - k * 19]? else (flatV tgC L2)[i - k * 19 - 19]? := by
    intro u i
    rw [List.getElem?_toArray, flatV_append, flatV_cons]
    by_cases h1 : i < k * 19
    · rw [if_pos h1, List.getElem?_append_left (by omega)]
    · rw [if_neg h1, List.getElem?_append_right (by omega), e1]
      by_cases h2 : i < k * 19 + 19
      · rw [if_pos h2, List.getElem?_append_left (by rw [tgC_len]; omega)]
      · rw [if_neg h2, List.getElem?_append_right (by rw [tgC_len]; omega), tgC_len]
  apply Array.ext_getElem?
  intro i
  by_cases h1 : i < k * 19
  · rw [setL_get _ _ _ _ h1, key z, key t, if_pos h1, if_pos h1]
  · by_cases h2 : i < k * 19 + 19
    · obtain ⟨j, rfl⟩ : ∃ j, i = k * 19 + j := ⟨i - k * 19, by omega⟩
      have hj : j < (tgC t).length := by rw [tgC_len]; omega
      have hsz : (flatV tgC (L1 ++ z :: L2)).toArray.size = k * 19 + (19 + (flatV tgC L2).length) := by
        rw [List.size_toArray, flatV_append, flatV_cons, List.length_append, List.length_append, e1, tgC_len]
      rw [setL_at _ _ _ j (tgC t)[j] (List.getElem?_eq_getElem hj) (by rw [hsz]; omega), key t, if_neg h1, if_pos h2, show k * 19 + j - k * 19 = j by omega, List.getElem?_eq_getElem hj]
    · rw [setL_after _ _ _ _ (by rw [tgC_len]; omega), key z, key t, if_neg h1, if_neg h1, if_neg h2, if_neg h2]
theorem setCells_alloc (w : World) (t : TypeId) (arr : Array Value) (p : Nat) (vs : List Value) : (w.alloc (.cells arr t)).setCells w.heap.size p vs = w.alloc (.cells (setL arr p vs) t) := by
  induction vs generalizing arr p with
  | nil => rfl
  | cons v vs ih =>
    rw [World.setCells, setL, ← ih]
    congr 1
    simp [go_sem]
theorem there_alloc_size (w : World) (t : TypeId) (arr : Array Value) (p n : Nat) (h : p + n ≤ arr.size) : (w.alloc (.cells arr t)).there w.heap.size p n := fun j hj => by
  refine ⟨?_, block_frozen _ _ _ _ _ (heap_alloc_new w _)⟩
  rw [cell_of_row _ _ _ _ _ _ (heap_alloc_new w _), Array.getElem?_eq_getElem (by omega)]
  rfl
theorem VRow.loads {w : World} {B : Nat} {A : Option Addr} {l : List Tg} (h : VRow w B A (flatV tgC l)) {i : Nat} (hi : i < l.length) :
    ∃ b o, A = some ⟨b, o, none⟩ ∧ b < B ∧ (ldTag (.pointer (some ⟨b, o + i * 19, none⟩))).run Tryz.prog w = .ok (tgV l[i]) w ∧ ∀ m, (ldTag (.pointer (some ⟨b, o + i * 19, none⟩))).run Tryz.prog (w.drewN m) = .ok (tgV l[i]) (w.drewN m) := by
  obtain ⟨b, o, e, hb, hc⟩ := h.elem tgC_len (by omega) hi
  exact ⟨b, o, e, hb, ldTag_run rfl hc, fun m => ldTag_run (w := w.drewN m) rfl hc⟩

theorem same_yes_tg (A A' : Option Addr) (n c c' : Nat) (l : List Tg) (w : World) (B B' : Nat) (hr : VRow w B A (flatV tgC l)) (hr' : VRow w B' A' (flatV tgC l)) (hn : l.length = n) (hb : n ≤ 4611686018427387904) :
    Calls Tryz.prog 35 #[.slice A n c, .slice A' n c'] w fun e w' => e = .returned (.bool true) ∧ ∃ m, w' = w.drewN m := by
  have hn' := Lib.hid hn
  clear hn
  go_enter Tryz.func35, Tryz.ntmps35
  go_wp2
  go_loopw [5] (fun i wr => ∃ k : Nat, k ≤ n ∧ i = .int .i64 k ∧ Hid (∃ m, wr = w.drewN m)) (fun i _ => n - (intOf i).toNat)
  case atStart => exact ⟨0, by omega, rfl, Lib.hid ⟨0, rfl⟩⟩
  case round =>
    obtain ⟨k, hk, rfl, hdr⟩ := hrel
    have hrw : VRow wr B A (flatV tgC l) := by obtain ⟨m, e⟩ := hdr.out; rw [e]; exact hr.drewN m
    have hrw' : VRow wr B' A' (flatV tgC l) := by obtain ⟨m, e⟩ := hdr.out; rw [e]; exact hr'.drewN m
    by_cases hlt : k < n
    · have hkl : k < l.length := by have := hn'.out; omega
      obtain ⟨b, o, rfl, hb1, hc0, hc1⟩ := hrw.loads hkl
      obtain ⟨b', o', rfl, hb1', hc0', hc1'⟩ := hrw'.loads hkl
      clear hrw hrw'
      generalize l[k] = t at *
      have hlt' : (k : Int) < (n : Int) := by omega
      go_wp2
      go_quiet (fail)
      go_wp2
      go_roundw
      case rel => exact ⟨k + 1, by omega, by go_num, Lib.hid (by obtain ⟨m, e⟩ := hdr.out; rw [e]; exact ⟨m + nq, by rw [World.drewN_drewN]⟩)⟩
      case measure => simp [intOf]; omega
    · clear hrw hrw'
      go_wp2
      go_ret
      exact ⟨rfl, hdr.out⟩

def zT : Tg := ⟨⟨#[]⟩, 0, 0, 0, 0, false, false, false, 0, 0, 0, 0, 0, false, false, false, 0, 0, 0⟩
def mkT : Tg := ⟨⟨#[97, 32, 109, 97, 114, 107]⟩, 0, 0, 0, 0, false, false, false, 0, 0, 0, 0, 0, false, false, false, 0, 0, 0⟩
theorem info_tg : (Tryz.prog.info? 51).map (fun i => (i.zero, i.size, i.bytes)) = some (some (tgV zT), 19, 128) := by kernel_rfl
theorem made_tg (n : Nat) : madeCells (tgV zT).cells (n * 19) = (flatV tgC (List.replicate n zT)).toArray := by
  have hl : (flatV tgC (List.replicate n zT)).length = n * 19 := by rw [flatV_len tgC_len, List.length_replicate]
  have hc : (tgV zT).cells = (tgC zT).toArray := rfl
  apply Array.ext
  · rw [size_madeCells, List.size_toArray, hl]
  · intro i h1 h3
    rw [size_madeCells] at h1
    have h2 := flatV_get tgC_len (List.replicate n zT) (i / 19) (by rw [List.length_replicate]; omega) (i % 19) (Nat.mod_lt _ (by omega))
    rw [show i / 19 * 19 + i % 19 = i by omega, List.getElem_replicate] at h2
    have hm : i % 19 < (tgC zT).length := by rw [tgC_len]; exact Nat.mod_lt _ (by omega)
    have e : (flatV tgC (List.replicate n zT)).toArray[i] = (tgC zT)[i % 19] := by
      rw [List.getElem?_eq_getElem (by rw [hl]; exact h1), List.getElem?_eq_getElem hm] at h2
      exact Option.some.inj h2
    rw [e]
    simp only [madeCells, Array.getElem_map, Array.getElem_range, hc]
    have h19 : (tgC zT).toArray.size = 19 := rfl
    rw [h19, getElem!_pos (tgC zT).toArray (i % 19) (by rw [h19]; exact Nat.mod_lt _ (by omega))]
    rfl
theorem make_tg (n : Nat) (hn : n * 128 ≤ 140737488355328) (W : World) :
    (Instr.makeSlice 22 (.int .i64 (n : Int)) (.int .i64 (n : Int))).run Tryz.prog W = .ok (.slice (some ⟨W.heap.size, 0, none⟩) n n) (W.alloc (.cells (flatV tgC (List.replicate n zT)).toArray 51)) := by
  obtain ⟨i, hi, hz, hs, hb⟩ := info_parts info_tg
  have h := run_make (P := Tryz.prog) W 22 51 i (tgV zT) Tryz.underlying22 hi hz .i64 .i64 n n (by omega) (by omega) (by rw [hb]; omega) (by omega)
  rw [h, hs, Int.toNat_natCast, made_tg]

def marksG : List Tg := [mkT, mkT, mkT, mkT, mkT]
theorem flat_size (L : List Tg) : (flatV tgC L).toArray.size = L.length * 19 := by rw [List.size_toArray, flatV_len tgC_len]
theorem stTag_own (w : World) (C : Array Value) (k : Nat) (t : Tg) (h : k * 19 + 19 ≤ C.size) : (stTag (.pointer (some ⟨w.heap.size, k * 19, none⟩)) (tgV t)).run Tryz.prog (w.alloc (.cells C 51)) = .ok () (w.alloc (.cells (setL C (k * 19) (tgC t)) 51)) := by
  rw [stTag_run t (there_alloc_size w _ C (k * 19) 19 h), setCells_alloc]
theorem take_tg {α : Type} (l : List α) (k : Nat) (h : k < l.length) : l.take (k + 1) = l.take k ++ [l[k]] := by simp
set_option maxHeartbeats 1000000 in
theorem lent_tg (A : Option Addr) (n c : Nat) (l : List Tg) (w : World) (hr : VRow w w.heap.size A (flatV tgC l)) (hn : l.length = n) (hb : (n + 5) * 128 ≤ 140737488355328) :
    Calls Tryz.prog 7 #[.slice A n c] w fun e w' => e = .returned (.slice (some ⟨w.heap.size, 0, none⟩) n (n+5)) ∧ w' = w.alloc (.cells (flatV tgC (l ++ marksG)).toArray 51) := by
  have hn' := Lib.hid hn
  clear hn
  have hmk := make_tg (n + 5) hb
  rw [show ((n + 5 : Nat) : Int) = (n : Int) + 5 by omega] at hmk
  go_enter Tryz.func7, Tryz.ntmps7
  go_wp2
  go_loopw [4] (fun i wr => ∃ (k : Nat) (C : Array Value), k ≤ n ∧ i = .int .i64 k ∧ Hid (C = (flatV tgC (l.take k ++ List.replicate (n + 5 - k) zT)).toArray) ∧ wr = w.alloc (.cells C 51)) (fun i _ => n - (intOf i).toNat)
  case atStart => exact ⟨0, _, by omega, rfl, Lib.hid (by simp), rfl⟩
  case round =>
    obtain ⟨k, C, hk, rfl, hC, rfl⟩ := hrel
    by_cases hlt : k < n
    · have hkl : k < l.length := by have := hn'.out; omega
      have hlt' : (k : Int) < (n : Int) := by omega
      have hlt5 : (k : Int) < (n : Int) + 5 := by omega
      obtain ⟨b, o, rfl, hb1, hld, _⟩ := (hr.alloc (Nat.le_refl _) (.cells C 51)).loads hkl
      have hsz : k * 19 + 19 ≤ C.size := by rw [hC.out, flat_size, List.length_append, List.length_take, List.length_replicate]; have := hn'.out; omega
      have hst := stTag_own w C k l[k] hsz
      have HT := Lib.hid (take_tg l k hkl)
      clear hsz
      generalize l[k] = t at *
      go_wp2
      go_roundw
      case rel => exact ⟨k + 1, _, by omega, by go_num, Lib.hid (by rw [hC.out, HT.out, show n + 5 - k = (n + 5 - (k + 1)) + 1 by omega, List.replicate_succ, set_flat _ _ _ _ _ (by rw [List.length_take]; have := hn'.out; omega), List.append_assoc]; rfl), rfl⟩
      case measure => simp [intOf]; omega
    · obtain rfl : k = n := by omega
      have hx : l.take k = l := List.take_of_length_le (by have := hn'.out; omega)
      have hC2 : Hid (C = (flatV tgC (l ++ List.replicate 5 zT)).toArray) := Lib.hid (by rw [hC.out, hx, show k + 5 - k = 5 by omega])
      clear hx hlt hk hC
      go_wp2
      go_loopw [5] (fun i wr => ∃ (j : Nat) (C : Array Value), j ≤ 5 ∧ i = .int .i64 (k + j : Nat) ∧ Hid (C = (flatV tgC (l ++ marksG.take j ++ List.replicate (5 - j) zT)).toArray) ∧ wr = w.alloc (.cells C 51)) (fun i _ => k + 5 - (intOf i).toNat)
      case atStart => exact ⟨0, _, by omega, rfl, Lib.hid (by rw [hC2.out]; simp), rfl⟩
      case round =>
        obtain ⟨j, C, hj, rfl, hC, rfl⟩ := hrel
        by_cases hlt : j < 5
        · have hsz : (k + j) * 19 + 19 ≤ C.size := by rw [hC.out, flat_size, List.length_append, List.length_append, List.length_take, List.length_replicate]; have := hn'.out; simp [marksG]; omega
          have hst := stTag_own w C (k + j) mkT hsz
          have HM : Hid (marksG.take (j + 1) = marksG.take j ++ [mkT]) := Lib.hid (by rcases j with _ | _ | _ | _ | _ | j <;> first | rfl | omega)
          have HL : Hid ((l ++ marksG.take j).length = k + j) := Lib.hid (by rw [List.length_append, List.length_take]; have := hn'.out; simp [marksG]; omega)
          clear hsz
          simp only [tgV, tgC, mkT] at hst
          go_wp2
          go_roundw
          case rel => exact ⟨j + 1, _, by omega, by go_num, Lib.hid (by show setL C _ (tgC mkT) = _; rw [hC.out, HM.out, show 5 - j = (5 - (j + 1)) + 1 by omega, List.replicate_succ, set_flat _ _ _ _ _ HL.out]; simp), rfl⟩
          case measure => simp [intOf]; omega
        · obtain rfl : j = 5 := by omega
          go_wp2
          go_ret
          exact ⟨rfl, by rw [hC.out]; simp [marksG]⟩
theorem run_neq_mark (w : World) : (binOp .neq 51 (tgV mkT) (tgV mkT)).run Tryz.prog w = .ok (.bool false) w := run_neq_tag mkT w
theorem kept_tg (A : Option Addr) (n c g : Nat) (l : List Tg) (w : World) (B : Nat) (hr : VRow w B A (flatV tgC l)) (hn : l.length = n) (hb : n ≤ 1152921504606846976)
    (hg : w.heap[g]? = some (.cells (flatV tgC (l ++ marksG)).toArray 51 (0, 0))) :
    Calls Tryz.prog 14 #[.slice (some ⟨g, 0, none⟩) n (n + 5), .slice A n c] w fun e w' => e = .returned (.bool true) ∧ ∃ m, w' = w.drewN m := by
  have hrow : VRow w w.heap.size (some ⟨g, 0, none⟩) (flatV tgC l) := VRow.of_block hg _ (by rw [flatV_append]; exact List.prefix_append _ _)
  have hall : VRow w w.heap.size (some ⟨g, 0, none⟩) (flatV tgC (l ++ marksG)) := VRow.of_block hg _ (List.prefix_refl _)
  have hmark : ∀ j, j < 5 → ∀ m, (ldTag (.pointer (some ⟨g, (n + j) * 19, none⟩))).run Tryz.prog (w.drewN m) = .ok (tgV mkT) (w.drewN m) := by
    intro j hj m
    have hk : n + j < (l ++ marksG).length := by rw [List.length_append, hn]; simp [marksG]; omega
    obtain ⟨b, o, e, _, _, h⟩ := hall.loads hk
    injection e with e
    injection e with e1 e2
    subst e1 e2
    have he : (l ++ marksG)[n + j] = mkT := by
      rw [List.getElem_append_right (by omega)]
      have : ∀ i (hi : i < marksG.length), marksG[i] = mkT := by
        intro i hi
        rcases i with _ | _ | _ | _ | _ | i <;> first | rfl | exact absurd hi (by simp [marksG])
      exact this _ _
    have := h m
    rw [he, Nat.zero_add] at this
    exact this
  have HM := Lib.hid hmark
  clear hmark hg hall
  go_enter Tryz.func14, Tryz.ntmps14
  go_wp2_with (go_at_call 35; refine (same_yes_tg _ _ _ _ _ l _ _ _ hrow hr hn (by omega)).mono ?_; rintro e w' ⟨rfl, m, rfl⟩)
  go_loop [6] (fun i => ∃ j : Nat, j ≤ 5 ∧ i = .int .i64 (n + j : Nat)) (fun i => n + 5 - (intOf i).toNat)
  case atStart => exact ⟨0, by omega, rfl⟩
  case round =>
    obtain ⟨j, hj, rfl⟩ := hrel
    by_cases hlt : j < 5
    · have hc0 := HM.out j hlt m
      have hq0 : ∀ x y, (eqGuard .neq 51 x y (tgV mkT) (tgV mkT)).run Tryz.prog (w.drewN m) = .ok () (w.drewN m) := fun x y => run_eqGuard_tag _ x y mkT mkT _
      have hq1 := run_neq_mark (w.drewN m)
      simp only [tgV, tgC, mkT] at hq0 hq1 hc0
      go_wp2
      go_round
      case rel => exact ⟨j + 1, by omega, by go_num⟩
      case measure => simp [intOf]; omega
    · go_wp2
      go_ret
      exact ⟨rfl, m, rfl⟩
end Go.Proofs.YtcmbdhmhkfhjfaaGreat
namespace Go.Proofs.YtcmbdhmhkfhjfaaGreat
open Go.RowKit
set_option linter.unusedVariables false
set_option maxRecDepth 100000
attribute [local go_sem ↓] ldTag_fold stTag_fold

theorem setL_whole (arr : Array Value) (vs : List Value) (h : arr.size = vs.length) : setL arr 0 vs = vs.toArray := by
  apply Array.ext_getElem?
  intro i
  by_cases hi : i < vs.length
  · have := setL_at arr 0 vs i vs[i] (List.getElem?_eq_getElem hi) (by omega)
    rw [Nat.zero_add] at this
    rw [this, List.getElem?_toArray, List.getElem?_eq_getElem hi]
  · rw [Array.getElem?_eq_none (by rw [setL_size]; omega), Array.getElem?_eq_none (by rw [List.size_toArray]; omega)]
theorem made_tag (w : World) (t : Tg) : (stTag (.pointer (some ⟨w.heap.size, 0, none⟩)) (tgV t)).run Tryz.prog (w.alloc (.cells #[.string ⟨#[]⟩, .int .i64 0, .int .i64 0, .int .i64 0, .int .i64 0, .bool false, .bool false, .bool false, .int .i64 0, .int .i64 0, .int .i64 0, .int .i64 0, .int .i64 0, .bool false, .bool false, .bool false, .int .i64 0, .int .i64 0, .int .i64 0] 51)) = .ok () (w.alloc (.cells (tgC t).toArray 51)) := by
  have h := stTag_run (w := w.alloc (.cells (tgC zT).toArray 51)) (o := 0) t (there_alloc_size w 51 (tgC zT).toArray 0 19 (Nat.le_refl _))
  rw [setCells_alloc, setL_whole (tgC zT).toArray (tgC t) rfl] at h
  exact h

theorem chkT_mean (t : Tg) (hn : nameB (bys t.nm) = true) (u1 : ¬ t.un < 1) (u2 : ¬ t.un > 247) (k1 : ¬ t.ki < 1) (k2 : ¬ t.ki > 4) (d1 : ¬ t.ad < 0) (d2 : ¬ t.ad > 65536 - widT t) (v1 : ¬ t.ev < 1) (v2 : ¬ t.ev > 1048576) : chkT t = meanT t := by
  unfold chkT meanT
  simp only [hn, decide_eq_false u1, decide_eq_false u2, decide_eq_false k1, decide_eq_false k2, decide_eq_false d1, decide_eq_false d2, decide_eq_false v1, decide_eq_false v2]
  rfl
set_option maxHeartbeats 1000000 in
theorem pc9_0 (nm : ByteArray) (un ki ad ev : Int) (we sg sw : Bool) (mu di aa de qu : Int) (ul uh la : Bool) (lo hi hy : Int) (w : World) (hs : nm.size ≤ maxLen) (hn : nameB (bys nm) = false) : Calls Tryz.prog 99 #[.agg #[.string nm, .int .i64 un, .int .i64 ki, .int .i64 ad, .int .i64 ev, .bool we, .bool sg, .bool sw, .int .i64 mu, .int .i64 di, .int .i64 aa, .int .i64 de, .int .i64 qu, .bool ul, .bool uh, .bool la, .int .i64 lo, .int .i64 hi, .int .i64 hy]] w fun e w' => e = .returned (.int .i64 8) ∧ Below w.heap.size w w' := by
  have h0 := heap_alloc_new w (.cells #[.string nm, .int .i64 un, .int .i64 ki, .int .i64 ad, .int .i64 ev, .bool we, .bool sg, .bool sw, .int .i64 mu, .int .i64 di, .int .i64 aa, .int .i64 de, .int .i64 qu, .bool ul, .bool uh, .bool la, .int .i64 lo, .int .i64 hi, .int .i64 hy] 51)
  have bel0 := bel_alloc w (.cells #[.string nm, .int .i64 un, .int .i64 ki, .int .i64 ad, .int .i64 ev, .bool we, .bool sg, .bool sw, .int .i64 mu, .int .i64 di, .int .i64 aa, .int .i64 de, .int .i64 qu, .bool ul, .bool uh, .bool la, .int .i64 lo, .int .i64 hi, .int .i64 hy] 51)
  go_enter Tryz.func99, Tryz.ntmps99
  go_wp2_with fail
  refine (Name9_any nm _ hs).mono ?_
  rintro e w1 ⟨rfl, b1⟩
  rw [hn]
  have h1 := keepB b1 h0
  have bel1 := bel0.trans (b1.mono bel0.size)
  clear hn b1 h0 bel0
  obtain ⟨c0, c1, c2, c3, c4, c5, c6, c7, c8, c9, c10, c11, c12, c13, c14, c15, c16, c17, c18⟩ := of19 nm un ki ad ev we sg sw mu di aa de qu ul uh la lo hi hy h1
  go_wp2
  go_ret
  exact ⟨rfl, bel1⟩

set_option maxHeartbeats 1000000 in
theorem pc9_1 (nm : ByteArray) (un ki ad ev : Int) (we sg sw : Bool) (mu di aa de qu : Int) (ul uh la : Bool) (lo hi hy : Int) (w : World) (hs : nm.size ≤ maxLen) (hn : nameB (bys nm) = true) (L1 : lieB un 1 247 = false) : Calls Tryz.prog 99 #[.agg #[.string nm, .int .i64 un, .int .i64 ki, .int .i64 ad, .int .i64 ev, .bool we, .bool sg, .bool sw, .int .i64 mu, .int .i64 di, .int .i64 aa, .int .i64 de, .int .i64 qu, .bool ul, .bool uh, .bool la, .int .i64 lo, .int .i64 hi, .int .i64 hy]] w fun e w' => e = .returned (.int .i64 24) ∧ Below w.heap.size w w' := by
  have h0 := heap_alloc_new w (.cells #[.string nm, .int .i64 un, .int .i64 ki, .int .i64 ad, .int .i64 ev, .bool we, .bool sg, .bool sw, .int .i64 mu, .int .i64 di, .int .i64 aa, .int .i64 de, .int .i64 qu, .bool ul, .bool uh, .bool la, .int .i64 lo, .int .i64 hi, .int .i64 hy] 51)
  have bel0 := bel_alloc w (.cells #[.string nm, .int .i64 un, .int .i64 ki, .int .i64 ad, .int .i64 ev, .bool we, .bool sg, .bool sw, .int .i64 mu, .int .i64 di, .int .i64 aa, .int .i64 de, .int .i64 qu, .bool ul, .bool uh, .bool la, .int .i64 lo, .int .i64 hi, .int .i64 hy] 51)
  go_enter Tryz.func99, Tryz.ntmps99
  go_wp2_with fail
  refine (Name9_any nm _ hs).mono ?_
  rintro e w1 ⟨rfl, b1⟩
  rw [hn]
  have h1 := keepB b1 h0
  have bel1 := bel0.trans (b1.mono bel0.size)
  clear hn b1 h0 bel0
  obtain ⟨c0, c1, c2, c3, c4, c5, c6, c7, c8, c9, c10, c11, c12, c13, c14, c15, c16, c17, c18⟩ := of19 nm un ki ad ev we sg sw mu di aa de qu ul uh la lo hi hy h1
  go_wp2_with fail
  refine (lies_any _ _ _ _).mono ?_
  rintro e w' ⟨rfl, hwe⟩
  rw [hwe]
  clear hwe w'
  rw [L1]
  clear L1
  go_wp2
  go_ret
  exact ⟨rfl, bel1⟩

set_option maxHeartbeats 1000000 in
theorem pc9_2 (nm : ByteArray) (un ki ad ev : Int) (we sg sw : Bool) (mu di aa de qu : Int) (ul uh la : Bool) (lo hi hy : Int) (w : World) (hs : nm.size ≤ maxLen) (hn : nameB (bys nm) = true) (L1 : lieB un 1 247 = true) (L2 : lieB ki 1 4 = false) : Calls Tryz.prog 99 #[.agg #[.string nm, .int .i64 un, .int .i64 ki, .int .i64 ad, .int .i64 ev, .bool we, .bool sg, .bool sw, .int .i64 mu, .int .i64 di, .int .i64 aa, .int .i64 de, .int .i64 qu, .bool ul, .bool uh, .bool la, .int .i64 lo, .int .i64 hi, .int .i64 hy]] w fun e w' => e = .returned (.int .i64 28) ∧ Below w.heap.size w w' := by
  have h0 := heap_alloc_new w (.cells #[.string nm, .int .i64 un, .int .i64 ki, .int .i64 ad, .int .i64 ev, .bool we, .bool sg, .bool sw, .int .i64 mu, .int .i64 di, .int .i64 aa, .int .i64 de, .int .i64 qu, .bool ul, .bool uh, .bool la, .int .i64 lo, .int .i64 hi, .int .i64 hy] 51)
  have bel0 := bel_alloc w (.cells #[.string nm, .int .i64 un, .int .i64 ki, .int .i64 ad, .int .i64 ev, .bool we, .bool sg, .bool sw, .int .i64 mu, .int .i64 di, .int .i64 aa, .int .i64 de, .int .i64 qu, .bool ul, .bool uh, .bool la, .int .i64 lo, .int .i64 hi, .int .i64 hy] 51)
  go_enter Tryz.func99, Tryz.ntmps99
  go_wp2_with fail
  refine (Name9_any nm _ hs).mono ?_
  rintro e w1 ⟨rfl, b1⟩
  rw [hn]
  have h1 := keepB b1 h0
  have bel1 := bel0.trans (b1.mono bel0.size)
  clear hn b1 h0 bel0
  obtain ⟨c0, c1, c2, c3, c4, c5, c6, c7, c8, c9, c10, c11, c12, c13, c14, c15, c16, c17, c18⟩ := of19 nm un ki ad ev we sg sw mu di aa de qu ul uh la lo hi hy h1
  go_wp2_with fail
  refine (lies_any _ _ _ _).mono ?_
  rintro e w' ⟨rfl, hwe⟩
  rw [hwe]
  clear hwe w'
  rw [L1]
  clear L1
  go_wp2_with fail
  refine (lies_any _ _ _ _).mono ?_
  rintro e w' ⟨rfl, hwe⟩
  rw [hwe]
  clear hwe w'
  rw [L2]
  clear L2
  go_wp2
  go_ret
  exact ⟨rfl, bel1⟩

set_option maxHeartbeats 1000000 in
theorem pc9_3 (nm : ByteArray) (un ki ad ev : Int) (we sg sw : Bool) (mu di aa de qu : Int) (ul uh la : Bool) (lo hi hy : Int) (w : World) (hs : nm.size ≤ maxLen) (hn : nameB (bys nm) = true) (L1 : lieB un 1 247 = true) (L2 : lieB ki 1 4 = true) (hw : IntKind.i64.wrap (65536 - widT ⟨nm, un, ki, ad, ev, we, sg, sw, mu, di, aa, de, qu, ul, uh, la, lo, hi, hy⟩) = 65536 - widT ⟨nm, un, ki, ad, ev, we, sg, sw, mu, di, aa, de, qu, ul, uh, la, lo, hi, hy⟩) (L3 : lieB ad 0 (65536 - widT ⟨nm, un, ki, ad, ev, we, sg, sw, mu, di, aa, de, qu, ul, uh, la, lo, hi, hy⟩) = false) : Calls Tryz.prog 99 #[.agg #[.string nm, .int .i64 un, .int .i64 ki, .int .i64 ad, .int .i64 ev, .bool we, .bool sg, .bool sw, .int .i64 mu, .int .i64 di, .int .i64 aa, .int .i64 de, .int .i64 qu, .bool ul, .bool uh, .bool la, .int .i64 lo, .int .i64 hi, .int .i64 hy]] w fun e w' => e = .returned (.int .i64 21) ∧ Below w.heap.size w w' := by
  have h0 := heap_alloc_new w (.cells #[.string nm, .int .i64 un, .int .i64 ki, .int .i64 ad, .int .i64 ev, .bool we, .bool sg, .bool sw, .int .i64 mu, .int .i64 di, .int .i64 aa, .int .i64 de, .int .i64 qu, .bool ul, .bool uh, .bool la, .int .i64 lo, .int .i64 hi, .int .i64 hy] 51)
  have bel0 := bel_alloc w (.cells #[.string nm, .int .i64 un, .int .i64 ki, .int .i64 ad, .int .i64 ev, .bool we, .bool sg, .bool sw, .int .i64 mu, .int .i64 di, .int .i64 aa, .int .i64 de, .int .i64 qu, .bool ul, .bool uh, .bool la, .int .i64 lo, .int .i64 hi, .int .i64 hy] 51)
  obtain ⟨wd, hwd⟩ : ∃ x, widT ⟨nm, un, ki, ad, ev, we, sg, sw, mu, di, aa, de, qu, ul, uh, la, lo, hi, hy⟩ = x := ⟨_, rfl⟩
  have HW : Hid (∀ W : World, Calls Tryz.prog 44 #[.agg #[.string nm, .int .i64 un, .int .i64 ki, .int .i64 ad, .int .i64 ev, .bool we, .bool sg, .bool sw, .int .i64 mu, .int .i64 di, .int .i64 aa, .int .i64 de, .int .i64 qu, .bool ul, .bool uh, .bool la, .int .i64 lo, .int .i64 hi, .int .i64 hy]] W fun e w' => e = .returned (.int .i64 (widT ⟨nm, un, ki, ad, ev, we, sg, sw, mu, di, aa, de, qu, ul, uh, la, lo, hi, hy⟩)) ∧ Below W.heap.size W w') := Lib.hid fun W => Width9_any nm un ki ad ev we sg sw mu di aa de qu ul uh la lo hi hy W
  rw [hwd] at hw L3 HW
  clear hwd
  go_enter Tryz.func99, Tryz.ntmps99
  go_wp2_with fail
  refine (Name9_any nm _ hs).mono ?_
  rintro e w1 ⟨rfl, b1⟩
  rw [hn]
  have h1 := keepB b1 h0
  have bel1 := bel0.trans (b1.mono bel0.size)
  clear hn b1 h0 bel0
  obtain ⟨c0, c1, c2, c3, c4, c5, c6, c7, c8, c9, c10, c11, c12, c13, c14, c15, c16, c17, c18⟩ := of19 nm un ki ad ev we sg sw mu di aa de qu ul uh la lo hi hy h1
  go_wp2_with fail
  refine (lies_any _ _ _ _).mono ?_
  rintro e w' ⟨rfl, hwe⟩
  rw [hwe]
  clear hwe w'
  rw [L1]
  clear L1
  go_wp2_with fail
  refine (lies_any _ _ _ _).mono ?_
  rintro e w' ⟨rfl, hwe⟩
  rw [hwe]
  clear hwe w'
  rw [L2]
  clear L2
  clear c0 c1 c2 c3 c4 c5 c6 c7 c8 c9 c10 c11 c12 c13 c14 c15 c16 c17 c18
  have HL3 : Hid (∀ W : World, Calls Tryz.prog 115 #[.int .i64 ad, .int .i64 0, .int .i64 (65536 - wd)] W fun e w' => e = .returned (.bool false) ∧ Below W.heap.size W w') := Lib.hid fun W => (lies_any ad 0 (65536 - wd) W).mono (fun e w' h => by rw [h.1, h.2, L3]; exact ⟨rfl, Below.refl _ _⟩)
  clear L3
  go_wp2
  have HK : Hid (∀ w9 : World, Below w1.heap.size w1 w9 → (Below w1.heap.size w1 w9 ∧ w9.cell? ⟨w.heap.size, 3, none⟩ = some (.int .i64 ad) ∧ (ldTag (.pointer (some ⟨w.heap.size, 0, none⟩))).run Tryz.prog w9 = .ok (.agg #[.string nm, .int .i64 un, .int .i64 ki, .int .i64 ad, .int .i64 ev, .bool we, .bool sg, .bool sw, .int .i64 mu, .int .i64 di, .int .i64 aa, .int .i64 de, .int .i64 qu, .bool ul, .bool uh, .bool la, .int .i64 lo, .int .i64 hi, .int .i64 hy]) w9)) := Lib.hid fun w9 hw => ⟨hw, (of19 nm un ki ad ev we sg sw mu di aa de qu ul uh la lo hi hy (keepB hw h1)).2.2.2.1, ldTag_run rfl (rangeB (cs := [.string nm, .int .i64 un, .int .i64 ki, .int .i64 ad, .int .i64 ev, .bool we, .bool sg, .bool sw, .int .i64 mu, .int .i64 di, .int .i64 aa, .int .i64 de, .int .i64 qu, .bool ul, .bool uh, .bool la, .int .i64 lo, .int .i64 hi, .int .i64 hy]) (keepB hw h1))⟩
  have belh : ∀ w9 : World, (Below w1.heap.size w1 w9 ∧ w9.cell? ⟨w.heap.size, 3, none⟩ = some (.int .i64 ad) ∧ (ldTag (.pointer (some ⟨w.heap.size, 0, none⟩))).run Tryz.prog w9 = .ok (.agg #[.string nm, .int .i64 un, .int .i64 ki, .int .i64 ad, .int .i64 ev, .bool we, .bool sg, .bool sw, .int .i64 mu, .int .i64 di, .int .i64 aa, .int .i64 de, .int .i64 qu, .bool ul, .bool uh, .bool la, .int .i64 lo, .int .i64 hi, .int .i64 hy]) w9) → Below w1.heap.size w1 w9 := fun w9 h => h.1
  go_region_held3 (fun w9 => Below w1.heap.size w1 w9 ∧ w9.cell? ⟨w.heap.size, 3, none⟩ = some (.int .i64 ad) ∧ (ldTag (.pointer (some ⟨w.heap.size, 0, none⟩))).run Tryz.prog w9 = .ok (.agg #[.string nm, .int .i64 un, .int .i64 ki, .int .i64 ad, .int .i64 ev, .bool we, .bool sg, .bool sw, .int .i64 mu, .int .i64 di, .int .i64 aa, .int .i64 de, .int .i64 qu, .bool ul, .bool uh, .bool la, .int .i64 lo, .int .i64 hi, .int .i64 hy]) w9)
    ((refine HK.out _ ?_
      repeat' (first
        | with_reducible exact Below.refl _ _
        | with_reducible exact bel6
        | with_reducible exact bel5
        | with_reducible exact belh _ (by assumption)
        | with_reducible apply below_drew
        | with_reducible apply below_drewN
        | fail)))
    (first
      | (go_at_call 44; refine (HW.out _).mono ?_; rintro e w5 ⟨rfl, b5⟩; have bel5 : Below w1.heap.size w1 w5 := Below.trans (belh _ (by assumption)) (b5.mono (Below.size (belh _ (by assumption)))))
      | (go_at_call 115; refine (HL3.out _).mono ?_; rintro e w6 ⟨rfl, b6⟩; have bel6 : Below w1.heap.size w1 w6 := Below.trans (belh _ (by assumption)) (b6.mono (Below.size (belh _ (by assumption)))))
      | fail)
  have h6 := keepB bel6 h1
  have bel7 := bel1.trans (bel6.mono bel1.size)
  clear HK belh bel5 bel6 h1 bel1 HW HL3
  obtain ⟨c0, c1, c2, c3, c4, c5, c6, c7, c8, c9, c10, c11, c12, c13, c14, c15, c16, c17, c18⟩ := of19 nm un ki ad ev we sg sw mu di aa de qu ul uh la lo hi hy h6
  go_wp2
  go_ret
  exact ⟨rfl, bel7⟩

set_option maxHeartbeats 1000000 in
theorem pc9_4 (nm : ByteArray) (un ki ad ev : Int) (we sg sw : Bool) (mu di aa de qu : Int) (ul uh la : Bool) (lo hi hy : Int) (w : World) (hs : nm.size ≤ maxLen) (hn : nameB (bys nm) = true) (L1 : lieB un 1 247 = true) (L2 : lieB ki 1 4 = true) (hw : IntKind.i64.wrap (65536 - widT ⟨nm, un, ki, ad, ev, we, sg, sw, mu, di, aa, de, qu, ul, uh, la, lo, hi, hy⟩) = 65536 - widT ⟨nm, un, ki, ad, ev, we, sg, sw, mu, di, aa, de, qu, ul, uh, la, lo, hi, hy⟩) (L3 : lieB ad 0 (65536 - widT ⟨nm, un, ki, ad, ev, we, sg, sw, mu, di, aa, de, qu, ul, uh, la, lo, hi, hy⟩) = true) (L4 : lieB ev 1 1048576 = false) : Calls Tryz.prog 99 #[.agg #[.string nm, .int .i64 un, .int .i64 ki, .int .i64 ad, .int .i64 ev, .bool we, .bool sg, .bool sw, .int .i64 mu, .int .i64 di, .int .i64 aa, .int .i64 de, .int .i64 qu, .bool ul, .bool uh, .bool la, .int .i64 lo, .int .i64 hi, .int .i64 hy]] w fun e w' => e = .returned (.int .i64 3) ∧ Below w.heap.size w w' := by
  have h0 := heap_alloc_new w (.cells #[.string nm, .int .i64 un, .int .i64 ki, .int .i64 ad, .int .i64 ev, .bool we, .bool sg, .bool sw, .int .i64 mu, .int .i64 di, .int .i64 aa, .int .i64 de, .int .i64 qu, .bool ul, .bool uh, .bool la, .int .i64 lo, .int .i64 hi, .int .i64 hy] 51)
  have bel0 := bel_alloc w (.cells #[.string nm, .int .i64 un, .int .i64 ki, .int .i64 ad, .int .i64 ev, .bool we, .bool sg, .bool sw, .int .i64 mu, .int .i64 di, .int .i64 aa, .int .i64 de, .int .i64 qu, .bool ul, .bool uh, .bool la, .int .i64 lo, .int .i64 hi, .int .i64 hy] 51)
  obtain ⟨wd, hwd⟩ : ∃ x, widT ⟨nm, un, ki, ad, ev, we, sg, sw, mu, di, aa, de, qu, ul, uh, la, lo, hi, hy⟩ = x := ⟨_, rfl⟩
  have HW : Hid (∀ W : World, Calls Tryz.prog 44 #[.agg #[.string nm, .int .i64 un, .int .i64 ki, .int .i64 ad, .int .i64 ev, .bool we, .bool sg, .bool sw, .int .i64 mu, .int .i64 di, .int .i64 aa, .int .i64 de, .int .i64 qu, .bool ul, .bool uh, .bool la, .int .i64 lo, .int .i64 hi, .int .i64 hy]] W fun e w' => e = .returned (.int .i64 (widT ⟨nm, un, ki, ad, ev, we, sg, sw, mu, di, aa, de, qu, ul, uh, la, lo, hi, hy⟩)) ∧ Below W.heap.size W w') := Lib.hid fun W => Width9_any nm un ki ad ev we sg sw mu di aa de qu ul uh la lo hi hy W
  rw [hwd] at hw L3 HW
  clear hwd
  go_enter Tryz.func99, Tryz.ntmps99
  go_wp2_with fail
  refine (Name9_any nm _ hs).mono ?_
  rintro e w1 ⟨rfl, b1⟩
  rw [hn]
  have h1 := keepB b1 h0
  have bel1 := bel0.trans (b1.mono bel0.size)
  clear hn b1 h0 bel0
  obtain ⟨c0, c1, c2, c3, c4, c5, c6, c7, c8, c9, c10, c11, c12, c13, c14, c15, c16, c17, c18⟩ := of19 nm un ki ad ev we sg sw mu di aa de qu ul uh la lo hi hy h1
  go_wp2_with fail
  refine (lies_any _ _ _ _).mono ?_
  rintro e w' ⟨rfl, hwe⟩
  rw [hwe]
  clear hwe w'
  rw [L1]
  clear L1
  go_wp2_with fail
  refine (lies_any _ _ _ _).mono ?_
  rintro e w' ⟨rfl, hwe⟩
  rw [hwe]
  clear hwe w'
  rw [L2]
  clear L2
  clear c0 c1 c2 c3 c4 c5 c6 c7 c8 c9 c10 c11 c12 c13 c14 c15 c16 c17 c18
  have HL3 : Hid (∀ W : World, Calls Tryz.prog 115 #[.int .i64 ad, .int .i64 0, .int .i64 (65536 - wd)] W fun e w' => e = .returned (.bool true) ∧ Below W.heap.size W w') := Lib.hid fun W => (lies_any ad 0 (65536 - wd) W).mono (fun e w' h => by rw [h.1, h.2, L3]; exact ⟨rfl, Below.refl _ _⟩)
  clear L3
  go_wp2
  have HK : Hid (∀ w9 : World, Below w1.heap.size w1 w9 → (Below w1.heap.size w1 w9 ∧ w9.cell? ⟨w.heap.size, 3, none⟩ = some (.int .i64 ad) ∧ (ldTag (.pointer (some ⟨w.heap.size, 0, none⟩))).run Tryz.prog w9 = .ok (.agg #[.string nm, .int .i64 un, .int .i64 ki, .int .i64 ad, .int .i64 ev, .bool we, .bool sg, .bool sw, .int .i64 mu, .int .i64 di, .int .i64 aa, .int .i64 de, .int .i64 qu, .bool ul, .bool uh, .bool la, .int .i64 lo, .int .i64 hi, .int .i64 hy]) w9)) := Lib.hid fun w9 hw => ⟨hw, (of19 nm un ki ad ev we sg sw mu di aa de qu ul uh la lo hi hy (keepB hw h1)).2.2.2.1, ldTag_run rfl (rangeB (cs := [.string nm, .int .i64 un, .int .i64 ki, .int .i64 ad, .int .i64 ev, .bool we, .bool sg, .bool sw, .int .i64 mu, .int .i64 di, .int .i64 aa, .int .i64 de, .int .i64 qu, .bool ul, .bool uh, .bool la, .int .i64 lo, .int .i64 hi, .int .i64 hy]) (keepB hw h1))⟩
  have belh : ∀ w9 : World, (Below w1.heap.size w1 w9 ∧ w9.cell? ⟨w.heap.size, 3, none⟩ = some (.int .i64 ad) ∧ (ldTag (.pointer (some ⟨w.heap.size, 0, none⟩))).run Tryz.prog w9 = .ok (.agg #[.string nm, .int .i64 un, .int .i64 ki, .int .i64 ad, .int .i64 ev, .bool we, .bool sg, .bool sw, .int .i64 mu, .int .i64 di, .int .i64 aa, .int .i64 de, .int .i64 qu, .bool ul, .bool uh, .bool la, .int .i64 lo, .int .i64 hi, .int .i64 hy]) w9) → Below w1.heap.size w1 w9 := fun w9 h => h.1
  go_region_held3 (fun w9 => Below w1.heap.size w1 w9 ∧ w9.cell? ⟨w.heap.size, 3, none⟩ = some (.int .i64 ad) ∧ (ldTag (.pointer (some ⟨w.heap.size, 0, none⟩))).run Tryz.prog w9 = .ok (.agg #[.string nm, .int .i64 un, .int .i64 ki, .int .i64 ad, .int .i64 ev, .bool we, .bool sg, .bool sw, .int .i64 mu, .int .i64 di, .int .i64 aa, .int .i64 de, .int .i64 qu, .bool ul, .bool uh, .bool la, .int .i64 lo, .int .i64 hi, .int .i64 hy]) w9)
    ((refine HK.out _ ?_
      repeat' (first
        | with_reducible exact Below.refl _ _
        | with_reducible exact bel6
        | with_reducible exact bel5
        | with_reducible exact belh _ (by assumption)
        | with_reducible apply below_drew
        | with_reducible apply below_drewN
        | fail)))
    (first
      | (go_at_call 44; refine (HW.out _).mono ?_; rintro e w5 ⟨rfl, b5⟩; have bel5 : Below w1.heap.size w1 w5 := Below.trans (belh _ (by assumption)) (b5.mono (Below.size (belh _ (by assumption)))))
      | (go_at_call 115; refine (HL3.out _).mono ?_; rintro e w6 ⟨rfl, b6⟩; have bel6 : Below w1.heap.size w1 w6 := Below.trans (belh _ (by assumption)) (b6.mono (Below.size (belh _ (by assumption)))))
      | fail)
  have h6 := keepB bel6 h1
  have bel7 := bel1.trans (bel6.mono bel1.size)
  clear HK belh bel5 bel6 h1 bel1 HW HL3
  obtain ⟨c0, c1, c2, c3, c4, c5, c6, c7, c8, c9, c10, c11, c12, c13, c14, c15, c16, c17, c18⟩ := of19 nm un ki ad ev we sg sw mu di aa de qu ul uh la lo hi hy h6
  go_wp2_with fail
  refine (lies_any _ _ _ _).mono ?_
  rintro e w' ⟨rfl, hwe⟩
  rw [hwe]
  clear hwe w'
  rw [L4]
  clear L4
  go_wp2
  go_ret
  exact ⟨rfl, bel7⟩

set_option maxHeartbeats 1000000 in
theorem pc9_5 (nm : ByteArray) (un ki ad ev : Int) (we sg sw : Bool) (mu di aa de qu : Int) (ul uh la : Bool) (lo hi hy : Int) (w : World) (hs : nm.size ≤ maxLen) (hn : nameB (bys nm) = true) (L1 : lieB un 1 247 = true) (L2 : lieB ki 1 4 = true) (hw : IntKind.i64.wrap (65536 - widT ⟨nm, un, ki, ad, ev, we, sg, sw, mu, di, aa, de, qu, ul, uh, la, lo, hi, hy⟩) = 65536 - widT ⟨nm, un, ki, ad, ev, we, sg, sw, mu, di, aa, de, qu, ul, uh, la, lo, hi, hy⟩) (L3 : lieB ad 0 (65536 - widT ⟨nm, un, ki, ad, ev, we, sg, sw, mu, di, aa, de, qu, ul, uh, la, lo, hi, hy⟩) = true) (L4 : lieB ev 1 1048576 = true) (k1 : ¬ ki < 1) (k2 : ¬ ki > 4) : Calls Tryz.prog 99 #[.agg #[.string nm, .int .i64 un, .int .i64 ki, .int .i64 ad, .int .i64 ev, .bool we, .bool sg, .bool sw, .int .i64 mu, .int .i64 di, .int .i64 aa, .int .i64 de, .int .i64 qu, .bool ul, .bool uh, .bool la, .int .i64 lo, .int .i64 hi, .int .i64 hy]] w fun e w' => e = .returned (.int .i64 (meanT ⟨nm, un, ki, ad, ev, we, sg, sw, mu, di, aa, de, qu, ul, uh, la, lo, hi, hy⟩)) ∧ Below w.heap.size w w' := by
  have h0 := heap_alloc_new w (.cells #[.string nm, .int .i64 un, .int .i64 ki, .int .i64 ad, .int .i64 ev, .bool we, .bool sg, .bool sw, .int .i64 mu, .int .i64 di, .int .i64 aa, .int .i64 de, .int .i64 qu, .bool ul, .bool uh, .bool la, .int .i64 lo, .int .i64 hi, .int .i64 hy] 51)
  have bel0 := bel_alloc w (.cells #[.string nm, .int .i64 un, .int .i64 ki, .int .i64 ad, .int .i64 ev, .bool we, .bool sg, .bool sw, .int .i64 mu, .int .i64 di, .int .i64 aa, .int .i64 de, .int .i64 qu, .bool ul, .bool uh, .bool la, .int .i64 lo, .int .i64 hi, .int .i64 hy] 51)
  obtain ⟨wd, hwd⟩ : ∃ x, widT ⟨nm, un, ki, ad, ev, we, sg, sw, mu, di, aa, de, qu, ul, uh, la, lo, hi, hy⟩ = x := ⟨_, rfl⟩
  have HW : Hid (∀ W : World, Calls Tryz.prog 44 #[.agg #[.string nm, .int .i64 un, .int .i64 ki, .int .i64 ad, .int .i64 ev, .bool we, .bool sg, .bool sw, .int .i64 mu, .int .i64 di, .int .i64 aa, .int .i64 de, .int .i64 qu, .bool ul, .bool uh, .bool la, .int .i64 lo, .int .i64 hi, .int .i64 hy]] W fun e w' => e = .returned (.int .i64 (widT ⟨nm, un, ki, ad, ev, we, sg, sw, mu, di, aa, de, qu, ul, uh, la, lo, hi, hy⟩)) ∧ Below W.heap.size W w') := Lib.hid fun W => Width9_any nm un ki ad ev we sg sw mu di aa de qu ul uh la lo hi hy W
  rw [hwd] at hw L3 HW
  clear hwd
  go_enter Tryz.func99, Tryz.ntmps99
  go_wp2_with fail
  refine (Name9_any nm _ hs).mono ?_
  rintro e w1 ⟨rfl, b1⟩
  rw [hn]
  have h1 := keepB b1 h0
  have bel1 := bel0.trans (b1.mono bel0.size)
  clear hn b1 h0 bel0
  obtain ⟨c0, c1, c2, c3, c4, c5, c6, c7, c8, c9, c10, c11, c12, c13, c14, c15, c16, c17, c18⟩ := of19 nm un ki ad ev we sg sw mu di aa de qu ul uh la lo hi hy h1
  go_wp2_with fail
  refine (lies_any _ _ _ _).mono ?_
  rintro e w' ⟨rfl, hwe⟩
  rw [hwe]
  clear hwe w'
  rw [L1]
  clear L1
  go_wp2_with fail
  refine (lies_any _ _ _ _).mono ?_
  rintro e w' ⟨rfl, hwe⟩
  rw [hwe]
  clear hwe w'
  rw [L2]
  clear L2
  clear c0 c1 c2 c3 c4 c5 c6 c7 c8 c9 c10 c11 c12 c13 c14 c15 c16 c17 c18
  have HL3 : Hid (∀ W : World, Calls Tryz.prog 115 #[.int .i64 ad, .int .i64 0, .int .i64 (65536 - wd)] W fun e w' => e = .returned (.bool true) ∧ Below W.heap.size W w') := Lib.hid fun W => (lies_any ad 0 (65536 - wd) W).mono (fun e w' h => by rw [h.1, h.2, L3]; exact ⟨rfl, Below.refl _ _⟩)
  clear L3
  go_wp2
  have HK : Hid (∀ w9 : World, Below w1.heap.size w1 w9 → (Below w1.heap.size w1 w9 ∧ w9.cell? ⟨w.heap.size, 3, none⟩ = some (.int .i64 ad) ∧ (ldTag (.pointer (some ⟨w.heap.size, 0, none⟩))).run Tryz.prog w9 = .ok (.agg #[.string nm, .int .i64 un, .int .i64 ki, .int .i64 ad, .int .i64 ev, .bool we, .bool sg, .bool sw, .int .i64 mu, .int .i64 di, .int .i64 aa, .int .i64 de, .int .i64 qu, .bool ul, .bool uh, .bool la, .int .i64 lo, .int .i64 hi, .int .i64 hy]) w9)) := Lib.hid fun w9 hw => ⟨hw, (of19 nm un ki ad ev we sg sw mu di aa de qu ul uh la lo hi hy (keepB hw h1)).2.2.2.1, ldTag_run rfl (rangeB (cs := [.string nm, .int .i64 un, .int .i64 ki, .int .i64 ad, .int .i64 ev, .bool we, .bool sg, .bool sw, .int .i64 mu, .int .i64 di, .int .i64 aa, .int .i64 de, .int .i64 qu, .bool ul, .bool uh, .bool la, .int .i64 lo, .int .i64 hi, .int .i64 hy]) (keepB hw h1))⟩
  have belh : ∀ w9 : World, (Below w1.heap.size w1 w9 ∧ w9.cell? ⟨w.heap.size, 3, none⟩ = some (.int .i64 ad) ∧ (ldTag (.pointer (some ⟨w.heap.size, 0, none⟩))).run Tryz.prog w9 = .ok (.agg #[.string nm, .int .i64 un, .int .i64 ki, .int .i64 ad, .int .i64 ev, .bool we, .bool sg, .bool sw, .int .i64 mu, .int .i64 di, .int .i64 aa, .int .i64 de, .int .i64 qu, .bool ul, .bool uh, .bool la, .int .i64 lo, .int .i64 hi, .int .i64 hy]) w9) → Below w1.heap.size w1 w9 := fun w9 h => h.1
  go_region_held3 (fun w9 => Below w1.heap.size w1 w9 ∧ w9.cell? ⟨w.heap.size, 3, none⟩ = some (.int .i64 ad) ∧ (ldTag (.pointer (some ⟨w.heap.size, 0, none⟩))).run Tryz.prog w9 = .ok (.agg #[.string nm, .int .i64 un, .int .i64 ki, .int .i64 ad, .int .i64 ev, .bool we, .bool sg, .bool sw, .int .i64 mu, .int .i64 di, .int .i64 aa, .int .i64 de, .int .i64 qu, .bool ul, .bool uh, .bool la, .int .i64 lo, .int .i64 hi, .int .i64 hy]) w9)
    ((refine HK.out _ ?_
      repeat' (first
        | with_reducible exact Below.refl _ _
        | with_reducible exact bel6
        | with_reducible exact bel5
        | with_reducible exact belh _ (by assumption)
        | with_reducible apply below_drew
        | with_reducible apply below_drewN
        | fail)))
    (first
      | (go_at_call 44; refine (HW.out _).mono ?_; rintro e w5 ⟨rfl, b5⟩; have bel5 : Below w1.heap.size w1 w5 := Below.trans (belh _ (by assumption)) (b5.mono (Below.size (belh _ (by assumption)))))
      | (go_at_call 115; refine (HL3.out _).mono ?_; rintro e w6 ⟨rfl, b6⟩; have bel6 : Below w1.heap.size w1 w6 := Below.trans (belh _ (by assumption)) (b6.mono (Below.size (belh _ (by assumption)))))
      | fail)
  have h6 := keepB bel6 h1
  have bel7 := bel1.trans (bel6.mono bel1.size)
  clear HK belh bel5 bel6 h1 bel1 HW HL3
  obtain ⟨c0, c1, c2, c3, c4, c5, c6, c7, c8, c9, c10, c11, c12, c13, c14, c15, c16, c17, c18⟩ := of19 nm un ki ad ev we sg sw mu di aa de qu ul uh la lo hi hy h6
  go_wp2_with fail
  refine (lies_any _ _ _ _).mono ?_
  rintro e w' ⟨rfl, hwe⟩
  rw [hwe]
  clear hwe w'
  rw [L4]
  clear L4
  have hld := ldTag_run (b := w.heap.size) (o := 0) rfl (rangeB (cs := [.string nm, .int .i64 un, .int .i64 ki, .int .i64 ad, .int .i64 ev, .bool we, .bool sg, .bool sw, .int .i64 mu, .int .i64 di, .int .i64 aa, .int .i64 de, .int .i64 qu, .bool ul, .bool uh, .bool la, .int .i64 lo, .int .i64 hi, .int .i64 hy]) h6)
  go_wp2_with fail
  refine (mean_any nm un ki ad ev we sg sw mu di aa de qu ul uh la lo hi hy _ (by omega) (by omega)).mono ?_
  rintro e w8 ⟨rfl, b8⟩
  go_wp2
  go_ret
  exact ⟨rfl, bel7.trans (b8.mono bel7.size)⟩

theorem Check9_any (nm : ByteArray) (un ki ad ev : Int) (we sg sw : Bool) (mu di aa de qu : Int) (ul uh la : Bool) (lo hi hy : Int) (w : World) (hs : nm.size ≤ maxLen) : Calls Tryz.prog 99 #[.agg #[.string nm, .int .i64 un, .int .i64 ki, .int .i64 ad, .int .i64 ev, .bool we, .bool sg, .bool sw, .int .i64 mu, .int .i64 di, .int .i64 aa, .int .i64 de, .int .i64 qu, .bool ul, .bool uh, .bool la, .int .i64 lo, .int .i64 hi, .int .i64 hy]] w fun e w' => e = .returned (.int .i64 (chkT ⟨nm, un, ki, ad, ev, we, sg, sw, mu, di, aa, de, qu, ul, uh, la, lo, hi, hy⟩)) ∧ Below w.heap.size w w' := by
  have hwr : IntKind.i64.wrap (65536 - widT ⟨nm, un, ki, ad, ev, we, sg, sw, mu, di, aa, de, qu, ul, uh, la, lo, hi, hy⟩) = 65536 - widT ⟨nm, un, ki, ad, ev, we, sg, sw, mu, di, aa, de, qu, ul, uh, la, lo, hi, hy⟩ := by
    have := widT_le ⟨nm, un, ki, ad, ev, we, sg, sw, mu, di, aa, de, qu, ul, uh, la, lo, hi, hy⟩
    rw [IntKind.wrap_i64]; omega
  have G : ∀ (hn : nameB (bys nm) = true) (u1 : ¬ un < 1) (u2 : ¬ un > 247) (k1 : ¬ ki < 1) (k2 : ¬ ki > 4) (d1 : ¬ ad < 0) (d2 : ¬ ad > 65536 - widT ⟨nm, un, ki, ad, ev, we, sg, sw, mu, di, aa, de, qu, ul, uh, la, lo, hi, hy⟩) (v1 : ¬ ev < 1) (v2 : ¬ ev > 1048576), Calls Tryz.prog 99 #[.agg #[.string nm, .int .i64 un, .int .i64 ki, .int .i64 ad, .int .i64 ev, .bool we, .bool sg, .bool sw, .int .i64 mu, .int .i64 di, .int .i64 aa, .int .i64 de, .int .i64 qu, .bool ul, .bool uh, .bool la, .int .i64 lo, .int .i64 hi, .int .i64 hy]] w fun e w' => e = .returned (.int .i64 (chkT ⟨nm, un, ki, ad, ev, we, sg, sw, mu, di, aa, de, qu, ul, uh, la, lo, hi, hy⟩)) ∧ Below w.heap.size w w' := by
    intro hn u1 u2 k1 k2 d1 d2 v1 v2
    rw [chkT_mean ⟨nm, un, ki, ad, ev, we, sg, sw, mu, di, aa, de, qu, ul, uh, la, lo, hi, hy⟩ hn u1 u2 k1 k2 d1 d2 v1 v2]
    exact pc9_5 nm un ki ad ev we sg sw mu di aa de qu ul uh la lo hi hy w hs hn (lieB_yes u1 u2) (lieB_yes k1 k2) hwr (lieB_yes d1 d2) (lieB_yes v1 v2) k1 k2
  refine tag_cases ⟨nm, un, ki, ad, ev, we, sg, sw, mu, di, aa, de, qu, ul, uh, la, lo, hi, hy⟩ _ ?_ ?_ ?_ ?_ ?_ ?_ ?_ ?_ ?_ ?_ ?_ ?_ ?_
  · intro hn0 HC; rw [HC]; exact pc9_0 nm un ki ad ev we sg sw mu di aa de qu ul uh la lo hi hy w hs hn0
  · intro hn u1y HC; rw [HC]; exact pc9_1 nm un ki ad ev we sg sw mu di aa de qu ul uh la lo hi hy w hs hn (lieB_low u1y)
  · intro hn u1 u2y HC; rw [HC]; exact pc9_1 nm un ki ad ev we sg sw mu di aa de qu ul uh la lo hi hy w hs hn (lieB_high u2y)
  · intro hn u1 u2 k1y HC; rw [HC]; exact pc9_2 nm un ki ad ev we sg sw mu di aa de qu ul uh la lo hi hy w hs hn (lieB_yes u1 u2) (lieB_low k1y)
  · intro hn u1 u2 k1 k2y HC; rw [HC]; exact pc9_2 nm un ki ad ev we sg sw mu di aa de qu ul uh la lo hi hy w hs hn (lieB_yes u1 u2) (lieB_high k2y)
  · intro hn u1 u2 k1 k2 d1y HC; rw [HC]; exact pc9_3 nm un ki ad ev we sg sw mu di aa de qu ul uh la lo hi hy w hs hn (lieB_yes u1 u2) (lieB_yes k1 k2) hwr (lieB_low d1y)
  · intro hn u1 u2 k1 k2 d1 d2y HC; rw [HC]; exact pc9_3 nm un ki ad ev we sg sw mu di aa de qu ul uh la lo hi hy w hs hn (lieB_yes u1 u2) (lieB_yes k1 k2) hwr (lieB_high d2y)
  · intro hn u1 u2 k1 k2 d1 d2 v1y HC; rw [HC]; exact pc9_4 nm un ki ad ev we sg sw mu di aa de qu ul uh la lo hi hy w hs hn (lieB_yes u1 u2) (lieB_yes k1 k2) hwr (lieB_yes d1 d2) (lieB_low v1y)
  · intro hn u1 u2 k1 k2 d1 d2 v1 v2y HC; rw [HC]; exact pc9_4 nm un ki ad ev we sg sw mu di aa de qu ul uh la lo hi hy w hs hn (lieB_yes u1 u2) (lieB_yes k1 k2) hwr (lieB_yes d1 d2) (lieB_high v2y)
  · intro hn u1 u2 k1 k2 d1 d2 v1 v2 _ _; exact G hn u1 u2 k1 k2 d1 d2 v1 v2
  · intro hn u1 u2 k1 k2 d1 d2 v1 v2 _ _ _ _; exact G hn u1 u2 k1 k2 d1 d2 v1 v2
  · intro hn u1 u2 k1 k2 d1 d2 v1 v2 _ _ _ _; exact G hn u1 u2 k1 k2 d1 d2 v1 v2
  · intro hn u1 u2 k1 k2 d1 d2 v1 v2 _ _ _ _; exact G hn u1 u2 k1 k2 d1 d2 v1 v2

def chkBh (a : ByteArray) (t : Tg) : Int := bif !decide (chkT t = 0) then chkT t else bif t.nm.toList == a.toList then 7 else bif Op.bytesLess t.nm.toList a.toList then 29 else 0
set_option maxHeartbeats 1000000 in
theorem behind9_any (a : ByteArray) (nm : ByteArray) (un ki ad ev : Int) (we sg sw : Bool) (mu di aa de qu : Int) (ul uh la : Bool) (lo hi hy : Int) (w : World) (hs : nm.size ≤ maxLen) : Calls Tryz.prog 66 #[.string a, .agg #[.string nm, .int .i64 un, .int .i64 ki, .int .i64 ad, .int .i64 ev, .bool we, .bool sg, .bool sw, .int .i64 mu, .int .i64 di, .int .i64 aa, .int .i64 de, .int .i64 qu, .bool ul, .bool uh, .bool la, .int .i64 lo, .int .i64 hi, .int .i64 hy]] w fun e w' => e = .returned (.int .i64 (chkBh a ⟨nm, un, ki, ad, ev, we, sg, sw, mu, di, aa, de, qu, ul, uh, la, lo, hi, hy⟩)) ∧ Below w.heap.size w w' := by
  have h0 := heap_alloc_new w (.cells #[.string nm, .int .i64 un, .int .i64 ki, .int .i64 ad, .int .i64 ev, .bool we, .bool sg, .bool sw, .int .i64 mu, .int .i64 di, .int .i64 aa, .int .i64 de, .int .i64 qu, .bool ul, .bool uh, .bool la, .int .i64 lo, .int .i64 hi, .int .i64 hy] 51)
  have bel0 := bel_alloc w (.cells #[.string nm, .int .i64 un, .int .i64 ki, .int .i64 ad, .int .i64 ev, .bool we, .bool sg, .bool sw, .int .i64 mu, .int .i64 di, .int .i64 aa, .int .i64 de, .int .i64 qu, .bool ul, .bool uh, .bool la, .int .i64 lo, .int .i64 hi, .int .i64 hy] 51)
  have hld := ldTag_run (b := w.heap.size) (o := 0) rfl (rangeB (cs := [.string nm, .int .i64 un, .int .i64 ki, .int .i64 ad, .int .i64 ev, .bool we, .bool sg, .bool sw, .int .i64 mu, .int .i64 di, .int .i64 aa, .int .i64 de, .int .i64 qu, .bool ul, .bool uh, .bool la, .int .i64 lo, .int .i64 hi, .int .i64 hy]) h0)
  obtain ⟨cv, hcv⟩ : ∃ x, chkT ⟨nm, un, ki, ad, ev, we, sg, sw, mu, di, aa, de, qu, ul, uh, la, lo, hi, hy⟩ = x := ⟨_, rfl⟩
  have HB : Hid (chkBh a ⟨nm, un, ki, ad, ev, we, sg, sw, mu, di, aa, de, qu, ul, uh, la, lo, hi, hy⟩ = bif !decide (cv = 0) then cv else bif nm.toList == a.toList then 7 else bif Op.bytesLess nm.toList a.toList then 29 else 0) := Lib.hid (by unfold chkBh; rw [hcv])
  have HC := Lib.hid hcv
  clear hcv
  rw [HB.out]
  clear HB
  by_cases hc : cv = 0
  · subst hc
    cases heq : nm.toList == a.toList with
    | true =>
      go_enter Tryz.func66, Tryz.ntmps66
      go_wp2_with fail
      refine (Check9_any nm un ki ad ev we sg sw mu di aa de qu ul uh la lo hi hy _ hs).mono ?_
      rintro e w1 ⟨rfl, b1⟩
      rw [HC.out]
      have h1 := keepB b1 h0
      have bel1 := bel0.trans (b1.mono bel0.size)
      clear hld b1 h0 bel0
      obtain ⟨c0, c1, c2, c3, c4, c5, c6, c7, c8, c9, c10, c11, c12, c13, c14, c15, c16, c17, c18⟩ := of19 nm un ki ad ev we sg sw mu di aa de qu ul uh la lo hi hy h1
      go_wp2
      go_ret
      exact ⟨rfl, bel1⟩
    | false =>
      cases hls : Op.bytesLess nm.toList a.toList with
      | true =>
        go_enter Tryz.func66, Tryz.ntmps66
        go_wp2_with fail
        refine (Check9_any nm un ki ad ev we sg sw mu di aa de qu ul uh la lo hi hy _ hs).mono ?_
        rintro e w1 ⟨rfl, b1⟩
        rw [HC.out]
        have h1 := keepB b1 h0
        have bel1 := bel0.trans (b1.mono bel0.size)
        clear hld b1 h0 bel0
        obtain ⟨c0, c1, c2, c3, c4, c5, c6, c7, c8, c9, c10, c11, c12, c13, c14, c15, c16, c17, c18⟩ := of19 nm un ki ad ev we sg sw mu di aa de qu ul uh la lo hi hy h1
        go_wp2
        go_ret
        exact ⟨rfl, bel1⟩
      | false =>
        go_enter Tryz.func66, Tryz.ntmps66
        go_wp2_with fail
        refine (Check9_any nm un ki ad ev we sg sw mu di aa de qu ul uh la lo hi hy _ hs).mono ?_
        rintro e w1 ⟨rfl, b1⟩
        rw [HC.out]
        have h1 := keepB b1 h0
        have bel1 := bel0.trans (b1.mono bel0.size)
        clear hld b1 h0 bel0
        obtain ⟨c0, c1, c2, c3, c4, c5, c6, c7, c8, c9, c10, c11, c12, c13, c14, c15, c16, c17, c18⟩ := of19 nm un ki ad ev we sg sw mu di aa de qu ul uh la lo hi hy h1
        go_wp2
        go_ret
        exact ⟨rfl, bel1⟩
  · have hc2 : (cv == 0) = false := beq_false_of_ne hc
    have HR : Hid ((bif !decide (cv = 0) then cv else bif nm.toList == a.toList then 7 else bif Op.bytesLess nm.toList a.toList then 29 else 0) = cv) := Lib.hid (by rw [decide_eq_false hc]; rfl)
    rw [HR.out]
    clear HR
    go_enter Tryz.func66, Tryz.ntmps66
    go_wp2_with fail
    refine (Check9_any nm un ki ad ev we sg sw mu di aa de qu ul uh la lo hi hy _ hs).mono ?_
    rintro e w1 ⟨rfl, b1⟩
    rw [HC.out]
    have bel1 := bel0.trans (b1.mono bel0.size)
    go_wp2
    go_ret
    exact ⟨rfl, bel1⟩
theorem behind9_t (a : ByteArray) (t : Tg) (w : World) (hs : t.nm.size ≤ maxLen) : Calls Tryz.prog 66 #[.string a, tgV t] w fun e w' => e = .returned (.int .i64 (chkBh a t)) ∧ Below w.heap.size w w' := by
  obtain ⟨nm, un, ki, ad, ev, we, sg, sw, mu, di, aa, de, qu, ul, uh, la, lo, hi, hy⟩ := t
  exact behind9_any a nm un ki ad ev we sg sw mu di aa de qu ul uh la lo hi hy w hs

def nmA (l : List Tg) (i : Nat) : ByteArray := match ahead l i with | none => ⟨#[]⟩ | some p => p.nm
theorem nmA_zero (l : List Tg) : nmA l 0 = ⟨#[]⟩ := rfl
theorem nmA_succ {l : List Tg} {i : Nat} (h : i < l.length) : nmA l (i + 1) = l[i].nm := by
  simp only [nmA, ahead, List.getElem?_eq_getElem h]
theorem toList_nil : (ByteArray.toList ⟨#[]⟩) = [] := by rw [ByteArray.toList_eq]
theorem less_nil (x : List UInt8) : Op.bytesLess x [] = false := by
  cases x <;> rfl
theorem toList_len (s : ByteArray) : s.toList.length = s.size := by
  rw [ByteArray.toList_eq]; simp
theorem badAt_bh {l : List Tg} {i : Nat} (h : i < l.length) : badAt l i = chkBh (nmA l i) l[i] := by
  cases i with
  | zero =>
    rw [badAt_first h, nmA_zero, chkBh, toList_nil, less_nil]
    by_cases hc : chkT l[0] = 0
    · have hn := (by unfold chkT at hc; cases h : nameB (bys l[0].nm) with | true => rfl | false => rw [h] at hc; simp at hc : nameB (bys l[0].nm) = true)
      have e : (l[0].nm.toList == ([] : List UInt8)) = false := by
        rw [beq_eq_false_iff_ne]
        intro e
        have h0 : l[0].nm.size = 0 := by rw [← toList_len, e]; rfl
        have h1 : 1 ≤ (bys l[0].nm).length := by
          unfold nameB at hn
          simp only [Bool.and_eq_true, decide_eq_true_eq] at hn
          exact hn.1.1.1
        rw [bys_len] at h1
        omega
      rw [e, hc]; rfl
    · rw [decide_eq_false hc]; rfl
  | succ i =>
    rw [nmA_succ (by omega)]
    by_cases hc : chkT l[i + 1] = 0
    · rw [badAt_next h hc, badN, chkBh, hc]; rfl
    · rw [badAt_chk h hc, chkBh, decide_eq_false hc]; rfl

set_option maxHeartbeats 1000000 in
theorem CheckAll9_any (A : Option Addr) (n c : Nat) (l : List Tg) (w : World) (hr : VRow w w.heap.size A (flatV tgC l)) (hn : l.length = n) (hb : n ≤ 4611686018427387904) (hok : ∀ t ∈ l, Tg.Ok t) :
    Calls Tryz.prog 42 #[.slice A n c] w fun e w' => e = .returned (.tuple #[.int .i64 (chkAll l).1, .int .i64 (chkAll l).2]) ∧ Below w.heap.size w w' := by
  by_cases hbig : 64 < n
  · have HA : Hid (chkAll l = (34, 0)) := Lib.hid (chkAll_many (by omega))
    have hbig' : (64 : Int) < n := by omega
    rw [HA.out]
    go_enter Tryz.func42, Tryz.ntmps42
    go_wp2
    (try simp only [Exit.inBlock, Exit.then])
    refine bodyPost_ret (v := .tuple #[.int .i64 34, .int .i64 0]) (by simp [results, Tryz.results42, go_sem, *]) rfl ?_
    exact ⟨rfl, Below.refl _ _⟩
  have H64 : Hid (¬ 64 < l.length) := Lib.hid (by omega)
  have hbig' : ¬ (64 : Int) < n := by omega
  have hn' := Lib.hid hn
  have HOK := Lib.hid hok
  clear hn hok
  go_enter Tryz.func42, Tryz.ntmps42
  go_wp2
  go_loopw [4, 13] (fun u i wr => ∃ k : Nat, k ≤ n ∧ i = .int .i64 k ∧ (∃ s, u = .string s ∧ Hid (k < n → s = nmA l k)) ∧ Hid (∀ j, j < k → badAt l j = 0) ∧ Hid (Below w.heap.size w wr)) (fun u i _ => n - (intOf i).toNat)
  case atStart => exact ⟨0, by omega, rfl, ⟨_, rfl, Lib.hid (fun _ => (nmA_zero l).symm)⟩, Lib.hid (fun j hj => absurd hj (by omega)), Lib.hid (Below.refl _ _)⟩
  case round =>
    obtain ⟨k, hk, rfl, ⟨s, rfl, hs⟩, hall, hbel⟩ := hrel
    by_cases hlt : k < n
    · have hkl : k < l.length := by have := hn'.out; omega
      obtain ⟨b, o, rfl, hb1, hld, hc1⟩ := (hr.below hbel.out).load hkl
      have HS := Lib.hid (HOK.out _ (List.getElem_mem hkl)).1
      have HB : Hid (badAt l k = chkBh s l[k]) := Lib.hid (by rw [hs.out hlt]; exact badAt_bh hkl)
      have HNX : Hid (k + 1 < n → l[k].nm = nmA l (k + 1)) := Lib.hid (fun _ => (nmA_succ hkl).symm)
      generalize l[k] = t at hld hc1 HS HB HNX
      have hlt' : (k : Int) < (n : Int) := by omega
      have hk0 : (0 : Int) ≤ k := by omega
      have hnb := heap_alloc_new wr (.cells (tgC t).toArray 51)
      have hbel1 := hbel.out.alloc hbel.out.size (.cells (tgC t).toArray 51)
      have hst := made_tag wr t
      have hld3 : (ldTag (.pointer (some ⟨wr.heap.size, 0, none⟩))).run Tryz.prog (wr.alloc (.cells (tgC t).toArray 51)) = .ok (tgV t) (wr.alloc (.cells (tgC t).toArray 51)) := ldTag_run (tgC_len t) (rangeB hnb)
      have hsz := hbel.out.size
      clear hbel
      go_wp2_with fail
      refine (behind9_t s t _ HS.out).mono ?_
      rintro e w1 ⟨rfl, b1⟩
      have h1 := keepB b1 hnb
      have hbel2 := Lib.hid (hbel1.trans (b1.mono hbel1.size))
      have hcn : w1.cell? ⟨wr.heap.size, 0, none⟩ = some (.string t.nm) := cell_of_row _ _ 0 _ _ _ h1
      clear hld hst hld3 hnb hbel1 b1
      by_cases hc : chkBh s t = 0
      case neg =>
        have HA : Hid (chkAll l = (chkBh s t, (k : Int))) := Lib.hid (chkAll_at H64.out hkl HB.out hc hall.out)
        generalize chkBh s t = ec at *
        have hc2 : (ec == 0) = false := beq_false_of_ne hc
        go_wp2
        (try simp only [Exit.inBlock, Exit.then])
        refine bodyPost_ret (v := .tuple #[.int .i64 ec, .int .i64 k]) (by simp [results, Tryz.results42, go_sem, *]) rfl ?_
        exact ⟨by rw [HA.out], hbel2.out⟩
      case pos =>
        rw [hc]
        have hall2 : Hid (∀ j, j < k + 1 → badAt l j = 0) := Lib.hid (fun j hj => by
          rcases Nat.lt_or_ge j k with h | h
          · exact hall.out j h
          · obtain rfl : j = k := by omega
            rw [HB.out]; exact hc)
        clear hc
        go_wp2
        go_roundw
        case rel => exact ⟨k + 1, by omega, by go_num, ⟨t.nm, rfl, HNX⟩, hall2, hbel2⟩
        case measure => simp [intOf]; omega
    · have HA : Hid (chkAll l = (0, 0)) := Lib.hid (chkAll_none H64.out (fun j hj => hall.out j (by have := hn'.out; omega)))
      go_wp2
      (try simp only [Exit.inBlock, Exit.then])
      refine bodyPost_ret (v := .tuple #[.int .i64 0, .int .i64 0]) (by simp [results, Tryz.results42, go_sem, *]) rfl ?_
      exact ⟨by rw [HA.out], hbel.out⟩
end Go.Proofs.YtcmbdhmhkfhjfaaGreat
namespace Go.Proofs.YtcmbdhmhkfhjfaaGreat
open Go.RowKit
set_option linter.unusedVariables false
set_option maxRecDepth 100000
attribute [local go_sem ↓] ldTag_fold stTag_fold

theorem tgBox {w : World} {g : Nat} {t : Tg} {T : TypeId} (h : w.heap[g]? = some (.cells (tgC t).toArray T (0, 0))) :
    w.cell? ⟨g, 0, none⟩ = some (.string t.nm) ∧ w.cell? ⟨g, 1, none⟩ = some (.int .i64 t.un) ∧ w.cell? ⟨g, 2, none⟩ = some (.int .i64 t.ki) ∧ w.cell? ⟨g, 3, none⟩ = some (.int .i64 t.ad) ∧ w.cell? ⟨g, 4, none⟩ = some (.int .i64 t.ev) := by
  obtain ⟨nm, un, ki, ad, ev, we, sg, sw, mu, di, aa, de, qu, ul, uh, la, lo, hi, hy⟩ := t
  exact ⟨cell_of_row _ _ 0 _ _ _ h, cell_of_row _ _ 1 _ _ _ h, cell_of_row _ _ 2 _ _ _ h, cell_of_row _ _ 3 _ _ _ h, cell_of_row _ _ 4 _ _ _ h⟩
theorem tgBox_ld {w : World} {g : Nat} {t : Tg} {T : TypeId} (h : w.heap[g]? = some (.cells (tgC t).toArray T (0, 0))) : (ldTag (.pointer (some ⟨g, 0, none⟩))).run Tryz.prog w = .ok (tgV t) w := ldTag_run (tgC_len t) (rangeB h)
theorem VRow.five {w : World} {B : Nat} {A : Option Addr} {l : List Tg} (h : VRow w B A (flatV tgC l)) {i : Nat} (hi : i < l.length) :
    ∃ b o, A = some ⟨b, o, none⟩ ∧ b < B ∧ (ldTag (.pointer (some ⟨b, o + i * 19, none⟩))).run Tryz.prog w = .ok (tgV (tgAt l i)) w := by
  obtain ⟨b, o, e, hb, hl, _⟩ := h.load hi
  exact ⟨b, o, e, hb, by rw [tgAt_eq hi]; exact hl⟩

def aheadV (a b : Tg) (i k : Nat) : Bool := if a.un = b.un then (if a.ev = b.ev then (if a.ki = b.ki then (if a.ad = b.ad then decide ((i : Int) < k) else decide (a.ad < b.ad)) else decide (a.ki < b.ki)) else decide (a.ev < b.ev)) else decide (a.un < b.un)
theorem aheadV_eq (l : List Tg) (i k : Nat) : aheadB l i k = aheadV (tgAt l i) (tgAt l k) i k := by
  generalize hb : aheadV (tgAt l i) (tgAt l k) i k = b
  have key : aheadB l i k = true ↔ aheadV (tgAt l i) (tgAt l k) i k = true := by
    rw [ahead_iff]
    unfold aheadV aheadP
    split
    · split
      · split
        · split
          · rw [decide_eq_true_eq]; omega
          · rw [decide_eq_true_eq]; omega
        · rw [decide_eq_true_eq]; omega
      · rw [decide_eq_true_eq]; omega
    · rw [decide_eq_true_eq]; omega
  rw [hb] at key
  cases b <;> cases h : aheadB l i k <;> simp_all

set_option maxHeartbeats 1000000 in
theorem refAhead_any (A : Option Addr) (n c : Nat) (l : List Tg) (i k : Nat) (w : World) (hr : VRow w w.heap.size A (flatV tgC l)) (hn : l.length = n) (hb : n ≤ 4611686018427387904) (hi : i < n) (hk : k < n) :
    Calls Tryz.prog 98 #[.slice A n c, .int .i64 (i : Int), .int .i64 (k : Int)] w fun e w' => e = .returned (.bool (aheadB l i k)) ∧ Below w.heap.size w w' := by
  have HB := Lib.hid (aheadV_eq l i k)
  rw [HB.out]
  clear HB
  obtain ⟨b, o, rfl, hb1, hl1⟩ := hr.five (i := i) (by omega)
  obtain ⟨b', o', e2, _, hl2⟩ := (hr.alloc (Nat.le_refl _) (.cells (tgC (tgAt l i)).toArray 51)).five (i := k) (by omega)
  injection e2 with e2
  injection e2 with e2 e3
  subst e2 e3
  generalize tgAt l i = a at *
  generalize tgAt l k = d at *
  have hst1 := made_tag w a
  have hst2 := made_tag (w.alloc (.cells (tgC a).toArray 51)) d
  have hsu : (w.alloc (.cells (tgC a).toArray 51)).heap.size = w.heap.size + 1 := by simp
  rw [hsu] at hst2
  have hbx1 := two_fst w (.cells (tgC a).toArray 51) (.cells (tgC d).toArray 51)
  have hbx2 := heap_alloc_two w (.cells (tgC a).toArray 51) (.cells (tgC d).toArray 51)
  obtain ⟨a0, a1, a2, a3, a4⟩ := tgBox hbx1
  obtain ⟨d0, d1, d2, d3, d4⟩ := tgBox hbx2
  have bel := (bel_alloc w (.cells (tgC a).toArray 51)).alloc (by simp) (.cells (tgC d).toArray 51)
  have hi' : (i : Int) < n := by omega
  have hk' : (k : Int) < n := by omega
  have hi0 : (0 : Int) ≤ i := by omega
  have hk0 : (0 : Int) ≤ k := by omega
  clear hbx1 hbx2 hr hsu
  unfold aheadV
  by_cases h1 : a.un = d.un
  · rw [if_pos h1]
    by_cases h2 : a.ev = d.ev
    · rw [if_pos h2]
      by_cases h3 : a.ki = d.ki
      · rw [if_pos h3]
        by_cases h4 : a.ad = d.ad
        · rw [if_pos h4]
          go_enter Tryz.func98, Tryz.ntmps98
          go_wp2
          go_ret
          exact ⟨rfl, bel⟩
        · rw [if_neg h4]
          have e4 : (a.ad == d.ad) = false := beq_false_of_ne h4
          go_enter Tryz.func98, Tryz.ntmps98
          go_wp2
          go_ret
          exact ⟨rfl, bel⟩
      · rw [if_neg h3]
        have e3 : (a.ki == d.ki) = false := beq_false_of_ne h3
        go_enter Tryz.func98, Tryz.ntmps98
        go_wp2
        go_ret
        exact ⟨rfl, bel⟩
    · rw [if_neg h2]
      have e2 : (a.ev == d.ev) = false := beq_false_of_ne h2
      go_enter Tryz.func98, Tryz.ntmps98
      go_wp2
      go_ret
      exact ⟨rfl, bel⟩
  · rw [if_neg h1]
    have e1 : (a.un == d.un) = false := beq_false_of_ne h1
    go_enter Tryz.func98, Tryz.ntmps98
    go_wp2
    go_ret
    exact ⟨rfl, bel⟩

theorem asked_none (w : World) (B : Nat) (k a c : Int) : Asked w B (reqK k a c) none none none 0 0 0 := ⟨L.Row.nil _ _ _ _, Row.nil _ _ _ _, Row.nil _ _ _ _, rfl, rfl, rfl⟩
theorem chk_req (k a c : Int) : chk (reqK k a c).c (reqK k a c).a (reqK k a c).n 0 0 0 (reqK k a c).fl = chkQ (reqK k a c) := by simp [chkQ, reqK]
def AskedK (w : World) (k a c : Int) (e : Ending) (w' : World) : Prop :=
  e = .returned (.tuple #[.agg #[.int .i64 (askN k a c k), .int .i64 (askN k a c a), .int .i64 (askN k a c c), .slice none 0 0, .slice none 0 0, .slice none 0 0], .int .i64 (askE k a c)]) ∧ Below w.heap.size w w'
set_option maxHeartbeats 1000000 in
theorem refAsk10_any (pu pk pa pc pe : Int) (Pt : Option Addr) (pn pm : Nat) (w : World) : Calls Tryz.prog 29 #[.agg #[.int .i64 pu, .int .i64 pk, .int .i64 pa, .int .i64 pc, .int .i64 pe, .slice Pt pn pm]] w (AskedK w pk pa pc) := by
  have HP : Hid (∀ E k' a' c', askE pk pa pc = E → askN pk pa pc pk = k' → askN pk pa pc pa = a' → askN pk pa pc pc = c' → ∀ w', Below w.heap.size w w' → AskedK w pk pa pc (.returned (.tuple #[.agg #[.int .i64 k', .int .i64 a', .int .i64 c', .slice none 0 0, .slice none 0 0, .slice none 0 0], .int .i64 E])) w') :=
    Lib.hid (fun E k' a' c' e1 e2 e3 e4 w' hb => ⟨by rw [e1, e2, e3, e4], hb⟩)
  have bel2 := (bel_alloc w (.cells #[.int .i64 pu, .int .i64 pk, .int .i64 pa, .int .i64 pc, .int .i64 pe, .slice Pt pn pm] 25)).alloc (by simp) (.cells #[.int .i64 0, .int .i64 0, .int .i64 0, .slice none 0 0, .slice none 0 0, .slice none 0 0] 68)
  by_cases h1 : pk < 1
  · have HE : Hid (askE pk pa pc = 28) := Lib.hid (by unfold askE; rw [if_pos (.inl h1)])
    have HN : Hid (∀ x, askN pk pa pc x = 0) := Lib.hid (fun x => by unfold askN; rw [HE.out]; rfl)
    go_enter Tryz.func29, Tryz.ntmps29
    go_wp2
    (try simp only [Exit.inBlock, Exit.then])
    refine bodyPost_ret (v := .tuple #[.agg #[.int .i64 0, .int .i64 0, .int .i64 0, .slice none 0 0, .slice none 0 0, .slice none 0 0], .int .i64 28]) (by simp [results, Tryz.results29, go_sem, *]) rfl ?_
    exact HP.out _ _ _ _ HE.out (HN.out _) (HN.out _) (HN.out _) _ bel2
  by_cases h2 : pk > 4
  · have HE : Hid (askE pk pa pc = 28) := Lib.hid (by unfold askE; rw [if_pos (.inr h2)])
    have HN : Hid (∀ x, askN pk pa pc x = 0) := Lib.hid (fun x => by unfold askN; rw [HE.out]; rfl)
    go_enter Tryz.func29, Tryz.ntmps29
    go_wp2
    (try simp only [Exit.inBlock, Exit.then])
    refine bodyPost_ret (v := .tuple #[.agg #[.int .i64 0, .int .i64 0, .int .i64 0, .slice none 0 0, .slice none 0 0, .slice none 0 0], .int .i64 28]) (by simp [results, Tryz.results29, go_sem, *]) rfl ?_
    exact HP.out _ _ _ _ HE.out (HN.out _) (HN.out _) (HN.out _) _ bel2
  obtain ⟨E, hE⟩ : ∃ E, chkQ (reqK pk pa pc) = E := ⟨_, rfl⟩
  have HE : Hid (askE pk pa pc = E) := Lib.hid (by unfold askE; rw [if_neg (by omega)]; exact hE)
  have HC : Hid (∀ W : World, Calls Tryz.prog 57 #[.agg #[.int .i64 pk, .int .i64 pa, .int .i64 pc, .slice none 0 0, .slice none 0 0, .slice none 0 0]] W fun e w' => e = .returned (.int .i64 E) ∧ Below W.heap.size W w') := Lib.hid fun W =>
    (refCheck_any (reqK pk pa pc) none none none 0 0 0 0 0 0 W (asked_none _ _ _ _ _)).mono fun e w' h => ⟨by rw [h.1, chk_req, hE], h.2⟩
  clear hE
  have t3 := Box3.new w (.cells #[.int .i64 pu, .int .i64 pk, .int .i64 pa, .int .i64 pc, .int .i64 pe, .slice Pt pn pm] 25) (.cells #[.int .i64 0, .int .i64 0, .int .i64 0, .slice none 0 0, .slice none 0 0, .slice none 0 0] 68) (.cells #[.int .i64 pk, .int .i64 pa, .int .i64 pc, .slice none 0 0, .slice none 0 0, .slice none 0 0] 68)
  have hsu : (w.alloc (.cells #[.int .i64 pu, .int .i64 pk, .int .i64 pa, .int .i64 pc, .int .i64 pe, .slice Pt pn pm] 25)).heap.size = w.heap.size + 1 := by simp
  by_cases h0 : E = 0
  · subst h0
    have HN : Hid (∀ x, askN pk pa pc x = x) := Lib.hid (fun x => by unfold askN; rw [HE.out]; rfl)
    go_enter Tryz.func29, Tryz.ntmps29
    go_wp2_with fail
    refine (HC.out _).mono ?_
    rintro e w1 ⟨rfl, b1⟩
    have t4 := t3.below b1
    obtain ⟨c0, c1, c2, c3, c4, c5⟩ := of6 t4.2.1
    obtain ⟨d0, d1, d2, d3, d4, d5⟩ := of6 t4.2.2.1
    have hfz := fun i => block_frozen _ _ i _ _ t4.2.1
    have P4 := Lib.hid (below_put6 t4.bel (g := w.heap.size + 1) (by omega) (.int .i64 pk) (.int .i64 pa) (.int .i64 pc) (.slice none 0 0) (.slice none 0 0) (.slice none 0 0))
    have P5 := Lib.hid (put6_heap t4.2.1 (.int .i64 pk) (.int .i64 pa) (.int .i64 pc) (.slice none 0 0) (.slice none 0 0) (.slice none 0 0))
    clear t3 t4 b1 bel2
    go_wp2
    (try simp only [Exit.inBlock, Exit.then])
    show bodyPost _ _ _ _ _ (put6 w1 (w.heap.size + 1) (.int .i64 pk) (.int .i64 pa) (.int .i64 pc) (.slice none 0 0) (.slice none 0 0) (.slice none 0 0))
    generalize put6 w1 (w.heap.size + 1) (.int .i64 pk) (.int .i64 pa) (.int .i64 pc) (.slice none 0 0) (.slice none 0 0) (.slice none 0 0) = w6 at *
    clear c0 c1 c2 c3 c4 c5 hfz
    obtain ⟨g0, g1, g2, g3, g4, g5⟩ := of6 P5.out
    refine bodyPost_ret (v := .tuple #[.agg #[.int .i64 pk, .int .i64 pa, .int .i64 pc, .slice none 0 0, .slice none 0 0, .slice none 0 0], .int .i64 0]) (by simp [results, Tryz.results29, go_sem, g0, g1, g2, g3, g4, g5]) rfl ?_
    exact HP.out _ _ _ _ HE.out (HN.out _) (HN.out _) (HN.out _) _ P4.out
  · have HN : Hid (∀ x, askN pk pa pc x = 0) := Lib.hid (fun x => by unfold askN; rw [HE.out, if_neg h0])
    have e0 : (E == 0) = false := beq_false_of_ne h0
    have e0' : (E != 0) = true := by simpa using h0
    clear h0
    go_enter Tryz.func29, Tryz.ntmps29
    go_wp2_with fail
    refine (HC.out _).mono ?_
    rintro e w1 ⟨rfl, b1⟩
    have t4 := t3.below b1
    obtain ⟨c0, c1, c2, c3, c4, c5⟩ := of6 t4.2.1
    have hfz := fun i => block_frozen _ _ i _ _ t4.2.1
    have P4 := Lib.hid (below_put6 t4.bel (g := w.heap.size + 1) (by omega) (.int .i64 0) (.int .i64 0) (.int .i64 0) (.slice none 0 0) (.slice none 0 0) (.slice none 0 0))
    have P5 := Lib.hid (put6_heap t4.2.1 (.int .i64 0) (.int .i64 0) (.int .i64 0) (.slice none 0 0) (.slice none 0 0) (.slice none 0 0))
    clear t3 t4 b1 bel2
    go_wp2
    (try simp only [Exit.inBlock, Exit.then])
    show bodyPost _ _ _ _ _ (put6 w1 (w.heap.size + 1) (.int .i64 0) (.int .i64 0) (.int .i64 0) (.slice none 0 0) (.slice none 0 0) (.slice none 0 0))
    generalize put6 w1 (w.heap.size + 1) (.int .i64 0) (.int .i64 0) (.int .i64 0) (.slice none 0 0) (.slice none 0 0) (.slice none 0 0) = w6 at *
    clear c0 c1 c2 c3 c4 c5 hfz
    obtain ⟨g0, g1, g2, g3, g4, g5⟩ := of6 P5.out
    refine bodyPost_ret (v := .tuple #[.agg #[.int .i64 0, .int .i64 0, .int .i64 0, .slice none 0 0, .slice none 0 0, .slice none 0 0], .int .i64 E]) (by simp [results, Tryz.results29, go_sem, g0, g1, g2, g3, g4, g5]) rfl ?_
    exact HP.out _ _ _ _ HE.out (HN.out _) (HN.out _) (HN.out _) _ P4.out
end Go.Proofs.YtcmbdhmhkfhjfaaGreat
namespace Go.Proofs.YtcmbdhmhkfhjfaaGreat
open Go.RowKit
set_option linter.unusedVariables false
set_option maxRecDepth 100000
attribute [local go_sem ↓] ldTag_fold stTag_fold

theorem refWidth_t (t : Tg) (w : World) : Calls Tryz.prog 61 #[tgV t] w fun e w' => e = .returned (.int .i64 (widT t)) ∧ Below w.heap.size w w' := by
  obtain ⟨nm, un, ki, ad, ev, we, sg, sw, mu, di, aa, de, qu, ul, uh, la, lo, hi, hy⟩ := t
  exact refWidth_any nm un ki ad ev we sg sw mu di aa de qu ul uh la lo hi hy w
def bxTag (v : Value) : Sem Value := Instr.box 51 v
theorem bxTag_fold (v : Value) : Instr.box 51 v = bxTag v := rfl
theorem bxTag_run (w : World) (t : Tg) : (bxTag (tgV t)).run Tryz.prog w = .ok (.pointer (some ⟨w.heap.size, 0, none⟩)) (w.alloc (.cells (tgC t).toArray 51)) := by
  obtain ⟨nm, un, ki, ad, ev, we, sg, sw, mu, di, aa, de, qu, ul, uh, la, lo, hi, hy⟩ := t
  unfold bxTag tgV tgC
  simp [go_sem]
attribute [local go_sem ↓] bxTag_fold
attribute [local go_sem] bxTag_run


theorem joinB_iff (pu pk pa pc pe : Int) (tg : List Int) (t : Tg) : joinB ⟨pu, pk, pa, pc, pe, tg⟩ t = true ↔ pu = t.un ∧ pe = t.ev ∧ pk = t.ki ∧ t.ad - 8 ≤ pa + pc ∧ cntJ ⟨pu, pk, pa, pc, pe, tg⟩ t ≤ mostK t.ki := decide_eq_true_iff
theorem joinB_no {pu pk pa pc pe : Int} {tg : List Int} {t : Tg} (h : ¬ (pu = t.un ∧ pe = t.ev ∧ pk = t.ki ∧ t.ad - 8 ≤ pa + pc ∧ cntJ ⟨pu, pk, pa, pc, pe, tg⟩ t ≤ mostK t.ki)) : joinB ⟨pu, pk, pa, pc, pe, tg⟩ t = false := decide_eq_false h
set_option maxHeartbeats 8000000 in
theorem refJoined_any (pu pk pa pc pe : Int) (Pt : Option Addr) (pn pm : Nat) (tg : List Int) (t : Tg) (w : World) (hpa : 0 ≤ pa ∧ pa ≤ 65536) (hpc : 0 ≤ pc ∧ pc ≤ 65536) (hta : 0 ≤ t.ad ∧ t.ad ≤ 65536) :
    Calls Tryz.prog 65 #[.agg #[.int .i64 pu, .int .i64 pk, .int .i64 pa, .int .i64 pc, .int .i64 pe, .slice Pt pn pm], tgV t] w fun e w' => e = .returned (.tuple #[.int .i64 (bif joinB ⟨pu, pk, pa, pc, pe, tg⟩ t then cntJ ⟨pu, pk, pa, pc, pe, tg⟩ t else 0), .bool (joinB ⟨pu, pk, pa, pc, pe, tg⟩ t)]) ∧ Below w.heap.size w w' := by
  have hw := widT_le t
  have hx0 := two_fst w (.cells #[.int .i64 pu, .int .i64 pk, .int .i64 pa, .int .i64 pc, .int .i64 pe, .slice Pt pn pm] 25) (.cells (tgC t).toArray 51)
  have hx1 := heap_alloc_two w (.cells #[.int .i64 pu, .int .i64 pk, .int .i64 pa, .int .i64 pc, .int .i64 pe, .slice Pt pn pm] 25) (.cells (tgC t).toArray 51)
  have bel0 := (bel_alloc w (.cells #[.int .i64 pu, .int .i64 pk, .int .i64 pa, .int .i64 pc, .int .i64 pe, .slice Pt pn pm] 25)).alloc (by simp) (.cells (tgC t).toArray 51)
  have HW : Hid (∀ W : World, Calls Tryz.prog 61 #[tgV t] W fun e w' => e = .returned (.int .i64 (widT t)) ∧ Below W.heap.size W w') := Lib.hid fun W => refWidth_t t W
  have hcj : Hid (∀ x, (t.ad + widT t - pa < pc ∧ x = pc) ∨ (¬ t.ad + widT t - pa < pc ∧ x = t.ad + widT t - pa) → cntJ ⟨pu, pk, pa, pc, pe, tg⟩ t = x) := Lib.hid (by
    intro x hx
    show (if t.ad + widT t - pa < pc then pc else t.ad + widT t - pa) = x
    rcases hx with ⟨h, rfl⟩ | ⟨h, rfl⟩
    · exact if_pos h
    · exact if_neg h)
  generalize widT t = wd at *
  have hwr1 : IntKind.i64.wrap (t.ad + wd) = t.ad + wd := by rw [IntKind.wrap_i64]; omega
  have hwr2 : IntKind.i64.wrap (t.ad + wd - pa) = t.ad + wd - pa := by rw [IntKind.wrap_i64]; omega
  have hwr3 : IntKind.i64.wrap (t.ad - 8) = t.ad - 8 := by rw [IntKind.wrap_i64]; omega
  have hwr4 : IntKind.i64.wrap (pa + pc) = pa + pc := by rw [IntKind.wrap_i64]; omega
  obtain ⟨mo, hm⟩ : ∃ mo, mostK t.ki = mo := ⟨_, rfl⟩
  have hmo : ((t.ki == 1) = true ∧ mo = 2000) ∨ ((t.ki == 1) = false ∧ (t.ki == 2) = true ∧ mo = 2000) ∨ ((t.ki == 1) = false ∧ (t.ki == 2) = false ∧ mo = 125) := by
    rw [← hm]
    unfold mostK
    by_cases h1 : t.ki = 1
    · exact .inl ⟨by simp [h1], if_pos (.inl h1)⟩
    · by_cases h2 : t.ki = 2
      · exact .inr (.inl ⟨beq_false_of_ne h1, by simp [h2], if_pos (.inr h2)⟩)
      · exact .inr (.inr ⟨beq_false_of_ne h1, beq_false_of_ne h2, if_neg (by omega)⟩)
  have HM := Lib.hid hm
  clear hm
  obtain ⟨a0, a1, a2, a3, a4⟩ := tgBox hx1
  obtain ⟨p0, p1, p2, p3, p4, p5⟩ := of6 hx0
  have HK0 : Hid (∀ w9 : World, Below ((w.alloc (.cells #[.int .i64 pu, .int .i64 pk, .int .i64 pa, .int .i64 pc, .int .i64 pe, .slice Pt pn pm] 25)).alloc (.cells (tgC t).toArray 51)).heap.size ((w.alloc (.cells #[.int .i64 pu, .int .i64 pk, .int .i64 pa, .int .i64 pc, .int .i64 pe, .slice Pt pn pm] 25)).alloc (.cells (tgC t).toArray 51)) w9 → (Below ((w.alloc (.cells #[.int .i64 pu, .int .i64 pk, .int .i64 pa, .int .i64 pc, .int .i64 pe, .slice Pt pn pm] 25)).alloc (.cells (tgC t).toArray 51)).heap.size ((w.alloc (.cells #[.int .i64 pu, .int .i64 pk, .int .i64 pa, .int .i64 pc, .int .i64 pe, .slice Pt pn pm] 25)).alloc (.cells (tgC t).toArray 51)) w9 ∧ w9.cell? ⟨w.heap.size + 1, 3, none⟩ = some (.int .i64 t.ad) ∧ (ldTag (.pointer (some ⟨w.heap.size + 1, 0, none⟩))).run Tryz.prog w9 = .ok (tgV t) w9 ∧ w9.cell? ⟨w.heap.size, 2, none⟩ = some (.int .i64 pa))) := Lib.hid fun w9 hw => ⟨hw, (tgBox (keepB hw hx1)).2.2.2.1, tgBox_ld (keepB hw hx1), (of6 (keepB hw hx0)).2.2.1⟩
  rcases hmo with ⟨hk1, rfl⟩ | ⟨hk1, hk2, rfl⟩ | ⟨hk1, hk2, rfl⟩
  · go_enter Tryz.func65, Tryz.ntmps65
    go_wp2
    clear a0 a1 a2 a3 a4 p0 p1 p2 p3 p4 p5
    have HK := HK0
    clear HK0
    generalize (w.alloc (.cells #[.int .i64 pu, .int .i64 pk, .int .i64 pa, .int .i64 pc, .int .i64 pe, .slice Pt pn pm] 25)).alloc (.cells (tgC t).toArray 51) = w0 at *
    have belh : ∀ w9 : World, (Below w0.heap.size w0 w9 ∧ w9.cell? ⟨w.heap.size + 1, 3, none⟩ = some (.int .i64 t.ad) ∧ (ldTag (.pointer (some ⟨w.heap.size + 1, 0, none⟩))).run Tryz.prog w9 = .ok (tgV t) w9 ∧ w9.cell? ⟨w.heap.size, 2, none⟩ = some (.int .i64 pa)) → Below w0.heap.size w0 w9 := fun w9 h => h.1
    go_region_held3 (fun w9 => Below w0.heap.size w0 w9 ∧ w9.cell? ⟨w.heap.size + 1, 3, none⟩ = some (.int .i64 t.ad) ∧ (ldTag (.pointer (some ⟨w.heap.size + 1, 0, none⟩))).run Tryz.prog w9 = .ok (tgV t) w9 ∧ w9.cell? ⟨w.heap.size, 2, none⟩ = some (.int .i64 pa))
      ((refine HK.out _ ?_
        repeat' (first
          | with_reducible exact Below.refl _ _
          | with_reducible exact bel5
          | with_reducible exact belh _ (by assumption)
          | with_reducible apply below_drew
          | with_reducible apply below_drewN
          | fail)))
      (first
        | (go_at_call 61; refine (HW.out _).mono ?_; rintro e w5 ⟨rfl, b5⟩; have bel5 : Below w0.heap.size w0 w5 := Below.trans (belh _ (by assumption)) (b5.mono (Below.size (belh _ (by assumption)))))
        | fail)
    have h5 := keepB bel5 hx1
    have h6 := keepB bel5 hx0
    have BEL := Lib.hid (bel0.trans (bel5.mono bel0.size))
    clear HK belh bel5 hx0 hx1 bel0 HW
    obtain ⟨a0, a1, a2, a3, a4⟩ := tgBox h5
    obtain ⟨p0, p1, p2, p3, p4, p5⟩ := of6 h6
    clear h5 h6
    by_cases hc : t.ad + wd - pa < pc
    · have HC : Hid (cntJ ⟨pu, pk, pa, pc, pe, tg⟩ t = pc) := Lib.hid (hcj.out _ (.inl ⟨by omega, rfl⟩))
      clear hcj
      by_cases h1 : pu = t.un
      case neg =>
        have HJ : Hid (joinB ⟨pu, pk, pa, pc, pe, tg⟩ t = false) := Lib.hid (joinB_no (fun h => h1 h.1))
        have f0 : (pu == t.un) = false := beq_false_of_ne h1
        have g0 : (pu != t.un) = true := by simpa using h1
        clear h1
        go_wp2
        (try simp only [Exit.inBlock, Exit.then])
        refine bodyPost_ret (v := .tuple #[.int .i64 (0), .bool false]) (by simp [results, Tryz.results65, go_sem]) rfl ?_
        exact ⟨by rw [HJ.out]; rfl, BEL.out⟩
      have f0 : (pu == t.un) = true := by simp [h1]
      have g0 : (pu != t.un) = false := by simp [h1]
      by_cases h2 : pe = t.ev
      case neg =>
        have HJ : Hid (joinB ⟨pu, pk, pa, pc, pe, tg⟩ t = false) := Lib.hid (joinB_no (fun h => h2 h.2.1))
        have f1 : (pe == t.ev) = false := beq_false_of_ne h2
        have g1 : (pe != t.ev) = true := by simpa using h2
        clear h1 h2
        go_wp2
        (try simp only [Exit.inBlock, Exit.then])
        refine bodyPost_ret (v := .tuple #[.int .i64 (0), .bool false]) (by simp [results, Tryz.results65, go_sem]) rfl ?_
        exact ⟨by rw [HJ.out]; rfl, BEL.out⟩
      have f1 : (pe == t.ev) = true := by simp [h2]
      have g1 : (pe != t.ev) = false := by simp [h2]
      by_cases h3 : pk = t.ki
      case neg =>
        have HJ : Hid (joinB ⟨pu, pk, pa, pc, pe, tg⟩ t = false) := Lib.hid (joinB_no (fun h => h3 h.2.2.1))
        have f2 : (pk == t.ki) = false := beq_false_of_ne h3
        have g2 : (pk != t.ki) = true := by simpa using h3
        clear h1 h2 h3
        go_wp2
        (try simp only [Exit.inBlock, Exit.then])
        refine bodyPost_ret (v := .tuple #[.int .i64 (0), .bool false]) (by simp [results, Tryz.results65, go_sem]) rfl ?_
        exact ⟨by rw [HJ.out]; rfl, BEL.out⟩
      have f2 : (pk == t.ki) = true := by simp [h3]
      have g2 : (pk != t.ki) = false := by simp [h3]
      have h4 : ¬ t.ad - 8 > pa + pc := by omega
      by_cases h5 : pc > 2000
      case pos =>
        have HJ : Hid (joinB ⟨pu, pk, pa, pc, pe, tg⟩ t = false) := Lib.hid (joinB_no (fun h => by have := h.2.2.2.2; rw [HC.out, HM.out] at this; omega))
        clear h1 h2 h3
        go_wp2
        (try simp only [Exit.inBlock, Exit.then])
        refine bodyPost_ret (v := .tuple #[.int .i64 (0), .bool false]) (by simp [results, Tryz.results65, go_sem]) rfl ?_
        exact ⟨by rw [HJ.out]; rfl, BEL.out⟩
      have HJ : Hid (joinB ⟨pu, pk, pa, pc, pe, tg⟩ t = true) := Lib.hid ((joinB_iff pu pk pa pc pe tg t).2 ⟨h1, h2, h3, by omega, by rw [HC.out, HM.out]; omega⟩)
      clear h1 h2 h3
      go_wp2
      (try simp only [Exit.inBlock, Exit.then])
      refine bodyPost_ret (v := .tuple #[.int .i64 (pc), .bool true]) (by simp [results, Tryz.results65, go_sem]) rfl ?_
      exact ⟨by rw [HJ.out, HC.out]; rfl, BEL.out⟩
    · have HC : Hid (cntJ ⟨pu, pk, pa, pc, pe, tg⟩ t = t.ad + wd - pa) := Lib.hid (hcj.out _ (.inr ⟨by omega, rfl⟩))
      clear hcj
      by_cases h1 : pu = t.un
      case neg =>
        have HJ : Hid (joinB ⟨pu, pk, pa, pc, pe, tg⟩ t = false) := Lib.hid (joinB_no (fun h => h1 h.1))
        have f0 : (pu == t.un) = false := beq_false_of_ne h1
        have g0 : (pu != t.un) = true := by simpa using h1
        clear h1
        go_wp2
        (try simp only [Exit.inBlock, Exit.then])
        refine bodyPost_ret (v := .tuple #[.int .i64 (0), .bool false]) (by simp [results, Tryz.results65, go_sem]) rfl ?_
        exact ⟨by rw [HJ.out]; rfl, BEL.out⟩
      have f0 : (pu == t.un) = true := by simp [h1]
      have g0 : (pu != t.un) = false := by simp [h1]
      by_cases h2 : pe = t.ev
      case neg =>
        have HJ : Hid (joinB ⟨pu, pk, pa, pc, pe, tg⟩ t = false) := Lib.hid (joinB_no (fun h => h2 h.2.1))
        have f1 : (pe == t.ev) = false := beq_false_of_ne h2
        have g1 : (pe != t.ev) = true := by simpa using h2
        clear h1 h2
        go_wp2
        (try simp only [Exit.inBlock, Exit.then])
        refine bodyPost_ret (v := .tuple #[.int .i64 (0), .bool false]) (by simp [results, Tryz.results65, go_sem]) rfl ?_
        exact ⟨by rw [HJ.out]; rfl, BEL.out⟩
      have f1 : (pe == t.ev) = true := by simp [h2]
      have g1 : (pe != t.ev) = false := by simp [h2]
      by_cases h3 : pk = t.ki
      case neg =>
        have HJ : Hid (joinB ⟨pu, pk, pa, pc, pe, tg⟩ t = false) := Lib.hid (joinB_no (fun h => h3 h.2.2.1))
        have f2 : (pk == t.ki) = false := beq_false_of_ne h3
        have g2 : (pk != t.ki) = true := by simpa using h3
        clear h1 h2 h3
        go_wp2
        (try simp only [Exit.inBlock, Exit.then])
        refine bodyPost_ret (v := .tuple #[.int .i64 (0), .bool false]) (by simp [results, Tryz.results65, go_sem]) rfl ?_
        exact ⟨by rw [HJ.out]; rfl, BEL.out⟩
      have f2 : (pk == t.ki) = true := by simp [h3]
      have g2 : (pk != t.ki) = false := by simp [h3]
      by_cases h4 : t.ad - 8 > pa + pc
      case pos =>
        have HJ : Hid (joinB ⟨pu, pk, pa, pc, pe, tg⟩ t = false) := Lib.hid (joinB_no (fun h => by have := h.2.2.2.1; omega))
        clear h1 h2 h3
        go_wp2
        (try simp only [Exit.inBlock, Exit.then])
        refine bodyPost_ret (v := .tuple #[.int .i64 (0), .bool false]) (by simp [results, Tryz.results65, go_sem]) rfl ?_
        exact ⟨by rw [HJ.out]; rfl, BEL.out⟩
      by_cases h5 : t.ad + wd - pa > 2000
      case pos =>
        have HJ : Hid (joinB ⟨pu, pk, pa, pc, pe, tg⟩ t = false) := Lib.hid (joinB_no (fun h => by have := h.2.2.2.2; rw [HC.out, HM.out] at this; omega))
        clear h1 h2 h3
        go_wp2
        (try simp only [Exit.inBlock, Exit.then])
        refine bodyPost_ret (v := .tuple #[.int .i64 (0), .bool false]) (by simp [results, Tryz.results65, go_sem]) rfl ?_
        exact ⟨by rw [HJ.out]; rfl, BEL.out⟩
      have HJ : Hid (joinB ⟨pu, pk, pa, pc, pe, tg⟩ t = true) := Lib.hid ((joinB_iff pu pk pa pc pe tg t).2 ⟨h1, h2, h3, by omega, by rw [HC.out, HM.out]; omega⟩)
      clear h1 h2 h3
      go_wp2
      (try simp only [Exit.inBlock, Exit.then])
      refine bodyPost_ret (v := .tuple #[.int .i64 (t.ad + wd - pa), .bool true]) (by simp [results, Tryz.results65, go_sem]) rfl ?_
      exact ⟨by rw [HJ.out, HC.out]; rfl, BEL.out⟩
  · go_enter Tryz.func65, Tryz.ntmps65
    go_wp2
    clear a0 a1 a2 a3 a4 p0 p1 p2 p3 p4 p5
    have HK := HK0
    clear HK0
    generalize (w.alloc (.cells #[.int .i64 pu, .int .i64 pk, .int .i64 pa, .int .i64 pc, .int .i64 pe, .slice Pt pn pm] 25)).alloc (.cells (tgC t).toArray 51) = w0 at *
    have belh : ∀ w9 : World, (Below w0.heap.size w0 w9 ∧ w9.cell? ⟨w.heap.size + 1, 3, none⟩ = some (.int .i64 t.ad) ∧ (ldTag (.pointer (some ⟨w.heap.size + 1, 0, none⟩))).run Tryz.prog w9 = .ok (tgV t) w9 ∧ w9.cell? ⟨w.heap.size, 2, none⟩ = some (.int .i64 pa)) → Below w0.heap.size w0 w9 := fun w9 h => h.1
    go_region_held3 (fun w9 => Below w0.heap.size w0 w9 ∧ w9.cell? ⟨w.heap.size + 1, 3, none⟩ = some (.int .i64 t.ad) ∧ (ldTag (.pointer (some ⟨w.heap.size + 1, 0, none⟩))).run Tryz.prog w9 = .ok (tgV t) w9 ∧ w9.cell? ⟨w.heap.size, 2, none⟩ = some (.int .i64 pa))
      ((refine HK.out _ ?_
        repeat' (first
          | with_reducible exact Below.refl _ _
          | with_reducible exact bel5
          | with_reducible exact belh _ (by assumption)
          | with_reducible apply below_drew
          | with_reducible apply below_drewN
          | fail)))
      (first
        | (go_at_call 61; refine (HW.out _).mono ?_; rintro e w5 ⟨rfl, b5⟩; have bel5 : Below w0.heap.size w0 w5 := Below.trans (belh _ (by assumption)) (b5.mono (Below.size (belh _ (by assumption)))))
        | fail)
    have h5 := keepB bel5 hx1
    have h6 := keepB bel5 hx0
    have BEL := Lib.hid (bel0.trans (bel5.mono bel0.size))
    clear HK belh bel5 hx0 hx1 bel0 HW
    obtain ⟨a0, a1, a2, a3, a4⟩ := tgBox h5
    obtain ⟨p0, p1, p2, p3, p4, p5⟩ := of6 h6
    clear h5 h6
    by_cases hc : t.ad + wd - pa < pc
    · have HC : Hid (cntJ ⟨pu, pk, pa, pc, pe, tg⟩ t = pc) := Lib.hid (hcj.out _ (.inl ⟨by omega, rfl⟩))
      clear hcj
      by_cases h1 : pu = t.un
      case neg =>
        have HJ : Hid (joinB ⟨pu, pk, pa, pc, pe, tg⟩ t = false) := Lib.hid (joinB_no (fun h => h1 h.1))
        have f0 : (pu == t.un) = false := beq_false_of_ne h1
        have g0 : (pu != t.un) = true := by simpa using h1
        clear h1
        go_wp2
        (try simp only [Exit.inBlock, Exit.then])
        refine bodyPost_ret (v := .tuple #[.int .i64 (0), .bool false]) (by simp [results, Tryz.results65, go_sem]) rfl ?_
        exact ⟨by rw [HJ.out]; rfl, BEL.out⟩
      have f0 : (pu == t.un) = true := by simp [h1]
      have g0 : (pu != t.un) = false := by simp [h1]
      by_cases h2 : pe = t.ev
      case neg =>
        have HJ : Hid (joinB ⟨pu, pk, pa, pc, pe, tg⟩ t = false) := Lib.hid (joinB_no (fun h => h2 h.2.1))
        have f1 : (pe == t.ev) = false := beq_false_of_ne h2
        have g1 : (pe != t.ev) = true := by simpa using h2
        clear h1 h2
        go_wp2
        (try simp only [Exit.inBlock, Exit.then])
        refine bodyPost_ret (v := .tuple #[.int .i64 (0), .bool false]) (by simp [results, Tryz.results65, go_sem]) rfl ?_
        exact ⟨by rw [HJ.out]; rfl, BEL.out⟩
      have f1 : (pe == t.ev) = true := by simp [h2]
      have g1 : (pe != t.ev) = false := by simp [h2]
      by_cases h3 : pk = t.ki
      case neg =>
        have HJ : Hid (joinB ⟨pu, pk, pa, pc, pe, tg⟩ t = false) := Lib.hid (joinB_no (fun h => h3 h.2.2.1))
        have f2 : (pk == t.ki) = false := beq_false_of_ne h3
        have g2 : (pk != t.ki) = true := by simpa using h3
        clear h1 h2 h3
        go_wp2
        (try simp only [Exit.inBlock, Exit.then])
        refine bodyPost_ret (v := .tuple #[.int .i64 (0), .bool false]) (by simp [results, Tryz.results65, go_sem]) rfl ?_
        exact ⟨by rw [HJ.out]; rfl, BEL.out⟩
      have f2 : (pk == t.ki) = true := by simp [h3]
      have g2 : (pk != t.ki) = false := by simp [h3]
      have h4 : ¬ t.ad - 8 > pa + pc := by omega
      by_cases h5 : pc > 2000
      case pos =>
        have HJ : Hid (joinB ⟨pu, pk, pa, pc, pe, tg⟩ t = false) := Lib.hid (joinB_no (fun h => by have := h.2.2.2.2; rw [HC.out, HM.out] at this; omega))
        clear h1 h2 h3
        go_wp2
        (try simp only [Exit.inBlock, Exit.then])
        refine bodyPost_ret (v := .tuple #[.int .i64 (0), .bool false]) (by simp [results, Tryz.results65, go_sem]) rfl ?_
        exact ⟨by rw [HJ.out]; rfl, BEL.out⟩
      have HJ : Hid (joinB ⟨pu, pk, pa, pc, pe, tg⟩ t = true) := Lib.hid ((joinB_iff pu pk pa pc pe tg t).2 ⟨h1, h2, h3, by omega, by rw [HC.out, HM.out]; omega⟩)
      clear h1 h2 h3
      go_wp2
      (try simp only [Exit.inBlock, Exit.then])
      refine bodyPost_ret (v := .tuple #[.int .i64 (pc), .bool true]) (by simp [results, Tryz.results65, go_sem]) rfl ?_
      exact ⟨by rw [HJ.out, HC.out]; rfl, BEL.out⟩
    · have HC : Hid (cntJ ⟨pu, pk, pa, pc, pe, tg⟩ t = t.ad + wd - pa) := Lib.hid (hcj.out _ (.inr ⟨by omega, rfl⟩))
      clear hcj
      by_cases h1 : pu = t.un
      case neg =>
        have HJ : Hid (joinB ⟨pu, pk, pa, pc, pe, tg⟩ t = false) := Lib.hid (joinB_no (fun h => h1 h.1))
        have f0 : (pu == t.un) = false := beq_false_of_ne h1
        have g0 : (pu != t.un) = true := by simpa using h1
        clear h1
        go_wp2
        (try simp only [Exit.inBlock, Exit.then])
        refine bodyPost_ret (v := .tuple #[.int .i64 (0), .bool false]) (by simp [results, Tryz.results65, go_sem]) rfl ?_
        exact ⟨by rw [HJ.out]; rfl, BEL.out⟩
      have f0 : (pu == t.un) = true := by simp [h1]
      have g0 : (pu != t.un) = false := by simp [h1]
      by_cases h2 : pe = t.ev
      case neg =>
        have HJ : Hid (joinB ⟨pu, pk, pa, pc, pe, tg⟩ t = false) := Lib.hid (joinB_no (fun h => h2 h.2.1))
        have f1 : (pe == t.ev) = false := beq_false_of_ne h2
        have g1 : (pe != t.ev) = true := by simpa using h2
        clear h1 h2
        go_wp2
        (try simp only [Exit.inBlock, Exit.then])
        refine bodyPost_ret (v := .tuple #[.int .i64 (0), .bool false]) (by simp [results, Tryz.results65, go_sem]) rfl ?_
        exact ⟨by rw [HJ.out]; rfl, BEL.out⟩
      have f1 : (pe == t.ev) = true := by simp [h2]
      have g1 : (pe != t.ev) = false := by simp [h2]
      by_cases h3 : pk = t.ki
      case neg =>
        have HJ : Hid (joinB ⟨pu, pk, pa, pc, pe, tg⟩ t = false) := Lib.hid (joinB_no (fun h => h3 h.2.2.1))
        have f2 : (pk == t.ki) = false := beq_false_of_ne h3
        have g2 : (pk != t.ki) = true := by simpa using h3
        clear h1 h2 h3
        go_wp2
        (try simp only [Exit.inBlock, Exit.then])
        refine bodyPost_ret (v := .tuple #[.int .i64 (0), .bool false]) (by simp [results, Tryz.results65, go_sem]) rfl ?_
        exact ⟨by rw [HJ.out]; rfl, BEL.out⟩
      have f2 : (pk == t.ki) = true := by simp [h3]
      have g2 : (pk != t.ki) = false := by simp [h3]
      by_cases h4 : t.ad - 8 > pa + pc
      case pos =>
        have HJ : Hid (joinB ⟨pu, pk, pa, pc, pe, tg⟩ t = false) := Lib.hid (joinB_no (fun h => by have := h.2.2.2.1; omega))
        clear h1 h2 h3
        go_wp2
        (try simp only [Exit.inBlock, Exit.then])
        refine bodyPost_ret (v := .tuple #[.int .i64 (0), .bool false]) (by simp [results, Tryz.results65, go_sem]) rfl ?_
        exact ⟨by rw [HJ.out]; rfl, BEL.out⟩
      by_cases h5 : t.ad + wd - pa > 2000
      case pos =>
        have HJ : Hid (joinB ⟨pu, pk, pa, pc, pe, tg⟩ t = false) := Lib.hid (joinB_no (fun h => by have := h.2.2.2.2; rw [HC.out, HM.out] at this; omega))
        clear h1 h2 h3
        go_wp2
        (try simp only [Exit.inBlock, Exit.then])
        refine bodyPost_ret (v := .tuple #[.int .i64 (0), .bool false]) (by simp [results, Tryz.results65, go_sem]) rfl ?_
        exact ⟨by rw [HJ.out]; rfl, BEL.out⟩
      have HJ : Hid (joinB ⟨pu, pk, pa, pc, pe, tg⟩ t = true) := Lib.hid ((joinB_iff pu pk pa pc pe tg t).2 ⟨h1, h2, h3, by omega, by rw [HC.out, HM.out]; omega⟩)
      clear h1 h2 h3
      go_wp2
      (try simp only [Exit.inBlock, Exit.then])
      refine bodyPost_ret (v := .tuple #[.int .i64 (t.ad + wd - pa), .bool true]) (by simp [results, Tryz.results65, go_sem]) rfl ?_
      exact ⟨by rw [HJ.out, HC.out]; rfl, BEL.out⟩
  · go_enter Tryz.func65, Tryz.ntmps65
    go_wp2
    clear a0 a1 a2 a3 a4 p0 p1 p2 p3 p4 p5
    have HK := HK0
    clear HK0
    generalize (w.alloc (.cells #[.int .i64 pu, .int .i64 pk, .int .i64 pa, .int .i64 pc, .int .i64 pe, .slice Pt pn pm] 25)).alloc (.cells (tgC t).toArray 51) = w0 at *
    have belh : ∀ w9 : World, (Below w0.heap.size w0 w9 ∧ w9.cell? ⟨w.heap.size + 1, 3, none⟩ = some (.int .i64 t.ad) ∧ (ldTag (.pointer (some ⟨w.heap.size + 1, 0, none⟩))).run Tryz.prog w9 = .ok (tgV t) w9 ∧ w9.cell? ⟨w.heap.size, 2, none⟩ = some (.int .i64 pa)) → Below w0.heap.size w0 w9 := fun w9 h => h.1
    go_region_held3 (fun w9 => Below w0.heap.size w0 w9 ∧ w9.cell? ⟨w.heap.size + 1, 3, none⟩ = some (.int .i64 t.ad) ∧ (ldTag (.pointer (some ⟨w.heap.size + 1, 0, none⟩))).run Tryz.prog w9 = .ok (tgV t) w9 ∧ w9.cell? ⟨w.heap.size, 2, none⟩ = some (.int .i64 pa))
      ((refine HK.out _ ?_
        repeat' (first
          | with_reducible exact Below.refl _ _
          | with_reducible exact bel5
          | with_reducible exact belh _ (by assumption)
          | with_reducible apply below_drew
          | with_reducible apply below_drewN
          | fail)))
      (first
        | (go_at_call 61; refine (HW.out _).mono ?_; rintro e w5 ⟨rfl, b5⟩; have bel5 : Below w0.heap.size w0 w5 := Below.trans (belh _ (by assumption)) (b5.mono (Below.size (belh _ (by assumption)))))
        | fail)
    have h5 := keepB bel5 hx1
    have h6 := keepB bel5 hx0
    have BEL := Lib.hid (bel0.trans (bel5.mono bel0.size))
    clear HK belh bel5 hx0 hx1 bel0 HW
    obtain ⟨a0, a1, a2, a3, a4⟩ := tgBox h5
    obtain ⟨p0, p1, p2, p3, p4, p5⟩ := of6 h6
    clear h5 h6
    by_cases hc : t.ad + wd - pa < pc
    · have HC : Hid (cntJ ⟨pu, pk, pa, pc, pe, tg⟩ t = pc) := Lib.hid (hcj.out _ (.inl ⟨by omega, rfl⟩))
      clear hcj
      by_cases h1 : pu = t.un
      case neg =>
        have HJ : Hid (joinB ⟨pu, pk, pa, pc, pe, tg⟩ t = false) := Lib.hid (joinB_no (fun h => h1 h.1))
        have f0 : (pu == t.un) = false := beq_false_of_ne h1
        have g0 : (pu != t.un) = true := by simpa using h1
        clear h1
        go_wp2
        (try simp only [Exit.inBlock, Exit.then])
        refine bodyPost_ret (v := .tuple #[.int .i64 (0), .bool false]) (by simp [results, Tryz.results65, go_sem]) rfl ?_
        exact ⟨by rw [HJ.out]; rfl, BEL.out⟩
      have f0 : (pu == t.un) = true := by simp [h1]
      have g0 : (pu != t.un) = false := by simp [h1]
      by_cases h2 : pe = t.ev
      case neg =>
        have HJ : Hid (joinB ⟨pu, pk, pa, pc, pe, tg⟩ t = false) := Lib.hid (joinB_no (fun h => h2 h.2.1))
        have f1 : (pe == t.ev) = false := beq_false_of_ne h2
        have g1 : (pe != t.ev) = true := by simpa using h2
        clear h1 h2
        go_wp2
        (try simp only [Exit.inBlock, Exit.then])
        refine bodyPost_ret (v := .tuple #[.int .i64 (0), .bool false]) (by simp [results, Tryz.results65, go_sem]) rfl ?_
        exact ⟨by rw [HJ.out]; rfl, BEL.out⟩
      have f1 : (pe == t.ev) = true := by simp [h2]
      have g1 : (pe != t.ev) = false := by simp [h2]
      by_cases h3 : pk = t.ki
      case neg =>
        have HJ : Hid (joinB ⟨pu, pk, pa, pc, pe, tg⟩ t = false) := Lib.hid (joinB_no (fun h => h3 h.2.2.1))
        have f2 : (pk == t.ki) = false := beq_false_of_ne h3
        have g2 : (pk != t.ki) = true := by simpa using h3
        clear h1 h2 h3
        go_wp2
        (try simp only [Exit.inBlock, Exit.then])
        refine bodyPost_ret (v := .tuple #[.int .i64 (0), .bool false]) (by simp [results, Tryz.results65, go_sem]) rfl ?_
        exact ⟨by rw [HJ.out]; rfl, BEL.out⟩
      have f2 : (pk == t.ki) = true := by simp [h3]
      have g2 : (pk != t.ki) = false := by simp [h3]
      have h4 : ¬ t.ad - 8 > pa + pc := by omega
      by_cases h5 : pc > 125
      case pos =>
        have HJ : Hid (joinB ⟨pu, pk, pa, pc, pe, tg⟩ t = false) := Lib.hid (joinB_no (fun h => by have := h.2.2.2.2; rw [HC.out, HM.out] at this; omega))
        clear h1 h2 h3
        go_wp2
        (try simp only [Exit.inBlock, Exit.then])
        refine bodyPost_ret (v := .tuple #[.int .i64 (0), .bool false]) (by simp [results, Tryz.results65, go_sem]) rfl ?_
        exact ⟨by rw [HJ.out]; rfl, BEL.out⟩
      have HJ : Hid (joinB ⟨pu, pk, pa, pc, pe, tg⟩ t = true) := Lib.hid ((joinB_iff pu pk pa pc pe tg t).2 ⟨h1, h2, h3, by omega, by rw [HC.out, HM.out]; omega⟩)
      clear h1 h2 h3
      go_wp2
      (try simp only [Exit.inBlock, Exit.then])
      refine bodyPost_ret (v := .tuple #[.int .i64 (pc), .bool true]) (by simp [results, Tryz.results65, go_sem]) rfl ?_
      exact ⟨by rw [HJ.out, HC.out]; rfl, BEL.out⟩
    · have HC : Hid (cntJ ⟨pu, pk, pa, pc, pe, tg⟩ t = t.ad + wd - pa) := Lib.hid (hcj.out _ (.inr ⟨by omega, rfl⟩))
      clear hcj
      by_cases h1 : pu = t.un
      case neg =>
        have HJ : Hid (joinB ⟨pu, pk, pa, pc, pe, tg⟩ t = false) := Lib.hid (joinB_no (fun h => h1 h.1))
        have f0 : (pu == t.un) = false := beq_false_of_ne h1
        have g0 : (pu != t.un) = true := by simpa using h1
        clear h1
        go_wp2
        (try simp only [Exit.inBlock, Exit.then])
        refine bodyPost_ret (v := .tuple #[.int .i64 (0), .bool false]) (by simp [results, Tryz.results65, go_sem]) rfl ?_
        exact ⟨by rw [HJ.out]; rfl, BEL.out⟩
      have f0 : (pu == t.un) = true := by simp [h1]
      have g0 : (pu != t.un) = false := by simp [h1]
      by_cases h2 : pe = t.ev
      case neg =>
        have HJ : Hid (joinB ⟨pu, pk, pa, pc, pe, tg⟩ t = false) := Lib.hid (joinB_no (fun h => h2 h.2.1))
        have f1 : (pe == t.ev) = false := beq_false_of_ne h2
        have g1 : (pe != t.ev) = true := by simpa using h2
        clear h1 h2
        go_wp2
        (try simp only [Exit.inBlock, Exit.then])
        refine bodyPost_ret (v := .tuple #[.int .i64 (0), .bool false]) (by simp [results, Tryz.results65, go_sem]) rfl ?_
        exact ⟨by rw [HJ.out]; rfl, BEL.out⟩
      have f1 : (pe == t.ev) = true := by simp [h2]
      have g1 : (pe != t.ev) = false := by simp [h2]
      by_cases h3 : pk = t.ki
      case neg =>
        have HJ : Hid (joinB ⟨pu, pk, pa, pc, pe, tg⟩ t = false) := Lib.hid (joinB_no (fun h => h3 h.2.2.1))
        have f2 : (pk == t.ki) = false := beq_false_of_ne h3
        have g2 : (pk != t.ki) = true := by simpa using h3
        clear h1 h2 h3
        go_wp2
        (try simp only [Exit.inBlock, Exit.then])
        refine bodyPost_ret (v := .tuple #[.int .i64 (0), .bool false]) (by simp [results, Tryz.results65, go_sem]) rfl ?_
        exact ⟨by rw [HJ.out]; rfl, BEL.out⟩
      have f2 : (pk == t.ki) = true := by simp [h3]
      have g2 : (pk != t.ki) = false := by simp [h3]
      by_cases h4 : t.ad - 8 > pa + pc
      case pos =>
        have HJ : Hid (joinB ⟨pu, pk, pa, pc, pe, tg⟩ t = false) := Lib.hid (joinB_no (fun h => by have := h.2.2.2.1; omega))
        clear h1 h2 h3
        go_wp2
        (try simp only [Exit.inBlock, Exit.then])
        refine bodyPost_ret (v := .tuple #[.int .i64 (0), .bool false]) (by simp [results, Tryz.results65, go_sem]) rfl ?_
        exact ⟨by rw [HJ.out]; rfl, BEL.out⟩
      by_cases h5 : t.ad + wd - pa > 125
      case pos =>
        have HJ : Hid (joinB ⟨pu, pk, pa, pc, pe, tg⟩ t = false) := Lib.hid (joinB_no (fun h => by have := h.2.2.2.2; rw [HC.out, HM.out] at this; omega))
        clear h1 h2 h3
        go_wp2
        (try simp only [Exit.inBlock, Exit.then])
        refine bodyPost_ret (v := .tuple #[.int .i64 (0), .bool false]) (by simp [results, Tryz.results65, go_sem]) rfl ?_
        exact ⟨by rw [HJ.out]; rfl, BEL.out⟩
      have HJ : Hid (joinB ⟨pu, pk, pa, pc, pe, tg⟩ t = true) := Lib.hid ((joinB_iff pu pk pa pc pe tg t).2 ⟨h1, h2, h3, by omega, by rw [HC.out, HM.out]; omega⟩)
      clear h1 h2 h3
      go_wp2
      (try simp only [Exit.inBlock, Exit.then])
      refine bodyPost_ret (v := .tuple #[.int .i64 (t.ad + wd - pa), .bool true]) (by simp [results, Tryz.results65, go_sem]) rfl ?_
      exact ⟨by rw [HJ.out, HC.out]; rfl, BEL.out⟩
end Go.Proofs.YtcmbdhmhkfhjfaaGreat
namespace Go.Proofs.YtcmbdhmhkfhjfaaGreat
open Go.RowKit
set_option linter.unusedVariables false

theorem nearest_pos (a b : Int) (h0 : 0 ≤ a) (ha : a ≤ 4294967295000000) (hb : 1 ≤ b) (hb2 : b ≤ 1000000) (w : World) : Calls Tryz.prog 85 #[.int .i64 a, .int .i64 b] w fun e w' => e = .returned (.int .i64 (near a b)) ∧ w' = w := by
  have hn : Hid (near a b = (2 * a + b) / (2 * b)) := Lib.hid (by unfold near; rw [if_neg (by omega)])
  have hq : Hid ((2 * a + b).tdiv (2 * b) = (2 * a + b) / (2 * b)) := Lib.hid (Int.tdiv_eq_ediv_of_nonneg (by omega))
  have hlt : ¬ a < 0 := by omega
  go_enter Tryz.func85, Tryz.ntmps85
  go_wp2
  go_ret
  exact ⟨by rw [hn.out]; rfl, rfl⟩
theorem nearest_any (a b : Int) (ha : -4294967295000000 ≤ a ∧ a ≤ 4294967295000000) (hb : 1 ≤ b) (hb2 : b ≤ 1000000) (w : World) : Calls Tryz.prog 85 #[.int .i64 a, .int .i64 b] w fun e w' => e = .returned (.int .i64 (near a b)) ∧ w' = w := by
  by_cases hlt : a < 0
  · have hn : Hid (near a b = -near (-a) b) := Lib.hid (by rw [near_neg a b (by omega), Int.neg_neg])
    have hbd := near_bound (a := -a) (b := b) (by omega) (by omega)
    go_enter Tryz.func85, Tryz.ntmps85
    go_wp2_with (go_at_call 85; refine (nearest_pos (-a) b (by omega) (by omega) hb hb2 _).mono ?_; rintro e w' ⟨rfl, rfl⟩)
    go_ret
    exact ⟨by rw [hn.out]; rfl, rfl⟩
  · exact nearest_pos a b (by omega) ha.2 hb hb2 w
theorem refNearest_any (a b : Int) (ha : -4294967295000000 ≤ a ∧ a ≤ 4294967295000000) (hb : 1 ≤ b) (hb2 : b ≤ 1000000) (w : World) : Calls Tryz.prog 97 #[.int .i64 a, .int .i64 b] w fun e w' => e = .returned (.int .i64 (near a b)) ∧ w' = w := by
  have hn := Lib.hid (near_ref a b (by omega))
  have hr1 := Int.tmod_lt_of_pos a (by omega : 0 < b)
  have hr2 : -b < a.tmod b := by
    have := Int.tmod_lt_of_pos (-a) (by omega : 0 < b)
    rw [Int.neg_tmod] at this; omega
  have hq : -4294967295000000 ≤ a.tdiv b ∧ a.tdiv b ≤ 4294967295000000 := by
    have h1 := Int.natAbs_tdiv_le_natAbs a b
    omega
  obtain ⟨q, hqq⟩ : ∃ q, Hid (a.tdiv b = q) := ⟨_, Lib.hid rfl⟩
  obtain ⟨r, hrr⟩ : ∃ r, Hid (a.tmod b = r) := ⟨_, Lib.hid rfl⟩
  have eq1 := hqq.out
  have er1 := hrr.out
  rw [hqq.out] at hq
  rw [hrr.out] at hr1 hr2
  have hn2 : Hid (near a b = if b ≤ 2 * r then q + 1 else if 2 * r ≤ -b then q - 1 else q) := Lib.hid (by rw [hn.out, hqq.out, hrr.out])
  clear hn
  by_cases h1 : b ≤ 2 * r
  · have hn3 : Hid (near a b = q + 1) := Lib.hid (by rw [hn2.out, if_pos h1])
    go_enter Tryz.func97, Tryz.ntmps97
    go_wp2
    go_ret
    exact ⟨by rw [hn3.out]; rfl, rfl⟩
  by_cases h2 : 2 * r ≤ -b
  · have hn3 : Hid (near a b = q - 1) := Lib.hid (by rw [hn2.out, if_neg h1, if_pos h2])
    go_enter Tryz.func97, Tryz.ntmps97
    go_wp2
    go_ret
    exact ⟨by rw [hn3.out]; rfl, rfl⟩
  · have hn3 : Hid (near a b = q) := Lib.hid (by rw [hn2.out, if_neg h1, if_neg h2])
    go_enter Tryz.func97, Tryz.ntmps97
    go_wp2
    go_ret
    exact ⟨by rw [hn3.out]; rfl, rfl⟩
theorem refNearest_q {a b q : Int} (ha : -4294967295000000 ≤ a ∧ a ≤ 4294967295000000) (hb : 1 ≤ b ∧ b ≤ 1000000) (hq : Hid (near a b = q)) (w : World) : Calls Tryz.prog 97 #[.int .i64 a, .int .i64 b] w fun e w' => e = .returned (.int .i64 q) ∧ w' = w := by
  rw [← hq.out]; exact refNearest_any a b ha hb.1 hb.2 w

set_option maxHeartbeats 1000000 in
theorem Value_any (wd sg sw : Bool) (mu di ad : Int) (n : Int) (w : World) : Calls Tryz.prog 55 #[.agg #[.bool wd, .bool sg, .bool sw, .int .i64 mu, .int .i64 di, .int .i64 ad], .int .i64 n] w fun e w' => e = .returned (.tuple #[.int .i64 (valN (⟨wd, sg, sw, mu, di, ad⟩ : Sc) n), .int .i64 (valE (⟨wd, sg, sw, mu, di, ad⟩ : Sc) n)]) ∧ Below w.heap.size w w' := by
  have bx0 := Bx.new w (.cells #[.bool wd, .bool sg, .bool sw, .int .i64 mu, .int .i64 di, .int .i64 ad] 45)
  by_cases hok : Sc.Ok (⟨wd, sg, sw, mu, di, ad⟩ : Sc)
  · have HC := Lib.hid (chkS_yes hok)
    obtain ⟨g0, g1, g2, g3, g4⟩ := hok
    simp only at g0 g1 g2 g3
    by_cases hin : -2147483648 ≤ n ∧ n ≤ 4294967295
    · have HE : Hid (valE (⟨wd, sg, sw, mu, di, ad⟩ : Sc) n = 0) := Lib.hid (by unfold valE; rw [if_pos ⟨g0, g1, g2, g3, g4⟩, if_pos hin])
      have HV : Hid (valN (⟨wd, sg, sw, mu, di, ad⟩ : Sc) n = cut (near (n * mu) di + ad)) := Lib.hid (by unfold valN; rw [if_pos HE.out])
      have HB : Hid (liesB n (-2147483648) 4294967295 = true) := Lib.hid (decide_eq_true hin)
      have pb := prod_bound hin g1
      obtain ⟨p, hp⟩ : ∃ p, Hid (n * mu = p) := ⟨_, Lib.hid rfl⟩
      rw [hp.out] at pb HV
      have ep := hp.out
      have nb := near_bound (a := p) (b := di) (by omega) pb
      have hw1 : IntKind.i64.wrap (n * mu) = p := by rw [ep]; exact IntWalk.i64_in _ (by omega)
      clear g0
      go_enter Tryz.func55, Tryz.ntmps55
      go_wp2_with fail
      refine (Check6_any wd sg sw mu di ad _).mono ?_
      rintro e w1 ⟨rfl, b1⟩
      rw [HC.out]
      have bx1 := bx0.below b1
      obtain ⟨d0, d1, d2, d3, d4, d5⟩ := bx1.six
      have bel1 := bx1.2
      go_wp2_with fail
      refine (lies_at (by omega) HB _).mono ?_
      rintro e w2 ⟨rfl, rfl⟩
      go_wp2
      go_quiet ((go_at_call 85; refine Calls.quiet_of_same (nearest_any p di pb (by omega) (by omega) _)))
      go_wp2_with fail
      refine (bring_any _ _ _ _).mono ?_
      rintro e w3 ⟨rfl, rfl⟩
      go_wp2
      go_ret2
      exact ⟨by rw [HV.out, HE.out]; rfl, below_drewN bel1 _⟩
    · have HE : Hid (valE (⟨wd, sg, sw, mu, di, ad⟩ : Sc) n = 3) := Lib.hid (by unfold valE; rw [if_pos ⟨g0, g1, g2, g3, g4⟩, if_neg hin])
      have HV : Hid (valN (⟨wd, sg, sw, mu, di, ad⟩ : Sc) n = 0) := Lib.hid (by unfold valN; rw [if_neg (by rw [HE.out]; omega)])
      have HB : Hid (liesB n (-2147483648) 4294967295 = false) := Lib.hid (decide_eq_false hin)
      clear hin
      go_enter Tryz.func55, Tryz.ntmps55
      go_wp2_with fail
      refine (Check6_any wd sg sw mu di ad _).mono ?_
      rintro e w1 ⟨rfl, b1⟩
      rw [HC.out]
      have bx1 := bx0.below b1
      have bel1 := bx1.2
      go_wp2_with fail
      refine (lies_at (by omega) HB _).mono ?_
      rintro e w2 ⟨rfl, rfl⟩
      go_wp2
      go_ret2
      exact ⟨by rw [HV.out, HE.out]; rfl, bel1⟩
  · have HC := Lib.hid (chkS_no hok)
    have HE : Hid (valE (⟨wd, sg, sw, mu, di, ad⟩ : Sc) n = 25) := Lib.hid (by unfold valE; rw [if_neg hok])
    have HV : Hid (valN (⟨wd, sg, sw, mu, di, ad⟩ : Sc) n = 0) := Lib.hid (by unfold valN; rw [if_neg (by rw [HE.out]; omega)])
    clear hok
    go_enter Tryz.func55, Tryz.ntmps55
    go_wp2_with fail
    refine (Check6_any wd sg sw mu di ad _).mono ?_
    rintro e w1 ⟨rfl, b1⟩
    rw [HC.out]
    have bel1 := (bx0.below b1).2
    go_wp2
    go_ret2
    exact ⟨by rw [HV.out, HE.out]; rfl, bel1⟩

set_option maxHeartbeats 1000000 in
theorem refValue_any (wd sg sw : Bool) (mu di ad : Int) (n : Int) (w : World) : Calls Tryz.prog 63 #[.agg #[.bool wd, .bool sg, .bool sw, .int .i64 mu, .int .i64 di, .int .i64 ad], .int .i64 n] w fun e w' => e = .returned (.tuple #[.int .i64 (valN (⟨wd, sg, sw, mu, di, ad⟩ : Sc) n), .int .i64 (valE (⟨wd, sg, sw, mu, di, ad⟩ : Sc) n)]) ∧ Below w.heap.size w w' := by
  have bx0 := Bx.new w (.cells #[.bool wd, .bool sg, .bool sw, .int .i64 mu, .int .i64 di, .int .i64 ad] 45)
  by_cases hok : Sc.Ok (⟨wd, sg, sw, mu, di, ad⟩ : Sc)
  · have HC := Lib.hid (chkS_yes hok)
    obtain ⟨g0, g1, g2, g3, g4⟩ := hok
    simp only at g0 g1 g2 g3
    by_cases hlo : n < -2147483648
    · have HE : Hid (valE (⟨wd, sg, sw, mu, di, ad⟩ : Sc) n = 3) := Lib.hid (by unfold valE; rw [if_pos ⟨g0, g1, g2, g3, g4⟩, if_neg (by omega)])
      have HV : Hid (valN (⟨wd, sg, sw, mu, di, ad⟩ : Sc) n = 0) := Lib.hid (by unfold valN; rw [if_neg (by rw [HE.out]; omega)])
      go_enter Tryz.func63, Tryz.ntmps63
      go_wp2_with fail
      refine (refCheck6_any wd sg sw mu di ad _).mono ?_
      rintro e w1 ⟨rfl, b1⟩
      rw [HC.out]
      have bel1 := (bx0.below b1).2
      go_wp2
      go_ret2
      exact ⟨by rw [HV.out, HE.out]; rfl, bel1⟩
    by_cases hhi : 4294967295 < n
    · have HE : Hid (valE (⟨wd, sg, sw, mu, di, ad⟩ : Sc) n = 3) := Lib.hid (by unfold valE; rw [if_pos ⟨g0, g1, g2, g3, g4⟩, if_neg (by omega)])
      have HV : Hid (valN (⟨wd, sg, sw, mu, di, ad⟩ : Sc) n = 0) := Lib.hid (by unfold valN; rw [if_neg (by rw [HE.out]; omega)])
      go_enter Tryz.func63, Tryz.ntmps63
      go_wp2_with fail
      refine (refCheck6_any wd sg sw mu di ad _).mono ?_
      rintro e w1 ⟨rfl, b1⟩
      rw [HC.out]
      have bel1 := (bx0.below b1).2
      go_wp2
      go_ret2
      exact ⟨by rw [HV.out, HE.out]; rfl, bel1⟩
    have hin : -2147483648 ≤ n ∧ n ≤ 4294967295 := ⟨by omega, by omega⟩
    have HE : Hid (valE (⟨wd, sg, sw, mu, di, ad⟩ : Sc) n = 0) := Lib.hid (by unfold valE; rw [if_pos ⟨g0, g1, g2, g3, g4⟩, if_pos hin])
    have HV : Hid (valN (⟨wd, sg, sw, mu, di, ad⟩ : Sc) n = cut (near (n * mu) di + ad)) := Lib.hid (by unfold valN; rw [if_pos HE.out])
    have pb := prod_bound hin g1
    obtain ⟨p, hp⟩ : ∃ p, Hid (n * mu = p) := ⟨_, Lib.hid rfl⟩
    rw [hp.out] at pb HV
    have ep := hp.out
    have nb := near_bound (a := p) (b := di) (by omega) pb
    have hw1 : IntKind.i64.wrap (n * mu) = p := by rw [ep]; exact IntWalk.i64_in _ (by omega)
    obtain ⟨q, hq⟩ : ∃ q, Hid (near p di = q) := ⟨_, Lib.hid rfl⟩
    rw [hq.out] at nb HV
    clear g0 hp
    have common : ∀ z : Int, cut (q + ad) = z → Hid (valN (⟨wd, sg, sw, mu, di, ad⟩ : Sc) n = z) := fun z h => Lib.hid (HV.out.trans h)
    by_cases c1 : q + ad < -1099511627776
    · have HZ := common (-1099511627776) (by unfold cut; omega)
      clear common HV
      go_enter Tryz.func63, Tryz.ntmps63
      go_wp2_with fail
      refine (refCheck6_any wd sg sw mu di ad _).mono ?_
      rintro e w1 ⟨rfl, b1⟩
      rw [HC.out]
      have bx1 := bx0.below b1
      obtain ⟨d0, d1, d2, d3, d4, d5⟩ := bx1.six
      have bel1 := bx1.2
      go_wp2_with fail
      go_quiet ((go_at_call 97; refine Calls.quiet_of_same (refNearest_q pb g2 hq _)))
      go_wp2
      go_ret2
      exact ⟨by rw [HZ.out, HE.out]; rfl, below_drewN bel1 _⟩
    by_cases c2 : 1099511627776 < q + ad
    · have HZ := common 1099511627776 (by unfold cut; omega)
      clear common HV
      go_enter Tryz.func63, Tryz.ntmps63
      go_wp2_with fail
      refine (refCheck6_any wd sg sw mu di ad _).mono ?_
      rintro e w1 ⟨rfl, b1⟩
      rw [HC.out]
      have bx1 := bx0.below b1
      obtain ⟨d0, d1, d2, d3, d4, d5⟩ := bx1.six
      have bel1 := bx1.2
      go_wp2_with fail
      go_quiet ((go_at_call 97; refine Calls.quiet_of_same (refNearest_q pb g2 hq _)))
      go_wp2
      go_ret2
      exact ⟨by rw [HZ.out, HE.out]; rfl, below_drewN bel1 _⟩
    · have HZ := common (q + ad) (by unfold cut; omega)
      clear common HV
      go_enter Tryz.func63, Tryz.ntmps63
      go_wp2_with fail
      refine (refCheck6_any wd sg sw mu di ad _).mono ?_
      rintro e w1 ⟨rfl, b1⟩
      rw [HC.out]
      have bx1 := bx0.below b1
      obtain ⟨d0, d1, d2, d3, d4, d5⟩ := bx1.six
      have bel1 := bx1.2
      go_wp2_with fail
      go_quiet ((go_at_call 97; refine Calls.quiet_of_same (refNearest_q pb g2 hq _)))
      go_wp2
      go_ret2
      exact ⟨by rw [HZ.out, HE.out]; rfl, below_drewN bel1 _⟩
  · have HC := Lib.hid (chkS_no hok)
    have HE : Hid (valE (⟨wd, sg, sw, mu, di, ad⟩ : Sc) n = 25) := Lib.hid (by unfold valE; rw [if_neg hok])
    have HV : Hid (valN (⟨wd, sg, sw, mu, di, ad⟩ : Sc) n = 0) := Lib.hid (by unfold valN; rw [if_neg (by rw [HE.out]; omega)])
    clear hok
    go_enter Tryz.func63, Tryz.ntmps63
    go_wp2_with fail
    refine (refCheck6_any wd sg sw mu di ad _).mono ?_
    rintro e w1 ⟨rfl, b1⟩
    rw [HC.out]
    have bel1 := (bx0.below b1).2
    go_wp2
    go_ret2
    exact ⟨by rw [HV.out, HE.out]; rfl, bel1⟩
end Go.Proofs.YtcmbdhmhkfhjfaaGreat
namespace Go.Proofs.YtcmbdhmhkfhjfaaGreat
open Go.RowKit
set_option linter.unusedVariables false

theorem count_any (wd sg sw : Bool) (mu di ad : Int) (w : World) : Calls Tryz.prog 80 #[.agg #[.bool wd, .bool sg, .bool sw, .int .i64 mu, .int .i64 di, .int .i64 ad]] w fun e w' => e = .returned (.int .i64 (cntS (⟨wd, sg, sw, mu, di, ad⟩ : Sc) : Nat)) ∧ Below w.heap.size w w' := by
  have bel := bel_alloc w (.cells #[.bool wd, .bool sg, .bool sw, .int .i64 mu, .int .i64 di, .int .i64 ad] 45)
  cases wd
  all_goals
    go_enter Tryz.func80, Tryz.ntmps80
    go_wp2
    go_ret
    exact ⟨rfl, bel⟩
theorem span_any (wd sg sw : Bool) (mu di ad : Int) (w : World) : Calls Tryz.prog 83 #[.agg #[.bool wd, .bool sg, .bool sw, .int .i64 mu, .int .i64 di, .int .i64 ad]] w fun e w' => e = .returned (.int .i64 (many6 (⟨wd, sg, sw, mu, di, ad⟩ : Sc))) ∧ Below w.heap.size w w' := by
  have bx := Bx.new w (.cells #[.bool wd, .bool sg, .bool sw, .int .i64 mu, .int .i64 di, .int .i64 ad] 45)
  cases wd
  all_goals
    go_enter Tryz.func83, Tryz.ntmps83
    go_wp2_with fail
    refine (count_any _ _ _ _ _ _ _).mono ?_
    rintro e w1 ⟨rfl, b1⟩
    have bel := (bx.below b1).2
    simp only [cntS, if_true, Bool.false_eq_true, if_false]
    go_wp2
    go_ret
    exact ⟨rfl, bel⟩
theorem lowest_any (wd sg sw : Bool) (mu di ad : Int) (w : World) : Calls Tryz.prog 111 #[.agg #[.bool wd, .bool sg, .bool sw, .int .i64 mu, .int .i64 di, .int .i64 ad]] w fun e w' => e = .returned (.int .i64 (lowS (⟨wd, sg, sw, mu, di, ad⟩ : Sc))) ∧ Below w.heap.size w w' := by
  have bx := Bx.new w (.cells #[.bool wd, .bool sg, .bool sw, .int .i64 mu, .int .i64 di, .int .i64 ad] 45)
  cases sg
  · have bel := bx.2
    go_enter Tryz.func111, Tryz.ntmps111
    go_wp2
    go_ret
    exact ⟨rfl, bel⟩
  · cases wd
    all_goals
      go_enter Tryz.func111, Tryz.ntmps111
      go_wp2_with fail
      refine (span_any _ _ _ _ _ _ _).mono ?_
      rintro e w1 ⟨rfl, b1⟩
      have bel := (bx.below b1).2
      simp only [many6, if_true, Bool.false_eq_true, if_false]
      go_wp2
      go_ret
      exact ⟨rfl, bel⟩
theorem low_bound (wd sg sw : Bool) (mu di ad : Int) : -2147483648 ≤ lowS (⟨wd, sg, sw, mu, di, ad⟩ : Sc) ∧ lowS (⟨wd, sg, sw, mu, di, ad⟩ : Sc) ≤ 0 ∧ 65536 ≤ many6 (⟨wd, sg, sw, mu, di, ad⟩ : Sc) ∧ many6 (⟨wd, sg, sw, mu, di, ad⟩ : Sc) ≤ 4294967296 ∧ -lowS (⟨wd, sg, sw, mu, di, ad⟩ : Sc) ≤ many6 (⟨wd, sg, sw, mu, di, ad⟩ : Sc) := by
  cases wd <;> cases sg <;> simp [lowS, many6]
set_option maxHeartbeats 1000000 in
theorem highest_any (wd sg sw : Bool) (mu di ad : Int) (w : World) : Calls Tryz.prog 82 #[.agg #[.bool wd, .bool sg, .bool sw, .int .i64 mu, .int .i64 di, .int .i64 ad]] w fun e w' => e = .returned (.int .i64 (lowS (⟨wd, sg, sw, mu, di, ad⟩ : Sc) + many6 (⟨wd, sg, sw, mu, di, ad⟩ : Sc) - 1)) ∧ Below w.heap.size w w' := by
  have hx0 := Bx.new w (.cells #[.bool wd, .bool sg, .bool sw, .int .i64 mu, .int .i64 di, .int .i64 ad] 45)
  have hb := low_bound wd sg sw mu di ad
  obtain ⟨l, hl⟩ : ∃ l, Hid (lowS (⟨wd, sg, sw, mu, di, ad⟩ : Sc) = l) := ⟨_, Lib.hid rfl⟩
  obtain ⟨m, hm⟩ : ∃ m, Hid (many6 (⟨wd, sg, sw, mu, di, ad⟩ : Sc) = m) := ⟨_, Lib.hid rfl⟩
  rw [hl.out, hm.out] at hb ⊢
  have e1 : IntKind.i64.wrap (l + m) = l + m := IntWalk.i64_in _ (by omega)
  have e2 : IntKind.i64.wrap (l + m - 1) = l + m - 1 := IntWalk.i64_in _ (by omega)
  go_enter Tryz.func82, Tryz.ntmps82
  go_wp2_with fail
  go_region_held3 (fun w' => Bx w w.heap.size (.cells #[.bool wd, .bool sg, .bool sw, .int .i64 mu, .int .i64 di, .int .i64 ad] 45 (0, 0)) w' ∧ w'.cell? ⟨w.heap.size, 0, none⟩ = some (.bool wd) ∧ w'.cell? ⟨w.heap.size, 1, none⟩ = some (.bool sg) ∧ w'.cell? ⟨w.heap.size, 2, none⟩ = some (.bool sw) ∧ w'.cell? ⟨w.heap.size, 3, none⟩ = some (.int .i64 mu) ∧ w'.cell? ⟨w.heap.size, 4, none⟩ = some (.int .i64 di) ∧ w'.cell? ⟨w.heap.size, 5, none⟩ = some (.int .i64 ad))
    (with_reducible first
      | exact ⟨hx0.drew, hx0.drew.six⟩
      | exact ⟨h9, h9.six⟩
      | exact ⟨h10, h10.six⟩)
    (first
      | (go_at_call 111; refine (lowest_any wd sg sw mu di ad _).mono ?_; rintro e w1 ⟨rfl, b1⟩; rw [hl.out]; have h9 := hx0.drew.below b1)
      | (go_at_call 83; refine (span_any wd sg sw mu di ad _).mono ?_; rintro e w2 ⟨rfl, b2⟩; rw [hm.out]; have h10 := h9.below b2))
  have bel := h10.2
  go_wp2
  go_ret
  exact ⟨rfl, bel⟩
def shfS (wd sw : Bool) (k : Nat) : Nat := if sw then 16 * k else if wd then 16 * (1 - k) else 0
theorem shift_any (wd sg sw : Bool) (mu di ad : Int) (k : Nat) (hk : k < cntS (⟨wd, sg, sw, mu, di, ad⟩ : Sc)) (w : World) : Calls Tryz.prog 81 #[.agg #[.bool wd, .bool sg, .bool sw, .int .i64 mu, .int .i64 di, .int .i64 ad], .int .i64 k] w fun e w' => e = .returned (.int .i64 (shfS wd sw k : Nat)) ∧ Below w.heap.size w w' := by
  have bx := Bx.new w (.cells #[.bool wd, .bool sg, .bool sw, .int .i64 mu, .int .i64 di, .int .i64 ad] 45)
  have hk2 : k < 2 := by cases wd <;> simp [cntS] at hk <;> omega
  cases sw
  · have hk1 : wd = false → k = 0 := fun h => by subst h; simp [cntS] at hk; omega
    obtain ⟨c, hc⟩ : ∃ c, Hid (cntS ⟨wd, sg, false, mu, di, ad⟩ = c) := ⟨_, Lib.hid rfl⟩
    have hs : Hid (shfS wd false k = 16 * (c - 1 - k) ∧ k < c ∧ c ≤ 2) := Lib.hid (by rw [← hc.out]; cases wd <;> simp [shfS, cntS, hk1] <;> omega)
    clear hk hk1
    have h1 := hs.out.2
    go_enter Tryz.func81, Tryz.ntmps81
    go_wp2_with fail
    refine (count_any _ _ _ _ _ _ _).mono ?_
    rintro e w1 ⟨rfl, b1⟩
    rw [hc.out]
    have bel := (bx.below b1).2
    go_wp2
    go_ret
    refine ⟨?_, bel⟩
    rw [hs.out.1]
    show Ending.returned (Value.int .i64 _) = Ending.returned (Value.int .i64 _)
    congr 2
    omega
  · have hs : Hid (shfS wd true k = 16 * k) := Lib.hid (if_pos rfl)
    have bel := bx.2
    clear hk
    go_enter Tryz.func81, Tryz.ntmps81
    go_wp2
    go_ret
    refine ⟨?_, bel⟩
    rw [hs.out]
    rfl
end Go.Proofs.YtcmbdhmhkfhjfaaGreat
