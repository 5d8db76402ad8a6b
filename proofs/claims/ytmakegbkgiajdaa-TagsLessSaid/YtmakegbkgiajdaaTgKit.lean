/-
  Lists of tags: SameTags, LentTags, KeptTags.
-/
import Derived.Test.YtmakegbkgiajdaaTgAll
import Derived.Laws.MakeOwn
namespace Go.Proofs.Ytmakegbkgiajdaa
open Go.RowKit
set_option linter.unusedVariables false

theorem run_neq_tag (t : Tg) (w : World) : (binOp .neq 29 (tgV t) (tgV t)).run Try.prog w = .ok (.bool false) w := by
  obtain ⟨nm, un, ki, ad, ev, we, sg, sw, mu, di, aa, de, qu, ul, uh, la, lo, hi, hy⟩ := t
  unfold tgV tgC
  simp [go_sem]
theorem run_eqGuard_tag (op : BinOp) (x y : Operand) (a b : Tg) (w : World) : (eqGuard op 29 x y (tgV a) (tgV b)).run Try.prog w = .ok () w :=
  run_eqGuard_agg w op _ x y _ _ (by kernel_rfl)
/-- A tag is stored in one step. -/
def stTag (v u : Value) : Sem Unit := Instr.storeAt 29 v u
theorem stTag_fold (v u : Value) : Instr.storeAt 29 v u = stTag v u := rfl
theorem tgC_one (t : Tg) : ∀ v ∈ tgC t, v.oneCell' = true := by
  obtain ⟨nm, un, ki, ad, ev, we, sg, sw, mu, di, aa, de, qu, ul, uh, la, lo, hi, hy⟩ := t
  intro v hv
  simp only [tgC, List.mem_cons, List.not_mem_nil, or_false] at hv
  rcases hv with rfl | rfl | rfl | rfl | rfl | rfl | rfl | rfl | rfl | rfl | rfl | rfl | rfl | rfl | rfl | rfl | rfl | rfl | rfl <;> rfl
theorem stTag_run {w : World} {b o : Nat} (t : Tg) (ht : w.there b o 19) : (stTag (.pointer (some ⟨b, o, none⟩)) (tgV t)).run Try.prog w = .ok () (w.setCells b o (tgC t)) :=
  run_storeAt_mid w b o _ (tgC t).toArray ht size_tag (all_oneCell_toArray (tgC_one t))
attribute [local go_sem ↓] ldTag_fold stTag_fold
attribute [local go_sem] run_neq_tag run_eqGuard_tag

theorem setL_after (arr : Array Value) (p : Nat) (vs : List Value) (i : Nat) (h : p + vs.length ≤ i) : (setL arr p vs)[i]? = arr[i]? := by
  induction vs generalizing arr p with
  | nil => rfl
  | cons v vs ih =>
    rw [List.length_cons] at h
    rw [setL, ih _ _ (by omega), Array.getElem?_setIfInBounds_ne (by omega)]
/-- One tag of a row of tags is another one. -/
theorem set_flat (L1 L2 : List Tg) (z t : Tg) (k : Nat) (hk : L1.length = k) : setL (flatV tgC (L1 ++ z :: L2)).toArray (k * 19) (tgC t) = (flatV tgC (L1 ++ t :: L2)).toArray := by
  have e1 : (flatV tgC L1).length = k * 19 := by rw [flatV_len tgC_len, hk]
  have key : ∀ u : Tg, ∀ i, ((flatV tgC (L1 ++ u :: L2)).toArray)[i]? = if i < k * 19 then (flatV tgC L1)[i]? else if i < k * 19 + 19 then (tgC u)[i - k * 19]? else (flatV tgC L2)[i - k * 19 - 19]? := by
    intro u i
    rw [List.getElem?_toArray, flatV_append, flatV_cons]
    by_cases h1 : i < k * 19
    · rw [if_pos h1, List.getElem?_append_left (by omega)]
    · rw [if_neg h1, List.getElem?_append_right (by omega), e1]
      by_cases h2 : i < k * 19 + 19
      · rw [if_pos h2, List.getElem?_append_left (by rw [tgC_len]; omega)]
      · rw [if_neg h2, List.getElem?_append_right (by rw [tgC_len]; omega), tgC_len]
  apply Array.ext_getElem?
  intro i
  by_cases h1 : i < k * 19
  · rw [setL_get _ _ _ _ h1, key z, key t, if_pos h1, if_pos h1]
  · by_cases h2 : i < k * 19 + 19
    · obtain ⟨j, rfl⟩ : ∃ j, i = k * 19 + j := ⟨i - k * 19, by omega⟩
      have hj : j < (tgC t).length := by rw [tgC_len]; omega
      have hsz : (flatV tgC (L1 ++ z :: L2)).toArray.size = k * 19 + (19 + (flatV tgC L2).length) := by
        rw [List.size_toArray, flatV_append, flatV_cons, List.length_append, List.length_append, e1, tgC_len]
      rw [setL_at _ _ _ j (tgC t)[j] (List.getElem?_eq_getElem hj) (by rw [hsz]; omega), key t, if_neg h1, if_pos h2, show k * 19 + j - k * 19 = j by omega, List.getElem?_eq_getElem hj]
    · rw [setL_after _ _ _ _ (by rw [tgC_len]; omega), key z, key t, if_neg h1, if_neg h1, if_neg h2, if_neg h2]
theorem setCells_alloc (w : World) (t : TypeId) (arr : Array Value) (p : Nat) (vs : List Value) : (w.alloc (.cells arr t)).setCells w.heap.size p vs = w.alloc (.cells (setL arr p vs) t) := by
  induction vs generalizing arr p with
  | nil => rfl
  | cons v vs ih =>
    rw [World.setCells, setL, ← ih]
    congr 1
    simp [go_sem]
theorem there_alloc_size (w : World) (t : TypeId) (arr : Array Value) (p n : Nat) (h : p + n ≤ arr.size) : (w.alloc (.cells arr t)).there w.heap.size p n := fun j hj => by
  refine ⟨?_, block_frozen _ _ _ _ _ (heap_alloc_new w _)⟩
  rw [cell_of_row _ _ _ _ _ _ (heap_alloc_new w _), Array.getElem?_eq_getElem (by omega)]
  rfl
/-- A tag of a list in memory, in every world that has drawn. -/
theorem VRow.loads {w : World} {B : Nat} {A : Option Addr} {l : List Tg} (h : VRow w B A (flatV tgC l)) {i : Nat} (hi : i < l.length) :
    ∃ b o, A = some ⟨b, o, none⟩ ∧ b < B ∧ (ldTag (.pointer (some ⟨b, o + i * 19, none⟩))).run Try.prog w = .ok (tgV l[i]) w ∧ ∀ m, (ldTag (.pointer (some ⟨b, o + i * 19, none⟩))).run Try.prog (w.drewN m) = .ok (tgV l[i]) (w.drewN m) := by
  obtain ⟨b, o, e, hb, hc⟩ := h.elem tgC_len (by omega) hi
  exact ⟨b, o, e, hb, ldTag_run rfl hc, fun m => ldTag_run (w := w.drewN m) rfl hc⟩

theorem same_yes_tg (A A' : Option Addr) (n c c' : Nat) (l : List Tg) (w : World) (B B' : Nat) (hr : VRow w B A (flatV tgC l)) (hr' : VRow w B' A' (flatV tgC l)) (hn : l.length = n) (hb : n ≤ 4611686018427387904) :
    Calls Try.prog 23 #[.slice A n c, .slice A' n c'] w fun e w' => e = .returned (.bool true) ∧ ∃ m, w' = w.drewN m := by
  have hn' := Lib.hid hn
  clear hn
  go_enter Try.func23, Try.ntmps23
  go_wp2
  go_loopw [5] (fun i wr => ∃ k : Nat, k ≤ n ∧ i = .int .i64 k ∧ Hid (∃ m, wr = w.drewN m)) (fun i _ => n - (intOf i).toNat)
  case atStart => exact ⟨0, by omega, rfl, Lib.hid ⟨0, rfl⟩⟩
  case round =>
    obtain ⟨k, hk, rfl, hdr⟩ := hrel
    have hrw : VRow wr B A (flatV tgC l) := by obtain ⟨m, e⟩ := hdr.out; rw [e]; exact hr.drewN m
    have hrw' : VRow wr B' A' (flatV tgC l) := by obtain ⟨m, e⟩ := hdr.out; rw [e]; exact hr'.drewN m
    by_cases hlt : k < n
    · have hkl : k < l.length := by have := hn'.out; omega
      obtain ⟨b, o, rfl, hb1, hc0, hc1⟩ := hrw.loads hkl
      obtain ⟨b', o', rfl, hb1', hc0', hc1'⟩ := hrw'.loads hkl
      clear hrw hrw'
      generalize l[k] = t at *
      have hlt' : (k : Int) < (n : Int) := by omega
      go_wp2
      go_quiet (fail)
      go_wp2
      go_roundw
      case rel => exact ⟨k + 1, by omega, by go_num, Lib.hid (by obtain ⟨m, e⟩ := hdr.out; rw [e]; exact ⟨m + nq, by rw [World.drewN_drewN]⟩)⟩
      case measure => simp [intOf]; omega
    · clear hrw hrw'
      go_wp2
      go_ret
      exact ⟨rfl, hdr.out⟩

def zT : Tg := ⟨⟨#[]⟩, 0, 0, 0, 0, false, false, false, 0, 0, 0, 0, 0, false, false, false, 0, 0, 0⟩
def mkT : Tg := ⟨⟨#[97, 32, 109, 97, 114, 107]⟩, 0, 0, 0, 0, false, false, false, 0, 0, 0, 0, 0, false, false, false, 0, 0, 0⟩
theorem info_tg : (Try.prog.info? 29).map (fun i => (i.zero, i.size, i.bytes)) = some (some (tgV zT), 19, 128) := by kernel_rfl
theorem made_tg (n : Nat) : madeCells (tgV zT).cells (n * 19) = (flatV tgC (List.replicate n zT)).toArray := by
  have hl : (flatV tgC (List.replicate n zT)).length = n * 19 := by rw [flatV_len tgC_len, List.length_replicate]
  have hc : (tgV zT).cells = (tgC zT).toArray := rfl
  apply Array.ext
  · rw [size_madeCells, List.size_toArray, hl]
  · intro i h1 h3
    rw [size_madeCells] at h1
    have h2 := flatV_get tgC_len (List.replicate n zT) (i / 19) (by rw [List.length_replicate]; omega) (i % 19) (Nat.mod_lt _ (by omega))
    rw [show i / 19 * 19 + i % 19 = i by omega, List.getElem_replicate] at h2
    have hm : i % 19 < (tgC zT).length := by rw [tgC_len]; exact Nat.mod_lt _ (by omega)
    have e : (flatV tgC (List.replicate n zT)).toArray[i] = (tgC zT)[i % 19] := by
      rw [List.getElem?_eq_getElem (by rw [hl]; exact h1), List.getElem?_eq_getElem hm] at h2
      exact Option.some.inj h2
    rw [e]
    simp only [madeCells, Array.getElem_map, Array.getElem_range, hc]
    have h19 : (tgC zT).toArray.size = 19 := rfl
    rw [h19, getElem!_pos (tgC zT).toArray (i % 19) (by rw [h19]; exact Nat.mod_lt _ (by omega))]
    rfl
theorem make_tg (n : Nat) (hn : n * 128 ≤ 140737488355328) (W : World) :
    (Instr.makeSlice 35 (.int .i64 (n : Int)) (.int .i64 (n : Int))).run Try.prog W = .ok (.slice (some ⟨W.heap.size, 0, none⟩) n n) (W.alloc (.cells (flatV tgC (List.replicate n zT)).toArray 29)) := by
  obtain ⟨i, hi, hz, hs, hb⟩ := info_parts info_tg
  have h := run_make (P := Try.prog) W 35 29 i (tgV zT) Try.underlying35 hi hz .i64 .i64 n n (by omega) (by omega) (by rw [hb]; omega) (by omega)
  rw [h, hs, Int.toNat_natCast, made_tg]

def marksG : List Tg := [mkT, mkT, mkT, mkT, mkT]
theorem flat_size (L : List Tg) : (flatV tgC L).toArray.size = L.length * 19 := by rw [List.size_toArray, flatV_len tgC_len]
/-- A tag is stored into a block of the call's own. -/
theorem stTag_own (w : World) (C : Array Value) (k : Nat) (t : Tg) (h : k * 19 + 19 ≤ C.size) : (stTag (.pointer (some ⟨w.heap.size, k * 19, none⟩)) (tgV t)).run Try.prog (w.alloc (.cells C 29)) = .ok () (w.alloc (.cells (setL C (k * 19) (tgC t)) 29)) := by
  rw [stTag_run t (there_alloc_size w _ C (k * 19) 19 h), setCells_alloc]
theorem take_tg {α : Type} (l : List α) (k : Nat) (h : k < l.length) : l.take (k + 1) = l.take k ++ [l[k]] := by simp
set_option maxHeartbeats 1000000 in
theorem lent_tg (A : Option Addr) (n c : Nat) (l : List Tg) (w : World) (hr : VRow w w.heap.size A (flatV tgC l)) (hn : l.length = n) (hb : (n + 5) * 128 ≤ 140737488355328) :
    Calls Try.prog 15 #[.slice A n c] w fun e w' => e = .returned (.slice (some ⟨w.heap.size, 0, none⟩) n (n+5)) ∧ w' = w.alloc (.cells (flatV tgC (l ++ marksG)).toArray 29) := by
  have hn' := Lib.hid hn
  clear hn
  have hmk := make_tg (n + 5) hb
  rw [show ((n + 5 : Nat) : Int) = (n : Int) + 5 by omega] at hmk
  go_enter Try.func15, Try.ntmps15
  go_wp2
  go_loopw [4] (fun i wr => ∃ (k : Nat) (C : Array Value), k ≤ n ∧ i = .int .i64 k ∧ Hid (C = (flatV tgC (l.take k ++ List.replicate (n + 5 - k) zT)).toArray) ∧ wr = w.alloc (.cells C 29)) (fun i _ => n - (intOf i).toNat)
  case atStart => exact ⟨0, _, by omega, rfl, Lib.hid (by simp), rfl⟩
  case round =>
    obtain ⟨k, C, hk, rfl, hC, rfl⟩ := hrel
    by_cases hlt : k < n
    · have hkl : k < l.length := by have := hn'.out; omega
      have hlt' : (k : Int) < (n : Int) := by omega
      have hlt5 : (k : Int) < (n : Int) + 5 := by omega
      obtain ⟨b, o, rfl, hb1, hld, _⟩ := (hr.alloc (Nat.le_refl _) (.cells C 29)).loads hkl
      have hsz : k * 19 + 19 ≤ C.size := by rw [hC.out, flat_size, List.length_append, List.length_take, List.length_replicate]; have := hn'.out; omega
      have hst := stTag_own w C k l[k] hsz
      have HT := Lib.hid (take_tg l k hkl)
      clear hsz
      generalize l[k] = t at *
      go_wp2
      go_roundw
      case rel => exact ⟨k + 1, _, by omega, by go_num, Lib.hid (by rw [hC.out, HT.out, show n + 5 - k = (n + 5 - (k + 1)) + 1 by omega, List.replicate_succ, set_flat _ _ _ _ _ (by rw [List.length_take]; have := hn'.out; omega), List.append_assoc]; rfl), rfl⟩
      case measure => simp [intOf]; omega
    · obtain rfl : k = n := by omega
      have hx : l.take k = l := List.take_of_length_le (by have := hn'.out; omega)
      have hC2 : Hid (C = (flatV tgC (l ++ List.replicate 5 zT)).toArray) := Lib.hid (by rw [hC.out, hx, show k + 5 - k = 5 by omega])
      clear hx hlt hk hC
      go_wp2
      go_loopw [5] (fun i wr => ∃ (j : Nat) (C : Array Value), j ≤ 5 ∧ i = .int .i64 (k + j : Nat) ∧ Hid (C = (flatV tgC (l ++ marksG.take j ++ List.replicate (5 - j) zT)).toArray) ∧ wr = w.alloc (.cells C 29)) (fun i _ => k + 5 - (intOf i).toNat)
      case atStart => exact ⟨0, _, by omega, rfl, Lib.hid (by rw [hC2.out]; simp), rfl⟩
      case round =>
        obtain ⟨j, C, hj, rfl, hC, rfl⟩ := hrel
        by_cases hlt : j < 5
        · have hsz : (k + j) * 19 + 19 ≤ C.size := by rw [hC.out, flat_size, List.length_append, List.length_append, List.length_take, List.length_replicate]; have := hn'.out; simp [marksG]; omega
          have hst := stTag_own w C (k + j) mkT hsz
          have HM : Hid (marksG.take (j + 1) = marksG.take j ++ [mkT]) := Lib.hid (by rcases j with _ | _ | _ | _ | _ | j <;> first | rfl | omega)
          have HL : Hid ((l ++ marksG.take j).length = k + j) := Lib.hid (by rw [List.length_append, List.length_take]; have := hn'.out; simp [marksG]; omega)
          clear hsz
          simp only [tgV, tgC, mkT] at hst
          go_wp2
          go_roundw
          case rel => exact ⟨j + 1, _, by omega, by go_num, Lib.hid (by show setL C _ (tgC mkT) = _; rw [hC.out, HM.out, show 5 - j = (5 - (j + 1)) + 1 by omega, List.replicate_succ, set_flat _ _ _ _ _ HL.out]; simp), rfl⟩
          case measure => simp [intOf]; omega
        · obtain rfl : j = 5 := by omega
          go_wp2
          go_ret
          exact ⟨rfl, by rw [hC.out]; simp [marksG]⟩
theorem run_neq_mark (w : World) : (binOp .neq 29 (tgV mkT) (tgV mkT)).run Try.prog w = .ok (.bool false) w := run_neq_tag mkT w
/-- KeptTags, where the list is in memory of its own with its five marks behind it. -/
theorem kept_tg (A : Option Addr) (n c g : Nat) (l : List Tg) (w : World) (B : Nat) (hr : VRow w B A (flatV tgC l)) (hn : l.length = n) (hb : n ≤ 1152921504606846976)
    (hg : w.heap[g]? = some (.cells (flatV tgC (l ++ marksG)).toArray 29 (0, 0))) :
    Calls Try.prog 20 #[.slice (some ⟨g, 0, none⟩) n (n + 5), .slice A n c] w fun e w' => e = .returned (.bool true) ∧ ∃ m, w' = w.drewN m := by
  have hrow : VRow w w.heap.size (some ⟨g, 0, none⟩) (flatV tgC l) := VRow.of_block hg _ (by rw [flatV_append]; exact List.prefix_append _ _)
  have hall : VRow w w.heap.size (some ⟨g, 0, none⟩) (flatV tgC (l ++ marksG)) := VRow.of_block hg _ (List.prefix_refl _)
  have hmark : ∀ j, j < 5 → ∀ m, (ldTag (.pointer (some ⟨g, (n + j) * 19, none⟩))).run Try.prog (w.drewN m) = .ok (tgV mkT) (w.drewN m) := by
    intro j hj m
    have hk : n + j < (l ++ marksG).length := by rw [List.length_append, hn]; simp [marksG]; omega
    obtain ⟨b, o, e, _, _, h⟩ := hall.loads hk
    injection e with e
    injection e with e1 e2
    subst e1 e2
    have he : (l ++ marksG)[n + j] = mkT := by
      rw [List.getElem_append_right (by omega)]
      have : ∀ i (hi : i < marksG.length), marksG[i] = mkT := by
        intro i hi
        rcases i with _ | _ | _ | _ | _ | i <;> first | rfl | exact absurd hi (by simp [marksG])
      exact this _ _
    have := h m
    rw [he, Nat.zero_add] at this
    exact this
  have HM := Lib.hid hmark
  clear hmark hg hall
  go_enter Try.func20, Try.ntmps20
  go_wp2_with (go_at_call 23; refine (same_yes_tg _ _ _ _ _ l _ _ _ hrow hr hn (by omega)).mono ?_; rintro e w' ⟨rfl, m, rfl⟩)
  go_loop [6] (fun i => ∃ j : Nat, j ≤ 5 ∧ i = .int .i64 (n + j : Nat)) (fun i => n + 5 - (intOf i).toNat)
  case atStart => exact ⟨0, by omega, rfl⟩
  case round =>
    obtain ⟨j, hj, rfl⟩ := hrel
    by_cases hlt : j < 5
    · have hc0 := HM.out j hlt m
      have hq0 : ∀ x y, (eqGuard .neq 29 x y (tgV mkT) (tgV mkT)).run Try.prog (w.drewN m) = .ok () (w.drewN m) := fun x y => run_eqGuard_tag _ x y mkT mkT _
      have hq1 := run_neq_mark (w.drewN m)
      simp only [tgV, tgC, mkT] at hq0 hq1 hc0
      go_wp2
      go_round
      case rel => exact ⟨j + 1, by omega, by go_num⟩
      case measure => simp [intOf]; omega
    · go_wp2
      go_ret
      exact ⟨rfl, m, rfl⟩
end Go.Proofs.Ytmakegbkgiajdaa
