/-
  Contracts of Bytes and Words of package pack, and of the document's answers to them.
-/
import Derived.Test.YtaeecoiodkbomaaPkGet
import Derived.Test.YtaeecoiodkbomaaPkWMath
import Derived.Test.YtaeecoiodkbomaaHoldW
import Derived.StillTailTactics
import Derived.IntWalk
import Derived.Deep.RegionHeld3
import Derived.Deep.AppendLies
namespace Go.Proofs.Ytaeecoiodkbomaa
open Go.RowKit
set_option linter.unusedVariables false

theorem zeros_two (k m : Nat) : (List.replicate (2 * (m + 1)) (0 : Int)) = List.replicate 2 0 ++ List.replicate (2 * m) 0 := by
  rw [List.replicate_append_replicate]; congr 1; omega
set_option maxHeartbeats 1000000 in
theorem Bytes_any (A : Option Addr) (n c : Nat) (xs : List Int) (w : World) (hr : Row .u16 w w.heap.size A xs) (hn : xs.length = n) (hb : n ≤ 1000000) :
    Calls Try.prog 30 #[.slice A n c] w (Lays .u8 5 w (wbytes xs) (2 * n)) := by
  have hn' := Lib.hid hn
  clear hn
  have hmk := make_u8 (2 * n) (by omega)
  rw [show ((2 * n : Nat) : Int) = 2 * (n : Int) by omega] at hmk
  have hg0 := Lib.hid (heap_alloc_new w (.cells (blk .u8 (List.replicate (2 * n) 0)) 5))
  have bel0 : Below w.heap.size w (w.alloc (.cells (blk .u8 (List.replicate (2 * n) 0)) 5)) := (Below.refl _ _).alloc (Nat.le_refl _) _
  have hs0 : w.heap.size < (w.alloc (.cells (blk .u8 (List.replicate (2 * n) 0)) 5)).heap.size := by simp
  go_enter Try.func30, Try.ntmps30
  go_wp2
  go_loopw [4, 5, 12] (fun _ _ i wr => ∃ k : Nat, k ≤ n ∧ i = .int .i64 k ∧ Hid (wr.heap[w.heap.size]? = some (.cells (blk .u8 (wbytes (xs.take k) ++ List.replicate (2 * (n - k)) 0)) 5 (0, 0))) ∧ Below w.heap.size w wr ∧ w.heap.size < wr.heap.size) (fun _ _ i _ => n - (intOf i).toNat)
  case atStart => exact ⟨0, by omega, rfl, by simpa [wbytes] using hg0, bel0, hs0⟩
  case round =>
    clear bel0 hs0 hg0 hmk
    obtain ⟨k, hk, rfl, hg, bel, hs⟩ := hrel
    by_cases hlt : k < n
    · obtain ⟨b, o, rfl, hb1, hc1⟩ := (hr.below bel).at_ (i := k) (by have := hn'.out; omega)
      have hwf := wf_u16 (hr.wf_at (i := k) (by have := hn'.out; omega))
      have HT := Lib.hid (take_step xs k (by have := hn'.out; omega))
      have hl : Hid ((wbytes (xs.take k)).length = 2 * k) := Lib.hid (by have := hn'.out; rw [wbytes_length]; simp; omega)
      obtain ⟨j, hj⟩ : ∃ j, Hid (n = k + 1 + j) := ⟨n - (k + 1), Lib.hid (by omega)⟩
      have hz := zeros_two k j
      rw [show 2 * (j + 1) = 2 * (n - k) by have := hj.out; omega, show 2 * j = 2 * (n - (k + 1)) by have := hj.out; omega] at hz
      have hg1 : Hid (wr.heap[w.heap.size]? = some (.cells (blk .u8 (wbytes (xs.take k) ++ (List.replicate 2 0 ++ List.replicate (2 * (n - (k + 1))) 0))) 5 (0, 0))) := by rw [hz] at hg; exact hg
      clear hz hg
      obtain ⟨x, hx⟩ := Int.eq_ofNat_of_zero_le hwf.1
      have HS := Lib.hid (wbytes_snoc (xs.take k) (nth xs k))
      have HX := Lib.hid hx
      rw [hx] at hc1 hwf
      clear hx
      go_wp2_with (go_at_call 40; refine (lay_any w.heap.size (2 * k) _ _ x 2 (wbytes (xs.take k)) (List.replicate 2 0) (List.replicate (2 * (n - (k + 1))) 0) _ hg1.out hl.out rfl (by omega) (by omega) (by omega) (by omega)).mono ?_; rintro e w' ⟨rfl, hg2, hgr, hsz⟩)
      have bel2 : Below w.heap.size w w' := bel.grown hgr (Nat.le_of_lt hs) (fun k e => by injection e; omega)
      have hs2 : w.heap.size < w'.heap.size := by omega
      have hg3 : Hid (w'.heap[w.heap.size]? = some (.cells (blk .u8 (wbytes (xs.take (k + 1)) ++ List.replicate (2 * (n - (k + 1))) 0)) 5 (0, 0))) := Lib.hid (by
        rw [HT.out, HS.out, HX.out, Int.toNat_natCast, List.append_assoc]; exact hg2)
      clear hg2 hgr hsz hg1 bel hc1
      go_wp2
      go_roundw
      case rel => exact ⟨k + 1, by omega, by go_num, hg3, bel2, hs2⟩
      case measure => simp [intOf]; omega
    · obtain rfl : k = n := by omega
      have hx : xs.take k = xs := List.take_of_length_le (by have := hn'.out; omega)
      rw [hx, Nat.sub_self, Nat.mul_zero, List.replicate_zero, List.append_nil] at hg
      clear hx
      go_wp2
      go_ret
      exact ⟨rfl, hg.out, bel⟩

/-- A call returns a pair: no list, and an error. -/
theorem Words_odd (A : Option Addr) (n c : Nat) (w : World) (hb : n ≤ 1000000) (h : n % 2 = 1) :
    Calls Try.prog 33 #[.slice A n c] w (Errs 22 w) := by
  have h1 : ((n : Int) % 2 != 0) = true := by simp; omega
  have h2 : ((n : Int) % 2 == 0) = false := beq_false_of_ne (by omega)
  clear h
  go_enter Try.func33, Try.ntmps33
  go_wp2
  go_ret2
  exact ⟨rfl, rfl⟩
theorem refWords_odd (A : Option Addr) (n c : Nat) (w : World) (hb : n ≤ 1000000) (h : n % 2 = 1) :
    Calls Try.prog 34 #[.slice A n c] w (Errs 22 w) := by
  have h1 : ((n : Int) % 2 == 1) = true := by simp; omega
  clear h
  go_enter Try.func34, Try.ntmps34
  go_wp2
  go_ret2
  exact ⟨rfl, rfl⟩
theorem wrap_word (ys : List Int) (hw : ∀ x ∈ ys, (Lit.int .u8 x).wf = true) (k : Nat) (h : k < ys.length / 2) : IntKind.u16.wrap (word ys k) = word ys k := by
  have := word_bound ys hw k h
  rw [IntKind.wrap_u16, word]; omega
set_option maxHeartbeats 1000000 in
theorem Words_ok (A : Option Addr) (n c m : Nat) (ys : List Int) (w : World) (hr : Row .u8 w w.heap.size A ys) (hn : ys.length = n) (hc : n ≤ c) (hb : n ≤ 1000000) (h : n = 2 * m) :
    Calls Try.prog 33 #[.slice A n c] w fun e w' => e = .returned (.tuple #[.slice (some ⟨w.heap.size, 0, none⟩) m m, .int .i64 0]) ∧ w' = w.alloc (.cells (blk .u16 (wwords ys)) 56) := by
  have hn' := Lib.hid hn
  have h1 : ((n : Int) % 2 != 0) = false := by simp; omega
  have h2 : ((n : Int) % 2 == 0) = true := by simp; omega
  have h3 : (n : Int) / 2 = (m : Int) := by omega
  have hy2 : Hid (ys.length / 2 = m) := Lib.hid (by omega)
  have hm' := Lib.hid h
  have hm2 : m ≤ 500000 := by omega
  clear hn h
  have hmk := W.make_u16 m (by omega)
  go_enter Try.func33, Try.ntmps33
  go_wp2
  clear hmk
  go_loopw [5, 16] (fun _ i wr => ∃ k : Nat, k ≤ m ∧ i = .int .i64 k ∧ wr = w.alloc (.cells (blk .u16 ((wwords ys).take k ++ List.replicate (m - k) 0)) 56)) (fun _ i _ => m - (intOf i).toNat)
  case atStart => exact ⟨0, by omega, rfl, by simp⟩
  case round =>
    obtain ⟨k, hk, rfl, rfl⟩ := hrel
    by_cases hlt : k < m
    · obtain ⟨b, o, rfl, hb1, hc1⟩ := hr.at_ (i := 2 * k) (by have := hn'.out; have := hm'.out; omega)
      have hrd := (hr.drop (2 * k)).alloc (Nat.le_refl _) (.cells (blk .u16 ((wwords ys).take k ++ List.replicate (m - k) 0)) 56)
      have hl : Hid ((ys.drop (2 * k)).length = n - 2 * k) := Lib.hid (by rw [List.length_drop, hn'.out])
      have hwr := Lib.hid (wrap_word ys hr.1 k (by have := hy2.out; omega))
      have hbv := Lib.hid (bval_word ys hr.1 k (by have := hy2.out; omega))
      have hlen : ((wwords ys).take k).length = k := by rw [List.length_take, wwords_length]; have := hy2.out; omega
      have hc2 := fill_cell .u16 ((wwords ys).take k) (m - k) k 0 hlen (by omega)
      have HS := Lib.hid (set_step ((wwords ys).take k) (m - (k + 1)) k 0 (word ys k) hlen)
      have HT := Lib.hid (wwords_take ys k (by have := hy2.out; omega))
      have hk2 : 2 * k < n := by have := hm'.out; omega
      clear hc1 hr hlen
      go_wp2_with (go_at_call 44; refine (number_any _ _ _ 2 (ys.drop (2 * k)) _ _ hrd hl.out (by omega) (by omega) (by omega)).mono ?_; rintro e w' ⟨rfl, rfl⟩; rw [hbv.out])
      go_roundw
      case rel => exact ⟨k + 1, by omega, by go_num, by rw [hwr.out, blk_set, show m - k = (m - (k + 1)) + 1 by omega, HS.out, HT.out]⟩
      case measure => simp [intOf]; omega
    · obtain rfl : k = m := by omega
      have hx : Hid ((wwords ys).take k = wwords ys) := Lib.hid (List.take_of_length_le (by rw [wwords_length]; have := hy2.out; omega))
      go_wp2
      go_ret2
      exact ⟨rfl, by rw [hx.out]⟩

set_option maxHeartbeats 1000000 in
theorem refBytes_any (A : Option Addr) (n c : Nat) (xs : List Int) (w : World) (hr : Row .u16 w w.heap.size A xs) (hn : xs.length = n) (hb : n ≤ 1000000) :
    Calls Try.prog 31 #[.slice A n c] w (Makes .u8 5 w (wbytes xs)) := by
  have hn' := Lib.hid hn
  clear hn
  go_enter Try.func31, Try.ntmps31
  go_wp2
  go_loopw [3, 4] (fun t i wr => ∃ k : Nat, k ≤ n ∧ i = .int .i64 k ∧ Own .u8 5 wr w.heap.size t (wbytes (xs.take k)) ∧ Below w.heap.size w wr) (fun _ i _ => n - (intOf i).toNat)
  case atStart => exact ⟨0, by omega, rfl, Own.nil _ _ _ _, Below.refl _ _⟩
  case round =>
    obtain ⟨k, hk, rfl, hown, hbel⟩ := hrel
    by_cases hlt : k < n
    · obtain ⟨b, o, rfl, hb1, hc1⟩ := (hr.below hbel).at_ (i := k) (by have := hn'.out; omega)
      have hwf := wf_u16 (hr.wf_at (i := k) (by have := hn'.out; omega))
      have hl : Hid ((wbytes (xs.take k)).length = 2 * k) := Lib.hid (by have := hn'.out; rw [wbytes_length]; simp; omega)
      have HT := Lib.hid (take_step xs k (by have := hn'.out; omega))
      have HS := wbytes_snoc (xs.take k) (nth xs k)
      have hsz := hbel.size
      obtain ⟨x, hx⟩ := Int.eq_ofNat_of_zero_le hwf.1
      rw [hx, Int.toNat_natCast, be_two, show ((x / 256 % 256 : Nat) : Int) = (x : Int) / 256 by omega, show ((x % 256 : Nat) : Int) = (x : Int) % 256 by omega] at HS
      have HS' := Lib.hid HS
      have HX := Lib.hid hx
      rw [hx] at hc1 hwf
      clear hx HS
      have hw1 : IntKind.u8.wrap ((x : Int) / 256) = (x : Int) / 256 := by rw [IntKind.wrap_u8]; omega
      have hw2 : IntKind.u8.wrap ((x : Int) % 256) = (x : Int) % 256 := by rw [IntKind.wrap_u8]; omega
      have one1 := Row.one .u8 wr 5 ((x : Int) / 256) (by have := wf_byte (x / 256) (by omega); rwa [show ((x / 256 : Nat) : Int) = (x : Int) / 256 by omega] at this)
      have wf2 : (Lit.int .u8 ((x : Int) % 256)).wf = true := by have := wf_byte (x % 256) (by omega); rwa [show ((x % 256 : Nat) : Int) = (x : Int) % 256 by omega] at this
      go_wp2_with (first
        | (at_builtin; refine wpList_append_row _ rfl _ _ 22 rfl w.heap.size .u8 5 1 Try.underlying22 info_u8 u3 (wbytes (xs.take k)) rfl (hown.alloc _) _ _ 1 1 [(x : Int) / 256] rfl one1 rfl (by rw [hl.out]; omega) (by rw [hl.out]; simp only [maxLen]; omega) (by simp; omega) ?_; intro v1 w1 hown1 hg1; have hbel1 := Below.own1 hbel hsz hown hg1; have hc2 := (hbel1.cell (p := ⟨b, o + k, none⟩) hb1).trans ((hbel.cell (p := ⟨b, o + k, none⟩) hb1).symm.trans hc1); have hsz1 := hbel1.size; clear hg1)
        | (at_builtin; refine wpList_append_row _ rfl _ _ 22 rfl w.heap.size .u8 5 1 Try.underlying22 info_u8 v1 (wbytes (xs.take k) ++ [(x : Int) / 256]) rfl (hown1.alloc _) _ _ 1 1 [(x : Int) % 256] rfl (Row.one .u8 w1 5 ((x : Int) % 256) wf2) rfl (by rw [List.length_append, hl.out]; simp; omega) (by rw [List.length_append, hl.out]; simp [maxLen]; omega) (by simp; omega) ?_; intro v2 w2 hown2 hg2; have hbel2 := Below.own1 hbel1 hsz1 hown1 hg2; clear hg2))
      rw [List.append_assoc, show [(x : Int) / 256] ++ [(x : Int) % 256] = [(x : Int) / 256, (x : Int) % 256] from rfl, ← HS'.out, ← HX.out, ← HT.out] at hown2
      go_roundw
      case rel => exact ⟨k + 1, by omega, by go_num, hown2, hbel2⟩
      case measure => simp [intOf]; omega
    · have hx : xs.take k = xs := List.take_of_length_le (by have := hn'.out; omega)
      rw [hx] at hown
      clear hx
      go_wp2
      go_ret
      exact ⟨_, rfl, hown, hbel⟩

/-- A call returns a pair: a list of words of its own, and no error. -/
def MakesW (w : World) (xs : List Int) (e : Ending) (w' : World) : Prop := ∃ v, e = .returned (.tuple #[v, .int .i64 0]) ∧ Own .u16 56 w' w.heap.size v xs ∧ Below w.heap.size w w'
set_option maxHeartbeats 1000000 in
theorem refWords_ok (A : Option Addr) (n c m : Nat) (ys : List Int) (w : World) (hr : Row .u8 w w.heap.size A ys) (hn : ys.length = n) (hb : n ≤ 1000000) (h : n = 2 * m) :
    Calls Try.prog 34 #[.slice A n c] w (MakesW w (wwords ys)) := by
  have hn' := Lib.hid hn
  have h2 : ((n : Int) % 2 == 1) = false := beq_false_of_ne (by omega)
  have hy2 : Hid (ys.length / 2 = m) := Lib.hid (by omega)
  have hm' := Lib.hid h
  have hm2 : m ≤ 500000 := by omega
  clear hn h
  go_enter Try.func34, Try.ntmps34
  go_wp2
  go_loopw [4, 5] (fun t i wr => ∃ k : Nat, k ≤ m ∧ i = .int .i64 (2 * k : Nat) ∧ Own .u16 56 wr w.heap.size t ((wwords ys).take k) ∧ Below w.heap.size w wr) (fun _ i _ => n - (intOf i).toNat)
  case atStart => exact ⟨0, by omega, rfl, Own.nil _ _ _ _, Below.refl _ _⟩
  case round =>
    obtain ⟨k, hk, rfl, hown, hbel⟩ := hrel
    by_cases hlt : k < m
    · obtain ⟨b, o, rfl, hb1, hc1⟩ := (hr.below hbel).at_ (i := 2 * k) (by have := hn'.out; have := hm'.out; omega)
      obtain ⟨b', o', e2, _, hc2⟩ := (hr.below hbel).at_ (i := 2 * k + 1) (by have := hn'.out; have := hm'.out; omega)
      injection e2 with e2
      injection e2 with e2 e3
      subst e2 e3
      have hwb := word_bound ys hr.1 k (by have := hy2.out; omega)
      have HT := wwords_take ys k (by have := hy2.out; omega)
      rw [word] at HT
      have HT' := Lib.hid HT
      clear HT
      have hl : Hid (((wwords ys).take k).length = k) := Lib.hid (by rw [List.length_take, wwords_length]; have := hy2.out; omega)
      have hsz := hbel.size
      have hk1 : 2 * k + 1 < n := by have := hm'.out; omega
      generalize nth ys (2 * k) = p at *
      generalize nth ys (2 * k + 1) = q at *
      have e1 : IntKind.u16.wrap (p * 256) = p * 256 := by rw [IntKind.wrap_u16]; omega
      have e2 : IntKind.u16.wrap (p * 256 + q) = p * 256 + q := by rw [IntKind.wrap_u16]; omega
      have e3 : IntKind.i64.wrap (2 * (k : Int) + 1) = 2 * (k : Int) + 1 := IntWalk.i64_in _ (by omega)
      have e4 : (2 * (k : Int) + 1).toNat = 2 * k + 1 := by omega
      have e5 : (2 * (k : Int)).toNat = 2 * k := by omega
      have e6 : 0 ≤ 2 * (k : Int) + 1 := by omega
      have e7 : 2 * (k : Int) + 1 < (n : Int) := by omega
      have e8 : 2 * (k : Int) < (n : Int) := by omega
      have e9 : (0 : Int) ≤ 2 * (k : Int) := by omega
      have e10 : IntKind.u16.wrap p = p := by rw [IntKind.wrap_u16]; omega
      have e11 : IntKind.u16.wrap q = q := by rw [IntKind.wrap_u16]; omega
      have hpq := wf_word16 (n := p * 256 + q) (by omega)
      have hown' : wr.ownsRow w.heap.size 56 1 u4 k (((wwords ys).take k).map (Value.int .u16)) := by have h0 := hown; unfold Own at h0; rwa [hl.out] at h0
      have HO := Lib.hid hown'
      clear hown'
      have hfar : some b ≠ u4.ownBlock := fun e => by have := (hown.block b e.symm).1; omega
      have lb : b < wr.heap.size := by omega
      obtain ⟨i0, hi0, hz0, hz1, hz2⟩ := info_parts W.info_u16
      go_wp2_with fail
      go_region_held3 (fun w' => w'.cell? ⟨b, o + 2 * k, none⟩ = some (.int .u8 p) ∧ w'.cell? ⟨b, o + (2 * k + 1), none⟩ = some (.int .u8 q))
        (first
          | go_keep
          | (go_split_ands
             refine ⟨?_, ?_⟩
             · (rw [hgrow.cell_far _ (by simp; omega) hfar]; assumption)
             · (rw [hgrow.cell_far _ (by simp; omega) hfar]; assumption)))
        ((refine step_append_lies _ (by rfl) _ _ _ (by rfl) w.heap.size 56 i0 _ 1 2 Try.underlying43 hi0 hz0 hz1 hz2 rfl (by omega) u4 k _ (by rfl) ((World.ownsRow.alloc HO.out _).drew)
            ⟨wr.heap.size, 0, none⟩ 1 1 [.int .u16 (p * 256 + q)] (by rfl) (by rfl) (World.news_of_block (cs := #[.int .u16 (p * 256 + q)]) (t := 56) (fr := (0, 0)) (heap_alloc_new wr _)) (by simp [Value.oneCell'])
            (by omega) (by simp only [maxLen]; omega) (by omega) (by simp; omega) (wr.heap.size + 1) (by simp) ?_; intro gg cap w1 hown1 hgrow hat hlt1))
      clear e1 e2 e3 e4 e5 e6 e7 e8 e9 e10 e11
      have hown2 : Own .u16 56 w1 w.heap.size (.slice (some ⟨gg, 0, none⟩) (k + 1) cap) ((wwords ys).take (k + 1)) := by
        rw [HT'.out]
        unfold Own
        rw [List.length_append, hl.out, List.map_append]
        exact hown1
      have hbel0 := hbel.alloc hsz (.cells #[.int .u16 (p * 256 + q)] 56)
      have hbel1 : Below w.heap.size w w1 := Below.grown (w := (wr.alloc (.cells #[.int .u16 (p * 256 + q)] 56)).drew) ⟨hbel0.os, hbel0.tape, hbel0.output, hbel0.size, hbel0.block⟩ hgrow (by simp; omega) (fun g e => (hown.block g e).1)
      clear hbel0
      clear hgrow hat hlt1 hown1 hown hbel
      go_wp2
      go_roundw
      case rel => exact ⟨k + 1, by omega, by go_num, hown2, hbel1⟩
      case measure => simp [intOf]; omega
    · obtain rfl : k = m := by omega
      have hx : (wwords ys).take k = wwords ys := List.take_of_length_le (by rw [wwords_length]; have := hy2.out; omega)
      rw [hx] at hown
      clear hx
      have h5 : ¬ ((2 * (k : Int) + 1) < (n : Int)) := by have := hm'.out; omega
      go_wp2
      go_ret2
      exact ⟨_, rfl, hown, hbel⟩
end Go.Proofs.Ytaeecoiodkbomaa
