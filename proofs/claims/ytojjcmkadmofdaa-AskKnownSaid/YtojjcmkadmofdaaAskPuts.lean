/-
  Contract of Put of package ask.
-/
import Derived.Test.YtojjcmkadmofdaaAskBehind
import Derived.Test.YtojjcmkadmofdaaStep
namespace Go.Proofs.Ytojjcmkadmofdaa
open Go.RowKit
set_option linter.unusedVariables false

/-- The bounds of a right request. -/
theorem right_many {c a n : Int} {lo ls lp : Nat} {fl : List Int} (h : chk c a n lo ls lp fl = 0) : (lo ≤ 1968 ∧ ls ≤ 123) ∧ lp ≤ 35 := by
  obtain ⟨h1, h2, h3, h4, h5, h6⟩ := chk_zero h
  rcases mm_pos h1 with rfl | rfl | rfl | rfl | rfl | rfl | rfl | rfl | rfl <;> simp [stray, many, mm] at h2 h4 <;> omega
def pduOf (q : Req) (lo ls lp : Nat) : List Int := q.c :: tl q.c q.a q.n q.on q.set q.fl lo ls lp
theorem tl_length (c a n : Int) (on : List Bool) (set fl : List Int) (lo ls lp : Nat) : (tl c a n on set fl lo ls lp).length ≤ 5 + need lo + 2 * set.length + 7 * lp := by
  unfold tl
  split
  · rw [wbytes_length]; simp; omega
  · split
    · rw [wbytes_length]; simp; omega
    · split
      · simp [wbytes_length, pk_length]; omega
      · split
        · simp [wbytes_length]; omega
        · split
          · rw [List.length_cons, pbytes_length]; omega
          · rw [wbytes_length]; simp; omega
theorem tl_wf {c a n : Int} {on : List Bool} {set fl : List Int} {lo ls lp : Nat} (h : need lo ≤ 255 ∧ 2 * ls ≤ 255 ∧ 7 * lp ≤ 255) : ∀ x ∈ tl c a n on set fl lo ls lp, (Lit.int .u8 x).wf = true := by
  have hcons : ∀ (m : Nat) (l : List Int), m ≤ 255 → (∀ x ∈ l, (Lit.int .u8 x).wf = true) → ∀ x ∈ (m : Int) :: l, (Lit.int .u8 x).wf = true := by
    intro m l hm hl x hx
    rcases List.mem_cons.1 hx with rfl | hx
    · exact wf_byte m (by omega)
    · exact hl x hx
  unfold tl
  split
  · exact wbytes_wf _
  · split
    · exact wbytes_wf _
    · split
      · exact wf_append (wbytes_wf _) (hcons _ _ h.1 (pk_wf _ _))
      · split
        · exact wf_append (wbytes_wf _) (hcons _ _ h.2.1 (wbytes_wf _))
        · split
          · exact hcons _ _ h.2.2 (pbytes_wf _ _)
          · exact wbytes_wf _

theorem Asked.drew {w : World} {B : Nat} {q : Req} {Ao As Ap : Option Addr} {lo ls lp : Nat} (h : Asked w B q Ao As Ap lo ls lp) : Asked w.drew B q Ao As Ap lo ls lp := ⟨h.on, h.set, h.fl, h.lo, h.ls, h.lp⟩
theorem Asked.upDrew {w : World} {q : Req} {Ao As Ap : Option Addr} {lo ls lp : Nat} (h : Asked w w.heap.size q Ao As Ap lo ls lp) : Asked w.drew w.drew.heap.size q Ao As Ap lo ls lp := h.drew
theorem Asked.upAlloc {w : World} {q : Req} {Ao As Ap : Option Addr} {lo ls lp : Nat} (h : Asked w w.heap.size q Ao As Ap lo ls lp) (o : Obj) : Asked (w.alloc o) (w.alloc o).heap.size q Ao As Ap lo ls lp := h.up (bel_alloc w o)
theorem Bx.grown {w0 w w' : World} {g : Nat} {o : Obj} {row : Option Nat} (h : Bx w0 g o w) (hg : w.grownBy w' row) (hr : ∀ k, row = some k → g < k) : Bx w0 g o w' :=
  ⟨(hg.block g h.lt (fun e => by have := hr g e.symm; omega)).trans h.1, h.2.grown hg (Nat.le_of_lt h.lt) (fun k e => by have := hr k e; omega)⟩

theorem behind_any (q : Req) (Ao As Ap : Option Addr) (lo ls lp co cs cp : Nat) (w : World) (h : Asked w w.heap.size q Ao As Ap lo ls lp) (hk : chk q.c q.a q.n lo ls lp q.fl = 0) :
    Calls Try.prog 39 #[.agg #[.int .i64 q.c, .int .i64 q.a, .int .i64 q.n, .slice Ao lo co, .slice As ls cs, .slice Ap lp cp]] w (Makes .u8 5 w (tl q.c q.a q.n q.on q.set q.fl lo ls lp)) := by
  obtain ⟨c, a, n, on, set, fl⟩ := q
  simp only at hk ⊢
  obtain ⟨h1, h2, h3, h4, h5, h6⟩ := chk_zero hk
  rcases mm_pos h1 with rfl | rfl | rfl | rfl | rfl | rfl | rfl | rfl | rfl
  · have h4 : 1 ≤ n ∧ n ≤ 2000 := h4
    exact behind_read 1 a n Ao As Ap lo co ls cs lp cp w (by omega) h3 h4
  · have h4 : 1 ≤ n ∧ n ≤ 2000 := h4
    exact behind_read 2 a n Ao As Ap lo co ls cs lp cp w (by omega) h3 h4
  · have h4 : 1 ≤ n ∧ n ≤ 125 := h4
    exact behind_read 3 a n Ao As Ap lo co ls cs lp cp w (by omega) h3 (by omega)
  · have h4 : 1 ≤ n ∧ n ≤ 125 := h4
    exact behind_read 4 a n Ao As Ap lo co ls cs lp cp w (by omega) h3 (by omega)
  · have h4 : 1 ≤ (lo : Int) ∧ (lo : Int) ≤ 1 := h4
    exact behind_coil 5 a n Ao As Ap lo co ls cs lp cp on w rfl h3 h.on h.lo (by omega)
  · have h4 : 1 ≤ (ls : Int) ∧ (ls : Int) ≤ 1 := h4
    exact behind_reg 6 a n Ao As Ap lo co ls cs lp cp set w rfl h3 h.set h.ls (by omega)
  · have h4 : 1 ≤ (lo : Int) ∧ (lo : Int) ≤ 1968 := h4
    exact behind_bits 15 a n Ao As Ap lo co ls cs lp cp on w rfl h3 h.on h.lo (by omega)
  · have h4 : 1 ≤ (ls : Int) ∧ (ls : Int) ≤ 123 := h4
    exact behind_words 16 a n Ao As Ap lo co ls cs lp cp set w rfl h3 h.set h.ls (by omega)
  · have h4 : 1 ≤ (lp : Int) ∧ (lp : Int) ≤ 35 := h4
    exact behind_file 20 a n Ao As Ap lo co ls cs lp cp fl w rfl h3 h.fl h.lp (by omega) (h5 rfl).1

theorem Put_no (q : Req) (Ao As Ap : Option Addr) (lo ls lp co cs cp : Nat) (w : World) (h : Asked w w.heap.size q Ao As Ap lo ls lp) (hk : chk q.c q.a q.n lo ls lp q.fl ≠ 0) :
    Calls Try.prog 14 #[.agg #[.int .i64 q.c, .int .i64 q.a, .int .i64 q.n, .slice Ao lo co, .slice As ls cs, .slice Ap lp cp]] w
      fun e w' => e = .returned (.tuple #[.slice none 0 0, .int .i64 (chk q.c q.a q.n lo ls lp q.fl)]) ∧ Below w.heap.size w w' := by
  have H := Lib.hid (h.alloc (Nat.le_refl _) (.cells #[.int .i64 q.c, .int .i64 q.a, .int .i64 q.n, .slice Ao lo co, .slice As ls cs, .slice Ap lp cp] 26))
  have HC := Lib.hid (Check_any q Ao As Ap lo ls lp co cs cp (w.alloc (.cells #[.int .i64 q.c, .int .i64 q.a, .int .i64 q.n, .slice Ao lo co, .slice As ls cs, .slice Ap lp cp] 26)) (H.out.more (by simp)))
  generalize chk q.c q.a q.n lo ls lp q.fl = r at *
  have b1 : (r != 0) = true := by simpa using hk
  have b2 : (r == 0) = false := beq_false_of_ne hk
  clear h hk
  go_enter Try.func14, Try.ntmps14
  go_wp2_with fail
  refine HC.out.mono ?_
  rintro e w1 ⟨rfl, bel⟩
  go_wp2
  go_ret2
  exact ⟨rfl, (bel_alloc w _).trans (bel.mono (by simp))⟩

set_option maxHeartbeats 1000000 in
set_option maxRecDepth 100000 in
theorem Put_ok (q : Req) (Ao As Ap : Option Addr) (lo ls lp co cs cp : Nat) (w : World) (h : Asked w w.heap.size q Ao As Ap lo ls lp) (hk : chk q.c q.a q.n lo ls lp q.fl = 0) :
    Calls Try.prog 14 #[.agg #[.int .i64 q.c, .int .i64 q.a, .int .i64 q.n, .slice Ao lo co, .slice As ls cs, .slice Ap lp cp]] w (Makes2 w (pduOf q lo ls lp)) := by
  have H := Lib.hid (h.alloc (Nat.le_refl _) (.cells #[.int .i64 q.c, .int .i64 q.a, .int .i64 q.n, .slice Ao lo co, .slice As ls cs, .slice Ap lp cp] 26))
  have HC := Lib.hid (Check_any q Ao As Ap lo ls lp co cs cp (w.alloc (.cells #[.int .i64 q.c, .int .i64 q.a, .int .i64 q.n, .slice Ao lo co, .slice As ls cs, .slice Ap lp cp] 26)) (H.out.more (by simp)))
  rw [hk] at HC
  have hcb : 0 ≤ q.c ∧ q.c < 256 := by
    have := (chk_zero hk).1
    have := mm_pos this
    omega
  obtain ⟨⟨hlo, hls⟩, hlp⟩ := right_many hk
  have e1 : IntKind.u8.wrap q.c = q.c := by rw [IntKind.wrap_u8]; omega
  have hcw : Hid ((Lit.int .u8 q.c).wf = true) := Lib.hid (by have := wf_byte q.c.toNat (by omega); rwa [show ((q.c.toNat : Nat) : Int) = q.c by omega] at this)
  have HP : Hid (pduOf q lo ls lp = [q.c] ++ tl q.c q.a q.n q.on q.set q.fl lo ls lp) := Lib.hid rfl
  have HTL : Hid ((tl q.c q.a q.n q.on q.set q.fl lo ls lp).length ≤ 1000) := Lib.hid (by
    have := tl_length q.c q.a q.n q.on q.set q.fl lo ls lp
    have h1 := h.ls
    unfold need at this
    omega)
  have HTW := Lib.hid (tl_wf (c := q.c) (a := q.a) (n := q.n) (on := q.on) (set := q.set) (fl := q.fl) (lo := lo) (ls := ls) (lp := lp) (by unfold need; omega))
  have HK := Lib.hid hk
  have hx0 := Bx.new w (.cells #[.int .i64 q.c, .int .i64 q.a, .int .i64 q.n, .slice Ao lo co, .slice As ls cs, .slice Ap lp cp] 26)
  rw [HP.out]
  clear h hk
  go_enter Try.func14, Try.ntmps14
  go_wp2_with fail
  refine HC.out.mono ?_
  rintro e w1 ⟨rfl, bel⟩
  have h9 := hx0.below bel
  have HA := Lib.hid ((H.out.below (bel.mono (by simp))).more (show w.heap.size ≤ w1.heap.size from Nat.le_of_lt h9.lt))
  have hz9 := h9.lt
  clear HC H hx0 bel
  go_wp2_with fail
  go_region_held3 (fun w' => Bx w w.heap.size (.cells #[.int .i64 q.c, .int .i64 q.a, .int .i64 q.n, .slice Ao lo co, .slice As ls cs, .slice Ap lp cp] 26) w' ∧ w'.cell? ⟨w.heap.size, 0, none⟩ = some (.int .i64 q.c) ∧ w'.cell? ⟨w.heap.size, 1, none⟩ = some (.int .i64 q.a) ∧ w'.cell? ⟨w.heap.size, 2, none⟩ = some (.int .i64 q.n) ∧ w'.cell? ⟨w.heap.size, 3, none⟩ = some (.slice Ao lo co) ∧ w'.cell? ⟨w.heap.size, 4, none⟩ = some (.slice As ls cs) ∧ w'.cell? ⟨w.heap.size, 5, none⟩ = some (.slice Ap lp cp))
    ((first
      | exact ⟨h9.drew, h9.drew.six⟩
      | exact ⟨(h9.alloc _).drew, (h9.alloc _).drew.six⟩
      | exact ⟨h12, h12.six⟩
      | exact ⟨h10, h10.six⟩
      | exact ⟨h10.alloc _, (h10.alloc _).six⟩))
    (first
      | (go_at_call 39
         refine (behind_any q Ao As Ap lo ls lp co cs cp _ (by first | exact (HA.out.upAlloc _).upDrew | exact HA.out.upDrew) HK.out).mono ?_
         rintro e w2 ⟨v2, rfl, own2, b2⟩
         obtain ⟨A2, c2, rfl, row2, _, _⟩ := own2.row HTW.out
         have h10 : Bx w w.heap.size (.cells #[.int .i64 q.c, .int .i64 q.a, .int .i64 q.n, .slice Ao lo co, .slice As ls cs, .slice Ap lp cp] 26) w2 := by first | exact (h9.alloc _).drew.below b2 | exact h9.drew.below b2)
      | (refine step_append_row w2 rfl _ _ 32 rfl (w.heap.size + 1) .u8 5 1 Try.underlying32 info_u8 (.slice (some ⟨w1.heap.size, 0, none⟩) 1 1) [q.c] rfl (Own.laid (l := [q.c]) ((b2.block w1.heap.size (by simp)).trans (heap_alloc_new w1 _)) hz9 rfl (by simp [maxLen])) _ A2 _ c2 (tl q.c q.a q.n q.on q.set q.fl lo ls lp) rfl row2 rfl (by have := HTL.out; simp only [List.length_singleton]; omega) (by have := HTL.out; simp only [List.length_singleton, maxLen]; omega) (by have := h10.lt; omega) ?_
         intro v3 w3 own3 g3
         have h12 := h10.grown g3 (by simp [Value.ownBlock]; omega))
      | (refine step_append_row (w2.alloc (.cells (blk .u8 [q.c]) 5)) rfl _ _ 32 rfl (w.heap.size + 1) .u8 5 1 Try.underlying32 info_u8 (.slice (some ⟨w2.heap.size, 0, none⟩) 1 1) [q.c] rfl (Own.laid (l := [q.c]) (heap_alloc_new w2 _) h10.lt rfl (by simp [maxLen])) _ A2 _ c2 (tl q.c q.a q.n q.on q.set q.fl lo ls lp) rfl (row2.alloc (Nat.le_refl _) _) rfl (by have := HTL.out; simp only [List.length_singleton]; omega) (by have := HTL.out; simp only [List.length_singleton, maxLen]; omega) (by have := h10.lt; simp; omega) ?_
         intro v3 w3 own3 g3
         have hz10 := h10.lt
         have h12 := (h10.alloc _).grown g3 (by simp [Value.ownBlock]; omega)))
  all_goals
    go_wp2
    go_ret2
    exact ⟨v3, rfl, own3.mono (by omega), h12.2⟩
end Go.Proofs.Ytojjcmkadmofdaa
