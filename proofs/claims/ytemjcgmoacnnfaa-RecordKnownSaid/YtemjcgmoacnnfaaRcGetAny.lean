/-
  Get of the program of layer 11, of any bytes.
-/
import Derived.Test.YtemjcgmoacnnfaaRcGet
namespace Go.Proofs.Ytemjcgmoacnnfaa
open Go.RowKit
set_option linter.unusedVariables false
set_option maxRecDepth 100000

theorem read11_any (b o m cap : Nat) (ys : List Int) (w : World) (hr : Row .u8 w w.heap.size (some ⟨b, o, none⟩) ys) (hm : ys.length = m) (hf : fmRc ys = 0) (hcap : m ≤ cap) (hcb : cap ≤ 9223372036854775807) :
    Calls Try.prog 37 #[.slice (some ⟨b, o, none⟩) m cap] w fun e w' => e = .returned (rcV (rdRc ys)) ∧ Below w.heap.size w w' := by
  obtain ⟨_, hk, hl⟩ := fmRc_parts hf
  rw [hm] at hl
  rcases kinds hk with e | e | e | e | e | e
  · exact read_1 b o m cap ys w hr hm (hl.trans (len_1 ys e)) hcap hcb e
  · exact read_2 b o m cap ys w hr hm (hl.trans (len_2 ys e)) hcap hcb e
  · exact read_3 b o m cap ys w hr hm (hl.trans (len_3 ys e)) hcap hcb e
  · exact read_4 b o m cap ys w hr hm (hl.trans (len_4 ys e)) hcap hcb e
  · exact read_5 b o m cap ys w hr hm (hl.trans (len_5 ys e)) hcap hcb e
  · exact read_6 b o m cap ys w hr hm (hl.trans (len_6 ys e)) hcap hcb e

/-- A record and a number. -/
def GotRc (w : World) (ys : List Int) (e : Ending) (w' : World) : Prop := e = .returned (.tuple #[rcV (rcGot ys), .int .i64 (rcErr ys)]) ∧ Below w.heap.size w w'

theorem get11_form (A : Option Addr) (m c : Nat) (ys : List Int) (w : World) (hr : Row .u8 w w.heap.size A ys) (hm : ys.length = m) (hb : m ≤ 140737488355328) (hc : m ≤ c) (hf : fmRc ys ≠ 0) :
    Calls Try.prog 15 #[.slice A m c] w (GotRc w ys) := by
  have he := rcErr_form ys
  rw [if_neg hf] at he
  unfold GotRc
  rw [show rcGot ys = zRc by unfold rcGot; rw [if_neg (by rw [he]; exact hf)], he]
  unfold rcV zRc
  have bx := Bx.new w (.cells #[.int .i64 0, .int .i64 0, .string ⟨#[]⟩, .int .i64 0, .int .i64 0] 23)
  have HF := Lib.hid (checkForm_any A m c ys (w.alloc (.cells #[.int .i64 0, .int .i64 0, .string ⟨#[]⟩, .int .i64 0, .int .i64 0] 23)) w.heap.size (hr.below bx.2) hm hb hc)
  obtain ⟨c0, c1, c2, c3, c4⟩ := cells5 bx.1
  obtain ⟨f0, f1, f2, f3, f4⟩ := froz5 bx.1
  generalize fmRc ys = E at *
  have hE : (E != 0) = true := by simp [hf]
  clear he
  go_enter Try.func15, Try.ntmps15
  go_wp2_with fail
  refine HF.out.mono ?_
  rintro e w' ⟨rfl, rfl⟩
  generalize w.alloc (.cells #[.int .i64 0, .int .i64 0, .string ⟨#[]⟩, .int .i64 0, .int .i64 0] 23) = w1 at *
  have P1 := put5_heap bx.1 (.int .i64 0) (.int .i64 0) (.string ⟨#[]⟩) (.int .i64 0) (.int .i64 0)
  have P2 := below_put5 bx.2 (Nat.le_refl _) (.int .i64 0) (.int .i64 0) (.string ⟨#[]⟩) (.int .i64 0) (.int .i64 0)
  go_wp2
  (try simp only [Exit.inBlock, Exit.then])
  show bodyPost _ _ _ _ _ (put5 w1 w.heap.size (.int .i64 0) (.int .i64 0) (.string ⟨#[]⟩) (.int .i64 0) (.int .i64 0))
  generalize put5 w1 w.heap.size (.int .i64 0) (.int .i64 0) (.string ⟨#[]⟩) (.int .i64 0) (.int .i64 0) = wz at *
  obtain ⟨x0, x1, x2, x3, x4⟩ := cells5 P1
  refine bodyPost_ret (v := .tuple #[.agg #[.int .i64 0, .int .i64 0, .string ⟨#[]⟩, .int .i64 0, .int .i64 0], .int .i64 E]) (by simp [results, Try.results15, go_sem, x0, x1, x2, x3, x4]) rfl ?_
  exact ⟨rfl, P2⟩

set_option maxHeartbeats 1000000 in
theorem get11_read (A : Option Addr) (m cap : Nat) (ys : List Int) (w : World) (hr : Row .u8 w w.heap.size A ys) (hm : ys.length = m) (hb : m ≤ 140737488355328) (hcap : m ≤ cap) (hcb : cap ≤ 9223372036854775807) (hf : fmRc ys = 0) :
    Calls Try.prog 15 #[.slice A m cap] w (GotRc w ys) := by
  have he := rcErr_form ys
  rw [if_pos hf] at he
  unfold GotRc
  obtain ⟨h0, _, _⟩ := fmRc_parts hf
  obtain ⟨b, o, rfl, hbB, _⟩ := hr.at_ (i := 0) h0
  have HV : Hid (rcGot ys = if rcErr ys = 0 then rdRc ys else zRc) := Lib.hid rfl
  rw [HV.out, he]
  have ok := rdRc_ok ys hr.1 (by rw [hm]; simp only [maxLen]; omega)
  have bx := Bx.new w (.cells #[.int .i64 0, .int .i64 0, .string ⟨#[]⟩, .int .i64 0, .int .i64 0] 23)
  have HF := Lib.hid (checkForm_any (some ⟨b, o, none⟩) m cap ys (w.alloc (.cells #[.int .i64 0, .int .i64 0, .string ⟨#[]⟩, .int .i64 0, .int .i64 0] 23)) w.heap.size (hr.below bx.2) hm hb hcap)
  have HR := Lib.hid (read11_any b o m cap ys (w.alloc (.cells #[.int .i64 0, .int .i64 0, .string ⟨#[]⟩, .int .i64 0, .int .i64 0] 23)) ((hr.below bx.2).more (Nat.le_of_lt bx.lt)) hm hf hcap hcb)
  rw [hf] at HF
  clear HV he hf h0 hr hm
  obtain ⟨⟨k, t, g, v, i⟩, hR⟩ : ∃ r, rdRc ys = r := ⟨_, rfl⟩
  rw [hR] at HR ok ⊢
  generalize hE : chkRc ⟨k, t, g, v, i⟩ = E
  have HE := Lib.hid hE
  have hs : g.size ≤ maxLen := ok.1
  clear hE hR ok
  unfold rcV at HR
  obtain ⟨X, hX⟩ : ∃ X, rcV (if E = 0 then (⟨k, t, g, v, i⟩ : Rc) else zRc) = X := ⟨_, rfl⟩
  rw [hX]
  have HX := Lib.hid hX
  clear hX
  go_enter Try.func15, Try.ntmps15
  go_wp2_with fail
  refine HF.out.mono ?_
  rintro e w' ⟨rfl, rfl⟩
  generalize w.alloc (.cells #[.int .i64 0, .int .i64 0, .string ⟨#[]⟩, .int .i64 0, .int .i64 0] 23) = wa at *
  go_wp2_with fail
  refine HR.out.mono ?_
  rintro e w2 ⟨rfl, b2⟩
  have bx2 := bx.below b2
  clear b2 bx HF HR
  have bx3 := bx2.alloc (.cells #[.int .i64 k, .int .i64 t, .string g, .int .i64 v, .int .i64 i] 23)
  have hr3 := heap_alloc_new w2 (.cells #[.int .i64 k, .int .i64 t, .string g, .int .i64 v, .int .i64 i] 23)
  obtain ⟨c0, c1, c2, c3, c4⟩ := cells5 hr3
  go_wp2_with fail
  refine (Check11_any k t g v i _ hs).mono ?_
  rintro e w4 ⟨rfl, b4⟩
  rw [HE.out]
  have bx4 := bx3.below b4
  have hr4 := (b4.block _ (block_lt hr3)).trans hr3
  clear b4 bx3 bx2 hr3 c0 c1 c2 c3 c4
  obtain ⟨c0, c1, c2, c3, c4⟩ := cells5 hr4
  obtain ⟨d0, d1, d2, d3, d4⟩ := cells5 bx4.1
  obtain ⟨f0, f1, f2, f3, f4⟩ := froz5 bx4.1
  by_cases h0 : E = 0
  · subst h0
    have HV2 : Hid (X = .agg #[.int .i64 k, .int .i64 t, .string g, .int .i64 v, .int .i64 i]) := Lib.hid (by rw [← HX.out]; rfl)
    have P1 := put5_heap bx4.1 (.int .i64 k) (.int .i64 t) (.string g) (.int .i64 v) (.int .i64 i)
    have P2 := below_put5 bx4.2 (Nat.le_refl _) (.int .i64 k) (.int .i64 t) (.string g) (.int .i64 v) (.int .i64 i)
    go_wp2
    (try simp only [Exit.inBlock, Exit.then])
    show bodyPost _ _ _ _ _ (put5 w4 w.heap.size (.int .i64 k) (.int .i64 t) (.string g) (.int .i64 v) (.int .i64 i))
    generalize put5 w4 w.heap.size (.int .i64 k) (.int .i64 t) (.string g) (.int .i64 v) (.int .i64 i) = wz at *
    obtain ⟨x0, x1, x2, x3, x4⟩ := cells5 P1
    refine bodyPost_ret (v := .tuple #[.agg #[.int .i64 k, .int .i64 t, .string g, .int .i64 v, .int .i64 i], .int .i64 0]) (by simp [results, Try.results15, go_sem, x0, x1, x2, x3, x4]) rfl ?_
    exact ⟨by rw [HV2.out], P2⟩
  · have hE2 : (E != 0) = true := by simp [h0]
    have HV2 : Hid (X = .agg #[.int .i64 0, .int .i64 0, .string ⟨#[]⟩, .int .i64 0, .int .i64 0]) := Lib.hid (by rw [← HX.out, if_neg h0]; rfl)
    clear h0
    have P1 := put5_heap bx4.1 (.int .i64 0) (.int .i64 0) (.string ⟨#[]⟩) (.int .i64 0) (.int .i64 0)
    have P2 := below_put5 bx4.2 (Nat.le_refl _) (.int .i64 0) (.int .i64 0) (.string ⟨#[]⟩) (.int .i64 0) (.int .i64 0)
    go_wp2
    (try simp only [Exit.inBlock, Exit.then])
    show bodyPost _ _ _ _ _ (put5 w4 w.heap.size (.int .i64 0) (.int .i64 0) (.string ⟨#[]⟩) (.int .i64 0) (.int .i64 0))
    generalize put5 w4 w.heap.size (.int .i64 0) (.int .i64 0) (.string ⟨#[]⟩) (.int .i64 0) (.int .i64 0) = wz at *
    obtain ⟨x0, x1, x2, x3, x4⟩ := cells5 P1
    refine bodyPost_ret (v := .tuple #[.agg #[.int .i64 0, .int .i64 0, .string ⟨#[]⟩, .int .i64 0, .int .i64 0], .int .i64 E]) (by simp [results, Try.results15, go_sem, x0, x1, x2, x3, x4]) rfl ?_
    exact ⟨by rw [HV2.out], P2⟩
theorem Get11_any (A : Option Addr) (m cap : Nat) (ys : List Int) (w : World) (hr : Row .u8 w w.heap.size A ys) (hm : ys.length = m) (hb : m ≤ 140737488355328) (hcap : m ≤ cap) (hcb : cap ≤ 9223372036854775807) :
    Calls Try.prog 15 #[.slice A m cap] w (GotRc w ys) := by
  by_cases hf : fmRc ys = 0
  · exact get11_read A m cap ys w hr hm hb hcap hcb hf
  · exact get11_form A m cap ys w hr hm hb hcap hf
end Go.Proofs.Ytemjcgmoacnnfaa
