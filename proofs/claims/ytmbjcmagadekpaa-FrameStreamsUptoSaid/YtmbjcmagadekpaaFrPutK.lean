/-
  Put of package frame once more: its answer's block is known whole. Writing over lists of the call's own.
-/
import Derived.Test.YtmbjcmagadekpaaFrGet
import Derived.Test.YtmbjcmagadekpaaApartK
namespace Go.Proofs.Ytmbjcmagadekpaa
open Go.RowKit
set_option linter.unusedVariables false

/-- A call returns a pair: a list of its own, its block known whole, and a number. -/
def GivesK (w : World) (l : List Int) (err : Int) (e : Ending) (w' : World) : Prop :=
  ∃ v, e = .returned (.tuple #[v, .int .i64 err]) ∧ KOwn .u8 5 w' w.heap.size v l ∧ Below w.heap.size w w'
theorem frPutK_bad (id u : Int) (A : Option Addr) (n c : Nat) (l : List Int) (w : World) (hn : l.length = n) (h0 : frChk l ≠ 0) :
    Calls Try.prog 35 #[.agg #[.int .u16 id, .int .u8 u, .slice A n c]] w (GivesK w (frPut ⟨id, u, l⟩) (frChk l)) := by
  have HL : Hid (frPut ⟨id, u, l⟩ = []) := Lib.hid (by rw [frPut, if_neg h0])
  rw [HL.out]
  have HC := Lib.hid (checkPdu_any A n c l hn)
  obtain ⟨E, hE⟩ : ∃ E, Hid (frChk l = E) := ⟨_, Lib.hid rfl⟩
  rw [hE.out] at HC h0 ⊢
  have u1 : (E != 0) = true := by simpa using h0
  have u2 : (E == 0) = false := beq_false_of_ne h0
  clear h0 hn
  go_enter Try.func35, Try.ntmps35
  go_wp2_with fail
  refine (HC.out _).mono ?_
  rintro e w' ⟨rfl, hw⟩
  rw [hw]
  clear hw
  go_wp2
  go_ret2
  exact ⟨_, rfl, KOwn.nil _ _ _ _, bel_alloc _ _⟩
set_option maxHeartbeats 1000000 in
theorem frPutK_yes (id u : Int) (A : Option Addr) (n c : Nat) (l : List Int) (w : World) (hr : Row .u8 w w.heap.size A l) (hn : l.length = n) (hi : 0 ≤ id ∧ id < 65536) (hu : 0 ≤ u ∧ u < 256) (h0 : frChk l = 0) :
    Calls Try.prog 35 #[.agg #[.int .u16 id, .int .u8 u, .slice A n c]] w (GivesK w (frPut ⟨id, u, l⟩) (frChk l)) := by
  have HL : Hid (frPut ⟨id, u, l⟩ = [id / 256, id % 256, 0, 0, (1 + (n : Int)) / 256, (1 + (n : Int)) % 256, u] ++ l) := Lib.hid (by rw [frPut, if_pos h0, frHead, hn])
  rw [HL.out]
  have HC := Lib.hid (checkPdu_any A n c l hn)
  rw [h0] at HC ⊢
  have hle := frChk_le h0
  rw [hn] at hle
  have HN := Lib.hid hn
  have bel0 := bel_alloc w (.cells #[.int .u16 id, .int .u8 u, .slice A n c] 57)
  have HR := Lib.hid (hr.below (bel0.alloc (by simp) (.cells (blk .u8 [id / 256, id % 256, 0, 0, (1 + (n : Int)) / 256, (1 + (n : Int)) % 256, u]) 5)))
  have hap : ∃ cap w', (∀ ty, (Builtin.append_ #[34, 34] ty #[.slice (some ⟨w.heap.size + 1, 0, none⟩) 7 7, .slice A n c]).run Try.prog ((w.alloc (.cells #[.int .u16 id, .int .u8 u, .slice A n c] 57)).alloc (.cells (blk .u8 [id / 256, id % 256, 0, 0, (1 + (n : Int)) / 256, (1 + (n : Int)) % 256, u]) 5)) = .ok (.slice (some ⟨w.heap.size + 2, 0, none⟩) (7 + n) cap) w') ∧ KOwn .u8 5 w' w.heap.size (.slice (some ⟨w.heap.size + 2, 0, none⟩) (7 + n) cap) ([id / 256, id % 256, 0, 0, (1 + (n : Int)) / 256, (1 + (n : Int)) % 256, u] ++ l) ∧ Below w.heap.size w w' := by
    obtain ⟨cap, h2, h3, h4⟩ := run_append_full (P := Try.prog) ((w.alloc (.cells #[.int .u16 id, .int .u8 u, .slice A n c] 57)).alloc (.cells (blk .u8 [id / 256, id % 256, 0, 0, (1 + (n : Int)) / 256, (1 + (n : Int)) % 256, u]) 5)) 34 .u8 5 1 Try.underlying34 info_u8 (w.heap.size + 1) 7 [id / 256, id % 256, 0, 0, (1 + (n : Int)) / 256, (1 + (n : Int)) % 256, u] (heap_alloc_two w _ _) rfl _ A n c l HR.out HN.out (by omega) (by omega) (by simp only [maxLen]; omega)
    have hz : ((w.alloc (.cells #[.int .u16 id, .int .u8 u, .slice A n c] 57)).alloc (.cells (blk .u8 [id / 256, id % 256, 0, 0, (1 + (n : Int)) / 256, (1 + (n : Int)) % 256, u]) 5)).heap.size = w.heap.size + 2 := by simp
    rw [hz] at h2
    refine ⟨cap, _, h2, .inr ⟨_, 7 + n, cap, List.replicate (cap - (7 + n)) 0, rfl, by omega, by rw [List.length_append, HN.out]; rfl, ?_, h3, h4, ?_, zeros_wf _⟩, ?_⟩
    · have := heap_alloc_new (((w.alloc (.cells #[.int .u16 id, .int .u8 u, .slice A n c] 57)).alloc (.cells (blk .u8 [id / 256, id % 256, 0, 0, (1 + (n : Int)) / 256, (1 + (n : Int)) % 256, u]) 5)).drew) (.cells (blk .u8 ([id / 256, id % 256, 0, 0, (1 + (n : Int)) / 256, (1 + (n : Int)) % 256, u] ++ l ++ List.replicate (cap - (7 + n)) 0)) 5)
      rw [show (((w.alloc (.cells #[.int .u16 id, .int .u8 u, .slice A n c] 57)).alloc (.cells (blk .u8 [id / 256, id % 256, 0, 0, (1 + (n : Int)) / 256, (1 + (n : Int)) % 256, u]) 5)).drew).heap.size = w.heap.size + 2 from hz] at this
      exact this
    · rw [List.length_append, List.length_replicate, HN.out]; simp; omega
    · exact (below_drew (bel0.alloc (by simp) _)).alloc (by show _ ≤ ((w.alloc _).alloc _).heap.size; simp; omega) _
  obtain ⟨cap, w1, hrun, hk1, bel1⟩ := hap
  have HRUN := Lib.hid hrun
  have HK1 := Lib.hid hk1
  clear hrun hk1
  have e1 : IntKind.u8.wrap (id / 256) = id / 256 := by rw [IntKind.wrap_u8]; omega
  have e2 : IntKind.u8.wrap id = id % 256 := by rw [IntKind.wrap_u8]
  have e3 : IntKind.u8.wrap ((1 + (n : Int)) / 256) = (1 + (n : Int)) / 256 := by rw [IntKind.wrap_u8]; omega
  have e4 : IntKind.u8.wrap (1 + (n : Int)) = (1 + (n : Int)) % 256 := by rw [IntKind.wrap_u8]
  clear h0 hn hr
  go_enter Try.func35, Try.ntmps35
  go_wp2_with fail
  refine (HC.out _).mono ?_
  rintro e w' ⟨rfl, hw⟩
  rw [hw]
  clear hw
  go_wp2_with (at_builtin; refine wpList_append_run _ rfl _ _ 34 rfl (.slice (some ⟨w.heap.size + 1, 0, none⟩) 7 7) (.slice A n c) (.slice (some ⟨w.heap.size + 2, 0, none⟩) (7 + n) cap) w1 rfl rfl HRUN.out ?_)
  go_ret2
  exact ⟨_, rfl, HK1.out, bel1⟩
theorem frPutK_any (id u : Int) (A : Option Addr) (n c : Nat) (l : List Int) (w : World) (hr : Row .u8 w w.heap.size A l) (hn : l.length = n) (hi : 0 ≤ id ∧ id < 65536) (hu : 0 ≤ u ∧ u < 256) :
    Calls Try.prog 35 #[.agg #[.int .u16 id, .int .u8 u, .slice A n c]] w (GivesK w (frPut ⟨id, u, l⟩) (frChk l)) := by
  by_cases h0 : frChk l = 0
  · exact frPutK_yes id u A n c l w hr hn hi hu h0
  · exact frPutK_bad id u A n c l w hn h0
/-- A list of the call's own is written over. -/
theorem spoil_kown (v : Value) (base : Nat) (xs : List Int) (w : World) (h : KOwn .u8 5 w base v xs) :
    Calls Try.prog 43 #[v] w fun e w' => e = .returned (.tuple #[]) ∧ w.grownBy w' v.ownBlock ∧ w'.heap.size = w.heap.size := by
  rcases h with ⟨rfl, rfl⟩ | ⟨g, n, cap, r, rfl, h2, h3, h4, h5, h6, h7, h8⟩
  · exact (spoil_nil w).mono fun e w' ⟨he, hw⟩ => by subst hw; exact ⟨he, World.grownBy.refl _ _, rfl⟩
  · simp only [maxLen] at h6
    exact (spoilK_u8 g 0 n cap [] (xs ++ r) [] w (by rw [List.nil_append, List.append_nil]; exact h4) rfl (by rw [List.length_append]; exact h7) h5 h6).mono fun e w' ⟨he, _, hg, hz⟩ => ⟨he, hg, hz⟩
/-- A list of the call's own, as an entry. -/
theorem KOwn.entK {w : World} {base B : Nat} {v : Value} {xs : List Int} (h : KOwn .u8 5 w base v xs) (hw : ∀ x ∈ xs, (Lit.int .u8 x).wf = true) (hm : xs.length ≤ 140737488355328) (hB : B ≤ base) :
    ∃ E : EntK, E.val = v ∧ E.Ok w B ∧ ∀ g, E.a = some g → base ≤ g := by
  rcases h with ⟨rfl, rfl⟩ | ⟨g, n, cap, r, rfl, h2, h3, h4, h5, h6, h7, h8⟩
  · exact ⟨⟨none, [], 0, 0, [], []⟩, rfl, ⟨⟨Nat.le_refl _, ⟨by show 0 ≤ _; omega, by show 0 ≤ _; omega⟩, rfl⟩, by simp, .inl ⟨rfl, rfl, rfl⟩⟩, fun g h => by cases h⟩
  · simp only [maxLen] at h6
    refine ⟨⟨some g, [], n, cap, xs ++ r, []⟩, rfl, ⟨⟨h5, ⟨h6, by show n ≤ _; omega⟩, by show (xs ++ r).length = cap; rw [List.length_append]; exact h7⟩, wf_append hw h8, .inr ⟨g, rfl, by omega, by rw [List.append_nil, List.nil_append]; exact h4⟩⟩, fun g' e => ?_⟩
    have e : some g = some g' := e
    injection e with e
    omega
end Go.Proofs.Ytmbjcmagadekpaa
