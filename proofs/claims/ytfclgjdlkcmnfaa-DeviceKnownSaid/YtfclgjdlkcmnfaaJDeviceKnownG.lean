/-
  The statement DeviceKnown of outstationlaw12 holds: for every input that can be read, the call returns true, and each argument reads as it did. No condition of its own.
-/
import Derived.Test.YtfclgjdlkcmnfaaJDeviceKnownA
import Derived.Test.YtfclgjdlkcmnfaaJDeviceKnownE
import Derived.Test.YtfclgjdlkcmnfaaJDeviceKnownF
import Derived.Test.YtfclgjdlkcmnfaaJDeviceKnownC
import Derived.IntWalk
import Derived.BigRegion
import Derived.Deep.RegionHeld3
import Derived.Test.YtfclgjdlkcmnfaaRows
namespace Go.Proofs.Ytfclgjdlkcmnfaa
open Go.RowKit
set_option linter.unusedVariables false
set_option maxRecDepth 100000

theorem ha {w : World} (o : Obj) {g : Nat} {x : Obj} (h : w.heap[g]? = some x) : (w.alloc o).heap[g]? = some x := ((bel_alloc w o).block g (block_lt h)).trans h
theorem heap_at {w : World} {n : Nat} (h : w.heap.size = n) (o : Obj) : (w.alloc o).heap[n]? = some o := by subst h; exact heap_alloc_new w o
theorem bel_al {w W : World} (h : Below w.heap.size w W) (o : Obj) : Below w.heap.size w (W.alloc o) := h.alloc h.size o
/-- A list of calls lies there. -/
def LAt (W : World) (A : Option Addr) (n : Nat) : Prop := ∃ l, VRow W W.heap.size A (flatV opC l) ∧ l.length = n ∧ n ≤ 100000 ∧ ∀ m ∈ l, Opm.Ok W W.heap.size m
theorem LAt.below {W W' : World} {A : Option Addr} {n : Nat} (h : LAt W A n) (hb : Below W.heap.size W W') : LAt W' A n := by
  obtain ⟨l, h1, h2, h3, h4⟩ := h
  exact ⟨l, (h1.below hb).more hb.size, h2, h3, fun m hm => (h4 m hm).below hb⟩
theorem OlTo.lat {w1 W : World} {A : Option Addr} {n c m : Nat} (h : OlTo w1 W (.slice A n c) m) (hm : m ≤ 100000) : LAt W A n := by
  obtain ⟨l, h1, h2, h3⟩ := h
  obtain ⟨A', c', hv, row, _⟩ := h1.row
  injection hv with e1 e2 e3
  subst e1 e2
  exact ⟨l, row, rfl, by omega, fun p hp => (h1.2 p hp).1⟩
theorem lat_new {W : World} (news : List Opm) (hok : ∀ p ∈ news, OpmK W p) (n : Nat) (hn : news.length = n) (h : n ≤ 100000) : LAt (W.alloc (.cells (flatV opC news).toArray 46)) (some ⟨W.heap.size, 0, none⟩) n :=
  ⟨news, VRow.new W _ _, hn, h, fun m hm => ((hok m hm).below (bel_alloc W _)).1⟩
theorem LAt.runs {D : DevP} (X : DevOk D) {W : World} {A : Option Addr} {n : Nat} (h : LAt W A n) (r : Int) (c : Nat) : Calls Try.prog 4 #[.int .i64 r, .slice A n c] W fun e w' => e = .returned (.bool true) ∧ Below W.heap.size W w' := by
  obtain ⟨l, h1, h2, h3, h4⟩ := h
  exact runs_any X r A n c l W h1 h2 (by omega) h4
theorem LAt.room {D : DevP} (X : DevOk D) {W : World} {A : Option Addr} {n : Nat} (h : LAt W A n) (r : Int) (c : Nat) : Calls Try.prog 7 #[.int .i64 r, .slice A n c] W fun e w' => e = .returned (.bool true) ∧ Below W.heap.size W w' := by
  obtain ⟨l, h1, h2, h3, h4⟩ := h
  exact room_any X r A n c l W h1 h2 (by omega) h4
theorem LAt.fails {D : DevP} (X : DevOk D) {W : World} {A : Option Addr} {n : Nat} (h : LAt W A n) (r : Int) (c : Nat) (hr : -9223372036854775808 ≤ r ∧ r < 9223372036854775808) : Calls Try.prog 6 #[.slice A n c, .int .i64 r] W fun e w' => e = .returned (.bool true) ∧ Below W.heap.size W w' := by
  obtain ⟨l, h1, h2, h3, h4⟩ := h
  exact fails_any X A n c l r W h1 h2 (by omega) h4
theorem LAt.renamed {D : DevP} (X : DevOk D) {W : World} {A : Option Addr} {n : Nat} (h : LAt W A n) (s u : ByteArray) (r : Int) (c : Nat) (hr : -9223372036854775808 ≤ r ∧ r < 9223372036854775808) : Calls Try.prog 8 #[.slice A n c, .string s, .string u, .int .i64 r] W fun e w' => e = .returned (.bool true) ∧ Below W.heap.size W w' := by
  obtain ⟨l, h1, h2, h3, h4⟩ := h
  exact renamed_any X A n c l s u r W h1 h2 (by omega) h4 hr
theorem wf1 {a : Int} (ha : (Lit.int .u8 a).wf = true) : ∀ x ∈ [a], (Lit.int .u8 x).wf = true := fun x hx => by rw [List.mem_singleton.1 hx]; exact ha
theorem wf2 {a b : Int} (ha : (Lit.int .u8 a).wf = true) (hb : (Lit.int .u8 b).wf = true) : ∀ x ∈ [a, b], (Lit.int .u8 x).wf = true := fun x hx => by
  simp only [List.mem_cons, List.not_mem_nil, or_false] at hx
  rcases hx with rfl | rfl
  · exact ha
  · exact hb
/-- The calls of a round of the last loop. -/
def ftn (b b' : Nat) (e : Int) : List Opm := [⟨0, ⟨#[98]⟩, ⟨#[]⟩, some ⟨b, 0, none⟩, 2, 2, 0, [1, 2]⟩, ⟨1, ⟨#[98]⟩, ⟨#[]⟩, none, 0, 0, 0, []⟩, ⟨0, ⟨#[98]⟩, ⟨#[]⟩, some ⟨b', 0, none⟩, 2, 2, 0, [3, 4]⟩, ⟨5, ⟨#[]⟩, ⟨#[]⟩, none, 0, 0, e, []⟩, ⟨1, ⟨#[120]⟩, ⟨#[]⟩, none, 0, 0, 0, []⟩,
  ⟨0, ⟨#[99]⟩, ⟨#[]⟩, none, 0, 0, 0, []⟩, ⟨1, ⟨#[99]⟩, ⟨#[]⟩, none, 0, 0, 0, []⟩, ⟨1, ⟨#[99]⟩, ⟨#[]⟩, none, 0, 0, 0, []⟩, ⟨3, ⟨#[99]⟩, ⟨#[]⟩, none, 0, 0, 0, []⟩, ⟨4, ⟨#[99]⟩, ⟨#[]⟩, none, 0, 0, 0, []⟩, ⟨2, ⟨#[98]⟩, ⟨#[]⟩, none, 0, 0, 9, []⟩, ⟨6, ⟨#[]⟩, ⟨#[]⟩, none, 0, 0, e, []⟩, ⟨6, ⟨#[]⟩, ⟨#[]⟩, none, 0, 0, 1, []⟩, ⟨4, ⟨#[98]⟩, ⟨#[]⟩, none, 0, 0, 0, []⟩]
theorem ftn_ok {W : World} {b b' : Nat} {e : Int} (he : -9223372036854775808 ≤ e ∧ e < 9223372036854775808) (h1 : W.heap[b]? = some (.cells (blk .u8 [1, 2]) 5 (0, 0))) (h2 : W.heap[b']? = some (.cells (blk .u8 [3, 4]) 5 (0, 0))) : ∀ p ∈ ftn b b' e, OpmK W p := by
  intro p hp
  simp only [ftn, List.mem_cons, List.not_mem_nil, or_false] at hp
  rcases hp with rfl | rfl | rfl | rfl | rfl | rfl | rfl | rfl | rfl | rfl | rfl | rfl | rfl | rfl
  · exact opmk_data 0 0 _ _ h1 (wf2 rfl rfl) 2 rfl (by omega) (by omega) (by omega)
  · exact opmk_nil W 1 0 _ _ (by omega) (by omega)
  · exact opmk_data 0 0 _ _ h2 (wf2 rfl rfl) 2 rfl (by omega) (by omega) (by omega)
  · exact opmk_nil W 5 e _ _ (by omega) he
  · exact opmk_nil W 1 0 _ _ (by omega) (by omega)
  · exact opmk_nil W 0 0 _ _ (by omega) (by omega)
  · exact opmk_nil W 1 0 _ _ (by omega) (by omega)
  · exact opmk_nil W 1 0 _ _ (by omega) (by omega)
  · exact opmk_nil W 3 0 _ _ (by omega) (by omega)
  · exact opmk_nil W 4 0 _ _ (by omega) (by omega)
  · exact opmk_nil W 2 9 _ _ (by omega) (by omega)
  · exact opmk_nil W 6 e _ _ (by omega) he
  · exact opmk_nil W 6 1 _ _ (by omega) (by omega)
  · exact opmk_nil W 4 0 _ _ (by omega) (by omega)
/-- The calls with the file 't'. -/
def eit (b : Nat) : List Opm := [⟨0, ⟨#[116]⟩, ⟨#[]⟩, some ⟨b, 0, none⟩, 2, 2, 0, [1, 2]⟩, ⟨1, ⟨#[116]⟩, ⟨#[]⟩, none, 0, 0, 0, []⟩, ⟨0, ⟨#[116]⟩, ⟨#[]⟩, some ⟨b + 1, 0, none⟩, 2, 2, 0, [3, 4]⟩, ⟨2, ⟨#[116]⟩, ⟨#[]⟩, none, 0, 0, 3, []⟩, ⟨6, ⟨#[]⟩, ⟨#[]⟩, none, 0, 0, 0, []⟩,
  ⟨2, ⟨#[116]⟩, ⟨#[]⟩, none, 0, 0, 1, []⟩, ⟨0, ⟨#[116]⟩, ⟨#[]⟩, some ⟨b + 2, 0, none⟩, 1, 1, 0, [5]⟩, ⟨6, ⟨#[]⟩, ⟨#[]⟩, none, 0, 0, 0, []⟩]
theorem eit_ok {W : World} {b : Nat} (h1 : W.heap[b]? = some (.cells (blk .u8 [1, 2]) 5 (0, 0))) (h2 : W.heap[b + 1]? = some (.cells (blk .u8 [3, 4]) 5 (0, 0))) (h3 : W.heap[b + 2]? = some (.cells (blk .u8 [5]) 5 (0, 0))) : ∀ p ∈ eit b, OpmK W p := by
  intro p hp
  simp only [eit, List.mem_cons, List.not_mem_nil, or_false] at hp
  rcases hp with rfl | rfl | rfl | rfl | rfl | rfl | rfl | rfl
  · exact opmk_data 0 0 _ _ h1 (wf2 rfl rfl) 2 rfl (by omega) (by omega) (by omega)
  · exact opmk_nil W 1 0 _ _ (by omega) (by omega)
  · exact opmk_data 0 0 _ _ h2 (wf2 rfl rfl) 2 rfl (by omega) (by omega) (by omega)
  · exact opmk_nil W 2 3 _ _ (by omega) (by omega)
  · exact opmk_nil W 6 0 _ _ (by omega) (by omega)
  · exact opmk_nil W 2 1 _ _ (by omega) (by omega)
  · exact opmk_data 0 0 _ _ h3 (wf1 rfl) 1 rfl (by omega) (by omega) (by omega)
  · exact opmk_nil W 6 0 _ _ (by omega) (by omega)
theorem eit_at (W : World) : LAt ((((W.alloc (.cells #[.int .u8 1, .int .u8 2] 5)).alloc (.cells #[.int .u8 3, .int .u8 4] 5)).alloc (.cells #[.int .u8 5] 5)).alloc (.cells (flatV opC (eit W.heap.size)).toArray 46)) (some ⟨W.heap.size + 3, 0, none⟩) 8 := by
  have h := lat_new (W := ((W.alloc (.cells #[.int .u8 1, .int .u8 2] 5)).alloc (.cells #[.int .u8 3, .int .u8 4] 5)).alloc (.cells #[.int .u8 5] 5)) (eit W.heap.size)
    (eit_ok (ha _ (ha _ (heap_alloc_new W _))) (ha _ (heap_alloc_two W _ _)) (heap_at (by simp) _)) 8 rfl (by omega)
  rw [show (((W.alloc (.cells #[.int .u8 1, .int .u8 2] 5)).alloc (.cells #[.int .u8 3, .int .u8 4] 5)).alloc (.cells #[.int .u8 5] 5)).heap.size = W.heap.size + 3 by simp] at h
  exact h
/-- DeviceLasts of the rows of the example. -/
theorem lasts_at {D : DevP} (X : DevOk D) (W : World) (e : Int) (he : -9223372036854775808 ≤ e ∧ e < 9223372036854775808) :
    Calls Try.prog 5 #[.slice (some ⟨W.heap.size + 3, 0, none⟩) 3 3, .slice (some ⟨W.heap.size + 4, 0, none⟩) 1 1, .int .i64 9, .int .i64 e]
      (((((W.alloc (.cells #[.int .u8 1] 5)).alloc (.cells #[.int .u8 2, .int .u8 3] 5)).alloc (.cells #[.int .u8 4] 5)).alloc (.cells #[.slice (some ⟨W.heap.size, 0, none⟩) 1 1, .slice (some ⟨W.heap.size + 1, 0, none⟩) 2 2, .slice (some ⟨W.heap.size + 2, 0, none⟩) 1 1] 30)).alloc (.cells #[.bool true] 4))
      fun en w' => en = .returned (.bool true) ∧ Below W.heap.size W w' := by
  have B1 := bel_al (bel_al (bel_al (bel_al (bel_alloc W (.cells #[.int .u8 1] 5)) (.cells #[.int .u8 2, .int .u8 3] 5)) (.cells #[.int .u8 4] 5)) (.cells #[.slice (some ⟨W.heap.size, 0, none⟩) 1 1, .slice (some ⟨W.heap.size + 1, 0, none⟩) 2 2, .slice (some ⟨W.heap.size + 2, 0, none⟩) 1 1] 30)) (.cells #[.bool true] 4)
  have h1 := ha (.cells #[.bool true] 4) (ha (.cells #[.slice (some ⟨W.heap.size, 0, none⟩) 1 1, .slice (some ⟨W.heap.size + 1, 0, none⟩) 2 2, .slice (some ⟨W.heap.size + 2, 0, none⟩) 1 1] 30) (ha (.cells #[.int .u8 4] 5) (ha (.cells #[.int .u8 2, .int .u8 3] 5) (heap_alloc_new W (.cells #[.int .u8 1] 5)))))
  have h2 := ha (.cells #[.bool true] 4) (ha (.cells #[.slice (some ⟨W.heap.size, 0, none⟩) 1 1, .slice (some ⟨W.heap.size + 1, 0, none⟩) 2 2, .slice (some ⟨W.heap.size + 2, 0, none⟩) 1 1] 30) (ha (.cells #[.int .u8 4] 5) (heap_alloc_two W (.cells #[.int .u8 1] 5) (.cells #[.int .u8 2, .int .u8 3] 5))))
  have h3 := ha (.cells #[.bool true] 4) (ha (.cells #[.slice (some ⟨W.heap.size, 0, none⟩) 1 1, .slice (some ⟨W.heap.size + 1, 0, none⟩) 2 2, .slice (some ⟨W.heap.size + 2, 0, none⟩) 1 1] 30) (heap_at (w := (W.alloc (.cells #[.int .u8 1] 5)).alloc (.cells #[.int .u8 2, .int .u8 3] 5)) (n := W.heap.size + 2) (by simp) (.cells #[.int .u8 4] 5)))
  have h4 := ha (.cells #[.bool true] 4) (heap_at (w := ((W.alloc (.cells #[.int .u8 1] 5)).alloc (.cells #[.int .u8 2, .int .u8 3] 5)).alloc (.cells #[.int .u8 4] 5)) (n := W.heap.size + 3) (by simp) (.cells #[.slice (some ⟨W.heap.size, 0, none⟩) 1 1, .slice (some ⟨W.heap.size + 1, 0, none⟩) 2 2, .slice (some ⟨W.heap.size + 2, 0, none⟩) 1 1] 30))
  have h5 := heap_at (w := (((W.alloc (.cells #[.int .u8 1] 5)).alloc (.cells #[.int .u8 2, .int .u8 3] 5)).alloc (.cells #[.int .u8 4] 5)).alloc (.cells #[.slice (some ⟨W.heap.size, 0, none⟩) 1 1, .slice (some ⟨W.heap.size + 1, 0, none⟩) 2 2, .slice (some ⟨W.heap.size + 2, 0, none⟩) 1 1] 30)) (n := W.heap.size + 4) (by simp) (.cells #[.bool true] 4)
  generalize (((((W.alloc (.cells #[.int .u8 1] 5)).alloc (.cells #[.int .u8 2, .int .u8 3] 5)).alloc (.cells #[.int .u8 4] 5)).alloc (.cells #[.slice (some ⟨W.heap.size, 0, none⟩) 1 1, .slice (some ⟨W.heap.size + 1, 0, none⟩) 2 2, .slice (some ⟨W.heap.size + 2, 0, none⟩) 1 1] 30)).alloc (.cells #[.bool true] 4)) = V at *
  refine (lasts_any X _ 3 3 [⟨some ⟨W.heap.size, 0, none⟩, 1, 1, [1]⟩, ⟨some ⟨W.heap.size + 1, 0, none⟩, 2, 2, [2, 3]⟩, ⟨some ⟨W.heap.size + 2, 0, none⟩, 1, 1, [4]⟩] _ 1 1 [true] 9 e V (VRow.of_block h4 _ (List.prefix_refl _)) rfl (by omega) ?_ ((L.Row.of_block (k := ()) (l := [true]) h5 [true] (fun x hx => by rw [List.mem_singleton.1 hx]; rfl) (List.prefix_refl _)).more (block_lt h5)) rfl (by omega) he).mono fun en w' ⟨e1, e2⟩ => ⟨e1, B1.trans (e2.mono B1.size)⟩
  intro m hm
  simp only [List.mem_cons, List.not_mem_nil, or_false] at hm
  rcases hm with rfl | rfl | rfl
  · exact ⟨(Row.of_block (l := [1]) h1 [1] (wf1 rfl) (List.prefix_refl _)).more (block_lt h1), rfl, Nat.le_refl _, by show 1 ≤ _; omega⟩
  · exact ⟨(Row.of_block (l := [2, 3]) h2 [2, 3] (wf2 rfl rfl) (List.prefix_refl _)).more (block_lt h2), rfl, Nat.le_refl _, by show 2 ≤ _; omega⟩
  · exact ⟨(Row.of_block (l := [4]) h3 [4] (wf1 rfl) (List.prefix_refl _)).more (block_lt h3), rfl, Nat.le_refl _, by show 1 ≤ _; omega⟩
/-- The numbers about the ends. -/
def endsK : List Int := [-9223372036854775808, -1, 0, 1, 2, 3, 10, 14, 30, 16777216, 16777217, 9223372036854775807]
theorem endsK_in : ∀ x ∈ endsK, -9223372036854775808 ≤ x ∧ x < 9223372036854775808 := by decide
theorem ends_row {W : World} {g : Nat} (h : W.heap[g]? = some (.cells (blk .i64 endsK) 3 (0, 0))) {k : Nat} (hk : k < 12) : ∃ v, (-9223372036854775808 ≤ v ∧ v < 9223372036854775808) ∧ W.cell? ⟨g, k, none⟩ = some (.int .i64 v) := by
  have hr := (Row.of_block h endsK (fun x hx => by
    simp only [endsK, List.mem_cons, List.not_mem_nil, or_false] at hx
    rcases hx with rfl | rfl | rfl | rfl | rfl | rfl | rfl | rfl | rfl | rfl | rfl | rfl <;> rfl) (List.prefix_refl _)).2 (by decide)
  obtain ⟨b, o, e, _, hc⟩ := hr
  injection e with e
  injection e with e1 e2
  subst e1 e2
  have := hc k hk
  rw [Nat.zero_add] at this
  exact ⟨_, endsK_in _ (by show nth endsK k ∈ endsK; rw [show nth endsK k = endsK[k]'hk from by simp [nth, List.getElem?_eq_getElem (show k < endsK.length from hk)]; rfl]; exact List.getElem_mem _), this⟩
end Go.Proofs.Ytfclgjdlkcmnfaa
namespace Go.Proofs.Ytfclgjdlkcmnfaa
open Go.RowKit
set_option linter.unusedVariables false
set_option maxRecDepth 100000

/-- A device with so many files, of these names. -/
structure Man (d : Dv) (k u : Nat) (N : ByteArray → Prop) : Prop where
  ok : Dv.Ok d
  off : d.off = false
  left : d.left = -1
  room : d.room = 100
  len : d.fs.length = k
  used : usedD d.fs ≤ u
  has : ∀ s, (∃ f ∈ d.fs, f.nm = s) ↔ N s
theorem Man.cong {d : Dv} {k u : Nat} {N M : ByteArray → Prop} (h : Man d k u N) (e : ∀ s, N s ↔ M s) : Man d k u M := ⟨h.ok, h.off, h.left, h.room, h.len, h.used, fun s => (h.has s).trans (e s)⟩
theorem Man.no {d : Dv} {k u : Nat} {N : ByteArray → Prop} (h : Man d k u N) {s : ByteArray} (hn : ¬ N s) : findD d.fs s = none := findD_none.2 (fun f hf => by
  cases e : sameN f.nm s with
  | false => rfl
  | true => exact absurd ((h.has s).1 ⟨f, hf, sameN_iff.1 e⟩) hn)
theorem Man.yes {d : Dv} {k u : Nat} {N : ByteArray → Prop} (h : Man d k u N) {s : ByteArray} (hn : N s) : ∃ i, findD d.fs s = some i := by
  cases e : findD d.fs s with
  | some i => exact ⟨i, rfl⟩
  | none =>
    obtain ⟨f, hf, he⟩ := (h.has s).2 hn
    have := findD_none.1 e f hf
    rw [he, sameN_refl] at this
    cases this
theorem mem_ins {l : List Fl} {f g : Fl} (h : g = f ∨ g ∈ l) : g ∈ insD l f := by
  induction l with
  | nil => rcases h with rfl | h
           · simp [insD]
           · cases h
  | cons a t ih =>
    unfold insD
    cases lessN f.nm a.nm with
    | true => simp only [cond_true, List.mem_cons]; rcases h with h | h
              · exact .inl h
              · exact .inr (by simpa using h)
    | false =>
      simp only [cond_false, List.mem_cons]
      rcases h with h | h
      · exact .inr (ih (.inl h))
      · rcases List.mem_cons.1 h with h | h
        · exact .inl h
        · exact .inr (ih (.inr h))
theorem man_spent {d : Dv} (h : d.left = -1) : spentD d = d := by unfold spentD; rw [if_neg (by omega)]
theorem man_op {d : Dv} (h : d.left = -1) (d' : Dv) : opD d d' = (d', 0) := by unfold opD; rw [if_neg (by omega)]
theorem man_new {d : Dv} {k u : Nat} {N : ByteArray → Prop} (h : Man d k u N) {s : ByteArray} (hs : okN s = true) (hn : ¬ N s) (hk : k < 64) (hu : u ≤ 100) : (appD d s []).2 = 0 ∧ Man (appD d s []).1 (k + 1) u (fun x => N x ∨ x = s) := by
  have hok := app_ok h.ok s [] (fun x hx => absurd hx (by simp))
  have h1 := h.len
  have h2 := h.used
  have h3 := h.room
  have hf := h.no hn
  have e : appD d s [] = ({ d with fs := insD d.fs ⟨s, [], 0⟩ }, 0) := by
    unfold appD
    rw [if_neg (by rw [hs]; simp), if_neg (by rw [h.off]; simp), if_neg (by rw [h1, h3]; simp only [List.length_nil]; omega), man_op h.left, man_spent h.left]
    unfold addF
    rw [hf]
  rw [e] at hok ⊢
  refine ⟨rfl, hok, h.off, h.left, h.room, ?_, ?_, fun x => ?_⟩
  · show (insD d.fs _).length = _
    rw [ins_len, h1]
  · show usedD (insD d.fs _) ≤ u
    rw [used_ins]; simpa using h2
  · constructor
    · rintro ⟨f, hf, rfl⟩
      rcases ins_mem hf with rfl | hf
      · exact .inr rfl
      · exact .inl ((h.has _).1 ⟨f, hf, rfl⟩)
    · rintro (hx | rfl)
      · obtain ⟨f, hf, rfl⟩ := (h.has x).2 hx
        exact ⟨f, mem_ins (.inr hf), rfl⟩
      · exact ⟨_, mem_ins (.inl rfl), rfl⟩
theorem man_full {d : Dv} {k u : Nat} {N : ByteArray → Prop} (h : Man d k u N) {s : ByteArray} (hs : okN s = true) (hn : ¬ N s) (hk : k = 64) (b : List Int) : appD d s b = (d, 9) := by
  unfold appD
  rw [if_neg (by rw [hs]; simp), if_neg (by rw [h.off]; simp), if_pos (.inl ⟨h.no hn, by rw [h.len, hk]⟩)]
theorem man_old {d : Dv} {k u : Nat} {N : ByteArray → Prop} (h : Man d k u N) {s : ByteArray} (hs : okN s = true) (hn : N s) (b : List Int) (hb : ∀ x ∈ b, (Lit.int .u8 x).wf = true) (hu : u + b.length ≤ 100) : (appD d s b).2 = 0 ∧ Man (appD d s b).1 k (u + b.length) N := by
  have hok := app_ok h.ok s b hb
  have h1 := h.len
  have h2 := h.used
  have h3 := h.room
  obtain ⟨i, hf⟩ := h.yes hn
  obtain ⟨hi, _⟩ := findD_some hf
  have e : appD d s b = ({ d with fs := d.fs.modify i (fun f => { f with bs := f.bs ++ b }) }, 0) := by
    unfold appD
    rw [if_neg (by rw [hs]; simp), if_neg (by rw [h.off]; simp), if_neg (by rw [hf, h3]; simp only [reduceCtorEq, false_and, false_or]; omega), man_op h.left, man_spent h.left]
    unfold addF
    rw [hf]
  rw [e] at hok ⊢
  have hnm : (d.fs.modify i (fun f => { f with bs := f.bs ++ b })).map (fun f => f.nm) = d.fs.map (fun f => f.nm) := by
    apply List.ext_getElem
    · simp
    · intro j h1 h2
      simp only [List.getElem_map, List.getElem_modify]
      split <;> rfl
  refine ⟨rfl, hok, h.off, h.left, h.room, ?_, ?_, fun x => ?_⟩
  · show (d.fs.modify i _).length = _
    rw [List.length_modify, h1]
  · show usedD (d.fs.modify i _) ≤ u + b.length
    have := used_modify hi (fun f => { f with bs := f.bs ++ b })
    simp only [List.length_append] at this
    omega
  · rw [← h.has x]
    have t : ∀ l : List Fl, (∃ f ∈ l, f.nm = x) ↔ x ∈ l.map (fun f => f.nm) := fun l => List.mem_map.symm
    rw [t, t]
    show x ∈ (d.fs.modify i (fun f => { f with bs := f.bs ++ b })).map (fun f => f.nm) ↔ _
    rw [hnm]
theorem erase_has {l : List Fl} (hup : l.Pairwise (fun a b => lessN a.nm b.nm = true)) {s : ByteArray} {i : Nat} (hf : findD l s = some i) (x : ByteArray) : (∃ f ∈ l.eraseIdx i, f.nm = x) ↔ (∃ f ∈ l, f.nm = x) ∧ x ≠ s := by
  obtain ⟨hi, h1, _⟩ := findD_some hf
  have hout : outD l s = l.eraseIdx i := by unfold outD; rw [hf]
  constructor
  · rintro ⟨f, hm, rfl⟩
    refine ⟨⟨f, List.mem_of_mem_eraseIdx hm, rfl⟩, fun e => ?_⟩
    have := outD_none hup s f (by rw [hout]; exact hm)
    rw [e, sameN_refl] at this
    cases this
  · rintro ⟨⟨f, hm, rfl⟩, hne⟩
    refine ⟨f, ?_, rfl⟩
    obtain ⟨j, hj, rfl⟩ := List.getElem_of_mem hm
    refine List.mem_eraseIdx_iff_getElem.2 ⟨j, hj, fun e => hne ?_, rfl⟩
    subst e
    exact sameN_iff.1 h1
theorem man_rem {d : Dv} {k u : Nat} {N : ByteArray → Prop} (h : Man d k u N) {s : ByteArray} (hn : N s) : (remD d s).2 = 0 ∧ Man (remD d s).1 (k - 1) u (fun x => N x ∧ x ≠ s) := by
  have hok := rem_ok h.ok s
  have h1 := h.len
  obtain ⟨i, hf⟩ := h.yes hn
  obtain ⟨hi, _⟩ := findD_some hf
  have e : remD d s = ({ d with fs := d.fs.eraseIdx i }, 0) := by
    unfold remD
    rw [if_neg (by rw [h.off]; simp), hf]
    simp only
    rw [man_op h.left, man_spent h.left]
  rw [e] at hok ⊢
  refine ⟨rfl, hok, h.off, h.left, h.room, ?_, ?_, fun x => ?_⟩
  · show (d.fs.eraseIdx i).length = _
    rw [List.length_eraseIdx_of_lt hi, h1]
  · show usedD (d.fs.eraseIdx i) ≤ u
    exact Nat.le_trans (used_erase_le _ _) h.used
  · rw [← h.has x]
    exact erase_has h.ok.up hf x
theorem man_ren {d : Dv} {k u : Nat} {N : ByteArray → Prop} (h : Man d k u N) {s t : ByteArray} (hs : okN t = true) (hn : N s) (ht : ¬ N t) : (renD d s t).2 = 0 ∧ Man (renD d s t).1 k u (fun x => (N x ∧ x ≠ s) ∨ x = t) := by
  have hok := ren_ok h.ok s t
  have h1 := h.len
  obtain ⟨i, hf⟩ := h.yes hn
  obtain ⟨hi, _⟩ := findD_some hf
  have hno : findD (d.fs.eraseIdx i) t = none := findD_none.2 (fun f hm => by
    cases e : sameN f.nm t with
    | false => rfl
    | true => exact absurd ((h.has t).1 ⟨f, List.mem_of_mem_eraseIdx hm, sameN_iff.1 e⟩) ht)
  have hout : outD (d.fs.eraseIdx i) t = d.fs.eraseIdx i := by unfold outD; rw [hno]
  have e : renD d s t = ({ d with fs := insD (d.fs.eraseIdx i) { d.fs[i] with nm := t } }, 0) := by
    unfold renD
    rw [if_neg (by rw [hs]; simp), if_neg (by rw [h.off]; simp), hf]
    simp only [List.getElem?_eq_getElem hi]
    rw [man_op h.left, man_spent h.left, hout]
  rw [e] at hok ⊢
  refine ⟨rfl, hok, h.off, h.left, h.room, ?_, ?_, fun x => ?_⟩
  · show (insD (d.fs.eraseIdx i) _).length = _
    rw [ins_len, List.length_eraseIdx_of_lt hi]; omega
  · show usedD (insD (d.fs.eraseIdx i) _) ≤ u
    rw [used_ins]
    have := used_erase hi
    have := h.used
    simp only
    omega
  · show (∃ f ∈ insD (d.fs.eraseIdx i) { d.fs[i] with nm := t }, f.nm = x) ↔ _
    constructor
    · rintro ⟨f, hm, rfl⟩
      rcases ins_mem hm with rfl | hm
      · exact .inr rfl
      · have := (erase_has h.ok.up hf f.nm).1 ⟨f, hm, rfl⟩
        exact .inl ⟨(h.has _).1 this.1, this.2⟩
    · rintro (⟨hx, hne⟩ | rfl)
      · obtain ⟨f, hm, rfl⟩ := (erase_has h.ok.up hf x).2 ⟨(h.has x).2 hx, hne⟩
        exact ⟨f, mem_ins (.inr hm), rfl⟩
      · exact ⟨_, mem_ins (.inl rfl), rfl⟩

/-- The names of one byte, up to so many. -/
def oneN (k : Nat) (x : ByteArray) : Prop := ∃ j < k, x = strOfNums [(j : Int)]
def n5 : ByteArray := ⟨#[5]⟩
def n6 : ByteArray := ⟨#[6]⟩
def nNew : ByteArray := ⟨#[110, 101, 119]⟩
theorem oneN_ok (k : Nat) : okN (strOfNums [(k : Int)]) = true := rfl
theorem oneN_not {k : Nat} (hk : k < 64) : ¬ oneN k (strOfNums [(k : Int)]) := by
  rintro ⟨j, hj, e⟩
  have e2 := congrArg (fun x : ByteArray => x.data.toList) e
  simp only [strOfNums_data, List.map_cons, List.map_nil, List.cons.injEq, and_true] at e2
  have e3 := congrArg UInt8.toNat e2
  simp only [UInt8.toNat_ofNat', Int.toNat_natCast] at e3
  omega
theorem oneN_succ (k : Nat) (x : ByteArray) : oneN k x ∨ x = strOfNums [(k : Int)] ↔ oneN (k + 1) x := by
  constructor
  · rintro (⟨j, hj, e⟩ | e)
    · exact ⟨j, by omega, e⟩
    · exact ⟨k, by omega, e⟩
  · rintro ⟨j, hj, e⟩
    by_cases h : j = k
    · subst h; exact .inr e
    · exact .inl ⟨j, by omega, e⟩
theorem man_zero : Man (newD 100) 0 0 (oneN 0) := ⟨new_ok 100 (by omega), rfl, rfl, rfl, rfl, Nat.le_refl _, fun s => by
  constructor
  · rintro ⟨f, hf, _⟩; exact absurd hf (by simp [newD])
  · rintro ⟨j, hj, _⟩; omega⟩
theorem new_not : ¬ oneN 64 nNew := by
  rintro ⟨j, hj, e⟩
  have := congrArg ByteArray.size e
  rw [strOfNums_size] at this
  exact absurd this (by show ¬ (3 = 1); omega)
theorem n5_in : oneN 64 n5 := ⟨5, by omega, rfl⟩
theorem n6_in : oneN 64 n6 := ⟨6, by omega, rfl⟩
theorem n65 : n6 ≠ n5 := by decide
theorem n5New : n5 ≠ nNew := by decide
/-- What becomes of a device with as many files as there may be. -/
theorem man_all {d : Dv} (h : Man d 64 0 (oneN 64)) :
    appD d nNew [] = (d, 9) ∧ ∃ d1 d2 d3 d4, appD d n5 [1] = (d1, 0) ∧ renD d1 n5 nNew = (d2, 0) ∧ appD d2 n5 [] = (d2, 9) ∧ remD d2 n6 = (d3, 0) ∧ appD d3 n5 [] = (d4, 0) ∧ (namesD d4).length = 64 ∧ Dv.Ok d1 ∧ Dv.Ok d2 ∧ Dv.Ok d3 ∧ Dv.Ok d4 := by
  have e0 := man_full h (s := nNew) (by rfl) new_not rfl []
  obtain ⟨a1, m1⟩ := man_old h (s := n5) (by rfl) n5_in [1] (fun x hx => by rw [List.mem_singleton.1 hx]; rfl) (by simp)
  obtain ⟨a2, m2⟩ := man_ren m1 (s := n5) (t := nNew) (by rfl) n5_in new_not
  have q5 : ¬ ((oneN 64 n5 ∧ n5 ≠ n5) ∨ n5 = nNew) := fun q => q.elim (fun q => q.2 rfl) n5New
  have e3 := man_full m2 (s := n5) (by rfl) q5 rfl []
  obtain ⟨a4, m4⟩ := man_rem m2 (s := n6) (.inl ⟨n6_in, n65⟩)
  obtain ⟨a5, m5⟩ := man_new m4 (s := n5) (by rfl) (fun q => q5 q.1) (by omega) (by simp)
  refine ⟨e0, _, _, _, _, Prod.ext rfl a1, Prod.ext rfl a2, e3, Prod.ext rfl a4, Prod.ext rfl a5, ?_, m1.ok, m2.ok, m4.ok, m5.ok⟩
  unfold namesD
  rw [List.length_map, m5.len]
end Go.Proofs.Ytfclgjdlkcmnfaa
namespace Go.Proofs.Ytfclgjdlkcmnfaa
open Go.RowKit
set_option linter.unusedVariables false
set_option maxRecDepth 100000

/-- A device of the call's own, known. -/
def DvAt (D : DevP) (g : Nat) (w wr : World) (d : Dv) : Prop := ∃ G, D wr G g d ∧ Dv.Ok d ∧ (∀ b, G b → w.heap.size ≤ b) ∧ Below w.heap.size w wr
theorem DvAt.bel {D : DevP} {g : Nat} {w wr : World} {d : Dv} (h : DvAt D g w wr d) : Below w.heap.size w wr := by
  obtain ⟨_, _, _, _, h⟩ := h; exact h
theorem DvAt.alloc {D : DevP} (X : DevOk D) {g : Nat} {w wr : World} {d : Dv} (h : DvAt D g w wr d) (o : Obj) : DvAt D g w (wr.alloc o) d := by
  obtain ⟨G, h1, h2, h3, h4⟩ := h
  exact ⟨G, X.dev.frm h1 (Frm.of_below (F := fun _ => False) (bel_alloc wr o)) (fun _ _ e => e), h2, h3, h4.alloc h4.size o⟩
theorem DvAt.stp {D : DevP} {g : Nat} {w wr w' : World} {d' : Dv} {G : Nat → Prop} {v : Value} {e : Ending} (h3 : ∀ b, G b → w.heap.size ≤ b) (h4 : Below w.heap.size w wr) (h : Stp D G g d' v wr e w') (ok : Dv.Ok d') : e = .returned v ∧ DvAt D g w w' d' := by
  obtain ⟨rfl, G', hd, fr, hs⟩ := h
  exact ⟨rfl, G', hd, ok, fun b hb => (hs b hb).elim (h3 b) (fun e => Nat.le_trans h4.size e), fr.below h4 h4.size h3⟩
theorem dvat_app {D : DevP} (X : DevOk D) {g : Nat} {w wr : World} {d d' : Dv} {E : Int} (s : ByteArray) (h : DvAt D g w wr d) (e : appD d s [] = (d', E)) (ok : Dv.Ok d') : Calls Try.prog 25 #[.pointer (some ⟨g, 0, none⟩), .string s, .slice none 0 0] wr fun e w' => e = .returned (.int .i64 E) ∧ DvAt D g w w' d' := by
  obtain ⟨G, h1, h2, h3, h4⟩ := h
  refine (X.append s none 0 0 [] h1 h2 (Row.nil _ _ _ _) rfl (by omega) (by omega) (by omega) (fun a ha => by cases ha)).mono fun en w' hs => ?_
  rw [e] at hs
  exact DvAt.stp h3 h4 hs ok
theorem dvat_app1 {D : DevP} (X : DevOk D) {g : Nat} {w wr : World} {d d' : Dv} {E : Int} (s : ByteArray) (h : DvAt D g w wr d) (e : appD d s [1] = (d', E)) (ok : Dv.Ok d') : Calls Try.prog 25 #[.pointer (some ⟨g, 0, none⟩), .string s, .slice (some ⟨wr.heap.size, 0, none⟩) 1 1] (wr.alloc (.cells #[.int .u8 1] 5)) fun e w' => e = .returned (.int .i64 E) ∧ DvAt D g w w' d' := by
  obtain ⟨G, h1, h2, h3, h4⟩ := h
  have hlt : ∀ b, G b → b < wr.heap.size := fun b hb => X.dev.lt h1 b hb
  have hx : (wr.alloc (.cells #[.int .u8 1] 5)).heap[wr.heap.size]? = some (.cells (blk .u8 [1]) 5 (0, 0)) := heap_alloc_new wr _
  have hd := X.dev.frm h1 (Frm.of_below (F := fun _ => False) (bel_alloc wr (.cells #[.int .u8 1] 5))) (fun _ _ e => e)
  refine (X.append s (some ⟨wr.heap.size, 0, none⟩) 1 1 [1] hd h2 ((Row.of_block hx [1] (fun x hx => by rw [List.mem_singleton.1 hx]; rfl) (List.prefix_refl _)).more (block_lt hx)) rfl (by omega) (by omega) (by omega) (fun a ha _ hG => by
    injection ha with ha
    subst ha
    have := hlt _ hG
    simp only at this
    omega)).mono fun en w' hs => ?_
  rw [e] at hs
  exact DvAt.stp h3 (h4.alloc h4.size _) hs ok
theorem dvat_ren {D : DevP} (X : DevOk D) {g : Nat} {w wr : World} {d d' : Dv} {E : Int} (s u : ByteArray) (h : DvAt D g w wr d) (e : renD d s u = (d', E)) (ok : Dv.Ok d') : Calls Try.prog 31 #[.pointer (some ⟨g, 0, none⟩), .string s, .string u] wr fun e w' => e = .returned (.int .i64 E) ∧ DvAt D g w w' d' := by
  obtain ⟨G, h1, h2, h3, h4⟩ := h
  refine (X.rename s u h1 h2).mono fun en w' hs => ?_
  rw [e] at hs
  exact DvAt.stp h3 h4 hs ok
theorem dvat_rem {D : DevP} (X : DevOk D) {g : Nat} {w wr : World} {d d' : Dv} {E : Int} (s : ByteArray) (h : DvAt D g w wr d) (e : remD d s = (d', E)) (ok : Dv.Ok d') : Calls Try.prog 44 #[.pointer (some ⟨g, 0, none⟩), .string s] wr fun e w' => e = .returned (.int .i64 E) ∧ DvAt D g w w' d' := by
  obtain ⟨G, h1, h2, h3, h4⟩ := h
  refine (X.remove s h1 h2).mono fun en w' hs => ?_
  rw [e] at hs
  exact DvAt.stp h3 h4 hs ok
theorem dvat_names {D : DevP} (X : DevOk D) {g : Nat} {w wr : World} {d : Dv} {n : Nat} (h : DvAt D g w wr d) (hn : (namesD d).length = n) : Calls Try.prog 16 #[.pointer (some ⟨g, 0, none⟩)] wr fun e w' => ∃ A q, e = .returned (.slice A n q) ∧ Below w.heap.size w w' := by
  obtain ⟨G, h1, h2, h3, h4⟩ := h
  refine (X.names h1 h2).mono ?_
  rintro en w' ⟨v, rfl, own, p⟩
  obtain ⟨A1, q1, hv⟩ := own.letters
  rw [hn] at hv
  subst hv
  exact ⟨_, _, rfl, h4.trans (p.mono h4.size)⟩
def ManTo (D : DevP) (g : Nat) (w wr : World) (k : Nat) : Prop := ∃ d, DvAt D g w wr d ∧ Man d k 0 (oneN k)
theorem man_step {D : DevP} (X : DevOk D) {g : Nat} {w wr : World} {k : Nat} (h : ManTo D g w wr k) (hk : k < 64) : Calls Try.prog 25 #[.pointer (some ⟨g, 0, none⟩), .string (strOfNums [(k : Int)]), .slice none 0 0] wr fun e w' => e = .returned (.int .i64 0) ∧ ManTo D g w w' (k + 1) := by
  obtain ⟨d, h1, h2⟩ := h
  obtain ⟨a1, m1⟩ := man_new h2 (oneN_ok k) (oneN_not hk) hk (by omega)
  have e0 : appD d (strOfNums [(k : Int)]) [] = ((appD d (strOfNums [(k : Int)]) []).1, 0) := by rw [← a1]
  refine (dvat_app X _ h1 e0 m1.ok).mono fun e w' ⟨e1, h⟩ => ⟨e1, _, h, m1.cong (oneN_succ k)⟩
theorem ManTo.alloc {D : DevP} (X : DevOk D) {g : Nat} {w wr : World} {k : Nat} (h : ManTo D g w wr k) (o : Obj) : ManTo D g w (wr.alloc o) k := by
  obtain ⟨d, h1, h2⟩ := h
  exact ⟨d, h1.alloc X o, h2⟩
set_option maxHeartbeats 4000000 in
theorem many_any {D : DevP} (X : DevOk D) (w : World) : Calls Try.prog 32 #[] w fun e w' => e = .returned (.bool true) ∧ Below w.heap.size w w' := by
  have HX := Lib.hid X
  clear X
  go_enter Try.func32, Try.ntmps32
  go_wp2_with fail
  refine (HX.out.newYes 100 w (by omega)).mono ?_
  rintro e w1 ⟨g1, G1, rfl, h1, b1, n1⟩
  have HI : Hid (ManTo D g1 w w1 0) := Lib.hid ⟨newD 100, ⟨G1, h1, new_ok 100 (by omega), n1, b1⟩, man_zero⟩
  clear h1 b1 n1
  go_wp2_with fail
  go_loopw [3] (fun i wr => ∃ k : Nat, k ≤ 64 ∧ i = .int .i64 k ∧ Hid (ManTo D g1 w wr k)) (fun i _ => 64 - (intOf i).toNat)
  case atStart => exact ⟨0, by omega, rfl, HI⟩
  case round =>
    obtain ⟨k, hk, rfl, hrel⟩ := hrel
    clear HI
    by_cases hlt : k < 64
    · have hx : IntKind.u8.wrap (k : Int) = (k : Int) := by rw [wrap_u8_nat]; omega
      have n1 : (k : Int) < 64 := by omega
      have n2 : (0 : Int) ≤ k := by omega
      have hcv := run_convert_bytes_arg (P := Try.prog) (wr.alloc (.cells #[.int .u8 (k : Int)] 5)) 30 5 Try.underlying30 Try.underlying5 wr.heap.size 0 1 1 [(k : Int)] rfl (by
        intro i hi
        rw [Nat.zero_add, cell_of_row _ _ i _ _ _ (heap_alloc_new wr (.cells #[.int .u8 (k : Int)] 5))]
        rcases i with _ | i
        · rfl
        · omega) 9 Try.underlying9
      have HST := Lib.hid (man_step HX.out (ManTo.alloc HX.out hrel.out (.cells #[.int .u8 (k : Int)] 5)) hlt)
      generalize hs : strOfNums [(k : Int)] = s at *
      go_wp2_with fail
      refine HST.out.mono ?_
      rintro e wa ⟨rfl, hm⟩
      have HM := Lib.hid hm
      clear hcv hm HST hrel
      go_wp2
      go_roundw
      case rel => exact ⟨k + 1, by omega, by go_num, HM⟩
      case measure => simp [intOf]; omega
    · obtain rfl : k = 64 := by omega
      obtain ⟨d, h1, h2⟩ := hrel.out
      obtain ⟨e0, d1, d2, d3, d4, e1, e2, e3, e4, e5, hlen, ok1, ok2, ok3, ok4⟩ := man_all h2
      have H0 := Lib.hid h1
      have E0 := Lib.hid (And.intro e0 h2.ok)
      have E1 := Lib.hid (And.intro e1 ok1)
      have E2 := Lib.hid (And.intro e2 ok2)
      have E3 := Lib.hid (And.intro e3 ok2)
      have E4 := Lib.hid (And.intro e4 ok3)
      have E5 := Lib.hid (And.intro e5 ok4)
      have HL := Lib.hid hlen
      clear h1 h2 e0 e1 e2 e3 e4 e5 hlen ok1 ok2 ok3 ok4 hrel hlt hk
      go_wp2_with fail
      refine (dvat_app HX.out nNew H0.out E0.out.1 E0.out.2).mono ?_
      rintro e wa ⟨rfl, h⟩
      have Ha := Lib.hid h
      clear h
      go_wp2_with fail
      refine (dvat_app1 HX.out n5 Ha.out E1.out.1 E1.out.2).mono ?_
      rintro e wb ⟨rfl, h⟩
      have Hb := Lib.hid h
      clear h
      go_wp2_with fail
      refine (dvat_ren HX.out n5 nNew Hb.out E2.out.1 E2.out.2).mono ?_
      rintro e wc ⟨rfl, h⟩
      have Hc := Lib.hid h
      clear h
      go_wp2_with fail
      refine (dvat_app HX.out n5 Hc.out E3.out.1 E3.out.2).mono ?_
      rintro e wd ⟨rfl, h⟩
      have Hd := Lib.hid h
      clear h
      go_wp2_with fail
      refine (dvat_rem HX.out n6 Hd.out E4.out.1 E4.out.2).mono ?_
      rintro e we ⟨rfl, h⟩
      have He := Lib.hid h
      clear h
      go_wp2_with fail
      refine (dvat_app HX.out n5 He.out E5.out.1 E5.out.2).mono ?_
      rintro e wf ⟨rfl, h⟩
      have Hf := Lib.hid h
      clear h
      go_wp2_with fail
      refine (dvat_names HX.out Hf.out HL.out).mono ?_
      rintro e wg ⟨A, q, rfl, hb⟩
      have HB := Lib.hid hb
      clear hb
      go_wp2
      go_ret
      exact ⟨rfl, HB.out⟩
end Go.Proofs.Ytfclgjdlkcmnfaa
namespace Go.Proofs.Ytfclgjdlkcmnfaa
open Go.RowKit
set_option linter.unusedVariables false
set_option maxRecDepth 100000

theorem refNew_no12 (r : Int) (w : World) (hr : r < 0 ∨ 16777216 < r) : Calls Try.prog 11 #[.int .i64 r] w fun e w' => e = .returned (.tuple #[.pointer none, .int .i64 3]) ∧ Below w.heap.size w w' :=
  (refNew_no r w hr).mono fun e w' ⟨h1, h2⟩ => ⟨h1, by rw [← h2]; exact Below.refl _ _⟩
theorem news_any {D : DevP} (X : DevOk D) (r : Int) (s : ByteArray) (w : World) : Calls Try.prog 3 #[.int .i64 r, .string s] w fun e w' => e = .returned (.bool true) ∧ Below w.heap.size w w' := by
  have HX := Lib.hid X
  clear X
  by_cases hrr : r < 0 ∨ 16777216 < r
  · have HRR := Lib.hid hrr
    clear hrr
    go_enter Try.func3, Try.ntmps3
    go_wp2_with fail
    refine (HX.out.newNo r w HRR.out).mono ?_
    rintro e w1 ⟨rfl, b1⟩
    go_wp2_with fail
    refine (refNew_no12 r w1 HRR.out).mono ?_
    rintro e w2 ⟨rfl, b2⟩
    have bel2 := b1.trans (b2.mono b1.size)
    go_wp2_with fail
    refine (works12 HX.out w2).mono ?_
    rintro e w3 ⟨rfl, b3⟩
    go_wp2
    go_ret
    exact ⟨rfl, bel2.trans (b3.mono bel2.size)⟩
  obtain ⟨q, rfl⟩ := Int.eq_ofNat_of_zero_le (show 0 ≤ r by omega)
  have hq : q ≤ 16777216 := by omega
  clear hrr
  go_enter Try.func3, Try.ntmps3
  go_wp2_with fail
  refine (HX.out.newYes q w hq).mono ?_
  rintro e w1 ⟨g1, G1, rfl, h1, b1, n1⟩
  go_wp2_with fail
  refine (refNew_yes q w1 hq).mono ?_
  rintro e w2 ⟨rfl, h2, b2⟩
  have bel2 := b1.trans (b2.mono b1.size)
  have D2 := Lib.hid (HX.out.dev.frm h1 (Frm.of_below (F := fun _ => False) b2) (fun _ _ e => e))
  have ok : Hid (Dv.Ok (newD q)) := Lib.hid (new_ok q hq)
  have eU : Hid (usedD (newD q).fs = 0) := Lib.hid rfl
  have eN : Hid (namesD (newD q) = []) := Lib.hid rfl
  have eR : Hid (readE (newD q) s = 6) := Lib.hid rfl
  clear h1 h2 b1 b2 n1
  go_wp2_with fail
  refine (HX.out.read s D2.out ok.out).mono ?_
  rintro e w3 ⟨v, rfl, own, b3⟩
  rw [eR.out]
  have bel3 := bel2.trans (b3.mono bel2.size)
  have D3 := Lib.hid (HX.out.dev.frm D2.out (Frm.of_below (F := fun _ => False) b3) (fun _ _ e => e))
  obtain ⟨A, n, c, rfl⟩ := own.letters
  clear own b3
  go_wp2_with fail
  refine (HX.out.free D3.out ok.out).mono ?_
  rintro e w4 ⟨rfl, b4⟩
  rw [eU.out, show (((newD q).room : Nat) : Int) - ((0 : Nat) : Int) = (q : Int) from by show ((q : Nat) : Int) - 0 = q; omega]
  have bel4 := bel3.trans (b4.mono bel3.size)
  have D4 := Lib.hid (HX.out.dev.frm D3.out (Frm.of_below (F := fun _ => False) b4) (fun _ _ e => e))
  clear b4
  go_wp2_with fail
  refine (HX.out.used D4.out ok.out).mono ?_
  rintro e w5 ⟨rfl, b5⟩
  rw [eU.out]
  have bel5 := bel4.trans (b5.mono bel4.size)
  have D5 := Lib.hid (HX.out.dev.frm D4.out (Frm.of_below (F := fun _ => False) b5) (fun _ _ e => e))
  clear b5
  go_wp2_with fail
  refine (HX.out.names D5.out ok.out).mono ?_
  rintro e w6 ⟨v6, rfl, own6, b6⟩
  rw [eN.out] at own6
  obtain ⟨A6, c6, rfl⟩ := own6.letters
  have bel6 := bel5.trans (b6.mono bel5.size)
  have D6 := Lib.hid (HX.out.dev.frm D5.out (Frm.of_below (F := fun _ => False) b6) (fun _ _ e => e))
  clear b6 own6
  go_wp2_with fail
  refine (HX.out.down D6.out ok.out).mono ?_
  rintro e w7 ⟨rfl, b7⟩
  rw [show (newD q).off = false from rfl]
  have bel7 := bel6.trans (b7.mono bel6.size)
  clear b7
  go_wp2_with fail
  refine (works12 HX.out w7).mono ?_
  rintro e w8 ⟨rfl, b8⟩
  go_wp2
  go_ret
  exact ⟨rfl, bel7.trans (b8.mono bel7.size)⟩
theorem walk_DeviceNews (r : Int) (s : ByteArray) (w : World) (hr : (Lit.int .i64 r).wf = true) (hs : s.size ≤ maxLen) : Calls Try.prog 3 #[.int .i64 r, .string s] w fun e w' => e = .returned (.bool true) ∧ Below w.heap.size w w' := news_any devOk12 r s w
end Go.Proofs.Ytfclgjdlkcmnfaa
namespace Go.Proofs.Ytfclgjdlkcmnfaa
open Go.RowKit
set_option linter.unusedVariables false
set_option maxRecDepth 100000

def NMC : Array Value := #[.string ⟨#[]⟩, .string ⟨#[97]⟩, .string ⟨#[98]⟩, .string ⟨#[97, 97, 97, 97, 98, 98, 98, 98, 99, 99, 99, 99, 100, 100, 100, 100]⟩, .string (⟨#[97, 97, 97, 97, 98, 98, 98, 98, 99, 99, 99, 99, 100, 100, 100, 100]⟩ ++ ⟨#[101]⟩), .string ⟨#[0]⟩, .string ⟨#[255]⟩]
theorem nmc_cell (w : World) {W : World} (hb : Below (w.heap.size + 1) (w.alloc (.cells NMC 9)) W) {i : Nat} (hi : i < 7) : ∃ s, W.cell? ⟨w.heap.size, i, none⟩ = some (.string s) := by
  have hz : (w.alloc (.cells NMC 9)).heap.size = w.heap.size + 1 := by simp
  rw [hb.cell (p := ⟨w.heap.size, i, none⟩) (by show w.heap.size < _; omega), cell_of_row _ w.heap.size i _ _ _ (heap_alloc_new w (.cells NMC 9))]
  match i, hi with
  | 0, _ => exact ⟨_, rfl⟩
  | 1, _ => exact ⟨_, rfl⟩
  | 2, _ => exact ⟨_, rfl⟩
  | 3, _ => exact ⟨_, rfl⟩
  | 4, _ => exact ⟨_, rfl⟩
  | 5, _ => exact ⟨_, rfl⟩
  | 6, _ => exact ⟨_, rfl⟩
/-- The calls that a round of the first loop lays. -/
def four (b b' : Nat) (k : Int) (s : ByteArray) : List Opm := [⟨0, s, ⟨#[]⟩, some ⟨b, 0, none⟩, 3, 3, 0, [1, 2, k]⟩, ⟨1, s, ⟨#[]⟩, none, 0, 0, 0, []⟩, ⟨0, s, ⟨#[]⟩, none, 0, 0, 0, []⟩, ⟨0, s, ⟨#[97]⟩, some ⟨b', 0, none⟩, 1, 1, 0, [9]⟩]
theorem four_ok {W : World} {b b' : Nat} {k : Nat} (s : ByteArray) (hk : k < 7) (h1 : W.heap[b]? = some (.cells (blk .u8 [1, 2, (k : Int)]) 5 (0, 0))) (h2 : W.heap[b']? = some (.cells (blk .u8 [9]) 5 (0, 0))) : ∀ p ∈ four b b' k s, OpmK W p := by
  intro p hp
  simp only [four, List.mem_cons, List.not_mem_nil, or_false] at hp
  rcases hp with rfl | rfl | rfl | rfl
  · exact opmk_data 0 0 s _ h1 (fun x hx => by
      simp only [List.mem_cons, List.not_mem_nil, or_false] at hx
      rcases hx with rfl | rfl | rfl
      · rfl
      · rfl
      · exact wf_byte k (by omega)) 3 rfl (by omega) (by omega) (by omega)
  · exact opmk_nil W 1 0 s _ (by omega) (by omega)
  · exact opmk_nil W 0 0 s _ (by omega) (by omega)
  · exact opmk_data 0 0 s _ h2 (fun x hx => by rw [List.mem_singleton.1 hx]; rfl) 1 rfl (by omega) (by omega) (by omega)
theorem mstep {w5 W W' : World} {A : Option Addr} {n : Nat} (h : LAt W A n ∧ Below w5.heap.size w5 W) (hb : Below W.heap.size W W') : LAt W' A n ∧ Below w5.heap.size w5 W' := ⟨h.1.below hb, h.2.trans (hb.mono h.2.size)⟩
theorem ends_all {w5 : World} {ge : Nat} (h : w5.heap[ge]? = some (.cells (blk .i64 endsK) 3 (0, 0))) {k : Nat} (hk : k < 12) : ∃ v, (-9223372036854775808 ≤ v ∧ v < 9223372036854775808) ∧ ∀ W, Below w5.heap.size w5 W → W.cell? ⟨ge, k, none⟩ = some (.int .i64 v) := by
  obtain ⟨v, h1, h2⟩ := ends_row h hk
  exact ⟨v, h1, fun W hW => (hW.cell (p := ⟨ge, k, none⟩) (block_lt h)).trans h2⟩
set_option maxHeartbeats 8000000 in
theorem known_any {D : DevP} (X : DevOk D) (w : World) : Calls Try.prog 9 #[] w fun e w' => e = .returned (.bool true) ∧ Below w.heap.size w w' := by
  have HX := Lib.hid X
  have hz1 : (w.alloc (.cells NMC 9)).heap.size = w.heap.size + 1 := by simp
  have HNM : Hid (∀ W, Below (w.heap.size + 1) (w.alloc (.cells NMC 9)) W → ∀ i, i < 7 → ∃ s, W.cell? ⟨w.heap.size, i, none⟩ = some (.string s)) := Lib.hid (fun W hW i hi => nmc_cell w hW hi)
  rw [← hz1] at HNM
  have HB1 := Lib.hid (bel_alloc w (.cells NMC 9))
  have HZ1 := Lib.hid hz1
  clear X hz1
  unfold NMC at HNM HB1 HZ1
  generalize hw1 : w.alloc (.cells #[.string ⟨#[]⟩, .string ⟨#[97]⟩, .string ⟨#[98]⟩, .string ⟨#[97, 97, 97, 97, 98, 98, 98, 98, 99, 99, 99, 99, 100, 100, 100, 100]⟩, .string (⟨#[97, 97, 97, 97, 98, 98, 98, 98, 99, 99, 99, 99, 100, 100, 100, 100]⟩ ++ ⟨#[101]⟩), .string ⟨#[0]⟩, .string ⟨#[255]⟩] 9) = w1 at *
  go_enter Try.func9, Try.ntmps9
  go_wp2_with fail
  clear hw1
  go_loopw [3, 4] (fun v i wr => ∃ k : Nat, k ≤ 7 ∧ i = .int .i64 k ∧ ∃ A0 n0 q0, v = .slice A0 n0 q0 ∧ Hid (OlTo w1 wr (.slice A0 n0 q0) (4 * k))) (fun _ i _ => 7 - (intOf i).toNat)
  case atStart => exact ⟨0, by omega, rfl, none, 0, 0, rfl, Lib.hid ⟨[], OpsOwn.nil _ _, by simp, Below.refl _ _⟩⟩
  case round =>
    obtain ⟨k, hk, rfl, A0, n0, q0, rfl, hrel⟩ := hrel
    by_cases hlt : k < 7
    · obtain ⟨l, hown, hlen, hbel⟩ := hrel.out
      obtain ⟨s, c0⟩ := HNM.out wr hbel k hlt
      have hx : IntKind.u8.wrap (k : Int) = (k : Int) := by rw [wrap_u8_nat]; omega
      have hW3 : Below w1.heap.size w1 (wr.alloc (.cells #[.int .u8 1, .int .u8 2, .int .u8 (k : Int)] 5)) := hbel.alloc hbel.size _
      have hW1 : Below w1.heap.size w1 (wr.alloc (.cells #[.int .u8 9] 5)) := hbel.alloc hbel.size _
      have hW31 := hW3.alloc hW3.size (.cells #[.int .u8 9] 5)
      have hW13 := hW1.alloc hW1.size (.cells #[.int .u8 1, .int .u8 2, .int .u8 (k : Int)] 5)
      have c3 := (hW3.cell (p := ⟨w.heap.size, k, none⟩) (by show w.heap.size < _; rw [HZ1.out]; omega)).trans ((hbel.cell (p := ⟨w.heap.size, k, none⟩) (by show w.heap.size < _; rw [HZ1.out]; omega)).symm.trans c0)
      have c1 := (hW1.cell (p := ⟨w.heap.size, k, none⟩) (by show w.heap.size < _; rw [HZ1.out]; omega)).trans ((hbel.cell (p := ⟨w.heap.size, k, none⟩) (by show w.heap.size < _; rw [HZ1.out]; omega)).symm.trans c0)
      have c31 := (hW31.cell (p := ⟨w.heap.size, k, none⟩) (by show w.heap.size < _; rw [HZ1.out]; omega)).trans ((hbel.cell (p := ⟨w.heap.size, k, none⟩) (by show w.heap.size < _; rw [HZ1.out]; omega)).symm.trans c0)
      have c13 := (hW13.cell (p := ⟨w.heap.size, k, none⟩) (by show w.heap.size < _; rw [HZ1.out]; omega)).trans ((hbel.cell (p := ⟨w.heap.size, k, none⟩) (by show w.heap.size < _; rw [HZ1.out]; omega)).symm.trans c0)
      have n7 : (k : Int) < 7 := by omega
      have i3 : (0 : Int) ≤ (k : Int) := by omega
      go_wp2_with fail
      have hO := hrel.out
      have HA := ol_app_drew (OlTo.alloc (OlTo.alloc hO (.cells #[.int .u8 1, .int .u8 2, .int .u8 (k : Int)] 5)) (.cells #[.int .u8 9] 5)) (four wr.heap.size (wr.heap.size + 1) k s) (four_ok s hlt (((bel_alloc _ _).block _ (by simp)).trans (heap_alloc_new wr _)) (heap_alloc_two wr _ _)) 4 rfl (by omega)
      have HB := ol_app_drew (OlTo.alloc (OlTo.alloc hO (.cells #[.int .u8 9] 5)) (.cells #[.int .u8 1, .int .u8 2, .int .u8 (k : Int)] 5)) (four (wr.heap.size + 1) wr.heap.size k s) (four_ok s hlt (heap_alloc_two wr _ _) (((bel_alloc _ _).block _ (by simp)).trans (heap_alloc_new wr _))) 4 rfl (by omega)
      rw [show ((wr.alloc (.cells #[.int .u8 1, .int .u8 2, .int .u8 (k : Int)] 5)).alloc (.cells #[.int .u8 9] 5)).heap.size = wr.heap.size + 2 by simp] at HA
      rw [show ((wr.alloc (.cells #[.int .u8 9] 5)).alloc (.cells #[.int .u8 1, .int .u8 2, .int .u8 (k : Int)] 5)).heap.size = wr.heap.size + 2 by simp] at HB
      obtain ⟨AA, nA, qA, wA, hrunA, hA⟩ := HA
      obtain ⟨AB, nB, qB, wB, hrunB, hB⟩ := HB
      simp only [four, flatV, opC, List.flatMap_cons, List.flatMap_nil, List.cons_append, List.nil_append, List.append_nil] at hrunA hrunB
      have HEA := Lib.hid hA
      have HEB := Lib.hid hB
      have HS : Hid (∀ W, Below w1.heap.size w1 W → W.cell? ⟨w.heap.size, k, none⟩ = some (.string s)) := Lib.hid (fun W hW => (hW.cell (p := ⟨w.heap.size, k, none⟩) (by show w.heap.size < _; rw [HZ1.out]; omega)).trans ((hbel.cell (p := ⟨w.heap.size, k, none⟩) (by show w.heap.size < _; rw [HZ1.out]; omega)).symm.trans c0))
      clear hA hB hO hrel hown hlen hW3 hW1 hW31 hW13 c1 c3 c31 c13
      go_region_held3 (fun w' => w'.cell? ⟨w.heap.size, k, none⟩ = some (.string s)) (first | assumption | (refine HS.out _ ?_; repeat (first | exact hbel | exact HEA.out.bel | exact HEB.out.bel | refine below_drew ?_ | refine bel_al ?_ _))) (first | (refine step_append_run _ rfl _ _ 42 rfl _ _ _ _ rfl rfl hrunA ?_) | (refine step_append_run _ rfl _ _ 42 rfl _ _ _ _ rfl rfl hrunB ?_))
      all_goals
        (try go_wp2)
        go_roundw
        case rel => first | exact ⟨k + 1, by omega, by go_num, AA, nA, qA, rfl, HEA⟩ | exact ⟨k + 1, by omega, by go_num, AB, nB, qB, rfl, HEB⟩
        case measure => simp [intOf]; omega
    · obtain rfl : k = 7 := by omega
      have HO1 := hrel
      clear hrel hlt hk
      go_wp2_with fail
      go_loopw [3, 5] (fun v i wr => ∃ x : Int, -1 ≤ x ∧ x ≤ 6 ∧ Hid (i = .int .i64 x) ∧ ∃ A0 n0 q0, v = .slice A0 n0 q0 ∧ Hid (OlTo w1 wr (.slice A0 n0 q0) (28 + 2 * (x + 1).toNat))) (fun _ i _ => (6 - intOf i).toNat)
      case atStart => exact ⟨-1, by omega, by omega, Lib.hid rfl, A0, n0, q0, rfl, HO1⟩
      case round =>
        obtain ⟨x, hx1, hx2, hxi, A0, n0, q0, rfl, hrel⟩ := hrel
        obtain rfl := hxi.out
        clear HO1
        by_cases hlt : x < 6
        · have HA := ol_app hrel.out [⟨2, ⟨#[98]⟩, ⟨#[]⟩, none, 0, 0, x, []⟩, ⟨2, ⟨#[99]⟩, ⟨#[]⟩, none, 0, 0, x, []⟩] (fun p hp => by
            simp only [List.mem_cons, List.not_mem_nil, or_false] at hp
            rcases hp with rfl | rfl
            · exact opmk_nil _ 2 x _ _ (by omega) (by omega)
            · exact opmk_nil _ 2 x _ _ (by omega) (by omega)) 2 rfl (by omega)
          obtain ⟨AA, nA, qA, wA, hrunA, hA⟩ := HA
          simp only [flatV, opC, List.flatMap_cons, List.flatMap_nil, List.cons_append, List.nil_append, List.append_nil] at hrunA
          rw [show 28 + 2 * (x + 1).toNat + 2 = 28 + 2 * (x + 1 + 1).toNat by omega] at hA
          have HEA := Lib.hid hA
          clear hA hrel
          go_wp2_with (at_builtin; refine wpList_append_run _ rfl _ _ 42 rfl _ _ _ _ rfl rfl hrunA ?_)
          go_roundw
          case rel => exact ⟨x + 1, by omega, by omega, Lib.hid (by go_num), AA, nA, qA, by simp, HEA⟩
          case measure => simp [intOf]; omega
        · obtain rfl : x = 6 := by omega
          have HO1 : Hid (OlTo w1 wr (.slice A0 n0 q0) (42 + 3 * 0)) := hrel
          clear hrel hlt hx1 hx2
          go_wp2_with fail
          go_loopw [3, 6] (fun v i wr => ∃ k : Nat, k ≤ 7 ∧ i = .int .i64 k ∧ ∃ A0 n0 q0, v = .slice A0 n0 q0 ∧ Hid (OlTo w1 wr (.slice A0 n0 q0) (42 + 3 * k))) (fun _ i _ => 7 - (intOf i).toNat)
          case atStart => exact ⟨0, by omega, rfl, A0, n0, q0, rfl, HO1⟩
          case round =>
            obtain ⟨k, hk, rfl, A0, n0, q0, rfl, hrel⟩ := hrel
            clear HO1
            by_cases hlt : k < 7
            · obtain ⟨j, hj⟩ : ∃ j, k + j = 6 := ⟨6 - k, by omega⟩
              obtain ⟨s, c0⟩ := HNM.out wr hrel.out.bel k hlt
              obtain ⟨s', c0'⟩ := HNM.out wr hrel.out.bel j (by omega)
              have HS : Hid (∀ W, Below w1.heap.size w1 W → W.cell? ⟨w.heap.size, k, none⟩ = some (.string s) ∧ W.cell? ⟨w.heap.size, j, none⟩ = some (.string s')) := Lib.hid (fun W hW => ⟨(hW.cell (p := ⟨w.heap.size, k, none⟩) (by show w.heap.size < _; rw [HZ1.out]; omega)).trans ((hrel.out.bel.cell (p := ⟨w.heap.size, k, none⟩) (by show w.heap.size < _; rw [HZ1.out]; omega)).symm.trans c0), (hW.cell (p := ⟨w.heap.size, j, none⟩) (by show w.heap.size < _; rw [HZ1.out]; omega)).trans ((hrel.out.bel.cell (p := ⟨w.heap.size, j, none⟩) (by show w.heap.size < _; rw [HZ1.out]; omega)).symm.trans c0')⟩)
              have HA := ol_app_drew hrel.out [⟨3, ⟨#[97]⟩, s, none, 0, 0, 0, []⟩, ⟨3, s, ⟨#[97]⟩, none, 0, 0, 0, []⟩, ⟨4, s', ⟨#[]⟩, none, 0, 0, 0, []⟩] (fun p hp => by
                simp only [List.mem_cons, List.not_mem_nil, or_false] at hp
                rcases hp with rfl | rfl | rfl
                · exact opmk_nil _ 3 0 _ _ (by omega) (by omega)
                · exact opmk_nil _ 3 0 _ _ (by omega) (by omega)
                · exact opmk_nil _ 4 0 _ _ (by omega) (by omega)) 3 rfl (by omega)
              obtain ⟨AA, nA, qA, wA, hrunA, hA⟩ := HA
              simp only [flatV, opC, List.flatMap_cons, List.flatMap_nil, List.cons_append, List.nil_append, List.append_nil] at hrunA
              have HEA := Lib.hid hA
              have HBR := Lib.hid hrel.out.bel
              have n7 : (k : Int) < 7 := by omega
              have n0' : (0 : Int) ≤ (k : Int) := by omega
              have n8 : (0 : Int) ≤ (j : Int) := by omega
              have n9 : (j : Int) < 7 := by omega
              have hw1 : IntKind.i64.wrap 6 = 6 := by decide
              have hw2 : IntKind.i64.wrap (6 - (k : Int)) = (j : Int) := by rw [show 6 - (k : Int) = (j : Int) by omega]; exact IntWalk.i64_in _ (by omega)
              clear hA hrel
              go_wp2_with fail
              go_region_held3 (fun w' => w'.cell? ⟨w.heap.size, k, none⟩ = some (.string s) ∧ w'.cell? ⟨w.heap.size, j, none⟩ = some (.string s')) (first | assumption | (refine HS.out _ ?_; repeat (first | exact HBR.out | exact HEA.out.bel | refine below_drew ?_ | refine bel_al ?_ _))) (first | (refine step_append_run _ rfl _ _ 42 rfl _ _ _ _ rfl rfl hrunA ?_))
              all_goals
                (try clear hw1 hw2)
                (try go_wp2)
                go_roundw
                case rel => exact ⟨k + 1, by omega, by go_num, AA, nA, qA, by simp, HEA⟩
                case measure => simp [intOf]; omega
            · have hk7 : (k : Int) = 7 := by omega
              rw [hk7]
              clear hk7
              obtain rfl : k = 7 := by omega
              have HO1 := hrel
              clear hrel hlt hk
              have hE := heap_alloc_new wr (.cells (blk .i64 endsK) 3)
              have hB5 := HB1.out.trans ((bel_al HO1.out.bel (.cells (blk .i64 endsK) 3)).mono HB1.out.size)
              have hL := (OlTo.alloc HO1.out (.cells (blk .i64 endsK) 3)).lat (by omega)
              have hge : blk .i64 endsK = #[.int .i64 (-9223372036854775808), .int .i64 (-1), .int .i64 0, .int .i64 1, .int .i64 2, .int .i64 3, .int .i64 10, .int .i64 14, .int .i64 30, .int .i64 16777216, .int .i64 16777217, .int .i64 9223372036854775807] := rfl
              have HE0 := Lib.hid hE
              have HB5 := Lib.hid hB5
              have HL0 := Lib.hid hL
              have HGE := Lib.hid hge
              clear hE hB5 hL hge HO1
              rw [HGE.out] at HB5 HL0
              go_wp2_with fail
              obtain ⟨ge, hge⟩ : ∃ ge, wr.heap.size = ge := ⟨_, rfl⟩
              obtain ⟨w5, hw5⟩ : ∃ w5, wr.alloc (.cells #[.int .i64 (-9223372036854775808), .int .i64 (-1), .int .i64 0, .int .i64 1, .int .i64 2, .int .i64 3, .int .i64 10, .int .i64 14, .int .i64 30, .int .i64 16777216, .int .i64 16777217, .int .i64 9223372036854775807] 3) = w5 := ⟨_, rfl⟩
              have HE : Hid (w5.heap[ge]? = some (.cells (blk .i64 endsK) 3 (0, 0))) := Lib.hid (by rw [← hw5, ← hge]; exact HE0.out)
              have HB : Hid (Below w.heap.size w w5) := Lib.hid (by rw [← hw5]; exact HB5.out)
              have HL : Hid (LAt w5 A0 n0) := Lib.hid (by rw [← hw5]; exact HL0.out)
              clear HE0 HB5 HL0 HGE
              rw [hw5, hge]
              clear hw5 hge
              go_loopw [8, 9] (fun i m wr => ∃ k : Nat, k ≤ 12 ∧ i = .int .i64 k ∧ Hid (Below w5.heap.size w5 wr)) (fun i _ _ => 12 - (intOf i).toNat)
              case atStart => exact ⟨0, by omega, rfl, Lib.hid (Below.refl _ _)⟩
              case round =>
                obtain ⟨k, hk, rfl, hrel⟩ := hrel
                by_cases hlt : k < 12
                · obtain ⟨v, hv, hcell⟩ := ends_all HE.out hlt
                  have HV := Lib.hid hv
                  have HC := Lib.hid hcell
                  have HMA := lat_new (W := (wr.alloc (.cells #[.int .u8 1, .int .u8 2] 5)).alloc (.cells #[.int .u8 3, .int .u8 4] 5)) (ftn wr.heap.size (wr.heap.size + 1) v) (ftn_ok hv (ha _ (heap_alloc_new wr _)) (heap_alloc_two wr _ _)) 14 rfl (by omega)
                  have HMB := lat_new (W := (wr.alloc (.cells #[.int .u8 3, .int .u8 4] 5)).alloc (.cells #[.int .u8 1, .int .u8 2] 5)) (ftn (wr.heap.size + 1) wr.heap.size v) (ftn_ok hv (heap_alloc_two wr _ _) (ha _ (heap_alloc_new wr _))) 14 rfl (by omega)
                  rw [show ((wr.alloc (.cells #[.int .u8 1, .int .u8 2] 5)).alloc (.cells #[.int .u8 3, .int .u8 4] 5)).heap.size = wr.heap.size + 2 by simp] at HMA
                  rw [show ((wr.alloc (.cells #[.int .u8 3, .int .u8 4] 5)).alloc (.cells #[.int .u8 1, .int .u8 2] 5)).heap.size = wr.heap.size + 2 by simp] at HMB
                  have hbA := bel_al (bel_al (bel_al hrel.out (.cells #[.int .u8 1, .int .u8 2] 5)) (.cells #[.int .u8 3, .int .u8 4] 5)) (.cells (flatV opC (ftn wr.heap.size (wr.heap.size + 1) v)).toArray 46)
                  have hbB := bel_al (bel_al (bel_al hrel.out (.cells #[.int .u8 3, .int .u8 4] 5)) (.cells #[.int .u8 1, .int .u8 2] 5)) (.cells (flatV opC (ftn (wr.heap.size + 1) wr.heap.size v)).toArray 46)
                  have MA := Lib.hid (And.intro (HMA.below (below_drew (Below.refl _ _))) (below_drew hbA))
                  have MB := Lib.hid (And.intro (HMB.below (below_drew (Below.refl _ _))) (below_drew hbB))
                  have cA := hcell _ hbA
                  have cB := hcell _ hbB
                  simp only [ftn, flatV, opC, List.flatMap_cons, List.flatMap_nil, List.cons_append, List.nil_append, List.append_nil] at MA MB cA cB
                  have HR := hrel
                  have n1 : (k : Int) < 12 := by omega
                  have n2 : (0 : Int) ≤ (k : Int) := by omega
                  clear HMA HMB hbA hbB hv hcell hrel
                  go_wp2_with fail
                  go_region_held3 (fun w' => w'.cell? ⟨ge, k, none⟩ = some (.int .i64 v)) (first | assumption | (refine HC.out _ ?_; repeat (first | exact HR.out | refine below_drew ?_ | refine bel_al ?_ _))) (first | fail)
                  all_goals
                    go_wp2_with fail
                    first
                      | (refine ((HL.out.below MA.out.2).runs HX.out v q0).mono ?_)
                      | (refine ((HL.out.below MB.out.2).runs HX.out v q0).mono ?_)
                    rintro e wa ⟨rfl, ba⟩
                    have Ma : Hid (LAt wa (some ⟨wr.heap.size + 2, 0, none⟩) 14 ∧ Below w5.heap.size w5 wa) := Lib.hid (by first | exact mstep MA.out ba | exact mstep MB.out ba)
                    clear ba MA MB cA cB
                    go_wp2_with fail
                    refine (Ma.out.1.runs HX.out 20 14).mono ?_
                    rintro e wb ⟨rfl, bb⟩
                    have Mb := Lib.hid (mstep Ma.out bb)
                    have cb := HC.out wb Mb.out.2
                    clear bb Ma
                    go_wp2_with fail
                    refine (Mb.out.1.fails HX.out v 14 HV.out).mono ?_
                    rintro e wc ⟨rfl, bc⟩
                    have Mc := Lib.hid (mstep Mb.out bc)
                    have cc := HC.out wc Mc.out.2
                    clear bc Mb cb
                    go_wp2_with fail
                    refine ((HL.out.below Mc.out.2).room HX.out v q0).mono ?_
                    rintro e wd ⟨rfl, bd⟩
                    have Md := Lib.hid (mstep Mc.out bd)
                    have cd := HC.out wd Md.out.2
                    clear bd Mc cc
                    go_wp2_with fail
                    refine (news_any HX.out v ⟨#[97]⟩ wd).mono ?_
                    rintro e we ⟨rfl, be⟩
                    have Me := Lib.hid (mstep Md.out be)
                    have ce := HC.out _ (bel_al (bel_al (bel_al (bel_al (bel_al Me.out.2 (.cells #[.int .u8 1] 5)) (.cells #[.int .u8 2, .int .u8 3] 5)) (.cells #[.int .u8 4] 5)) (.cells #[.slice (some ⟨we.heap.size, 0, none⟩) 1 1, .slice (some ⟨we.heap.size + 1, 0, none⟩) 2 2, .slice (some ⟨we.heap.size + 2, 0, none⟩) 1 1] 30)) (.cells #[.bool true] 4))
                    clear be Md cd
                    go_wp2_with fail
                    refine (lasts_at HX.out we v HV.out).mono ?_
                    rintro e wf ⟨rfl, bf⟩
                    have Mf := Lib.hid (mstep Me.out bf)
                    have cf := HC.out wf Mf.out.2
                    clear bf Me ce
                    go_wp2_with fail
                    refine (Mf.out.1.renamed HX.out ⟨#[98]⟩ ⟨#[99]⟩ v 14 HV.out).mono ?_
                    rintro e wg ⟨rfl, bg⟩
                    have Mg := Lib.hid (mstep Mf.out bg)
                    clear bg Mf cf
                    go_wp2
                    go_roundw
                    case rel => exact ⟨k + 1, by omega, by go_num, Lib.hid Mg.out.2⟩
                    case measure => simp [intOf]; omega
                · obtain rfl : k = 12 := by omega
                  have HT := eit_at wr
                  have hB := bel_al (bel_al (bel_al (bel_al (HB.out.trans (hrel.out.mono HB.out.size)) (.cells #[.int .u8 1, .int .u8 2] 5)) (.cells #[.int .u8 3, .int .u8 4] 5)) (.cells #[.int .u8 5] 5)) (.cells (flatV opC (eit wr.heap.size)).toArray 46)
                  simp only [eit, flatV, opC, List.flatMap_cons, List.flatMap_nil, List.cons_append, List.nil_append, List.append_nil] at HT hB
                  have HT1 := Lib.hid HT
                  have HBT := Lib.hid hB
                  clear HT hB hrel hlt hk HE HL HB HNM HB1 HZ1
                  go_wp2_with fail
                  refine (HT1.out.runs HX.out 30 8).mono ?_
                  rintro e wa ⟨rfl, ba⟩
                  have Ba := Lib.hid (HBT.out.trans (ba.mono HBT.out.size))
                  clear ba HT1 HBT
                  go_wp2_with fail
                  refine (many_any HX.out wa).mono ?_
                  rintro e wb ⟨rfl, bb⟩
                  have Bb := Lib.hid (Ba.out.trans (bb.mono Ba.out.size))
                  clear bb Ba
                  go_wp2_with fail
                  refine (works12 HX.out wb).mono ?_
                  rintro e wc ⟨rfl, bc⟩
                  have Bc := Lib.hid (Bb.out.trans (bc.mono Bb.out.size))
                  clear bc Bb
                  go_wp2
                  go_ret
                  exact ⟨rfl, Bc.out⟩
end Go.Proofs.Ytfclgjdlkcmnfaa
namespace Go.Proofs.Ytfclgjdlkcmnfaa
open Go.RowKit
theorem walk_DeviceKnown (w : World) : Calls Try.prog 9 #[] w fun e w' => e = .returned (.bool true) ∧ Below w.heap.size w w' := known_any devOk12 w
end Go.Proofs.Ytfclgjdlkcmnfaa
namespace Go.Proofs.Ytfclgjdlkcmnfaa.deviceKnown
open Go.ChangeShapes Go.WideShapes Go.ChangeAt Go.RowKit
open Go.ChangeMaps (open_string shut_string)
set_option linter.unusedVariables false

theorem own : ownKnob Try.prog.godebug = none := by kernel_rfl
theorem laidOut : laidOutB Try.prog = true := by kernel_rfl

set_option maxRecDepth 100000 in
theorem lifted (os : Os) (started : os.Started) (H : Type) (enc : TypeId × Value → H) :
    ReturnsInHanded {} Try.checked os 9 .any (Rows.deviceKnownSpec.pre6 enc Try.prog Try.f9 Rows.deviceKnownRow.domain false) (Rows.deviceKnownSpec.post enc Try.prog Try.f9 false true false false) := by
  refine returnsInHanded_of_change_sized (C := Try.checked) own started (by kernel_rfl) Try.func9
    (ChangeSpec.witness6 (enc := enc) (C := Try.checked) false ⟨#[], #[], []⟩ 8 (by kernel_rfl) (by kernel_rfl) (by kernel_rfl) (by kernel_rfl)) ?_
  intro W base args ds gs before hval0 hW hcnd hsz0 _
  have hsz : (DataW.weightsEach Try.prog (Try.f9.params.toList ++ Rows.deviceKnownSpec.plain.varTypes Try.prog) (ds ++ gs)).all (· ≤ reachBytes) = true := hsz0
  clear hsz0
  have hval : ∀ (j : Nat) t v, Try.f9.params[j]? = some t → args[j]? = some v → Value.okWide Try.prog W .any base t v := hval0
  have hW' := hW
  obtain ⟨p, q, hA0, hV, rfl, hfz, hnd⟩ := hW
  have hA : DataW.TrodAll enc Try.prog W 0 (fun _ => true) true Try.f9.params.toList args.toList ds p := hA0
  rw [Try.params9] at hA hval hsz
  obtain ⟨rfl, rfl, hargs⟩ := trodAll_none hA
  obtain ⟨rfl, rfl⟩ := trodVars_none hV
  clear hA0 hval0
  refine (walk_DeviceKnown  W ).mono fun e W' ⟨he, bel⟩ => ?_
  subst he
  exact ⟨_, rfl, _, _, _, [], _, [], hW', trodAll_mk1 (shut_bool Try.underlying4 _), trodAll_mk0, rfl, bel.frame _, fun h => by cases h⟩

theorem over : Rows.deviceKnownRow.holds Try.pinned (OpenSpec.ofChange Rows.deviceKnownSpec) :=
  OpenClaim.holds_of_wide 9 Try.f9 rfl rfl rfl rfl rfl rfl rfl ⟨rfl, rfl, rfl, rfl, rfl⟩ rfl rfl rfl rfl rfl (by kernel_rfl) Try.func9 (by kernel_rfl)
    (of_decide_eq_true (by kernel_rfl)) (by unfold Func.isWrapper; first | (rw [if_pos (by decide +kernel)]; kernel_rfl) | (rw [if_neg (by decide +kernel)]; exact ⟨rfl, rfl⟩))
    (fun os started H enc _ => lifted os started H enc)

theorem proved : Rows.DeviceKnownSaid := over
#print axioms proved
end Go.Proofs.Ytfclgjdlkcmnfaa.deviceKnown
