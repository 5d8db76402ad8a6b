/-
  Lists of tags of the call's own: appending one.
-/
import Derived.Test.YtmakegbkgiajdaaTgKit
import Derived.Laws.AppendOwn
namespace Go.Proofs.Ytmakegbkgiajdaa
open Go.RowKit
set_option linter.unusedVariables false

/-- A list of tags of the call's own. -/
def TgOwn (w : World) (base : Nat) (v : Value) (l : List Tg) : Prop := w.ownsRow base 29 19 v l.length (flatV tgC l)
theorem TgOwn.nil (w : World) (base : Nat) : TgOwn w base (.slice none 0 0) [] := World.ownsRow_nil w base _ 19
theorem TgOwn.row {w : World} {base : Nat} {v : Value} {l : List Tg} (h : TgOwn w base v l) : ∃ A c, v = .slice A l.length c ∧ VRow w w.heap.size A (flatV tgC l) ∧ l.length ≤ c ∧ c ≤ maxLen := VRow.of_own h
theorem TgOwn.below {w w' : World} {base B : Nat} {v : Value} {l : List Tg} (h : TgOwn w base v l) (hb : Below B w w') (hB : w.heap.size ≤ B) : TgOwn w' base v l := by
  refine ⟨h.1, ?_⟩
  rcases h.2 with hn | ⟨g, cap, cur, h1, h2, h3, h4⟩
  · exact .inl hn
  · exact .inr ⟨g, cap, cur, h1, h2, (hb.block g (by have := block_lt h3; omega)).trans h3, h4⟩
theorem TgOwn.alloc {w : World} {base : Nat} {v : Value} {l : List Tg} (h : TgOwn w base v l) (o : Obj) : TgOwn (w.alloc o) base v l := World.ownsRow.alloc h o
theorem Below.tgown {w0 w w' : World} {base : Nat} {v : Value} {l : List Tg} {o : Obj} (hb : Below base w0 w) (hB : base ≤ w.heap.size) (h : TgOwn w base v l) (hg : (w.alloc o).grownBy w' v.ownBlock) : Below base w0 w' :=
  (hb.alloc hB o).grown hg (by simp; omega) fun g e => (World.ownsRow.lt h g e).1
theorem flat_one {l : List Tg} : ∀ u ∈ flatV tgC l, u.oneCell' = true := by
  intro u hu
  obtain ⟨t, ht, h⟩ := List.mem_flatMap.1 hu
  exact tgC_one t u h
theorem wpList_append_tg {ops : Array Oper} {rest : List Oper} {o : Oper} {a : Act} {Q : Exit → Act → World → Prop} (w : World) (hgd : o.guard = none) (s x : Operand)
    (ho : o.op = .call { callee := .builtin .append, args := #[s, x], argTypes := #[35, 35] })
    (base : Nat) (v : Value) (l : List Tg) (hs : a.eval s = v) (hown : TgOwn w base v l) (ad : Addr) (c : Nat) (t : Tg) (hx : a.eval x = .slice (some ad) 1 c)
    (hnews : ∀ j u, (tgC t)[j]? = some u → w.cell? (ad.add j) = some u) (hb : (l.length + 1) * 128 ≤ 140737488355328) (hbase : base ≤ w.heap.size)
    (h : ∀ v' w', TgOwn w' base v' (l ++ [t]) → w.grownBy w' v.ownBlock → wpList Try.prog ops Q rest (a.put o.dst v') w') : wpList Try.prog ops Q (o :: rest) a w := by
  obtain ⟨i, hi1, hz, hsz, hby⟩ := info_parts info_tg
  refine wpList_append_own w hgd s x 35 ho base 29 i _ 19 128 Try.underlying35 hi1 hz hsz hby rfl (by omega) v l.length (flatV tgC l) hs hown ad 1 c (tgC t) hx rfl hnews (tgC_one t) (by simp only [maxLen]; omega) (by omega) hbase fun v' w' h4 h5 _ => h v' w' ?_ h5
  unfold TgOwn
  rw [flatV_append, flatV_one, List.length_append]
  exact h4
/-- The cells of a tag in a new box. -/
theorem box_tag (w : World) (t : Tg) : ∀ j u, (tgC t)[j]? = some u → (w.alloc (.cells (tgC t).toArray 29)).cell? ((⟨w.heap.size, 0, none⟩ : Addr).add j) = some u := by
  intro j u hu
  have := rangeB (heap_alloc_new w (.cells (tgC t).toArray 29)) j u hu
  rw [Go.WideShapes.add_plain]
  exact this
end Go.Proofs.Ytmakegbkgiajdaa
