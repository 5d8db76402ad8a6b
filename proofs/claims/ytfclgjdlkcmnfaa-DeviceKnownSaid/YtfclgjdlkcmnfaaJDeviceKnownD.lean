/-
  Texts of the proof of DeviceKnown, joined.
-/
import Derived.Test.YtfclgjdlkcmnfaaJDeviceKnownA
import Derived.Maps.RangeWalk
import Derived.Sort.KeysCollected
import Derived.Test.YtfclgjdlkcmnfaaJDeviceKnownC
import Derived.Test.YtfclgjdlkcmnfaaJDeviceKnownB
import Derived.Shelf.Sort.Plain
import Derived.Shelf.Strconv.Clone
import Derived.Ground.NamesProg
import Derived.Test.YtfclgjdlkcmnfaaProg
import Derived.Maps.OwnSet
import Derived.Deep.RegionHeld3
import Derived.Laws.EntriesVeiled
namespace Go.Proofs.Ytfclgjdlkcmnfaa
open Go.RowKit Go.Maps Go.MapKept Go.ChangeMaps
open Go.WideElems (Fit rd rg pl rd_key rd_val rg_of)
set_option linter.unusedVariables false
set_option maxRecDepth 100000

/-- A name as a key. -/
def kS (s : ByteArray) : Lit := .string s.data.toList
theorem kS_key (s : ByteArray) : WideAt.IsKeyLit (kS s) := trivial
theorem kS_inj {s t : ByteArray} (h : kS s = kS t) : s = t := by
  unfold kS at h
  injection h with h
  apply ByteArray.ext
  exact Array.toList_inj.1 h
theorem kS_ne {s t : ByteArray} (h : sameN s t = false) : kS s ≠ kS t := fun e => by
  rw [kS_inj e, sameN_refl] at h; cases h
theorem kS_of (x : List UInt8) : kS ⟨x.toArray⟩ = .string x := by simp [kS]
/-- How a pointer to a block is read. -/
def ptrV (g : Nat) : Value := .pointer (some ⟨g, 0, none⟩)
def ptrD (g : Nat) : DataW Unit := .lit (.int .i64 g)
def ptrR (v : Value) : Option (DataW Unit × List MemPlace) := match v with
  | .pointer (some ⟨g, 0, none⟩) => some (ptrD g, [])
  | _ => none
theorem ptrR_mk (g : Nat) : ptrR (.pointer (some ⟨g, 0, none⟩)) = some (ptrD g, []) := rfl
theorem ptrR_inv {v : Value} {y : DataW Unit × List MemPlace} (h : ptrR v = some y) : ∃ g, v = ptrV g ∧ y = (ptrD g, []) := by
  unfold ptrR at h
  split at h
  · injection h with h
    exact ⟨_, rfl, h.symm⟩
  · cases h
theorem ptrD_inj {g g' : Nat} (h : ptrD g = ptrD g') : g = g' := by
  unfold ptrD at h
  injection h with h
  injection h with h1 h2
  omega

/-- Where a name leads. -/
def look (ps : List (ByteArray × Nat)) (s : ByteArray) : Option Nat := (ps.find? (fun p => sameN p.1 s)).map (·.2)
def strike (ps : List (ByteArray × Nat)) (s : ByteArray) : List (ByteArray × Nat) := ps.filter (fun p => !sameN p.1 s)
/-- A map's datum has just these names, and where they lead. -/
structure MapIs (D : DataW Unit) (ps : List (ByteArray × Nat)) : Prop where
  size : Maps.size D = ps.length
  has : ∀ s, Maps.has D (kS s) = ps.any (fun p => sameN p.1 s)
  at_ : ∀ p ∈ ps, ∀ z, D.atKey (kS p.1) z = ptrD p.2
  nd : ps.Pairwise (fun a b => sameN a.1 b.1 = false)
theorem MapIs.perm {D : DataW Unit} {ps ps' : List (ByteArray × Nat)} (h : MapIs D ps) (hp : ps.Perm ps') : MapIs D ps' :=
  ⟨h.size.trans hp.length_eq, fun s => (h.has s).trans (by
    rw [Bool.eq_iff_iff, List.any_eq_true, List.any_eq_true]
    exact ⟨fun ⟨p, h1, h2⟩ => ⟨p, hp.mem_iff.1 h1, h2⟩, fun ⟨p, h1, h2⟩ => ⟨p, hp.mem_iff.2 h1, h2⟩⟩), fun p hm => h.at_ p (hp.mem_iff.2 hm), (hp.pairwise_iff (fun {a b} hab => by rw [sameN_comm]; exact hab)).1 h.nd⟩
theorem MapIs.nil : MapIs (.map []) [] := ⟨rfl, fun _ => rfl, fun p h => absurd h (by simp), List.Pairwise.nil⟩
theorem look_mem {ps : List (ByteArray × Nat)} (h : ps.Pairwise (fun a b => sameN a.1 b.1 = false)) {p : ByteArray × Nat} (hp : p ∈ ps) : look ps p.1 = some p.2 := by
  induction ps with
  | nil => cases hp
  | cons a ps ih =>
    obtain ⟨h1, h2⟩ := List.pairwise_cons.1 h
    unfold look
    rw [List.find?_cons]
    rcases List.mem_cons.1 hp with rfl | hp
    · rw [sameN_refl]; rfl
    · rw [h1 p hp]; exact ih h2 hp
theorem look_none {ps : List (ByteArray × Nat)} {s : ByteArray} (h : ps.any (fun p => sameN p.1 s) = false) : look ps s = none := by
  unfold look
  rw [List.find?_eq_none.2 (fun p hp => List.any_eq_false.1 h p hp)]
  rfl
theorem look_some {ps : List (ByteArray × Nat)} {s : ByteArray} {g : Nat} (h : look ps s = some g) : (s, g) ∈ ps := by
  unfold look at h
  cases hf : ps.find? (fun p => sameN p.1 s) with
  | none => rw [hf] at h; cases h
  | some p =>
    rw [hf] at h
    injection h with h
    have h1 := List.mem_of_find?_eq_some hf
    have h2 := sameN_iff.1 (show sameN p.1 s = true from List.find?_some (p := fun (p : ByteArray × Nat) => sameN p.1 s) hf)
    rw [← h, ← h2]
    exact h1
theorem strike_len (ps : List (ByteArray × Nat)) (s : ByteArray) : (strike ps s).length ≤ ps.length := List.length_filter_le _ _
theorem strike_size {ps : List (ByteArray × Nat)} (h : ps.Pairwise (fun a b => sameN a.1 b.1 = false)) (s : ByteArray) : (strike ps s).length + (if ps.any (fun p => sameN p.1 s) then 1 else 0) = ps.length := by
  induction ps with
  | nil => rfl
  | cons a ps ih =>
    obtain ⟨h1, h2⟩ := List.pairwise_cons.1 h
    have ih := ih h2
    unfold strike at ih ⊢
    rw [List.filter_cons, List.any_cons, List.length_cons]
    cases hs : sameN a.1 s
    · simp only [Bool.not_false, if_true, List.length_cons, Bool.false_or]
      omega
    · have e := sameN_iff.1 hs
      have hn : ps.any (fun p => sameN p.1 s) = false := by
        rw [List.any_eq_false]
        intro p hp
        rw [← e, sameN_comm, h1 p hp]
        simp
      rw [hn] at ih
      simp only [Bool.not_true, Bool.false_eq_true, if_false, Nat.add_zero, Bool.true_or, if_true] at ih ⊢
      omega
theorem strike_any (ps : List (ByteArray × Nat)) (s t : ByteArray) : (strike ps s).any (fun p => sameN p.1 t) = (ps.any (fun p => sameN p.1 t) && !sameN t s) := by
  rw [Bool.eq_iff_iff]
  simp only [strike, List.any_eq_true, List.mem_filter, Bool.and_eq_true, Bool.not_eq_true']
  constructor
  · rintro ⟨p, ⟨h1, h2⟩, h3⟩
    exact ⟨⟨p, h1, h3⟩, by rw [← sameN_iff.1 h3]; exact h2⟩
  · rintro ⟨⟨p, h1, h3⟩, h2⟩
    exact ⟨p, ⟨h1, by rw [sameN_iff.1 h3]; exact h2⟩, h3⟩
theorem MapIs.put {D : DataW Unit} {ps : List (ByteArray × Nat)} (h : MapIs D ps) (ht : Tidy D) (s : ByteArray) (g : Nat) : MapIs (D.put (kS s) (ptrD g)) ((s, g) :: strike ps s) := by
  refine ⟨?_, fun t => ?_, fun p hp z => ?_, ?_⟩
  · rw [size_put ht, h.has, h.size, List.length_cons]
    have := strike_size h.nd s
    split <;> simp_all
  · rw [List.any_cons, strike_any]
    by_cases e : t = s
    · subst e
      rw [has_put_same ht.isMap (kS_key t), sameN_refl]; simp
    · have hn : sameN t s = false := by
        cases hh : sameN t s
        · rfl
        · exact absurd (sameN_iff.1 hh) e
      rw [has_put_other (kS_ne hn), h.has, hn, sameN_comm s t, hn]; simp
  · rcases List.mem_cons.1 hp with rfl | hp
    · exact atKey_put_same ht.isMap (kS_key _) _ _
    · obtain ⟨h1, h2⟩ := List.mem_filter.1 hp
      have hn : sameN p.1 s = false := by simpa using h2
      rw [atKey_put_other (kS_ne hn)]
      exact h.at_ p h1 z
  · refine List.pairwise_cons.2 ⟨fun p hp => ?_, h.nd.filter _⟩
    obtain ⟨h1, h2⟩ := List.mem_filter.1 hp
    rw [sameN_comm]
    simpa using h2
theorem MapIs.del {D : DataW Unit} {ps : List (ByteArray × Nat)} (h : MapIs D ps) (ht : Tidy D) (s : ByteArray) : MapIs (D.del (kS s)) (strike ps s) := by
  refine ⟨?_, fun t => ?_, fun p hp z => ?_, h.nd.filter _⟩
  · have h1 := size_del (k := kS s) ht
    have h2 := strike_size h.nd s
    rw [h.has, h.size] at h1
    omega
  · rw [strike_any]
    by_cases e : t = s
    · subst e
      rw [has_del_same, sameN_refl]; simp
    · have hn : sameN t s = false := by
        cases hh : sameN t s
        · rfl
        · exact absurd (sameN_iff.1 hh) e
      rw [has_del_other (kS_ne hn), h.has, hn]; simp
  · obtain ⟨h1, h2⟩ := List.mem_filter.1 hp
    have hn : sameN p.1 s = false := by simpa using h2
    rw [atKey_del_other (kS_ne hn)]
    exact h.at_ p h1 z

theorem lawS : Keyed Try.prog 9 := string_keyed Try.underlying9
theorem zeroF (w : World) : (zeroValue 66).run Try.prog w = .ok (.pointer none) w := by kernel_rfl
theorem keyS (s : ByteArray) (h : s.size ≤ maxLen) : keyOf Try.prog 9 (.string s) = some (kS s) := WideMaps.keyOf_string_mk Try.underlying9 h

/-- Block b is a map that leads just so. -/
def PMap (w : World) (b : Nat) (ps : List (ByteArray × Nat)) : Prop := ∃ D, w.ownsMap Try.prog 9 ptrR b ps.length D ∧ MapIs D ps
theorem own_tight {w : World} {b n : Nat} {D : DataW Unit} (h : w.ownsMap Try.prog 9 ptrR b n D) : w.ownsMap Try.prog 9 ptrR b (Maps.size D) D := by
  obtain ⟨es, clock, hb, F, _, rfl⟩ := h
  exact ⟨es, clock, hb, F, by rw [Maps.size_eq, length_read]; exact Nat.le_refl _, rfl⟩
theorem PMap.of {w : World} {b n : Nat} {D : DataW Unit} {ps : List (ByteArray × Nat)} (h : w.ownsMap Try.prog 9 ptrR b n D) (hi : MapIs D ps) : PMap w b ps := by
  have := own_tight h
  rw [hi.size] at this
  exact ⟨D, this, hi⟩
theorem PMap.perm {w : World} {b : Nat} {ps ps' : List (ByteArray × Nat)} (h : PMap w b ps) (hp : ps.Perm ps') : PMap w b ps' := by
  obtain ⟨D, h1, h2⟩ := h
  exact PMap.of h1 (h2.perm hp)
theorem PMap.lt {w : World} {b : Nat} {ps : List (ByteArray × Nat)} (h : PMap w b ps) : b < w.heap.size := h.choose_spec.1.lt
theorem PMap.nd {w : World} {b : Nat} {ps : List (ByteArray × Nat)} (h : PMap w b ps) : ps.Pairwise (fun a b => sameN a.1 b.1 = false) := h.choose_spec.2.nd
theorem PMap.same {w w' : World} {b : Nat} {ps : List (ByteArray × Nat)} (h : PMap w b ps) (e : w'.heap[b]? = w.heap[b]?) : PMap w' b ps := by
  obtain ⟨D, ⟨es, clock, hb, r⟩, hi⟩ := h
  exact ⟨D, ⟨es, clock, e.trans hb, r⟩, hi⟩
theorem PMap.made (w : World) : PMap (w.alloc (.map #[] 0)) w.heap.size [] := ⟨_, World.ownsMap_made _ _ _ _, MapIs.nil⟩
theorem PMap.block {w : World} {b : Nat} {ps : List (ByteArray × Nat)} (h : PMap w b ps) : ∃ es clock, w.heap[b]? = some (.map es clock) := by
  obtain ⟨D, ⟨es, clock, hb, _⟩, _⟩ := h
  exact ⟨es, clock, hb⟩
/-- 'm[s]', of any text. -/
theorem PMap.lookup {w : World} {b : Nat} {ps : List (ByteArray × Nat)} (h : PMap w b ps) (s : ByteArray) :
    (Instr.lookup 38 (.map (some b)) (.string s) false).run Try.prog w = .ok (.pointer ((look ps s).map fun g => ⟨g, 0, none⟩)) w := by
  obtain ⟨D, ⟨es, clock, hb, F, hsz, rfl⟩, hi⟩ := h
  by_cases hs : s.size ≤ maxLen
  · rcases Maps.fit_look false lawS Try.underlying38 (zeroF w) hb F (keyS s hs) with ⟨hrun, _, hat⟩ | ⟨e0, y, _, _, hrun, hRv, hat, _⟩
    · have hf := has_false_of_atKey hat
      rw [hi.has] at hf
      rw [look_none hf]
      exact hrun
    · have hf := has_true_of_atKey hat
      rw [hi.has] at hf
      obtain ⟨p, hp, hps⟩ := List.any_eq_true.1 hf
      have e := sameN_iff.1 hps
      subst e
      obtain ⟨g, hg, hy⟩ := ptrR_inv hRv
      have e2 := hi.at_ p hp .nil
      rw [hat, hy] at e2
      rw [look_mem hi.nd hp, ← ptrD_inj e2]
      rw [hg] at hrun
      exact hrun
  · have hf : ps.any (fun p => sameN p.1 s) = false := by
      rw [List.any_eq_false]
      intro p hp hps
      have e := sameN_iff.1 hps
      subst e
      have hh := hi.has p.1
      rw [List.any_eq_true.2 ⟨p, hp, sameN_refl _⟩] at hh
      obtain ⟨q, hq, hqk⟩ := List.any_eq_true.1 hh
      obtain ⟨x, hx, rfl⟩ := List.mem_map.1 (mem_sorted.1 hq)
      obtain ⟨y, hy⟩ := F.reads x hx
      have hk := rd_key hy
      rw [rg_of hy] at hqk
      have e1 := WideAt.sameKey_eq hqk
      obtain ⟨z, _, hz, hzl⟩ := Maps.keyOf_str Try.underlying9 hk
      rw [hz] at e1
      unfold kS at e1
      injection e1 with e1
      rw [e1, Array.length_toList] at hzl
      exact hs hzl
    rw [look_none hf]
    have hk : IsKey .string (.string s) := trivial
    have hks : ∀ x ∈ es.toList, IsKey .string x.key := fun x hx => by
      obtain ⟨y, hy⟩ := F.reads x hx
      obtain ⟨z, hz, _⟩ := Maps.keyOf_str Try.underlying9 (rd_key hy)
      rw [hz]; trivial
    rcases findNow_spec hk es.toList 0 hks with ⟨h1, _⟩ | ⟨j, e, _, h2, h3⟩
    · simp [Instr.lookup, run_underlying Try.underlying38, MapKept.run_getObj_map hb, MapKept.run_checkKey Try.underlying9 hk, MapKept.run_findKey Try.underlying9 h1, Result.andThen]
    · obtain ⟨y, hy⟩ := F.reads e (List.mem_of_getElem? h2)
      obtain ⟨z, hz, _, hzl⟩ := Maps.keyOf_str Try.underlying9 (rd_key hy)
      rw [h3] at hz
      injection hz with hz
      rw [hz] at hs
      exact absurd (by simpa [ByteArray.size] using hzl) hs

theorem Frm.of_turned {w w' : World} {b : Nat} (h : w.mapTurned w' b) : Frm (fun x => x = b) w w' := by
  have := h.grown
  exact ⟨this.os, this.tape, this.output, this.size, fun k hk hn => this.block k hk (fun e => hn (by injection e))⟩
theorem Frm.of_grown {w w' : World} {r : Nat} (h : w.grownBy w' (some r)) : Frm (fun x => x = r) w w' := 
  ⟨h.os, h.tape, h.output, h.size, fun k hk hn => h.block k hk (fun e => hn (by injection e))⟩
section
variable (w : World) {ops : Array Oper} {rest : List Oper} {o : Oper} {a : Act} {Q : Exit → Act → World → Prop}
/-- 'm[s] = g'. -/
theorem wpList_put_pm (hg : o.guard = none) (m x v : Operand) (hop : o.op = Op.mapUpdate 38 m x v) (b : Nat) (ps : List (ByteArray × Nat)) (hm : a.eval m = .map (some b)) (h : PMap w b ps) (hn : ps.length < 1000)
    (s : ByteArray) (g : Nat) (hs : s.size ≤ maxLen) (hx : a.eval x = .string s) (hv : a.eval v = .pointer (some ⟨g, 0, none⟩))
    (hK : ∀ w', PMap w' b ((s, g) :: strike ps s) → Frm (fun y => y = b) w w' → w'.heap.size = w.heap.size → wpList Try.prog ops Q rest (a.put o.dst undef) w') : wpList Try.prog ops Q (o :: rest) a w := by
  obtain ⟨D, h1, h2⟩ := h
  refine wpList_mapUpdate_in w hg m x v _ hop _ _ lawS Try.underlying38 ptrR b _ D hm h1 (by unfold maxLen; omega) _ _ _ hx hv (keyS s hs) _ _ (ptrR_mk g) fun w' ho ht => ?_
  refine hK w' (PMap.of ho (h2.put (h1.tidy lawS) s g)) (Frm.of_turned ht) ?_
  obtain ⟨_, _, _, _, _, rfl⟩ := ht
  simp [setBlock]
/-- 'delete(m, s)'. -/
theorem wpList_del_pm (hg : o.guard = none) (m x : Operand) (hop : o.op = Op.call { callee := Callee.builtin Builtin.delete, args := #[m, x], argTypes := #[38, 9] }) (b : Nat) (ps : List (ByteArray × Nat)) (hm : a.eval m = .map (some b)) (h : PMap w b ps)
    (s : ByteArray) (hs : s.size ≤ maxLen) (hx : a.eval x = .string s)
    (hK : ∀ w', PMap w' b (strike ps s) → Frm (fun y => y = b) w w' → w'.heap.size = w.heap.size → wpList Try.prog ops Q rest (a.put o.dst (.tuple #[])) w') : wpList Try.prog ops Q (o :: rest) a w := by
  obtain ⟨D, h1, h2⟩ := h
  refine wpList_delete_own w hg m x _ _ hop _ lawS Try.underlying38 ptrR b _ D hm h1 _ _ hx (keyS s hs) fun w' ho ht => ?_
  refine hK w' (PMap.of ho (h2.del (h1.tidy lawS) s)) (Frm.of_turned ht) ?_
  obtain ⟨_, _, _, _, _, rfl⟩ := ht
  simp [setBlock]
end
theorem PMap.drop {w : World} {b : Nat} {ps : List (ByteArray × Nat)} (h : PMap w b ps) (s : ByteArray) (hs : s.size ≤ maxLen) :
    ∃ w', (∀ ty, (Builtin.delete_ #[38, 9] ty #[.map (some b), .string s]).run Try.prog w = .ok (.tuple #[]) w') ∧ PMap w' b (strike ps s) ∧ Frm (fun y => y = b) w w' ∧ w'.heap.size = w.heap.size := by
  obtain ⟨D, h1, h2⟩ := h
  obtain ⟨w1, r0, r1, r2⟩ := h1.drop lawS Try.underlying38 (keyS s hs) 0
  refine ⟨w1, fun ty => ?_, PMap.of r1 (h2.del (h1.tidy lawS) s), Frm.of_turned r2, ?_⟩
  · exact r0
  · obtain ⟨_, _, _, _, _, rfl⟩ := r2
    simp [setBlock]
theorem PMap.len {w : World} {b : Nat} {ps : List (ByteArray × Nat)} (h : PMap w b ps) (ty : TypeId) : (Builtin.len_ #[38] ty #[.map (some b)]).run Try.prog w = .ok (.int .i64 ps.length) w := by
  obtain ⟨D, h1, h2⟩ := h
  rw [← h2.size]
  exact h1.len Try.underlying38 ty
end Go.Proofs.Ytfclgjdlkcmnfaa
namespace Go.Proofs.Ytfclgjdlkcmnfaa
open Go.RowKit
set_option linter.unusedVariables false

theorem zeros_wfK (k : IntKind) (m : Nat) : ∀ x ∈ List.replicate m (0 : Int), (Lit.int k x).wf = true := fun x hx => by
  rw [List.eq_of_mem_replicate hx]; cases k <;> decide
section
variable {P : Program}
theorem run_append_K (w : World) (base : Nat) (t : TypeId) (k : IntKind) (e : TypeId) (bytes : Nat) (ht : P.underlying t = some (.slice e)) (hi : (P.info? e).map (fun i => (i.zero, i.size, i.bytes)) = some (some (.int k 0), 1, bytes))
    (v : Value) (xs : List Int) (hown : KOwn k e w base v xs) (B : Nat) (A : Option Addr) (m c : Nat) (ys : List Int) (hr : Row k w B A ys) (hm : ys.length = m) (h1 : 1 ≤ m)
    (hbytes : (xs.length + m) * bytes ≤ 140737488355328) (h63 : xs.length + m ≤ maxLen) (hbase : base ≤ w.heap.size) :
    ∃ v' w', (∀ ty, (Builtin.append_ #[t, t] ty #[v, .slice A m c]).run P w = .ok v' w') ∧ KOwn k e w' base v' (xs ++ ys) ∧ w.grownBy w' v.ownBlock ∧ (v'.ownBlock = some w.heap.size ∨ (v'.ownBlock = v.ownBlock ∧ v.ownBlock ≠ none)) ∧ ∃ A' n' c', v' = .slice A' n' c' := by
  obtain ⟨i, hi1, hz, hsz, hby⟩ := info_parts hi
  have h64 := h63
  simp only [maxLen] at h64
  obtain ⟨b, o, rfl, _, hc⟩ := hr.2 (by omega)
  have hnews : ∀ j u, (ys.map (Value.int k))[j]? = some u → w.cell? ((⟨b, o, none⟩ : Addr).add j) = some u := by
    intro j u hu
    rw [List.getElem?_map] at hu
    by_cases hj : j < ys.length
    · rw [List.getElem?_eq_getElem hj] at hu
      rw [Go.WideShapes.add_plain, hc j hj, nth_eq ys j hj]
      exact hu
    · rw [List.getElem?_eq_none (by omega)] at hu
      cases hu
  have hnl : (ys.map (Value.int k)).length = m * i.size := by rw [List.length_map, hsz, hm, Nat.mul_one]
  rcases hown with ⟨rfl, rfl⟩ | ⟨g, n, cap, r, rfl, h2, h3, h4, h5, h6, h7, h8⟩
  · simp only [List.length_nil, Nat.zero_add] at hbytes h63 h64
    have hrun := fun ty => run_append_nil (P := P) w t ty e i _ ht hi1 hz ⟨b, o, none⟩ m c (ys.map (Value.int k)) hnl hnews (by omega) (by omega) (by rw [hby]; omega)
    have hge := grownCap_ge w m 0 e
    refine ⟨_, _, hrun, .inr ⟨w.heap.size, m, grownCap w m 0 e, List.replicate (grownCap w m 0 e - m) 0, rfl, hbase, by simpa using hm, ?_, hge, grownCap_le_maxLen w m 0 e h63, by simp; omega, zeros_wfK _ _⟩, ⟨rfl, rfl, rfl, by simp, fun q hq _ => heap_alloc_old w.drew _ hq⟩, .inl rfl, _, _, _, rfl⟩
    rw [zero_one, show ((ys.map (Value.int k)).toArray ++ blk k (List.replicate (grownCap w m 0 e - m) 0)) = blk k ([] ++ ys ++ List.replicate (grownCap w m 0 e - m) 0) by simp [blk]]
    exact heap_alloc_new w.drew _
  · by_cases hroom : n + m ≤ cap
    · have hsz4 : (blk k (xs ++ r)).size = cap := by rw [blk_size, List.length_append]; exact h7
      have hrun := fun ty => run_append_room (P := P) w t ty e i ht hi1 g n cap (blk k (xs ++ r)) h4 ⟨b, o, none⟩ m c (ys.map (Value.int k)) hnl hnews (ints_oneCell k ys) hroom (by rw [hsz4, hsz, Nat.mul_one, List.length_map]; omega)
      refine ⟨_, _, hrun, .inr ⟨g, n + m, cap, r.drop m, rfl, h2, by rw [List.length_append]; omega, ?_, hroom, h6, by rw [List.length_append, List.length_drop]; omega, fun x hx => h8 x (List.mem_of_mem_drop hx)⟩, ⟨rfl, rfl, rfl, by simp, fun q _ hq => setRow_other w g q _ (fun e => hq (by simp [Value.ownBlock, e]))⟩, .inr ⟨rfl, by simp [Value.ownBlock]⟩, _, _, _, rfl⟩
      have hcells : ((blk k (xs ++ r)).toList.take (n * i.size) ++ ys.map (Value.int k) ++ (blk k (xs ++ r)).toList.drop (n * i.size + (ys.map (Value.int k)).length)).toArray = blk k (xs ++ ys ++ r.drop m) := by
        rw [hsz, Nat.mul_one, List.length_map, hm]
        simp only [blk, List.map_append, ← h3]
        congr 1
        rw [List.take_left' (by simp), ← List.drop_drop, List.drop_left' (by simp), List.map_drop]
      rw [hcells]
      exact setRow_heap w g _ _ e _ h4
    · have holds : ∀ j u, (xs.map (Value.int k))[j]? = some u → w.cell? ((⟨g, 0, none⟩ : Addr).add j) = some u := by
        intro j u hu
        have hj : j < xs.length := by have := (List.getElem?_eq_some_iff.1 hu).1; simpa using this
        rw [Go.WideShapes.add_plain, Nat.zero_add, cell_of_row w g j _ _ _ h4, blk_get _ _ _ (by rw [List.length_append]; omega), nth_left _ _ _ hj]
        rw [List.getElem?_map, List.getElem?_eq_getElem hj] at hu
        rw [nth_eq _ _ hj]
        exact hu
      have hrun := fun ty => run_append_grow (P := P) w t ty e i _ ht hi1 hz ⟨g, 0, none⟩ n cap (xs.map (Value.int k)) (by rw [hsz]; simp; omega) holds ⟨b, o, none⟩ m c (ys.map (Value.int k)) hnl hnews (by omega) (by omega) (growslice_fits (by omega) (by rw [hby, ← h3]; exact hbytes))
      have hge := grownCap_ge w (n + m) cap e
      refine ⟨_, _, hrun, .inr ⟨w.heap.size, n + m, grownCap w (n + m) cap e, List.replicate (grownCap w (n + m) cap e - (n + m)) 0, rfl, hbase, by rw [List.length_append]; omega, ?_, hge, grownCap_le_maxLen w (n + m) cap e (by omega), by rw [List.length_append, List.length_replicate]; omega, zeros_wfK _ _⟩, ⟨rfl, rfl, rfl, by simp, fun q hq _ => heap_alloc_old w.drew _ hq⟩, .inl rfl, _, _, _, rfl⟩
      rw [zero_one, show ((xs.map (Value.int k)).toArray ++ (ys.map (Value.int k)).toArray ++ blk k (List.replicate (grownCap w (n + m) cap e - (n + m)) 0)) = blk k (xs ++ ys ++ List.replicate (grownCap w (n + m) cap e - (n + m)) 0) by simp [blk]]
      exact heap_alloc_new w.drew _
theorem step_append_K {ops : Array Oper} {o : Oper} {a : Act} {K : Act → World → Prop} {Q : Exit → Act → World → Prop} {E : Prop} (w : World) (hgd : o.guard = none) (s x : Operand) (t : TypeId)
    (ho : o.op = .call { callee := .builtin .append, args := #[s, x], argTypes := #[t, t] })
    (base : Nat) (k : IntKind) (e : TypeId) (bytes : Nat) (ht : P.underlying t = some (.slice e)) (hi : (P.info? e).map (fun i => (i.zero, i.size, i.bytes)) = some (some (.int k 0), 1, bytes))
    (v : Value) (xs : List Int) (hs : a.eval s = v) (hown : KOwn k e w base v xs) (B : Nat) (A : Option Addr) (m c : Nat) (ys : List Int) (hx : a.eval x = .slice A m c) (hr : Row k w B A ys) (hm : ys.length = m) (h1 : 1 ≤ m)
    (hbytes : (xs.length + m) * bytes ≤ 140737488355328) (h63 : xs.length + m ≤ maxLen) (hbase : base ≤ w.heap.size)
    (h : ∀ v' w', KOwn k e w' base v' (xs ++ ys) → w.grownBy w' v.ownBlock → (v'.ownBlock = some w.heap.size ∨ (v'.ownBlock = v.ownBlock ∧ v.ownBlock ≠ none)) → (∃ A' n' c', v' = .slice A' n' c') → K (a.put o.dst v') w') :
    if Region.wanted o (yielded ops a.tmps) = true then Oper.wp P o a w K Q else E := by
  have hw : Region.wanted o (yielded ops a.tmps) = true := by simp [Region.wanted, hgd]
  rw [if_pos hw]
  obtain ⟨v', w', hrun, g1, g2, g3, g4⟩ := run_append_K (P := P) w base t k e bytes ht hi v xs hown B A m c ys hr hm h1 hbytes h63 hbase
  unfold Oper.wp execOp
  simp only [ho, resolve, invoke, builtin, Sem.run_bind, Sem.run_pure, Result.andThen_ok, List.map_toArray, List.map_cons, List.map_nil, hs, hx, hrun]
  exact h v' w' g1 g2 g3 g4
theorem wpList_append_K {ops : Array Oper} {rest : List Oper} {o : Oper} {a : Act} {Q : Exit → Act → World → Prop} (w : World) (hgd : o.guard = none) (s x : Operand) (t : TypeId)
    (ho : o.op = .call { callee := .builtin .append, args := #[s, x], argTypes := #[t, t] })
    (base : Nat) (k : IntKind) (e : TypeId) (bytes : Nat) (ht : P.underlying t = some (.slice e)) (hi : (P.info? e).map (fun i => (i.zero, i.size, i.bytes)) = some (some (.int k 0), 1, bytes))
    (v : Value) (xs : List Int) (hs : a.eval s = v) (hown : KOwn k e w base v xs)
    (B : Nat) (A : Option Addr) (m c : Nat) (ys : List Int) (hx : a.eval x = .slice A m c) (hr : Row k w B A ys) (hm : ys.length = m) (h1 : 1 ≤ m)
    (hbytes : (xs.length + m) * bytes ≤ 140737488355328) (h63 : xs.length + m ≤ maxLen) (hbase : base ≤ w.heap.size)
    (h : ∀ v' w', KOwn k e w' base v' (xs ++ ys) → w.grownBy w' v.ownBlock → (v'.ownBlock = some w.heap.size ∨ (v'.ownBlock = v.ownBlock ∧ v.ownBlock ≠ none)) → (∃ A' n' c', v' = .slice A' n' c') → wpList P ops Q rest (a.put o.dst v') w') : wpList P ops Q (o :: rest) a w := by
  obtain ⟨v', w', hrun, g1, g2, g3, g4⟩ := run_append_K (P := P) w base t k e bytes ht hi v xs hown B A m c ys hr hm h1 hbytes h63 hbase
  exact wpList_append_run w hgd s x t ho v (.slice A m c) v' w' hs hx hrun (h v' w' g1 g2 g3 g4)
end
end Go.Proofs.Ytfclgjdlkcmnfaa
namespace Go.Proofs.Ytfclgjdlkcmnfaa
open Go.RowKit Go.Maps
set_option linter.unusedVariables false
set_option maxRecDepth 100000

/-- A file of the program's: its block, its data, what it is. -/
structure Pf where
  (g : Nat) (v : Value) (f : Fl)
structure PfIs (w : World) (m : Pf) : Prop where
  box : w.heap[m.g]? = some (.cells #[m.v, .int .i64 (m.f.sy : Int)] 69 (0, 0))
  own : KOwn .u8 5 w 0 m.v m.f.bs
def pfN (m : Pf) : ByteArray × Nat := (m.f.nm, m.g)
def PfA (m k : Pf) : Prop := m.g ≠ k.g ∧ ∀ b, m.v.ownBlock = some b → k.v.ownBlock ≠ some b
theorem PfA.symm {m k : Pf} (h : PfA m k) : PfA k m := ⟨h.1.symm, fun b hb hm => h.2 b hm hb⟩
/-- Its own block's cells. -/
def dvC (d : Dv) (L : Int) (bm : Nat) : Array Value := #[.bool d.off, .bool (decide (0 ≤ d.left)), .int .i64 L, .int .i64 (d.room : Int), .map (some bm)]
structure PDx (w : World) (g bm : Nat) (ms : List Pf) (d : Dv) : Prop where
  box : ∃ L : Int, w.heap[g]? = some (.cells (dvC d L bm) 40 (0, 0)) ∧ (0 ≤ d.left → L = d.left) ∧ -9223372036854775808 ≤ L ∧ L < 9223372036854775808
  map : PMap w bm (ms.map pfN)
  is : ∀ m ∈ ms, PfIs w m
  fs : ms.map (·.f) = d.fs
  apart : ms.Pairwise PfA
/-- Its blocks. -/
def PG (g bm : Nat) (ms : List Pf) (b : Nat) : Prop := b = g ∨ b = bm ∨ ∃ m ∈ ms, b = m.g ∨ m.v.ownBlock = some b
def PDe : DevP := fun w G g d => ∃ bm ms, PDx w g bm ms d ∧ ∀ b, PG g bm ms b ↔ G b

theorem cells_ne {w : World} {a b : Nat} {c1 c2 : Array Value} {t1 t2 : TypeId} {z1 z2 : Nat × Nat} (h1 : w.heap[a]? = some (.cells c1 t1 z1)) (h2 : w.heap[b]? = some (.cells c2 t2 z2)) (ht : t1 ≠ t2) : a ≠ b := by
  intro e
  subst e
  rw [h1] at h2
  injection h2 with h2
  injection h2 with _ h2
  exact ht h2
theorem cells_nm {w : World} {a b : Nat} {c1 : Array Value} {t1 : TypeId} {z1 : Nat × Nat} {es : Array MapEntry} {clock : Nat} (h1 : w.heap[a]? = some (.cells c1 t1 z1)) (h2 : w.heap[b]? = some (.map es clock)) : a ≠ b := by
  intro e
  subst e
  rw [h1] at h2
  injection h2 with h2
  cases h2
theorem KOwn.at_block {k : IntKind} {e : TypeId} {w : World} {base : Nat} {v : Value} {xs : List Int} (h : KOwn k e w base v xs) {b : Nat} (hb : v.ownBlock = some b) : ∃ c, w.heap[b]? = some (.cells c e (0, 0)) := by
  rcases h with ⟨rfl, _⟩ | ⟨g, n, cap, r, rfl, _, _, h4, _⟩
  · cases hb
  · injection hb with hb
    subst hb
    exact ⟨_, h4⟩
theorem KOwn.frm {F : Nat → Prop} {k : IntKind} {e : TypeId} {w w' : World} {base : Nat} {v : Value} {xs : List Int} (h : KOwn k e w base v xs) (hf : Frm F w w') (hn : ∀ b, v.ownBlock = some b → ¬ F b) : KOwn k e w' base v xs := by
  rcases h with h | ⟨g, n, cap, r, rfl, h2, h3, h4, h5⟩
  · exact .inl h
  · exact .inr ⟨g, n, cap, r, rfl, h2, h3, (hf.block g (block_lt h4) (hn g rfl)).trans h4, h5⟩
theorem PfIs.frm {F : Nat → Prop} {w w' : World} {m : Pf} (h : PfIs w m) (hf : Frm F w w') (hg : ¬ F m.g) (hn : ∀ b, m.v.ownBlock = some b → ¬ F b) : PfIs w' m :=
  ⟨(hf.block m.g (block_lt h.box) hg).trans h.box, h.own.frm hf hn⟩
theorem PDx.gbox {w : World} {g bm : Nat} {ms : List Pf} {d : Dv} (h : PDx w g bm ms d) : ∃ c, w.heap[g]? = some (.cells c 40 (0, 0)) := by
  obtain ⟨L, hb, _⟩ := h.box
  exact ⟨_, hb⟩
theorem PDx.lt {w : World} {g bm : Nat} {ms : List Pf} {d : Dv} (h : PDx w g bm ms d) : ∀ b, PG g bm ms b → b < w.heap.size := by
  intro b hb
  rcases hb with rfl | rfl | ⟨m, hm, rfl | hv⟩
  · obtain ⟨c, hc⟩ := h.gbox
    exact block_lt hc
  · exact h.map.lt
  · exact block_lt (h.is m hm).box
  · obtain ⟨c, hc⟩ := (h.is m hm).own.at_block hv
    exact block_lt hc
theorem PDx.frm {F : Nat → Prop} {w w' : World} {g bm : Nat} {ms : List Pf} {d : Dv} (h : PDx w g bm ms d) (hf : Frm F w w') (hn : ∀ b, PG g bm ms b → ¬ F b) : PDx w' g bm ms d := by
  obtain ⟨L, hb, h1, h2, h3⟩ := h.box
  exact ⟨⟨L, (hf.block g (block_lt hb) (hn g (.inl rfl))).trans hb, h1, h2, h3⟩, h.map.same (hf.block bm h.map.lt (hn bm (.inr (.inl rfl)))),
    fun m hm => (h.is m hm).frm hf (hn m.g (.inr (.inr ⟨m, hm, .inl rfl⟩))) (fun b hb => hn b (.inr (.inr ⟨m, hm, .inr hb⟩))), h.fs, h.apart⟩
theorem pde_dev : Dev PDe :=
  ⟨fun h hf hn => by obtain ⟨bm, ms, hx, hg⟩ := h; exact ⟨bm, ms, hx.frm hf (fun b hb => hn b ((hg b).1 hb)), hg⟩, fun h b hb => by
    obtain ⟨bm, ms, hx, hg⟩ := h
    exact hx.lt b ((hg b).2 hb)⟩
theorem PDx.drewN {w : World} {g bm : Nat} {ms : List Pf} {d : Dv} (h : PDx w g bm ms d) (n : Nat) : PDx (w.drewN n) g bm ms d := h.frm (F := fun _ => False) (Frm.of_below (bel_drewN w n)) (fun _ _ e => e)
/-- The blocks are of different kinds. -/
theorem PDx.g_ne {w : World} {g bm : Nat} {ms : List Pf} {d : Dv} (h : PDx w g bm ms d) : g ≠ bm ∧ ∀ m ∈ ms, m.g ≠ g ∧ m.g ≠ bm ∧ ∀ b, m.v.ownBlock = some b → b ≠ g ∧ b ≠ bm ∧ ∀ k ∈ ms, k.g ≠ b := by
  obtain ⟨c, hc⟩ := h.gbox
  obtain ⟨es, clock, hm⟩ := h.map.block
  refine ⟨cells_nm hc hm, fun m hm' => ⟨cells_ne (h.is m hm').box hc (by decide), cells_nm (h.is m hm').box hm, fun b hb => ?_⟩⟩
  obtain ⟨c', hc'⟩ := (h.is m hm').own.at_block hb
  exact ⟨cells_ne hc' hc (by decide), cells_nm hc' hm, fun k hk => cells_ne (h.is k hk).box hc' (by decide)⟩
theorem PDx.cells {w : World} {g bm : Nat} {ms : List Pf} {d : Dv} (h : PDx w g bm ms d) : ∃ L : Int, w.cell? ⟨g, 0, none⟩ = some (.bool d.off) ∧ w.cell? ⟨g, 1, none⟩ = some (.bool (decide (0 ≤ d.left))) ∧ w.cell? ⟨g, 2, none⟩ = some (.int .i64 L) ∧ w.cell? ⟨g, 3, none⟩ = some (.int .i64 (d.room : Int)) ∧ w.cell? ⟨g, 4, none⟩ = some (.map (some bm))
    ∧ (∀ j, w.frozen? ⟨g, j, none⟩ = false) ∧ (0 ≤ d.left → L = d.left) ∧ -9223372036854775808 ≤ L ∧ L < 9223372036854775808 := by
  obtain ⟨L, hb, h1, h2, h3⟩ := h.box
  exact ⟨L, cell_of_row w g 0 _ _ _ hb, cell_of_row w g 1 _ _ _ hb, cell_of_row w g 2 _ _ _ hb, cell_of_row w g 3 _ _ _ hb, cell_of_row w g 4 _ _ _ hb, fun j => block_frozen w g j _ _ hb, h1, h2, h3⟩
theorem PfIs.cells {w : World} {m : Pf} (h : PfIs w m) : w.cell? ⟨m.g, 0, none⟩ = some m.v ∧ w.cell? ⟨m.g, 1, none⟩ = some (.int .i64 (m.f.sy : Int)) ∧ ∀ j, w.frozen? ⟨m.g, j, none⟩ = false :=
  ⟨cell_of_row w m.g 0 _ _ _ h.box, cell_of_row w m.g 1 _ _ _ h.box, fun j => block_frozen w m.g j _ _ h.box⟩
/-- Where a name leads. -/
theorem PDx.look_no {w : World} {g bm : Nat} {ms : List Pf} {d : Dv} (h : PDx w g bm ms d) {s : ByteArray} (hf : findD d.fs s = none) : look (ms.map pfN) s = none := by
  refine look_none ?_
  rw [List.any_eq_false]
  intro p hp hs
  obtain ⟨m, hm, rfl⟩ := List.mem_map.1 hp
  have := findD_none.1 hf m.f (by rw [← h.fs]; exact List.mem_map.2 ⟨m, hm, rfl⟩)
  rw [show sameN m.f.nm s = true from hs] at this
  cases this
theorem PDx.look_yes {w : World} {g bm : Nat} {ms : List Pf} {d : Dv} (h : PDx w g bm ms d) {s : ByteArray} {k : Nat} (hf : findD d.fs s = some k) : ∃ (hk : k < ms.length) (hk' : k < d.fs.length), look (ms.map pfN) s = some ms[k].g ∧ d.fs[k] = ms[k].f ∧ ms[k].f.nm = s := by
  obtain ⟨hk, h1, _⟩ := findD_some hf
  have hl : ms.length = d.fs.length := by rw [← h.fs, List.length_map]
  have hk2 : k < ms.length := by omega
  have e : d.fs[k] = ms[k].f := by simp only [← h.fs, List.getElem_map]
  have e2 : ms[k].f.nm = s := by rw [← e]; exact sameN_iff.1 h1
  refine ⟨hk2, hk, ?_, e, e2⟩
  have := look_mem h.map.nd (p := pfN ms[k]) (List.mem_map.2 ⟨ms[k], List.getElem_mem hk2, rfl⟩)
  rw [show (pfN ms[k]).1 = s from e2] at this
  exact this
end Go.Proofs.Ytfclgjdlkcmnfaa
namespace Go.Proofs.Ytfclgjdlkcmnfaa
open Go.Shelf Go.Proofs
def Try.sortStr_ren : Go.Shelf.Ren := ⟨fun | 190 => 35 | 125 => 67 | 258 => 66 | 128 => 84 | 129 => 85 | 302 => 75 | 303 => 76 | 304 => 77 | 305 => 78 | 306 => 79 | 307 => 80 | 308 => 81 | 309 => 82 | 310 => 83 | 333 => 86 | 329 => 87 | 330 => 88 | 334 => 89 | 335 => 90 | 336 => 91 | 344 => 92 | n => n, fun | 31 => 34 | 9 => 9 | 3 => 3 | 46 => 85 | 0 => 0 | 51 => 100 | 53 => 102 | 4 => 4 | 183 => 92 | 182 => 91 | 131 => 97 | 5 => 5 | 218 => 103 | 222 => 107 | 228 => 109 | 229 => 110 | n => n, fun | n => n⟩
theorem Try.sortStr : Go.Proofs.Lays.n190 Try.prog Try.sortStr_ren := {
  mixed := by kernel_rfl
  f125 := Try.func67.trans (congrArg some (by kernel_rfl))
  f128 := Try.func84.trans (congrArg some (by kernel_rfl))
  f129 := Try.func85.trans (congrArg some (by kernel_rfl))
  f190 := Try.func35.trans (congrArg some (by kernel_rfl))
  f258 := Try.func66.trans (congrArg some (by kernel_rfl))
  f302 := Try.func75.trans (congrArg some (by kernel_rfl))
  f303 := Try.func76.trans (congrArg some (by kernel_rfl))
  f304 := Try.func77.trans (congrArg some (by kernel_rfl))
  f305 := Try.func78.trans (congrArg some (by kernel_rfl))
  f306 := Try.func79.trans (congrArg some (by kernel_rfl))
  f307 := Try.func80.trans (congrArg some (by kernel_rfl))
  f308 := Try.func81.trans (congrArg some (by kernel_rfl))
  f309 := Try.func82.trans (congrArg some (by kernel_rfl))
  f310 := Try.func83.trans (congrArg some (by kernel_rfl))
  f329 := Try.func87.trans (congrArg some (by kernel_rfl))
  f330 := Try.func88.trans (congrArg some (by kernel_rfl))
  f333 := Try.func86.trans (congrArg some (by kernel_rfl))
  f334 := Try.func89.trans (congrArg some (by kernel_rfl))
  f335 := Try.func90.trans (congrArg some (by kernel_rfl))
  f336 := Try.func91.trans (congrArg some (by kernel_rfl))
  f344 := Try.func92.trans (congrArg some (by kernel_rfl))
  t0 := Try.underlying0
  a0 := Try.isAgg0
  z0 := Try.sizeOf0
  v0 := Try.zeroValue0
  t3 := Try.underlying3
  a3 := Try.isAgg3
  z3 := Try.sizeOf3
  v3 := Try.zeroValue3
  t4 := Try.underlying4
  a4 := Try.isAgg4
  z4 := Try.sizeOf4
  v4 := Try.zeroValue4
  t5 := Try.underlying5
  a5 := Try.isAgg5
  z5 := Try.sizeOf5
  v5 := Try.zeroValue5
  t9 := Try.underlying9
  a9 := Try.isAgg9
  z9 := Try.sizeOf9
  v9 := Try.zeroValue9
  t31 := Try.underlying34
  a31 := Try.isAgg34
  z31 := Try.sizeOf34
  v31 := Try.zeroValue34
  t46 := Try.underlying85
  a46 := Try.isAgg85
  z46 := Try.sizeOf85
  v46 := Try.zeroValue85
  t51 := Try.underlying100
  a51 := Try.isAgg100
  z51 := Try.sizeOf100
  v51 := Try.zeroValue100
  t53 := Try.underlying102
  a53 := Try.isAgg102
  z53 := Try.sizeOf102
  v53 := Try.zeroValue102
  t131 := Try.underlying97
  a131 := Try.isAgg97
  z131 := Try.sizeOf97
  v131 := Try.zeroValue97
  t182 := Try.underlying91
  a182 := Try.isAgg91
  z182 := Try.sizeOf91
  v182 := Try.zeroValue91
  t183 := Try.underlying92
  a183 := Try.isAgg92
  z183 := Try.sizeOf92
  v183 := Try.zeroValue92
  t218 := Try.underlying103
  a218 := Try.isAgg103
  z218 := Try.sizeOf103
  v218 := Try.zeroValue103
  t222 := Try.underlying107
  a222 := Try.isAgg107
  z222 := Try.sizeOf107
  v222 := Try.zeroValue107
  t228 := Try.underlying109
  a228 := Try.isAgg109
  z228 := Try.sizeOf109
  v228 := Try.zeroValue109
  t229 := Try.underlying110
  a229 := Try.isAgg110
  z229 := Try.sizeOf110
  v229 := Try.zeroValue110 }
def Try.cloneStr_ren : Go.Shelf.Ren := ⟨fun | 316 => 65 | n => n, fun | 9 => 9 | 3 => 3 | 4 => 4 | 37 => 30 | 0 => 0 | 127 => 89 | 5 => 5 | n => n, fun | n => n⟩
theorem Try.cloneStr : Go.Proofs.LaysM.n316 Try.prog Try.cloneStr_ren := {
  mixed := by kernel_rfl
  f316 := Try.func65.trans (congrArg some (by kernel_rfl))
  t0 := Try.underlying0
  a0 := Try.isAgg0
  z0 := Try.sizeOf0
  v0 := Try.zeroValue0
  t3 := Try.underlying3
  a3 := Try.isAgg3
  z3 := Try.sizeOf3
  v3 := Try.zeroValue3
  t4 := Try.underlying4
  a4 := Try.isAgg4
  z4 := Try.sizeOf4
  v4 := Try.zeroValue4
  t9 := Try.underlying9
  a9 := Try.isAgg9
  z9 := Try.sizeOf9
  v9 := Try.zeroValue9
  t37 := Try.underlying30
  a37 := Try.isAgg30
  z37 := Try.sizeOf30
  v37 := Try.zeroValue30
  t127 := Try.underlying89
  a127 := Try.isAgg89
  z127 := Try.sizeOf89
  v127 := Try.zeroValue89
  t5 := Try.underlying5
  a5 := Try.isAgg5
  z5 := Try.sizeOf5
  v5 := Try.zeroValue5
  i0 := by kernel_rfl
  i3 := by kernel_rfl
  i4 := by kernel_rfl
  i5 := by kernel_rfl
  i9 := by kernel_rfl
  i37 := by kernel_rfl
  i127 := by kernel_rfl }
end Go.Proofs.Ytfclgjdlkcmnfaa
namespace Go.Proofs.Ytfclgjdlkcmnfaa
open Go.RowKit Go.Maps
set_option linter.unusedVariables false
set_option maxRecDepth 100000

theorem isName_any (s : ByteArray) (w : World) : Calls Try.prog 55 #[.string s] w fun e w' => e = .returned (.bool (okN s)) ∧ w' = w := by
  by_cases h1 : 0 < s.size
  · have HO : Hid (okN s = decide ((s.size : Int) ≤ 16)) := Lib.hid (by unfold okN; rw [decide_eq_true h1, Bool.true_and]; exact decide_eq_decide.2 (by omega))
    rw [HO.out]
    have h2 : (s.size : Int) ≥ 1 := by omega
    go_enter Try.func55, Try.ntmps55
    go_wp2
    go_ret
    exact ⟨rfl, rfl⟩
  · have HO : Hid (okN s = false) := Lib.hid (by unfold okN; rw [decide_eq_false h1]; rfl)
    rw [HO.out]
    have h2 : ¬ (s.size : Int) ≥ 1 := by omega
    go_enter Try.func55, Try.ntmps55
    go_wp2
    go_ret
    exact ⟨rfl, rfl⟩
theorem ok_size {s : ByteArray} (h : okN s = true) : s.size ≤ 16 := by
  unfold okN at h
  simp at h
  omega
/-- A copy of a text. -/
theorem sclone_any (s : ByteArray) (w : World) (h : s.size ≤ 1000000) : Calls Try.prog 34 #[.string s] w fun e w' => e = .returned (.string s) ∧ Below w.heap.size w w' := by
  have hc : Hid (Calls Try.prog 65 #[.string s] w fun e w' => e = .returned (.string s) ∧ Below w.heap.size w w') := Lib.hid (Any.stringslite_Clone Try.cloneStr s w (by omega))
  go_enter Try.func34, Try.ntmps34
  go_wp2_with (go_at_call 65; refine hc.out.mono ?_; rintro e w' ⟨rfl, hb⟩)
  go_ret
  exact ⟨rfl, hb⟩

section
variable {w : World} {g bm : Nat} {ms : List Pf} {d : Dv}
theorem down_pd (h : PDx w g bm ms d) : Calls Try.prog 17 #[.pointer (some ⟨g, 0, none⟩)] w fun e w' => e = .returned (.bool d.off) ∧ w' = w := by
  obtain ⟨L, c0, c1, c2, c3, c4, cf, _⟩ := h.cells
  clear h
  go_enter Try.func17, Try.ntmps17
  go_wp2
  go_ret
  exact ⟨rfl, rfl⟩
/-- What 'find' tells. -/
def FindTo (ms : List Pf) (d : Dv) (s : ByteArray) (w : World) (e : Ending) (w' : World) : Prop := w' = w ∧
  ((d.off = true ∧ e = .returned (.tuple #[.pointer none, .int .i64 10])) ∨ (d.off = false ∧ findD d.fs s = none ∧ e = .returned (.tuple #[.pointer none, .int .i64 6]))
    ∨ (d.off = false ∧ ∃ k, ∃ (h : k < ms.length), findD d.fs s = some k ∧ e = .returned (.tuple #[.pointer (some ⟨ms[k].g, 0, none⟩), .int .i64 0])))
theorem find_pd (s : ByteArray) (h : PDx w g bm ms d) : Calls Try.prog 60 #[.pointer (some ⟨g, 0, none⟩), .string s] w (FindTo ms d s w) := by
  obtain ⟨L, c0, c1, c2, c3, c4, cf, _⟩ := h.cells
  have hD : Hid (Calls Try.prog 17 #[.pointer (some ⟨g, 0, none⟩)] w fun e w' => e = .returned (.bool d.off) ∧ w' = w) := Lib.hid (down_pd h)
  have hl := h.map.lookup s
  cases ho : d.off with
  | true =>
    rw [ho] at hD c0
    have HO := Lib.hid ho
    clear h hl ho
    go_enter Try.func60, Try.ntmps60
    go_wp2_with (go_at_call 17; refine hD.out.mono ?_; rintro e w' ⟨rfl, rfl⟩)
    go_ret2
    exact ⟨rfl, .inl ⟨HO.out, rfl⟩⟩
  | false =>
    rw [ho] at hD c0
    cases hf : findD d.fs s with
    | none =>
      rw [h.look_no hf] at hl
      have HF := Lib.hid hf
      have HO := Lib.hid ho
      clear h hf ho
      go_enter Try.func60, Try.ntmps60
      go_wp2_with (go_at_call 17; refine hD.out.mono ?_; rintro e w' ⟨rfl, rfl⟩)
      go_ret2
      exact ⟨rfl, .inr (.inl ⟨HO.out, HF.out, rfl⟩)⟩
    | some k =>
      obtain ⟨hk, _, hlk, _, _⟩ := h.look_yes hf
      rw [hlk] at hl
      have HF := Lib.hid hf
      have HO := Lib.hid ho
      have HE : Hid (∃ q, ms[k].g = q) := Lib.hid ⟨_, rfl⟩
      obtain ⟨q, hq⟩ := HE.out
      have HQ := Lib.hid hq
      rw [hq] at hl
      clear h hf ho hlk hq
      go_enter Try.func60, Try.ntmps60
      go_wp2_with (go_at_call 17; refine hD.out.mono ?_; rintro e w' ⟨rfl, rfl⟩)
      go_ret2
      exact ⟨rfl, .inr (.inr ⟨HO.out, k, hk, HF.out, by rw [HQ.out]; rfl⟩)⟩
theorem hasPlace_pd (s : ByteArray) (h : PDx w g bm ms d) : Calls Try.prog 56 #[.pointer (some ⟨g, 0, none⟩), .string s] w fun e w' => e = .returned (.bool (!decide (findD d.fs s = none ∧ ¬ d.fs.length < 64))) ∧ w' = w := by
  obtain ⟨L, c0, c1, c2, c3, c4, cf, _⟩ := h.cells
  have hl := h.map.lookup s
  have hn := h.map.len
  have hlen : (ms.map pfN).length = d.fs.length := by rw [List.length_map, ← h.fs, List.length_map]
  rw [hlen] at hn
  obtain ⟨B, hB⟩ : ∃ B, (!decide (findD d.fs s = none ∧ ¬ d.fs.length < 64)) = B := ⟨_, rfl⟩
  rw [hB]
  cases hf : findD d.fs s with
  | none =>
    rw [h.look_no hf] at hl
    have HB : Hid (decide ((d.fs.length : Int) < 64) = B) := Lib.hid (by rw [← hB]; by_cases hx : d.fs.length < 64 <;> simp [hf, hx] <;> omega)
    clear h hf hB
    generalize d.fs.length = n at *
    go_enter Try.func56, Try.ntmps56
    go_wp2
    go_ret
    exact ⟨by rw [← HB.out]; rfl, rfl⟩
  | some k =>
    obtain ⟨hk, _, hlk, _, _⟩ := h.look_yes hf
    rw [hlk] at hl
    have HB : Hid (B = true) := Lib.hid (by rw [← hB]; simp [hf])
    rw [HB.out]
    generalize ms[k].g = q at *
    clear h hf hlk hB
    go_enter Try.func56, Try.ntmps56
    go_wp2
    go_ret
    exact ⟨rfl, rfl⟩
end
end Go.Proofs.Ytfclgjdlkcmnfaa
namespace Go.Proofs.Ytfclgjdlkcmnfaa
open Go.RowKit
set_option linter.unusedVariables false

/-- A call returns a new slice, its own, that holds xs; its block is known whole. -/
def MakesCl (w : World) (xs : List Int) (e : Ending) (w' : World) : Prop := ∃ v, e = .returned v ∧ KOwn .u8 5 w' w.heap.size v xs ∧ Below w.heap.size w w'
theorem info_cl : (Try.prog.info? 5).map (fun i => (i.zero, i.size, i.bytes)) = some (some (.int .u8 0), 1, 1) := by kernel_rfl
theorem zeros_cl (m : Nat) : ∀ x ∈ List.replicate m (0 : Int), (Lit.int .u8 x).wf = true := fun x hx => by rw [List.eq_of_mem_replicate hx]; decide
/-- 'append([]byte{}, ..)' of a row that is not empty. -/
theorem append_cl (A : Option Addr) (n c : Nat) (xs : List Int) (w : World) (hr : Row .u8 w w.heap.size A xs) (hn : xs.length = n) (h1 : 1 ≤ n) (hb : n ≤ 140737488351232) :
    ∃ cap w', (∀ ty, (Builtin.append_ #[30, 30] ty #[.slice (some ⟨w.heap.size, 0, none⟩) 0 0, .slice A n c]).run Try.prog (w.alloc (.cells #[] 5)) = .ok (.slice (some ⟨w.heap.size + 1, 0, none⟩) n cap) w') ∧ KOwn .u8 5 w' w.heap.size (.slice (some ⟨w.heap.size + 1, 0, none⟩) n cap) xs ∧ Below w.heap.size w w' := by
  have h := run_append_full (P := Try.prog) (w.alloc (.cells #[] 5)) 30 .u8 5 1 Try.underlying30 info_cl w.heap.size 0 [] (heap_alloc_new w _) rfl _ _ n c xs (hr.alloc (Nat.le_refl _) _) hn h1 (by omega) (by simp only [maxLen]; omega)
  obtain ⟨cap, h2, h3, h4⟩ := h
  have hz : (w.alloc (.cells #[] 5)).heap.size = w.heap.size + 1 := by simp
  simp only [Nat.zero_add, List.nil_append, hz] at h2
  refine ⟨cap, _, h2, ?_, ?_⟩
  · refine .inr ⟨_, n, cap, List.replicate (cap - n) 0, rfl, by omega, hn, ?_, by omega, h4, by rw [List.length_replicate]; omega, zeros_cl _⟩
    have := heap_alloc_new ((w.alloc (.cells #[] 5)).drew) (.cells (blk .u8 (xs ++ List.replicate (cap - n) 0)) 5)
    rw [show ((w.alloc (.cells #[] 5)).drew).heap.size = w.heap.size + 1 from hz] at this
    exact this
  · exact (below_drew (bel_alloc w _)).alloc (by show _ ≤ (w.alloc _).heap.size; omega) _
set_option maxRecDepth 100000 in
theorem clone_any (A : Option Addr) (n c : Nat) (xs : List Int) (w : World) (hr : Row .u8 w w.heap.size A xs) (hn : xs.length = n) (hb : n ≤ 140737488351232) :
    Calls Try.prog 33 #[.slice A n c] w (MakesCl w xs) := by
  by_cases h1 : 1 ≤ n
  · obtain ⟨b, o, rfl, _⟩ := hr.2 (by omega)
    obtain ⟨cap, w1, hap, hk, hbel⟩ := append_cl (some ⟨b, o, none⟩) n c xs w hr hn h1 hb
    have HK := Lib.hid hk
    clear hr hn hk
    have he : ∀ W : World, (binOp .eql 30 (.slice (some ⟨b, o, none⟩) n c) (.slice none 0 0)).run Try.prog W = .ok (.bool false) W := fun _ => rfl
    go_enter Try.func33, Try.ntmps33
    go_wp2_with (at_builtin; refine wpList_append_run _ rfl (.tmp 5) (.tmp 6) 30 rfl (.slice (some ⟨w.heap.size, 0, none⟩) 0 0) (.slice (some ⟨b, o, none⟩) n c) (.slice (some ⟨w.heap.size + 1, 0, none⟩) n cap) w1 rfl rfl hap ?_)
    go_ret
    exact ⟨_, rfl, HK.out, hbel⟩
  obtain rfl : n = 0 := by omega
  obtain rfl : xs = [] := List.eq_nil_of_length_eq_zero hn
  clear hn hb hr
  cases A with
  | none =>
    have he : ∀ W : World, (binOp .eql 30 (.slice none 0 c) (.slice none 0 0)).run Try.prog W = .ok (.bool true) W := fun _ => rfl
    go_enter Try.func33, Try.ntmps33
    go_wp2
    go_ret
    exact ⟨_, rfl, KOwn.nil _ _ _ _, Below.refl _ _⟩
  | some a =>
    have he : ∀ W : World, (binOp .eql 30 (.slice (some a) 0 c) (.slice none 0 0)).run Try.prog W = .ok (.bool false) W := fun _ => rfl
    go_enter Try.func33, Try.ntmps33
    go_wp2
    go_ret
    refine ⟨_, rfl, .inr ⟨w.heap.size, 0, 0, [], rfl, Nat.le_refl _, rfl, ?_, Nat.le_refl _, by unfold maxLen; omega, rfl, by simp⟩, bel_alloc w _⟩
    exact heap_alloc_new w _
end Go.Proofs.Ytfclgjdlkcmnfaa
namespace Go.Proofs.Ytfclgjdlkcmnfaa
open Go.RowKit Go.Maps
set_option linter.unusedVariables false
set_option maxRecDepth 100000

theorem MapIs.member {D : DataW Unit} {ps : List (ByteArray × Nat)} (hi : MapIs D ps) {key v : Value} {kl : Lit} {y : DataW Unit × List MemPlace} (hk : keyOf Try.prog 9 key = some kl) (hv : ptrR v = some y) (hat : ∀ z, D.atKey kl z = y.1) :
    ∃ p ∈ ps, key = .string p.1 ∧ v = .pointer (some ⟨p.2, 0, none⟩) ∧ kl = kS p.1 := by
  obtain ⟨x, rfl, rfl, _⟩ := Maps.keyOf_str Try.underlying9 hk
  have hh := has_true_of_atKey hat
  rw [← kS_of x, hi.has] at hh
  obtain ⟨p, hp, hs⟩ := List.any_eq_true.1 hh
  have e := sameN_iff.1 hs
  obtain ⟨q, rfl, rfl⟩ := ptrR_inv hv
  refine ⟨p, hp, by rw [e, encStr], ?_, by rw [e, kS_of]⟩
  have h2 := hi.at_ p hp .nil
  rw [e, kS_of, hat] at h2
  rw [← ptrD_inj h2]
  rfl
/-- The range's step. -/
theorem wpList_next_pm (w : World) {ops : Array Oper} {rest : List Oper} {o : Oper} {a : Act} {Q : Exit → Act → World → Prop} (hg : o.guard = none) (it : Operand) (hop : o.op = Op.next it false) (b r n : Nat) (D : DataW Unit) (ps : List (ByteArray × Nat)) (hi : MapIs D ps) (left : Lit → Bool) (cnt : Nat)
    (hit : a.eval it = .pointer (some ⟨r, 0, none⟩)) (h : w.ranges Try.prog 9 ptrR b r n D left cnt)
    (hDone : (∀ kl, left kl = false) → wpList Try.prog ops Q rest (a.put o.dst (.tuple #[.bool false])) w)
    (hMore : ∀ p ∈ ps, left (kS p.1) = true → ∀ (w' : World) (cnt' : Nat), w'.ranges Try.prog 9 ptrR b r n D (fun z => left z && !z.sameKey (kS p.1)) cnt' → cnt' < cnt → Frm (fun x => x = r) w w' → w'.heap.size = w.heap.size →
      (Instr.entry (.pointer (some ⟨r, 0, none⟩))).run Try.prog w' = .ok (.tuple #[.string p.1, .pointer (some ⟨p.2, 0, none⟩)]) w' → wpList Try.prog ops Q rest (a.put o.dst (.tuple #[.bool true, .string p.1, .pointer (some ⟨p.2, 0, none⟩)])) w') :
    wpList Try.prog ops Q (o :: rest) a w := by
  refine wpList_plain hg fun K' hK' => ?_
  unfold Oper.wp
  rcases h.next lawS o.type with ⟨h0, hl, hrun⟩ | ⟨key, v, kl, y, w', cnt', hkey, hlk, hv, hat, hrun, hrg, hlt, hgr, hsz, hen⟩
  · simp [execOp, hop, hit, hrun, Result.andThen]
    exact hK' _ _ (hDone hl)
  · obtain ⟨p, hp, rfl, rfl, rfl⟩ := hi.member hkey hv hat
    simp [execOp, hop, hit, hrun, Result.andThen]
    exact hK' _ _ (hMore p hp hlk w' cnt' hrg hlt (Frm.of_grown hgr) hsz hen)

def usedM (l : List Pf) : Nat := (l.map fun m => m.f.bs.length).sum
theorem usedM_eq (l : List Pf) : usedM l = usedD (l.map (·.f)) := by unfold usedM usedD; rw [List.map_map]; rfl
def gone (left : Lit → Bool) (l : List Pf) : List Pf := l.filter fun m => !left (kS m.f.nm)
theorem gone_le (left : Lit → Bool) (l : List Pf) : usedM (gone left l) ≤ usedM l := by
  induction l with
  | nil => exact Nat.le_refl _
  | cons a l ih =>
    unfold gone at ih ⊢
    rw [List.filter_cons]
    split
    · simp only [usedM, List.map_cons, List.sum_cons] at ih ⊢; omega
    · simp only [usedM, List.map_cons, List.sum_cons] at ih ⊢; omega
theorem gone_step {l : List Pf} (nd : l.Pairwise (fun a b => sameN a.f.nm b.f.nm = false)) (left : Lit → Bool) {m : Pf} (hm : m ∈ l) (hl : left (kS m.f.nm) = true) :
    usedM (gone (fun z => left z && !z.sameKey (kS m.f.nm)) l) = usedM (gone left l) + m.f.bs.length := by
  have other : ∀ k : Pf, sameN k.f.nm m.f.nm = false → (left (kS k.f.nm) && !(kS k.f.nm).sameKey (kS m.f.nm)) = left (kS k.f.nm) := fun k hk => by
    rw [sameKey_ne (kS_ne hk)]; simp
  induction l with
  | nil => cases hm
  | cons a l ih =>
    obtain ⟨h1, h2⟩ := List.pairwise_cons.1 nd
    unfold gone at ih ⊢
    rcases List.mem_cons.1 hm with rfl | hm
    · have e : l.filter (fun k => !(left (kS k.f.nm) && !(kS k.f.nm).sameKey (kS m.f.nm))) = l.filter (fun k => !left (kS k.f.nm)) :=
        List.filter_congr (fun k hk => by rw [other k (by rw [sameN_comm]; exact h1 k hk)])
      rw [List.filter_cons, List.filter_cons, e]
      simp only [hl, WideAt.sameKey_self (kS_key _)]
      simp only [Bool.not_true, Bool.and_false, Bool.not_false, if_true, Bool.false_eq_true, if_false, usedM, List.map_cons, List.sum_cons]
      omega
    · have ih := ih h2 hm
      have ho := other a (h1 m hm)
      simp only at ih ho
      rw [List.filter_cons, List.filter_cons]
      simp only [ho]
      split
      · simp only [usedM, List.map_cons, List.sum_cons] at ih ⊢; omega
      · exact ih
theorem gone_none {left : Lit → Bool} {l : List Pf} (h : ∀ m ∈ l, left (kS m.f.nm) = true) : gone left l = [] := by
  unfold gone
  rw [List.filter_eq_nil_iff]
  intro m hm
  rw [h m hm]; simp
theorem gone_all {left : Lit → Bool} {l : List Pf} (h : ∀ kl, left kl = false) : gone left l = l := by
  unfold gone
  rw [List.filter_eq_self]
  intro m hm
  rw [h]; rfl

section
variable {w : World} {g bm : Nat} {ms : List Pf} {d : Dv}
theorem PDx.nds (h : PDx w g bm ms d) : ms.Pairwise (fun a b => sameN a.f.nm b.f.nm = false) := by
  have := h.map.nd
  rw [List.pairwise_map] at this
  exact this
theorem KOwn.val {k : IntKind} {e : TypeId} {w : World} {base : Nat} {v : Value} {xs : List Int} (h : KOwn k e w base v xs) : ∃ A c, v = .slice A xs.length c ∧ xs.length ≤ c ∧ c ≤ maxLen := by
  rcases h with ⟨rfl, rfl⟩ | ⟨g, n, cap, r, rfl, _, h3, _, h4, h5, _⟩
  · exact ⟨none, 0, rfl, Nat.le_refl _, Nat.zero_le _⟩
  · subst h3
    exact ⟨_, _, rfl, h4, h5⟩
set_option maxHeartbeats 1000000 in
theorem used_pd (h : PDx w g bm ms d) (hu : usedD d.fs ≤ 1000000000) : Calls Try.prog 15 #[.pointer (some ⟨g, 0, none⟩)] w fun e w' => e = .returned (.int .i64 (usedD d.fs : Nat)) ∧ Below w.heap.size w w' := by
  obtain ⟨L, c0, c1, c2, c3, c4, cf, _⟩ := h.cells
  have hbl := h.map.lt
  obtain ⟨D, hown, hi⟩ := h.map
  generalize (ms.map pfN).length = n at hown
  have HI := Lib.hid hi
  have HUS : Hid (usedM ms = usedD d.fs) := Lib.hid (by rw [usedM_eq, h.fs])
  have HH := Lib.hid h
  have HUL : Hid (∀ left, usedM (gone left ms) ≤ 1000000000) := Lib.hid (fun left => by have := gone_le left ms; rw [HUS.out] at this; omega)
  clear h hi hu
  go_enter Try.func15, Try.ntmps15
  go_wp2_with (first
    | (at_range; refine wpList_range_own _ rfl _ 38 rfl 9 66 lawS Try.underlying38 _ bm _ _ rfl hown ?_; intro w0 hrg0 hg0 hs0)
    | go_in)
  go_frame
  have F0 : Hid (Frm (fun _ => False) w w0) := Lib.hid ⟨hg0.os, hg0.tape, hg0.output, hg0.size, fun k hk _ => hg0.block k hk (by simp)⟩
  clear hg0
  go_loopw [3, 5] (fun u _ wr => ∃ (left : Lit → Bool) (cnt : Nat), wr.ranges Try.prog 9 ptrR bm w.heap.size n D left cnt ∧ u = .int .i64 (usedM (gone left ms) : Nat) ∧ Hid (Frm (fun _ => False) w wr))
    (fun _ _ wr => wr.rangeLeft bm w.heap.size)
  case atStart => 
    refine ⟨_, _, hrg0, ?_, F0⟩
    rw [gone_none (fun m hm => by rw [HI.out.has]; exact List.any_eq_true.2 ⟨pfN m, List.mem_map.2 ⟨m, hm, rfl⟩, sameN_refl _⟩)]
    rfl
  case round =>
    obtain ⟨left, cnt, hrg, rfl, hF⟩ := hrel
    go_wp2_with (first
      | (at_next; refine wpList_next_pm _ rfl _ rfl bm w.heap.size _ _ _ HI.out _ _ rfl hrg ?_ ?_)
      | go_in)
    · intro hl
      rw [gone_all hl, HUS.out]
      go_wp2
      go_ret
      exact ⟨rfl, hF.out.below (Below.refl _ _) (Nat.le_refl _) (fun i hi => hi.elim)⟩
    · intro m hm hl w1 cnt1 hrg1 hlt hF1 hs1 hen
      have hF2 : Hid (Frm (fun _ => False) w w1) := Lib.hid (hF.out.trans hF1 (fun i hi => .inr (by rw [hi]; exact Nat.le_refl _)))
      have hx := HH.out.frm hF2.out (fun _ _ e => e)
      obtain ⟨m0, m1, mf⟩ := (hx.is m hm).cells
      obtain ⟨A, c, hv, _, _⟩ := (hx.is m hm).own.val
      have hst := gone_step HH.out.nds left hm hl
      have hb1 := HUL.out (fun z => left z && !z.sameKey (kS m.f.nm))
      have HS := Lib.hid hst
      rw [hst] at hb1
      rw [hv] at m0
      simp only [pfN] at hen
      obtain ⟨q, hq⟩ : ∃ q, m.f.bs.length = q := ⟨_, rfl⟩
      have HQ := Lib.hid hq
      rw [hq] at hb1 m0
      obtain ⟨u, hu⟩ : ∃ u, usedM (gone left ms) = u := ⟨_, rfl⟩
      have HU := Lib.hid hu
      rw [hu] at hb1
      rw [hu]
      have HW : Hid (w1.ranges Try.prog 9 ptrR bm w.heap.size n D (fun z => left z && !z.sameKey (kS m.f.nm)) cnt1) := Lib.hid hrg1
      clear hs1 hx hst hv hq hu hF1 hrg1
      generalize m.g = mg at *
      go_wp2_with fail
      go_roundw
      case rel => exact ⟨_, cnt1, HW.out, by rw [HS.out, HU.out, HQ.out]; go_num, hF2⟩
      case measure => rw [HW.out.left_eq, hrg.left_eq]; exact hlt
end
end Go.Proofs.Ytfclgjdlkcmnfaa
namespace Go.Proofs.Ytfclgjdlkcmnfaa
open Go.RowKit Go.Maps
set_option linter.unusedVariables false
set_option maxRecDepth 100000

section
variable {w : World} {g bm : Nat} {ms : List Pf} {d : Dv}
theorem PDx.below {w' : World} (h : PDx w g bm ms d) (hb : Below w.heap.size w w') : PDx w' g bm ms d := h.frm (F := fun _ => False) (Frm.of_below hb) (fun _ _ e => e)
theorem free_pd (h : PDx w g bm ms d) (ok : Dv.Ok d) : Calls Try.prog 14 #[.pointer (some ⟨g, 0, none⟩)] w fun e w' => e = .returned (.int .i64 ((d.room : Int) - usedD d.fs)) ∧ Below w.heap.size w w' := by
  obtain ⟨L, c0, c1, c2, c3, c4, cf, _⟩ := h.cells
  have hu := ok.us
  have hr := ok.rm
  have hgl : g < w.heap.size := h.lt g (.inl rfl)
  have HU : Hid (∀ W, Below w.heap.size w W → Calls Try.prog 15 #[.pointer (some ⟨g, 0, none⟩)] W fun e w' => e = .returned (.int .i64 (usedD d.fs : Nat)) ∧ Below w.heap.size w w' ∧ w'.cell? ⟨g, 3, none⟩ = some (.int .i64 (d.room : Int))) := Lib.hid (fun W hW => (used_pd (h.below hW) (by omega)).mono fun e w' ⟨h1, h2⟩ => by
    have hb := hW.trans (h2.mono hW.size)
    exact ⟨h1, hb, (hb.cell hgl).trans c3⟩)
  clear h ok c0 c1 c2 c4 cf
  generalize usedD d.fs = u at *
  generalize d.room = r at *
  have f1 : IntKind.i64.wrap ((r : Int) - (u : Int)) = (r : Int) - (u : Int) := by rw [IntKind.wrap_i64]; omega
  go_enter Try.func14, Try.ntmps14
  go_wp2_with fail
  go_region_with (first
    | (go_at_call 15; refine (HU.out _ (below_drew (Below.refl _ _))).mono ?_; rintro e wp ⟨rfl, hb, c3'⟩))
  all_goals
    (try go_wp2)
    go_ret
    exact ⟨rfl, hb⟩
/-- What Read tells. -/
theorem read_pd (s : ByteArray) (h : PDx w g bm ms d) (ok : Dv.Ok d) : Calls Try.prog 13 #[.pointer (some ⟨g, 0, none⟩), .string s] w fun e w' => ∃ v, e = .returned (.tuple #[v, .int .i64 (readE d s)]) ∧ KOwn .u8 5 w' w.heap.size v (readL d s) ∧ Below w.heap.size w w' := by
  obtain ⟨L, c0, c1, c2, c3, c4, cf, _⟩ := h.cells
  have hl := h.map.lookup s
  cases hf : findD d.fs s with
  | none =>
    rw [h.look_no hf] at hl
    have HE : Hid (readE d s = 6) := Lib.hid (by unfold readE; rw [hf])
    have HL : Hid (readL d s = []) := Lib.hid (by unfold readL; rw [hf])
    rw [HE.out, HL.out]
    clear h hf ok
    go_enter Try.func13, Try.ntmps13
    go_wp2
    go_ret2
    exact ⟨_, rfl, KOwn.nil _ _ _ _, Below.refl _ _⟩
  | some k =>
    obtain ⟨hk, hk', hlk, he, _⟩ := h.look_yes hf
    rw [hlk] at hl
    have HE : Hid (readE d s = 0) := Lib.hid (by unfold readE; rw [hf])
    have HL : Hid (readL d s = ms[k].f.bs) := Lib.hid (by unfold readL; rw [hf]; simp [List.getElem?_eq_getElem hk', he])
    rw [HE.out, HL.out]
    have hfl := ok.fl _ (List.getElem_mem hk')
    have hus := used_mem (List.getElem_mem hk')
    have hu := ok.us
    have hr := ok.rm
    rw [he] at hfl hus
    have hm := h.is _ (List.getElem_mem hk)
    have hwf := hfl.wf
    generalize ms[k] = m at *
    obtain ⟨m0, m1, mf⟩ := hm.cells
    obtain ⟨A, c, hv, hrow, _, _⟩ := hm.own.row hwf
    rw [hv] at m0
    have HC : Hid (Calls Try.prog 33 #[.slice A m.f.bs.length c] w (MakesCl w m.f.bs)) := Lib.hid (clone_any A _ c _ w hrow rfl (by omega))
    generalize m.f.bs = bs at *
    generalize bs.length = n at *
    generalize m.g = q at *
    clear h hf ok he hlk hfl hus hu hr hm hrow hv hwf hk hk'
    go_enter Try.func13, Try.ntmps13
    go_wp2_with (go_at_call 33; refine HC.out.mono ?_; rintro e w' ⟨v, rfl, hk, hb⟩)
    go_ret2
    exact ⟨v, rfl, hk, hb⟩
end

/-- What a call makes of a file. -/
def PfTo (m : Pf) (f' : Fl) (w : World) (e : Ending) (w' : World) : Prop := e = .returned (.tuple #[]) ∧ ∃ v', PfIs w' ⟨m.g, v', f'⟩ ∧ Frm (fun b => b = m.g) w w' ∧ (v' = m.v ∨ ∀ b, v'.ownBlock = some b → w.heap.size ≤ b)
theorem PfIs.sets {w : World} {m : Pf} (h : PfIs w m) (y : Nat) : PfIs (w.setCell ⟨m.g, 1, none⟩ (.int .i64 (y : Int))) ⟨m.g, m.v, { m.f with sy := y }⟩ := by
  have hf := Frm.set (F := fun b => b = m.g) w m.g 1 (.int .i64 (y : Int)) rfl
  refine ⟨dv_box_set h.box 1 _, h.own.frm hf (fun b hb e => ?_)⟩
  obtain ⟨c, hc⟩ := h.own.at_block hb
  exact cells_ne hc h.box (by decide) e
theorem PfIs.setd {w w1 : World} {m : Pf} (h : PfIs w m) {v' : Value} {xs : List Int} (hb : Below w.heap.size w w1) (hv : KOwn .u8 5 w1 w.heap.size v' xs) : PfIs (w1.setCell ⟨m.g, 0, none⟩ v') ⟨m.g, v', { m.f with bs := xs }⟩ := by
  have hf := Frm.set (F := fun b => b = m.g) w1 m.g 0 v' rfl
  have h1 : w1.heap[m.g]? = _ := (hb.block m.g (block_lt h.box)).trans h.box
  refine ⟨dv_box_set h1 0 _, (hv.mono (Nat.zero_le _)).frm hf (fun b hb e => ?_)⟩
  have := (hv.block b hb).1
  have := block_lt h.box
  omega
theorem sync_pf (m : Pf) (w : World) (h : PfIs w m) : Calls Try.prog 61 #[.pointer (some ⟨m.g, 0, none⟩)] w (PfTo m { m.f with sy := m.f.bs.length } w) := by
  obtain ⟨m0, m1, mf⟩ := h.cells
  obtain ⟨A, c, hv, _, _⟩ := h.own.val
  have H := Lib.hid (h.sets m.f.bs.length)
  rw [hv] at m0
  have HG : Hid (∃ q, m.g = q) := Lib.hid ⟨_, rfl⟩
  have hfr : Frm (fun b => b = m.g) w _ := Frm.set (F := fun b => b = m.g) w m.g 1 (.int .i64 (m.f.bs.length : Int)) rfl
  have HF := Lib.hid hfr
  clear h hv hfr
  obtain ⟨n, hn⟩ : ∃ n, m.f.bs.length = n := ⟨_, rfl⟩
  rw [hn] at H m0 HF ⊢
  clear hn
  go_enter Try.func61, Try.ntmps61
  go_wp2
  go_end0
  exact ⟨rfl, m.v, H.out, HF.out, .inl rfl⟩
theorem KOwn.letters {k : IntKind} {e : TypeId} {w : World} {base : Nat} {v : Value} {xs : List Int} (h : KOwn k e w base v xs) : ∃ A n c, v = .slice A n c := by
  obtain ⟨A, c, rfl, _⟩ := h.val
  exact ⟨_, _, _, rfl⟩
theorem min_lit (y n : Nat) : ∃ q : Nat, (∀ (ts : Array TypeId) (t : TypeId) (W : World), (Builtin.min_ ts t #[.int .i64 (y : Int), .int .i64 (n : Int)]).run Try.prog W = .ok (.int .i64 (q : Int)) W) ∧ q = min y n := by
  refine ⟨min y n, fun ts t W => ?_, rfl⟩
  rw [run_min_int2]
  congr 2
  split <;> omega
theorem cut_pf (m : Pf) (n : Nat) (w : World) (h : PfIs w m) (hwf : ∀ x ∈ m.f.bs, (Lit.int .u8 x).wf = true) (hb : m.f.bs.length ≤ 1000000000) : Calls Try.prog 62 #[.pointer (some ⟨m.g, 0, none⟩), .int .i64 (n : Int)] w (PfTo m { m.f with bs := m.f.bs.take n, sy := min m.f.sy n } w) := by
  obtain ⟨m0, m1, mf⟩ := h.cells
  obtain ⟨A, c, hv, hrow, hle, hcm⟩ := h.own.row hwf
  by_cases hn : n < m.f.bs.length
  · obtain ⟨b, o, rfl, _⟩ := hrow.2 (by omega)
    have hlt : m.g < w.heap.size := block_lt h.box
    have hrow' : Row .u8 w w.heap.size (some ⟨b, o, none⟩) (m.f.bs.take n) := hrow.front n
    have HC : Hid (Calls Try.prog 33 #[.slice (some ⟨b, o, none⟩) n c] w (MakesCl w (m.f.bs.take n))) := Lib.hid (clone_any _ _ c _ w hrow' (by rw [List.length_take]; omega) (by omega))
    have H := Lib.hid h
    rw [hv] at m0
    have HM : Hid (∀ (w1 : World) (v' : Value), Below w.heap.size w w1 → KOwn .u8 5 w1 w.heap.size v' (m.f.bs.take n) → PfTo m { m.f with bs := m.f.bs.take n, sy := min m.f.sy n } w (.returned (.tuple #[])) ((w1.setCell ⟨m.g, 0, none⟩ v').setCell ⟨m.g, 1, none⟩ (.int .i64 ((min m.f.sy n : Nat) : Int)))) := Lib.hid (fun w1 v' hb1 hk1 => by
      refine ⟨rfl, v', (H.out.setd hb1 hk1).sets (min m.f.sy n), ?_, .inr (fun b hb => (hk1.block b hb).1)⟩
      exact ((Frm.of_below (F := fun b => b = m.g) hb1).trans (Frm.set (F := fun b => b = m.g) w1 m.g 0 v' rfl) (fun i hi => .inl hi)).trans (Frm.set (F := fun b => b = m.g) _ m.g 1 _ rfl) (fun i hi => .inl hi))
    have i1 : (n : Int) < (m.f.bs.length : Int) := by omega
    have i2 : (n : Int) ≤ (c : Int) := by omega
    have i3 : n ≤ c := by omega
    obtain ⟨q, hmin, hq⟩ := min_lit m.f.sy n
    rw [← hq] at HM
    obtain ⟨y, hy⟩ : ∃ y, m.f.sy = y := ⟨_, rfl⟩
    rw [hy] at hmin m1
    obtain ⟨N, hN⟩ : ∃ N, m.f.bs.length = N := ⟨_, rfl⟩
    rw [hN] at m0 i1
    rw [← hq]
    obtain ⟨gm, hg⟩ : ∃ gm, m.g = gm := ⟨_, rfl⟩
    have HG := Lib.hid hg
    rw [hg] at m0 m1 hlt ⊢
    rw [hg] at mf HM
    generalize (PfTo m _ w) = R at HM ⊢
    clear h hv hrow hrow' hb hwf hn hq hy hN hg hle hcm H
    generalize m.f.bs.take n = L at *
    go_enter Try.func62, Try.ntmps62
    go_wp2_with (go_at_call 33; refine HC.out.mono ?_; rintro e w1 ⟨v', rfl, hk1, hb1⟩; obtain ⟨A', n', c', rfl⟩ := hk1.letters; have HK1 := Lib.hid hk1; clear hk1; have m0' := (hb1.cell (p := ⟨gm, 0, none⟩) hlt).trans m0; have m1' := (hb1.cell (p := ⟨gm, 1, none⟩) hlt).trans m1; have mf' : ∀ j, w1.frozen? ⟨gm, j, none⟩ = false := fun j => (World.frozen?_of_block (hb1.block gm hlt)).trans (mf j))
    go_end0
    exact HM.out w1 _ hb1 HK1.out
  · have H := Lib.hid h
    rw [hv] at m0
    have e2 : m.f.bs.take n = m.f.bs := List.take_of_length_le (by omega)
    have hfr : Frm (fun b => b = m.g) w (w.setCell ⟨m.g, 1, none⟩ (.int .i64 ((min m.f.sy n : Nat) : Int))) := Frm.set (F := fun b => b = m.g) w m.g 1 _ rfl
    have HM : Hid (PfTo m { m.f with bs := m.f.bs.take n, sy := min m.f.sy n } w (.returned (.tuple #[])) (w.setCell ⟨m.g, 1, none⟩ (.int .i64 ((min m.f.sy n : Nat) : Int)))) := Lib.hid (by
      rw [e2]
      exact ⟨rfl, m.v, h.sets (min m.f.sy n), hfr, .inl rfl⟩)
    have i1 : ¬ (n : Int) < (m.f.bs.length : Int) := by omega
    obtain ⟨q, hmin, hq⟩ := min_lit m.f.sy n
    rw [← hq] at HM ⊢
    generalize (PfTo m _ w) = R at HM ⊢
    generalize m.f.sy = y at *
    generalize m.f.bs.length = N at *
    generalize m.g = gm at *
    clear h hv hrow hb hwf hn hq hle hcm H e2 hfr
    go_enter Try.func62, Try.ntmps62
    go_wp2
    go_end0
    exact HM.out
end Go.Proofs.Ytfclgjdlkcmnfaa
namespace Go.Proofs.Ytfclgjdlkcmnfaa
open Go.RowKit Go.Maps
set_option linter.unusedVariables false
set_option maxRecDepth 100000

section
variable {w : World} {g bm : Nat} {ms : List Pf} {d : Dv}
theorem PDx.power {w' : World} {d' : Dv} {L : Int} (h : PDx w g bm ms d) (hf : Frm (fun b => b = g) w w') (hb : w'.heap[g]? = some (.cells (dvC d' L bm) 40 (0, 0))) (hL : 0 ≤ d'.left → L = d'.left) (h1 : -9223372036854775808 ≤ L) (h2 : L < 9223372036854775808) (he : d'.fs = d.fs) : PDx w' g bm ms d' := by
  obtain ⟨h3, h4⟩ := h.g_ne
  exact ⟨⟨L, hb, hL, h1, h2⟩, h.map.same (hf.block bm h.map.lt (fun e => h3 e.symm)), fun m hm => (h.is m hm).frm hf (h4 m hm).1 (fun b hb => ((h4 m hm).2.2 b hb).1), h.fs.trans he.symm, h.apart⟩
theorem restore_pd (h : PDx w g bm ms d) : Calls Try.prog 63 #[.pointer (some ⟨g, 0, none⟩)] w fun e w' => e = .returned (.tuple #[]) ∧ PDx w' g bm ms { d with left := -1, off := false } ∧ Frm (fun b => b = g) w w' := by
  obtain ⟨L, c0, c1, c2, c3, c4, cf, _⟩ := h.cells
  have f1 := Frm.set (F := fun b => b = g) w g 0 (.bool false) rfl
  have f2 := Frm.set (F := fun b => b = g) (w.setCell ⟨g, 0, none⟩ (.bool false)) g 1 (.bool false) rfl
  have f3 := Frm.set (F := fun b => b = g) ((w.setCell ⟨g, 0, none⟩ (.bool false)).setCell ⟨g, 1, none⟩ (.bool false)) g 2 (.int .i64 0) rfl
  have F := Lib.hid ((f1.trans f2 (fun i hi => .inl hi)).trans f3 (fun i hi => .inl hi))
  have H : Hid (PDx (((w.setCell ⟨g, 0, none⟩ (.bool false)).setCell ⟨g, 1, none⟩ (.bool false)).setCell ⟨g, 2, none⟩ (.int .i64 0)) g bm ms { d with left := -1, off := false }) := Lib.hid (by
    obtain ⟨L', hb, _⟩ := h.box
    exact h.power (L := 0) F.out (dv_box_set (dv_box_set (dv_box_set hb 0 _) 1 _) 2 _) (fun e => absurd (show (0 : Int) ≤ -1 from e) (by decide)) (by omega) (by omega) rfl)
  clear h f1 f2 f3
  go_enter Try.func63, Try.ntmps63
  go_wp2
  go_end0
  exact ⟨rfl, H.out, F.out⟩
theorem arm_pd (n : Int) (h : PDx w g bm ms d) (hn : -9223372036854775808 ≤ n ∧ n < 9223372036854775808) : Calls Try.prog 23 #[.pointer (some ⟨g, 0, none⟩), .int .i64 n] w fun e w' => e = .returned (.tuple #[]) ∧ PDx w' g bm ms (armD d n) ∧ Frm (fun b => b = g) w w' := by
  obtain ⟨L, c0, c1, c2, c3, c4, cf, _⟩ := h.cells
  have f1 := Frm.set (F := fun b => b = g) w g 1 (.bool (decide (n ≥ 0))) rfl
  have f2 := Frm.set (F := fun b => b = g) (w.setCell ⟨g, 1, none⟩ (.bool (decide (n ≥ 0)))) g 2 (.int .i64 n) rfl
  have F := Lib.hid (f1.trans f2 (fun i hi => .inl hi))
  have H : Hid (PDx ((w.setCell ⟨g, 1, none⟩ (.bool (decide (n ≥ 0)))).setCell ⟨g, 2, none⟩ (.int .i64 n)) g bm ms (armD d n)) := Lib.hid (by
    obtain ⟨L', hb, _⟩ := h.box
    have hl : decide (0 ≤ (armD d n).left) = decide (n ≥ 0) := by
      show decide (0 ≤ if n < 0 then (-1 : Int) else n) = _
      split <;> simp <;> omega
    refine h.power (L := n) F.out ?_ (fun e => ?_) hn.1 hn.2 rfl
    · have := dv_box_set (dv_box_set hb 1 (.bool (decide (n ≥ 0)))) 2 (.int .i64 n)
      rw [this]
      unfold dvC
      rw [hl]
      rfl
    · have e2 : 0 ≤ if n < 0 then (-1 : Int) else n := e
      show n = if n < 0 then (-1 : Int) else n
      split at e2 <;> rename_i hh
      · omega
      · rw [if_neg hh])
  clear h f1 f2
  go_enter Try.func23, Try.ntmps23
  go_wp2
  go_end0
  exact ⟨rfl, H.out, F.out⟩
/-- What 'operate' makes, where the function leaves R. -/
def OperTo (g bm : Nat) (ms : List Pf) (d : Dv) (w : World) (R : World → Prop) (e : Ending) (w' : World) : Prop :=
  (d.left = 0 ∧ e = .returned (.int .i64 10) ∧ PDx w' g bm ms { d with off := true } ∧ Frm (fun b => b = g) w w') ∨ (d.left ≠ 0 ∧ e = .returned (.int .i64 0) ∧ R w')
theorem operate_sync (k0 : Nat) (R : World → Prop) (h : PDx w g bm ms d) (ok : Dv.Ok d)
    (HC : d.left ≠ 0 → ∀ W, PDx W g bm ms (spentD d) → Frm (fun b => b = g) w W → Calls Try.prog 61 #[.pointer (some ⟨k0, 0, none⟩)] W (fun e w' => e = .returned (.tuple #[]) ∧ R w')) :
    Calls Try.prog 57 #[.pointer (some ⟨g, 0, none⟩), .func (.func 61) #[.pointer (some ⟨k0, 0, none⟩)] #[]] w (OperTo g bm ms d w R) := by
  obtain ⟨L, hb, hL, hL1, hL2⟩ := h.box
  have c0 : w.cell? ⟨g, 0, none⟩ = some (.bool d.off) := cell_of_row w g 0 _ _ _ hb
  have c1 : w.cell? ⟨g, 1, none⟩ = some (.bool (decide (0 ≤ d.left))) := cell_of_row w g 1 _ _ _ hb
  have c2 : w.cell? ⟨g, 2, none⟩ = some (.int .i64 L) := cell_of_row w g 2 _ _ _ hb
  have cf : ∀ j, w.frozen? ⟨g, j, none⟩ = false := fun j => block_frozen w g j _ _ hb
  by_cases h0 : d.left = 0
  · have F := Lib.hid (Frm.set (F := fun b => b = g) w g 0 (.bool true) rfl)
    have H : Hid (PDx (w.setCell ⟨g, 0, none⟩ (.bool true)) g bm ms { d with off := true }) := Lib.hid (h.power (L := L) F.out (dv_box_set hb 0 _) hL hL1 hL2 rfl)
    have hz : L = 0 := by rw [hL (by omega)]; exact h0
    rw [hz] at c2
    rw [h0] at c1
    have HZ := Lib.hid h0
    clear h HC ok hb hL hL1 hL2 h0 hz
    go_enter Try.func57, Try.ntmps57
    go_wp2
    go_ret
    exact .inl ⟨HZ.out, rfl, H.out, F.out⟩
  by_cases h1 : 0 < d.left
  · have hz : L = d.left := hL (by omega)
    have F := Lib.hid (Frm.set (F := fun b => b = g) w g 2 (.int .i64 (L - 1)) rfl)
    have lo := ok.li
    have H : Hid (PDx (w.setCell ⟨g, 2, none⟩ (.int .i64 (L - 1))) g bm ms (spentD d)) := Lib.hid (by
      have e1 : spentD d = { d with left := d.left - 1 } := if_pos h1
      rw [e1]
      refine h.power (L := L - 1) F.out ?_ (fun _ => by show L - 1 = d.left - 1; omega) (by omega) (by omega) rfl
      have := dv_box_set hb 2 (.int .i64 (L - 1))
      rw [this]
      have e3 : decide (0 ≤ ({ d with left := d.left - 1 } : Dv).left) = decide (0 ≤ d.left) := decide_eq_decide.2 (by show 0 ≤ d.left - 1 ↔ _; omega)
      unfold dvC
      rw [e3]
      rfl)
    have HCC := Lib.hid (HC h0 _ H.out F.out)
    have e2 : (L == 0) = false := beq_false_of_ne (by omega)
    have e3 : IntKind.i64.wrap (L - 1) = L - 1 := by rw [IntKind.wrap_i64]; omega
    rw [decide_eq_true (show 0 ≤ d.left by omega)] at c1
    have HZ := Lib.hid h0
    clear h HC ok hb hL hL1 hL2 h0 hz h1 lo H F
    go_enter Try.func57, Try.ntmps57
    go_wp2_with (go_at_call 61; refine HCC.out.mono ?_; rintro e w' ⟨rfl, hR⟩)
    go_ret
    exact .inr ⟨HZ.out, rfl, hR⟩
  · have H : Hid (PDx w g bm ms (spentD d)) := Lib.hid (by
      have e1 : spentD d = d := if_neg h1
      rw [e1]; exact h)
    have HCC := Lib.hid (HC h0 _ H.out (Frm.refl _ _))
    have hn : ¬ 0 ≤ d.left := by omega
    rw [decide_eq_false hn] at c1
    have HZ := Lib.hid h0
    clear h HC ok hb hL hL1 hL2 h0 hn h1 H
    go_enter Try.func57, Try.ntmps57
    go_wp2_with (go_at_call 61; refine HCC.out.mono ?_; rintro e w' ⟨rfl, hR⟩)
    go_ret
    exact .inr ⟨HZ.out, rfl, hR⟩
theorem operate_append (k0 k1 k2 : Nat) (R : World → Prop) (h : PDx w g bm ms d) (ok : Dv.Ok d)
    (HC : d.left ≠ 0 → ∀ W, PDx W g bm ms (spentD d) → Frm (fun b => b = g) w W → Calls Try.prog 58 #[.pointer (some ⟨k0, 0, none⟩), .pointer (some ⟨k1, 0, none⟩), .pointer (some ⟨k2, 0, none⟩)] W (fun e w' => e = .returned (.tuple #[]) ∧ R w')) :
    Calls Try.prog 57 #[.pointer (some ⟨g, 0, none⟩), .func (.func 58) #[] #[.pointer (some ⟨k0, 0, none⟩), .pointer (some ⟨k1, 0, none⟩), .pointer (some ⟨k2, 0, none⟩)]] w (OperTo g bm ms d w R) := by
  obtain ⟨L, hb, hL, hL1, hL2⟩ := h.box
  have c0 : w.cell? ⟨g, 0, none⟩ = some (.bool d.off) := cell_of_row w g 0 _ _ _ hb
  have c1 : w.cell? ⟨g, 1, none⟩ = some (.bool (decide (0 ≤ d.left))) := cell_of_row w g 1 _ _ _ hb
  have c2 : w.cell? ⟨g, 2, none⟩ = some (.int .i64 L) := cell_of_row w g 2 _ _ _ hb
  have cf : ∀ j, w.frozen? ⟨g, j, none⟩ = false := fun j => block_frozen w g j _ _ hb
  by_cases h0 : d.left = 0
  · have F := Lib.hid (Frm.set (F := fun b => b = g) w g 0 (.bool true) rfl)
    have H : Hid (PDx (w.setCell ⟨g, 0, none⟩ (.bool true)) g bm ms { d with off := true }) := Lib.hid (h.power (L := L) F.out (dv_box_set hb 0 _) hL hL1 hL2 rfl)
    have hz : L = 0 := by rw [hL (by omega)]; exact h0
    rw [hz] at c2
    rw [h0] at c1
    have HZ := Lib.hid h0
    clear h HC ok hb hL hL1 hL2 h0 hz
    go_enter Try.func57, Try.ntmps57
    go_wp2
    go_ret
    exact .inl ⟨HZ.out, rfl, H.out, F.out⟩
  by_cases h1 : 0 < d.left
  · have hz : L = d.left := hL (by omega)
    have F := Lib.hid (Frm.set (F := fun b => b = g) w g 2 (.int .i64 (L - 1)) rfl)
    have lo := ok.li
    have H : Hid (PDx (w.setCell ⟨g, 2, none⟩ (.int .i64 (L - 1))) g bm ms (spentD d)) := Lib.hid (by
      have e1 : spentD d = { d with left := d.left - 1 } := if_pos h1
      rw [e1]
      refine h.power (L := L - 1) F.out ?_ (fun _ => by show L - 1 = d.left - 1; omega) (by omega) (by omega) rfl
      have := dv_box_set hb 2 (.int .i64 (L - 1))
      rw [this]
      have e3 : decide (0 ≤ ({ d with left := d.left - 1 } : Dv).left) = decide (0 ≤ d.left) := decide_eq_decide.2 (by show 0 ≤ d.left - 1 ↔ _; omega)
      unfold dvC
      rw [e3]
      rfl)
    have HCC := Lib.hid (HC h0 _ H.out F.out)
    have e2 : (L == 0) = false := beq_false_of_ne (by omega)
    have e3 : IntKind.i64.wrap (L - 1) = L - 1 := by rw [IntKind.wrap_i64]; omega
    rw [decide_eq_true (show 0 ≤ d.left by omega)] at c1
    have HZ := Lib.hid h0
    clear h HC ok hb hL hL1 hL2 h0 hz h1 lo H F
    go_enter Try.func57, Try.ntmps57
    go_wp2_with (go_at_call 58; refine HCC.out.mono ?_; rintro e w' ⟨rfl, hR⟩)
    go_ret
    exact .inr ⟨HZ.out, rfl, hR⟩
  · have H : Hid (PDx w g bm ms (spentD d)) := Lib.hid (by
      have e1 : spentD d = d := if_neg h1
      rw [e1]; exact h)
    have HCC := Lib.hid (HC h0 _ H.out (Frm.refl _ _))
    have hn : ¬ 0 ≤ d.left := by omega
    rw [decide_eq_false hn] at c1
    have HZ := Lib.hid h0
    clear h HC ok hb hL hL1 hL2 h0 hn h1 H
    go_enter Try.func57, Try.ntmps57
    go_wp2_with (go_at_call 58; refine HCC.out.mono ?_; rintro e w' ⟨rfl, hR⟩)
    go_ret
    exact .inr ⟨HZ.out, rfl, hR⟩
theorem operate_truncate (k0 k1 : Nat) (R : World → Prop) (h : PDx w g bm ms d) (ok : Dv.Ok d)
    (HC : d.left ≠ 0 → ∀ W, PDx W g bm ms (spentD d) → Frm (fun b => b = g) w W → Calls Try.prog 72 #[.pointer (some ⟨k0, 0, none⟩), .pointer (some ⟨k1, 0, none⟩)] W (fun e w' => e = .returned (.tuple #[]) ∧ R w')) :
    Calls Try.prog 57 #[.pointer (some ⟨g, 0, none⟩), .func (.func 72) #[] #[.pointer (some ⟨k0, 0, none⟩), .pointer (some ⟨k1, 0, none⟩)]] w (OperTo g bm ms d w R) := by
  obtain ⟨L, hb, hL, hL1, hL2⟩ := h.box
  have c0 : w.cell? ⟨g, 0, none⟩ = some (.bool d.off) := cell_of_row w g 0 _ _ _ hb
  have c1 : w.cell? ⟨g, 1, none⟩ = some (.bool (decide (0 ≤ d.left))) := cell_of_row w g 1 _ _ _ hb
  have c2 : w.cell? ⟨g, 2, none⟩ = some (.int .i64 L) := cell_of_row w g 2 _ _ _ hb
  have cf : ∀ j, w.frozen? ⟨g, j, none⟩ = false := fun j => block_frozen w g j _ _ hb
  by_cases h0 : d.left = 0
  · have F := Lib.hid (Frm.set (F := fun b => b = g) w g 0 (.bool true) rfl)
    have H : Hid (PDx (w.setCell ⟨g, 0, none⟩ (.bool true)) g bm ms { d with off := true }) := Lib.hid (h.power (L := L) F.out (dv_box_set hb 0 _) hL hL1 hL2 rfl)
    have hz : L = 0 := by rw [hL (by omega)]; exact h0
    rw [hz] at c2
    rw [h0] at c1
    have HZ := Lib.hid h0
    clear h HC ok hb hL hL1 hL2 h0 hz
    go_enter Try.func57, Try.ntmps57
    go_wp2
    go_ret
    exact .inl ⟨HZ.out, rfl, H.out, F.out⟩
  by_cases h1 : 0 < d.left
  · have hz : L = d.left := hL (by omega)
    have F := Lib.hid (Frm.set (F := fun b => b = g) w g 2 (.int .i64 (L - 1)) rfl)
    have lo := ok.li
    have H : Hid (PDx (w.setCell ⟨g, 2, none⟩ (.int .i64 (L - 1))) g bm ms (spentD d)) := Lib.hid (by
      have e1 : spentD d = { d with left := d.left - 1 } := if_pos h1
      rw [e1]
      refine h.power (L := L - 1) F.out ?_ (fun _ => by show L - 1 = d.left - 1; omega) (by omega) (by omega) rfl
      have := dv_box_set hb 2 (.int .i64 (L - 1))
      rw [this]
      have e3 : decide (0 ≤ ({ d with left := d.left - 1 } : Dv).left) = decide (0 ≤ d.left) := decide_eq_decide.2 (by show 0 ≤ d.left - 1 ↔ _; omega)
      unfold dvC
      rw [e3]
      rfl)
    have HCC := Lib.hid (HC h0 _ H.out F.out)
    have e2 : (L == 0) = false := beq_false_of_ne (by omega)
    have e3 : IntKind.i64.wrap (L - 1) = L - 1 := by rw [IntKind.wrap_i64]; omega
    rw [decide_eq_true (show 0 ≤ d.left by omega)] at c1
    have HZ := Lib.hid h0
    clear h HC ok hb hL hL1 hL2 h0 hz h1 lo H F
    go_enter Try.func57, Try.ntmps57
    go_wp2_with (go_at_call 72; refine HCC.out.mono ?_; rintro e w' ⟨rfl, hR⟩)
    go_ret
    exact .inr ⟨HZ.out, rfl, hR⟩
  · have H : Hid (PDx w g bm ms (spentD d)) := Lib.hid (by
      have e1 : spentD d = d := if_neg h1
      rw [e1]; exact h)
    have HCC := Lib.hid (HC h0 _ H.out (Frm.refl _ _))
    have hn : ¬ 0 ≤ d.left := by omega
    rw [decide_eq_false hn] at c1
    have HZ := Lib.hid h0
    clear h HC ok hb hL hL1 hL2 h0 hn h1 H
    go_enter Try.func57, Try.ntmps57
    go_wp2_with (go_at_call 72; refine HCC.out.mono ?_; rintro e w' ⟨rfl, hR⟩)
    go_ret
    exact .inr ⟨HZ.out, rfl, hR⟩
theorem operate_rename (k0 k1 k2 k3 : Nat) (R : World → Prop) (h : PDx w g bm ms d) (ok : Dv.Ok d)
    (HC : d.left ≠ 0 → ∀ W, PDx W g bm ms (spentD d) → Frm (fun b => b = g) w W → Calls Try.prog 64 #[.pointer (some ⟨k0, 0, none⟩), .pointer (some ⟨k1, 0, none⟩), .pointer (some ⟨k2, 0, none⟩), .pointer (some ⟨k3, 0, none⟩)] W (fun e w' => e = .returned (.tuple #[]) ∧ R w')) :
    Calls Try.prog 57 #[.pointer (some ⟨g, 0, none⟩), .func (.func 64) #[] #[.pointer (some ⟨k0, 0, none⟩), .pointer (some ⟨k1, 0, none⟩), .pointer (some ⟨k2, 0, none⟩), .pointer (some ⟨k3, 0, none⟩)]] w (OperTo g bm ms d w R) := by
  obtain ⟨L, hb, hL, hL1, hL2⟩ := h.box
  have c0 : w.cell? ⟨g, 0, none⟩ = some (.bool d.off) := cell_of_row w g 0 _ _ _ hb
  have c1 : w.cell? ⟨g, 1, none⟩ = some (.bool (decide (0 ≤ d.left))) := cell_of_row w g 1 _ _ _ hb
  have c2 : w.cell? ⟨g, 2, none⟩ = some (.int .i64 L) := cell_of_row w g 2 _ _ _ hb
  have cf : ∀ j, w.frozen? ⟨g, j, none⟩ = false := fun j => block_frozen w g j _ _ hb
  by_cases h0 : d.left = 0
  · have F := Lib.hid (Frm.set (F := fun b => b = g) w g 0 (.bool true) rfl)
    have H : Hid (PDx (w.setCell ⟨g, 0, none⟩ (.bool true)) g bm ms { d with off := true }) := Lib.hid (h.power (L := L) F.out (dv_box_set hb 0 _) hL hL1 hL2 rfl)
    have hz : L = 0 := by rw [hL (by omega)]; exact h0
    rw [hz] at c2
    rw [h0] at c1
    have HZ := Lib.hid h0
    clear h HC ok hb hL hL1 hL2 h0 hz
    go_enter Try.func57, Try.ntmps57
    go_wp2
    go_ret
    exact .inl ⟨HZ.out, rfl, H.out, F.out⟩
  by_cases h1 : 0 < d.left
  · have hz : L = d.left := hL (by omega)
    have F := Lib.hid (Frm.set (F := fun b => b = g) w g 2 (.int .i64 (L - 1)) rfl)
    have lo := ok.li
    have H : Hid (PDx (w.setCell ⟨g, 2, none⟩ (.int .i64 (L - 1))) g bm ms (spentD d)) := Lib.hid (by
      have e1 : spentD d = { d with left := d.left - 1 } := if_pos h1
      rw [e1]
      refine h.power (L := L - 1) F.out ?_ (fun _ => by show L - 1 = d.left - 1; omega) (by omega) (by omega) rfl
      have := dv_box_set hb 2 (.int .i64 (L - 1))
      rw [this]
      have e3 : decide (0 ≤ ({ d with left := d.left - 1 } : Dv).left) = decide (0 ≤ d.left) := decide_eq_decide.2 (by show 0 ≤ d.left - 1 ↔ _; omega)
      unfold dvC
      rw [e3]
      rfl)
    have HCC := Lib.hid (HC h0 _ H.out F.out)
    have e2 : (L == 0) = false := beq_false_of_ne (by omega)
    have e3 : IntKind.i64.wrap (L - 1) = L - 1 := by rw [IntKind.wrap_i64]; omega
    rw [decide_eq_true (show 0 ≤ d.left by omega)] at c1
    have HZ := Lib.hid h0
    clear h HC ok hb hL hL1 hL2 h0 hz h1 lo H F
    go_enter Try.func57, Try.ntmps57
    go_wp2_with (go_at_call 64; refine HCC.out.mono ?_; rintro e w' ⟨rfl, hR⟩)
    go_ret
    exact .inr ⟨HZ.out, rfl, hR⟩
  · have H : Hid (PDx w g bm ms (spentD d)) := Lib.hid (by
      have e1 : spentD d = d := if_neg h1
      rw [e1]; exact h)
    have HCC := Lib.hid (HC h0 _ H.out (Frm.refl _ _))
    have hn : ¬ 0 ≤ d.left := by omega
    rw [decide_eq_false hn] at c1
    have HZ := Lib.hid h0
    clear h HC ok hb hL hL1 hL2 h0 hn h1 H
    go_enter Try.func57, Try.ntmps57
    go_wp2_with (go_at_call 64; refine HCC.out.mono ?_; rintro e w' ⟨rfl, hR⟩)
    go_ret
    exact .inr ⟨HZ.out, rfl, hR⟩
theorem operate_remove (k0 k1 : Nat) (R : World → Prop) (h : PDx w g bm ms d) (ok : Dv.Ok d)
    (HC : d.left ≠ 0 → ∀ W, PDx W g bm ms (spentD d) → Frm (fun b => b = g) w W → Calls Try.prog 74 #[.pointer (some ⟨k0, 0, none⟩), .pointer (some ⟨k1, 0, none⟩)] W (fun e w' => e = .returned (.tuple #[]) ∧ R w')) :
    Calls Try.prog 57 #[.pointer (some ⟨g, 0, none⟩), .func (.func 74) #[] #[.pointer (some ⟨k0, 0, none⟩), .pointer (some ⟨k1, 0, none⟩)]] w (OperTo g bm ms d w R) := by
  obtain ⟨L, hb, hL, hL1, hL2⟩ := h.box
  have c0 : w.cell? ⟨g, 0, none⟩ = some (.bool d.off) := cell_of_row w g 0 _ _ _ hb
  have c1 : w.cell? ⟨g, 1, none⟩ = some (.bool (decide (0 ≤ d.left))) := cell_of_row w g 1 _ _ _ hb
  have c2 : w.cell? ⟨g, 2, none⟩ = some (.int .i64 L) := cell_of_row w g 2 _ _ _ hb
  have cf : ∀ j, w.frozen? ⟨g, j, none⟩ = false := fun j => block_frozen w g j _ _ hb
  by_cases h0 : d.left = 0
  · have F := Lib.hid (Frm.set (F := fun b => b = g) w g 0 (.bool true) rfl)
    have H : Hid (PDx (w.setCell ⟨g, 0, none⟩ (.bool true)) g bm ms { d with off := true }) := Lib.hid (h.power (L := L) F.out (dv_box_set hb 0 _) hL hL1 hL2 rfl)
    have hz : L = 0 := by rw [hL (by omega)]; exact h0
    rw [hz] at c2
    rw [h0] at c1
    have HZ := Lib.hid h0
    clear h HC ok hb hL hL1 hL2 h0 hz
    go_enter Try.func57, Try.ntmps57
    go_wp2
    go_ret
    exact .inl ⟨HZ.out, rfl, H.out, F.out⟩
  by_cases h1 : 0 < d.left
  · have hz : L = d.left := hL (by omega)
    have F := Lib.hid (Frm.set (F := fun b => b = g) w g 2 (.int .i64 (L - 1)) rfl)
    have lo := ok.li
    have H : Hid (PDx (w.setCell ⟨g, 2, none⟩ (.int .i64 (L - 1))) g bm ms (spentD d)) := Lib.hid (by
      have e1 : spentD d = { d with left := d.left - 1 } := if_pos h1
      rw [e1]
      refine h.power (L := L - 1) F.out ?_ (fun _ => by show L - 1 = d.left - 1; omega) (by omega) (by omega) rfl
      have := dv_box_set hb 2 (.int .i64 (L - 1))
      rw [this]
      have e3 : decide (0 ≤ ({ d with left := d.left - 1 } : Dv).left) = decide (0 ≤ d.left) := decide_eq_decide.2 (by show 0 ≤ d.left - 1 ↔ _; omega)
      unfold dvC
      rw [e3]
      rfl)
    have HCC := Lib.hid (HC h0 _ H.out F.out)
    have e2 : (L == 0) = false := beq_false_of_ne (by omega)
    have e3 : IntKind.i64.wrap (L - 1) = L - 1 := by rw [IntKind.wrap_i64]; omega
    rw [decide_eq_true (show 0 ≤ d.left by omega)] at c1
    have HZ := Lib.hid h0
    clear h HC ok hb hL hL1 hL2 h0 hz h1 lo H F
    go_enter Try.func57, Try.ntmps57
    go_wp2_with (go_at_call 74; refine HCC.out.mono ?_; rintro e w' ⟨rfl, hR⟩)
    go_ret
    exact .inr ⟨HZ.out, rfl, hR⟩
  · have H : Hid (PDx w g bm ms (spentD d)) := Lib.hid (by
      have e1 : spentD d = d := if_neg h1
      rw [e1]; exact h)
    have HCC := Lib.hid (HC h0 _ H.out (Frm.refl _ _))
    have hn : ¬ 0 ≤ d.left := by omega
    rw [decide_eq_false hn] at c1
    have HZ := Lib.hid h0
    clear h HC ok hb hL hL1 hL2 h0 hn h1 H
    go_enter Try.func57, Try.ntmps57
    go_wp2_with (go_at_call 74; refine HCC.out.mono ?_; rintro e w' ⟨rfl, hR⟩)
    go_ret
    exact .inr ⟨HZ.out, rfl, hR⟩
end
end Go.Proofs.Ytfclgjdlkcmnfaa
namespace Go.Proofs.Ytfclgjdlkcmnfaa
open Go.RowKit Go.Maps
set_option linter.unusedVariables false
set_option maxRecDepth 100000

section
variable {w w' : World} {g bm : Nat} {ms : List Pf} {d : Dv}
theorem PDx.len (h : PDx w g bm ms d) : ms.length = d.fs.length := by rw [← h.fs, List.length_map]
/-- What a call leaves. -/
def PRes (g bm : Nat) (ms : List Pf) (d' : Dv) (w w' : World) : Prop := ∃ ms', PDx w' g bm ms' d' ∧ Frm (PG g bm ms) w w' ∧ ∀ b, PG g bm ms' b → PG g bm ms b ∨ w.heap.size ≤ b
theorem PRes.stp {G : Nat → Prop} {d' : Dv} (hg : ∀ b, PG g bm ms b ↔ G b) (h : PRes g bm ms d' w w') (v : Value) : Stp PDe G g d' v w (.returned v) w' := by
  obtain ⟨ms', h1, h2, h3⟩ := h
  exact ⟨rfl, PG g bm ms', ⟨bm, ms', h1, fun _ => Iff.rfl⟩, h2.mono (fun b hb => (hg b).1 hb), fun b hb => (h3 b hb).imp (hg b).1 id⟩
theorem PRes.same (h : PDx w g bm ms d) : PRes g bm ms d w w := ⟨ms, h, Frm.refl _ _, fun b hb => .inl hb⟩
theorem PRes.from_ {W : World} {d' : Dv} (hf : Frm (fun b => b = g) w W) (h : PRes g bm ms d' W w') : PRes g bm ms d' w w' := by
  obtain ⟨ms', h1, h2, h3⟩ := h
  exact ⟨ms', h1, (hf.mono (fun b e => .inl e)).trans h2 (fun i hi => .inl hi), fun b hb => (h3 b hb).imp id (fun e => Nat.le_trans hf.size e)⟩
theorem OperTo.res {d' : Dv} {e : Ending} (h : OperTo g bm ms d w (fun w' => PRes g bm ms d' w w') e w') : e = .returned (.int .i64 (opD d d').2) ∧ PRes g bm ms (opD d d').1 w w' := by
  unfold opD
  rcases h with ⟨h0, rfl, hx, hf⟩ | ⟨h0, rfl, hr⟩
  · rw [if_pos h0]
    exact ⟨rfl, ms, hx, hf.mono (fun b e => .inl e), fun b hb => .inl hb⟩
  · rw [if_neg h0]
    exact ⟨rfl, hr⟩
/-- One file is another one. -/
theorem PDx.setFile (h : PDx w g bm ms d) {k : Nat} (hk : k < ms.length) {m' : Pf} (hg : m'.g = ms[k].g) (hn : m'.f.nm = ms[k].f.nm) (hf : Frm (fun b => b = ms[k].g ∨ ms[k].v.ownBlock = some b) w w') (hm : PfIs w' m')
    (vb : ∀ b, m'.v.ownBlock = some b → ms[k].v.ownBlock = some b ∨ w.heap.size ≤ b) : PDx w' g bm (ms.set k m') { d with fs := d.fs.set k m'.f } ∧ ∀ b, PG g bm (ms.set k m') b → PG g bm ms b ∨ w.heap.size ≤ b := by
  obtain ⟨h3, h4⟩ := h.g_ne
  have hmk := List.getElem_mem hk
  obtain ⟨k1, k2, k3⟩ := h4 _ hmk
  have hap := List.pairwise_iff_getElem.1 h.apart
  have other : ∀ i (hi : i < ms.length), i ≠ k → PfA ms[i] ms[k] := fun i hi hne => by
    rcases Nat.lt_or_gt_of_ne hne with e | e
    · exact hap i k hi hk e
    · exact (hap k i hk hi e).symm
  have hfar : ∀ m ∈ ms, ∀ b, m.v.ownBlock = some b → b < w.heap.size := fun m hm b hb => h.lt b (.inr (.inr ⟨m, hm, .inr hb⟩))
  have far : ∀ i (hi : i < ms.length), i ≠ k → PfA ms[i] m' := fun i hi hne => by
    have := other i hi hne
    refine ⟨by rw [hg]; exact this.1, fun b hb hb' => ?_⟩
    rcases vb b hb' with e | e
    · exact this.2 b hb e
    · have := hfar _ (List.getElem_mem hi) b hb
      omega
  constructor
  · obtain ⟨L, hb, r⟩ := h.box
    refine ⟨⟨L, (hf.block g (block_lt hb) (fun e => e.elim (fun e => k1 e.symm) (fun e => (k3 g e).1 rfl))).trans hb, r⟩, ?_, ?_, ?_, ?_⟩
    · have e : (ms.set k m').map pfN = ms.map pfN := by
        rw [List.map_set]
        have : pfN m' = (ms.map pfN)[k]'(by rw [List.length_map]; exact hk) := by simp [pfN, hg, hn]
        rw [this, List.set_getElem_self]
      rw [e]
      exact h.map.same (hf.block bm h.map.lt (fun e => e.elim (fun e => k2 e.symm) (fun e => (k3 bm e).2.1 rfl)))
    · intro m hm'
      obtain ⟨i, hi, rfl⟩ := List.mem_iff_getElem.1 hm'
      rw [List.length_set] at hi
      rw [List.getElem_set]
      split
      · exact hm
      · rename_i hne
        have ho := other i hi (fun e => hne e.symm)
        exact (h.is _ (List.getElem_mem hi)).frm hf (fun e => e.elim (fun e => ho.1 e) (fun e => (k3 _ e).2.2 _ (List.getElem_mem hi) rfl)) (fun b hb e => e.elim (fun e => ((h4 _ (List.getElem_mem hi)).2.2 b hb).2.2 _ hmk e.symm) (fun e => ho.2 b hb e))
    · rw [List.map_set, h.fs]
    · rw [List.pairwise_iff_getElem]
      intro i j hi hj hij
      rw [List.length_set] at hi hj
      rw [List.getElem_set, List.getElem_set]
      split <;> split
      · omega
      · rename_i e1 e2; exact (far j hj (fun e => e2 e.symm)).symm
      · rename_i e1 e2; exact far i hi (fun e => e1 e.symm)
      · exact hap i j hi hj hij
  · intro b hb
    rcases hb with e | e | ⟨m, hm', e⟩
    · exact .inl (.inl e)
    · exact .inl (.inr (.inl e))
    · rcases List.mem_or_eq_of_mem_set hm' with hm2 | rfl
      · exact .inl (.inr (.inr ⟨m, hm2, e⟩))
      · rcases e with e | e
        · exact .inl (.inr (.inr ⟨_, hmk, .inl (by rw [e, hg])⟩))
        · exact (vb b e).imp (fun e => .inr (.inr ⟨_, hmk, .inr e⟩)) id
theorem modify_setP (l : List Fl) (k : Nat) (hk : k < l.length) (F : Fl → Fl) : l.modify k F = l.set k (F l[k]) := by
  apply List.ext_getElem
  · simp
  · intro i h1 h2
    rw [List.getElem_modify, List.getElem_set]
    split
    · rename_i e; subst e; rfl
    · rfl
theorem PfTo.res (h : PDx w g bm ms d) {k : Nat} (hk : k < ms.length) (F : Fl → Fl) (hF : ∀ f, (F f).nm = f.nm) {e : Ending} (hp : PfTo ms[k] (F ms[k].f) w e w') :
    e = .returned (.tuple #[]) ∧ PRes g bm ms { d with fs := d.fs.modify k F } w w' := by
  obtain ⟨rfl, v', h1, h2, h3⟩ := hp
  have hk' : k < d.fs.length := by rw [← h.len]; exact hk
  have he : d.fs[k] = ms[k].f := by simp only [← h.fs, List.getElem_map]
  obtain ⟨a, b⟩ := h.setFile hk (m' := ⟨ms[k].g, v', F ms[k].f⟩) rfl (hF _) (h2.mono (fun b e => .inl e)) h1 (fun b hb => h3.elim (fun e => .inl (by rw [← e]; exact hb)) (fun e => .inr (e b hb)))
  rw [modify_setP _ _ hk', he]
  exact ⟨rfl, _, a, h2.mono (fun b e => .inr (.inr ⟨_, List.getElem_mem hk, .inl e⟩)), b⟩

/-- 'find', case by case. -/
theorem find_off (s : ByteArray) (h : PDx w g bm ms d) (ho : d.off = true) : Calls Try.prog 60 #[.pointer (some ⟨g, 0, none⟩), .string s] w fun e w' => e = .returned (.tuple #[.pointer none, .int .i64 10]) ∧ w' = w :=
  (find_pd s h).mono fun e w' ⟨h1, h2⟩ => by
    rcases h2 with ⟨_, h3⟩ | ⟨h3, _⟩ | ⟨h3, _⟩
    · exact ⟨h3, h1⟩
    · rw [ho] at h3; cases h3
    · rw [ho] at h3; cases h3
theorem find_no (s : ByteArray) (h : PDx w g bm ms d) (ho : d.off = false) (hf : findD d.fs s = none) : Calls Try.prog 60 #[.pointer (some ⟨g, 0, none⟩), .string s] w fun e w' => e = .returned (.tuple #[.pointer none, .int .i64 6]) ∧ w' = w :=
  (find_pd s h).mono fun e w' ⟨h1, h2⟩ => by
    rcases h2 with ⟨h3, _⟩ | ⟨_, _, h3⟩ | ⟨_, k, hk, h3, _⟩
    · rw [ho] at h3; cases h3
    · exact ⟨h3, h1⟩
    · rw [hf] at h3; cases h3
theorem find_at (s : ByteArray) (h : PDx w g bm ms d) (ho : d.off = false) {k : Nat} (hf : findD d.fs s = some k) (hk : k < ms.length) : Calls Try.prog 60 #[.pointer (some ⟨g, 0, none⟩), .string s] w fun e w' => e = .returned (.tuple #[.pointer (some ⟨ms[k].g, 0, none⟩), .int .i64 0]) ∧ w' = w :=
  (find_pd s h).mono fun e w' ⟨h1, h2⟩ => by
    rcases h2 with ⟨h3, _⟩ | ⟨_, h3, _⟩ | ⟨_, k', hk', h3, h4⟩
    · rw [ho] at h3; cases h3
    · rw [hf] at h3; cases h3
    · rw [hf] at h3
      injection h3 with h3
      subst h3
      exact ⟨h4, h1⟩
theorem spentD_fs (d : Dv) : (spentD d).fs = d.fs := by unfold spentD; split <;> rfl
theorem spentD_with (d : Dv) (l : List Fl) : { spentD d with fs := l } = { spentD d with fs := l } := rfl

theorem sync_pd (s : ByteArray) (h : PDx w g bm ms d) (ok : Dv.Ok d) : Calls Try.prog 26 #[.pointer (some ⟨g, 0, none⟩), .string s] w fun e w' => e = .returned (.int .i64 (syncD d s).2) ∧ PRes g bm ms (syncD d s).1 w w' := by
  cases ho : d.off with
  | true =>
    have hs : syncD d s = (d, 10) := by unfold syncD; rw [if_pos ho]
    have HF := Lib.hid (find_off s h ho)
    have HP := Lib.hid (PRes.same h)
    rw [hs]
    clear h ok ho hs
    go_enter Try.func26, Try.ntmps26
    go_wp2_with (go_at_call 60; refine HF.out.mono ?_; rintro e w' ⟨rfl, rfl⟩)
    go_ret
    exact ⟨rfl, HP.out⟩
  | false =>
    cases hf : findD d.fs s with
    | none =>
      have hs : syncD d s = (d, 6) := by unfold syncD; rw [if_neg (by rw [ho]; simp), hf]
      have HF := Lib.hid (find_no s h ho hf)
      have HP := Lib.hid (PRes.same h)
      rw [hs]
      clear h ok ho hf hs
      go_enter Try.func26, Try.ntmps26
      go_wp2_with (go_at_call 60; refine HF.out.mono ?_; rintro e w' ⟨rfl, rfl⟩)
      go_ret
      exact ⟨rfl, HP.out⟩
    | some k =>
      obtain ⟨hk, _⟩ := h.look_yes hf
      have hs : syncD d s = opD d { spentD d with fs := d.fs.modify k (fun f => { f with sy := f.bs.length }) } := by unfold syncD; rw [if_neg (by rw [ho]; simp), hf]
      have HF := Lib.hid (find_at s h ho hf hk)
      have HO := Lib.hid (operate_sync ms[k].g (fun w' => PRes g bm ms { spentD d with fs := d.fs.modify k (fun f => { f with sy := f.bs.length }) } w w') h ok (fun _ W hW hF => (sync_pf ms[k] W (hW.is _ (List.getElem_mem hk))).mono fun e w' hp => by
        obtain ⟨h1, h2⟩ := PfTo.res hW hk (fun f => { f with sy := f.bs.length }) (fun _ => rfl) hp
        rw [spentD_fs] at h2
        exact ⟨h1, h2.from_ hF⟩))
      rw [hs]
      have HR : Hid (∀ e w', OperTo g bm ms d w (fun w' => PRes g bm ms { spentD d with fs := d.fs.modify k (fun f => { f with sy := f.bs.length }) } w w') e w' → e = .returned (.int .i64 (opD d { spentD d with fs := d.fs.modify k (fun f => { f with sy := f.bs.length }) }).2) ∧ PRes g bm ms (opD d { spentD d with fs := d.fs.modify k (fun f => { f with sy := f.bs.length }) }).1 w w') := Lib.hid (fun e w' h => h.res)
      generalize (opD d { spentD d with fs := d.fs.modify k (fun f => { f with sy := f.bs.length }) }).1 = d1 at HR ⊢
      generalize (opD d { spentD d with fs := d.fs.modify k (fun f => { f with sy := f.bs.length }) }).2 = E at HR ⊢
      generalize ms[k].g = q at *
      generalize (OperTo g bm ms d w _) = T at HO HR
      clear h ok ho hf hs
      go_enter Try.func26, Try.ntmps26
      go_wp2_with (first
        | (go_at_call 60; refine HF.out.mono ?_; rintro e w' ⟨rfl, rfl⟩)
        | (go_at_call 57; refine HO.out.mono ?_; intro e w2 ht; obtain ⟨rfl, hr⟩ := HR.out _ _ ht))
      go_ret
      exact ⟨rfl, hr⟩
end
end Go.Proofs.Ytfclgjdlkcmnfaa
namespace Go.Proofs.Ytfclgjdlkcmnfaa
open Go.RowKit Go.Maps
set_option linter.unusedVariables false
set_option maxRecDepth 100000

section
variable {w w' : World} {g bm : Nat} {ms : List Pf} {d : Dv}
theorem PRes.from_below {W : World} {d' : Dv} (hf : Below w.heap.size w W) (h : PRes g bm ms d' W w') : PRes g bm ms d' w w' := by
  obtain ⟨ms', h1, h2, h3⟩ := h
  exact ⟨ms', h1, (Frm.of_below hf).trans h2 (fun i hi => .inl hi), fun b hb => (h3 b hb).imp id (fun e => Nat.le_trans hf.size e)⟩
theorem Frm.cellP {F : Nat → Prop} {w w' : World} (h : Frm F w w') {b o : Nat} (hb : b < w.heap.size) (hn : ¬ F b) : w'.cell? ⟨b, o, none⟩ = w.cell? ⟨b, o, none⟩ := World.cell?_of_block (h.block b hb hn)
/-- A box of one cell. -/
theorem box_one (w : World) (v : Value) (t : TypeId) : Below w.heap.size w (w.alloc (.cells #[v] t)) ∧ (w.alloc (.cells #[v] t)).cell? ⟨w.heap.size, 0, none⟩ = some v ∧ (w.alloc (.cells #[v] t)).heap.size = w.heap.size + 1 :=
  ⟨bel_alloc w _, cell_of_row _ w.heap.size 0 _ _ _ (heap_alloc_new w (.cells #[v] t)), by simp⟩

theorem truncate1_pd (kf kn q n : Nat) (w : World) (R : World → Prop) (c0 : w.cell? ⟨kf, 0, none⟩ = some (.pointer (some ⟨q, 0, none⟩))) (c1 : w.cell? ⟨kn, 0, none⟩ = some (.int .i64 (n : Int)))
    (HC : Calls Try.prog 62 #[.pointer (some ⟨q, 0, none⟩), .int .i64 (n : Int)] w (fun e w' => e = .returned (.tuple #[]) ∧ R w')) :
    Calls Try.prog 72 #[.pointer (some ⟨kf, 0, none⟩), .pointer (some ⟨kn, 0, none⟩)] w (fun e w' => e = .returned (.tuple #[]) ∧ R w') := by
  have HH := Lib.hid HC
  clear HC
  go_enter Try.func72, Try.ntmps72
  go_wp2_with (go_at_call 62; refine HH.out.mono ?_; rintro e w' ⟨rfl, hr⟩)
  go_end0
  exact ⟨rfl, hr⟩

set_option maxHeartbeats 1000000 in
theorem truncate_pd (s : ByteArray) (n : Int) (h : PDx w g bm ms d) (ok : Dv.Ok d) : Calls Try.prog 41 #[.pointer (some ⟨g, 0, none⟩), .string s, .int .i64 n] w fun e w' => e = .returned (.int .i64 (truncD d s n).2) ∧ PRes g bm ms (truncD d s n).1 w w' := by
  obtain ⟨b1, e1, z1⟩ := box_one w (.int .i64 n) 3
  generalize hw1 : w.alloc (.cells #[.int .i64 n] 3) = w1 at *
  have HP : Hid (∀ W, Below w.heap.size w W → PRes g bm ms d w W) := Lib.hid (fun W hW => (PRes.same (h.below hW)).from_below hW)
  have Z1 := Lib.hid z1
  cases ho : d.off with
  | true =>
    have hs : truncD d s n = (d, 10) := by unfold truncD; rw [if_pos ho]
    have HF := Lib.hid (find_off s (h.below b1) ho)
    rw [hs]
    have B2 := Lib.hid (b1.trans ((box_one w1 (.pointer none) 66).1.mono b1.size))
    clear h ok ho hs z1
    go_enter Try.func41, Try.ntmps41
    go_wp2_with (go_at_call 60; refine HF.out.mono ?_; rintro e w' ⟨rfl, rfl⟩)
    go_ret
    exact ⟨rfl, HP.out _ B2.out⟩
  | false =>
    cases hf : findD d.fs s with
    | none =>
      have hs : truncD d s n = (d, 6) := by unfold truncD; rw [if_neg (by rw [ho]; simp), hf]
      have HF := Lib.hid (find_no s (h.below b1) ho hf)
      rw [hs]
      have B2 := Lib.hid (b1.trans ((box_one w1 (.pointer none) 66).1.mono b1.size))
      clear h ok ho hf hs z1
      go_enter Try.func41, Try.ntmps41
      go_wp2_with (go_at_call 60; refine HF.out.mono ?_; rintro e w' ⟨rfl, rfl⟩)
      go_ret
      exact ⟨rfl, HP.out _ B2.out⟩
    | some k =>
      obtain ⟨hk, hk', hlk, hfe, hnm⟩ := h.look_yes hf
      have HF := Lib.hid (find_at s (h.below b1) ho hf hk)
      obtain ⟨b2, e2, z2⟩ := box_one w1 (.pointer (some ⟨ms[k].g, 0, none⟩)) 66
      have e3 : (w1.alloc (.cells #[.pointer (some ⟨ms[k].g, 0, none⟩)] 66)).cell? ⟨w.heap.size, 0, none⟩ = some (.int .i64 n) := (b2.cell (p := ⟨w.heap.size, 0, none⟩) (by show w.heap.size < _; omega)).trans e1
      have b3 := b1.trans (b2.mono b1.size)
      have HP2 := Lib.hid (HP.out _ (below_drew b3))
      have hx := h.below b3
      generalize hw2 : w1.alloc (.cells #[.pointer (some ⟨ms[k].g, 0, none⟩)] 66) = w2 at *
      have hmk := List.getElem_mem hk
      have hbk : (d.fs[k]?).map (fun f => (f.bs.length : Int)) = some (ms[k].f.bs.length : Int) := by rw [List.getElem?_eq_getElem hk', hfe]; rfl
      obtain ⟨m0, m1, mf⟩ := (hx.is _ hmk).cells
      obtain ⟨A, c, hv, hvl, hvc⟩ := (hx.is _ hmk).own.val
      rw [hv] at m0
      have hus := used_mem (List.getElem_mem hk')
      rw [hfe] at hus
      have hu := ok.us
      have hr := ok.rm
      have hwf := (ok.fl _ (List.getElem_mem hk')).wf
      rw [hfe] at hwf
      by_cases hn0 : n < 0
      · have hs : truncD d s n = (d, 3) := by unfold truncD; rw [if_neg (by rw [ho]; simp), hf]; simp only; rw [if_pos (.inl hn0)]
        rw [hs]
        generalize ms[k].g = q at *
        clear h ok ho hf hs hlk hnm hvl hvc z1 z2 b1 b2 b3 hx hmk hbk hv hus hu hr hwf hfe hk hk' HP m0 m1 mf
        go_enter Try.func41, Try.ntmps41
        go_wp2_with (go_at_call 60; refine HF.out.mono ?_; rintro e w' ⟨rfl, rfl⟩)
        go_region
        go_wp2
        go_ret
        exact ⟨rfl, HP2.out⟩
      have hnd : decide (n < 0) = false := decide_eq_false hn0
      by_cases hn1 : (ms[k].f.bs.length : Int) < n
      · have hs : truncD d s n = (d, 3) := by unfold truncD; rw [if_neg (by rw [ho]; simp), hf]; simp only; rw [hbk, if_pos (.inr hn1)]
        rw [hs]
        have hn2 : n > (ms[k].f.bs.length : Int) := hn1
        generalize ms[k].g = q at *
        generalize ms[k].f.bs.length = N at *
        clear h ok ho hf hs hlk hnm hvl hvc z1 z2 b1 b2 b3 hx hmk hbk hv hus hu hr hwf hfe hk hk' HP m1 mf
        go_enter Try.func41, Try.ntmps41
        go_wp2_with (go_at_call 60; refine HF.out.mono ?_; rintro e w' ⟨rfl, rfl⟩)
        go_region
        go_wp2
        go_ret
        exact ⟨rfl, HP2.out⟩
      obtain ⟨y, rfl⟩ := Int.eq_ofNat_of_zero_le (show 0 ≤ n by omega)
      obtain ⟨F, hF⟩ : ∃ F : Fl → Fl, F = (fun f => { f with bs := f.bs.take y, sy := min f.sy y }) := ⟨_, rfl⟩
      have hs : truncD d s (y : Int) = opD d { spentD d with fs := d.fs.modify k F } := by
        unfold truncD; rw [if_neg (by rw [ho]; simp), hf]; simp only; rw [hbk, if_neg (by simp only [Option.getD_some]; omega), hF]
        simp only [Int.toNat_natCast]
      have k1 : w.heap.size ≠ g := fun e => by have := h.lt g (.inl rfl); omega
      have k2 : w1.heap.size ≠ g := fun e => by have := h.lt g (.inl rfl); omega
      have l1 : w.heap.size < w2.heap.size := by omega
      have l2 : w1.heap.size < w2.heap.size := by omega
      have HO := Lib.hid (operate_truncate (w := w2.drew) w1.heap.size w.heap.size (fun w' => PRes g bm ms { spentD d with fs := d.fs.modify k F } w2.drew w') (show PDx w2.drew g bm ms d from hx.drewN 1) ok (fun _ W hW hFr => by
        refine truncate1_pd _ _ ms[k].g y W _ ((hFr.cellP l2 k2).trans e2) ((hFr.cellP l1 k1).trans e3) ?_
        refine (cut_pf ms[k] y W (hW.is _ hmk) hwf (by omega)).mono fun e w' hp => ?_
        have hp' : PfTo ms[k] (F ms[k].f) W e w' := by rw [hF]; exact hp
        obtain ⟨h1, h2⟩ := PfTo.res hW hk F (fun _ => by rw [hF]) hp'
        rw [spentD_fs] at h2
        exact ⟨h1, h2.from_ hFr⟩))
      rw [hs]
      have HR : Hid (∀ e w', OperTo g bm ms d w2.drew (fun w' => PRes g bm ms { spentD d with fs := d.fs.modify k F } w2.drew w') e w' → e = .returned (.int .i64 (opD d { spentD d with fs := d.fs.modify k F }).2) ∧ PRes g bm ms (opD d { spentD d with fs := d.fs.modify k F }).1 w w') := Lib.hid (fun e w' h => ⟨h.res.1, h.res.2.from_below (below_drew b3)⟩)
      generalize (opD d { spentD d with fs := d.fs.modify k F }).1 = d1 at HR ⊢
      generalize (opD d { spentD d with fs := d.fs.modify k F }).2 = E at HR ⊢
      have i1 : ¬ (y : Int) < 0 := by omega
      have i2 : ¬ (y : Int) > (ms[k].f.bs.length : Int) := by omega
      generalize ms[k].g = q at *
      generalize ms[k].f.bs.length = N at *
      generalize (OperTo g bm ms d w2.drew _) = T at HO HR
      clear h ok ho hf hs hlk hnm hvl hvc z1 z2 b1 b2 b3 hx hmk hbk hv hus hu hr hwf hfe HP HP2 m1 mf hn1 hF k1 k2 l1 l2
      clear hk hk'
      go_enter Try.func41, Try.ntmps41
      go_wp2_with (go_at_call 60; refine HF.out.mono ?_; rintro e w' ⟨rfl, rfl⟩)
      go_region
      go_wp2_with (first
        | (go_at_call 57; refine HO.out.mono ?_; intro e w2 ht; obtain ⟨rfl, hr⟩ := HR.out _ _ ht))
      go_ret
      exact ⟨rfl, hr⟩
end
end Go.Proofs.Ytfclgjdlkcmnfaa
namespace Go.Proofs.Ytfclgjdlkcmnfaa
open Go.RowKit Go.Maps
set_option linter.unusedVariables false
set_option maxRecDepth 100000

theorem remove1_pd (kd kn g bm : Nat) (ps : List (ByteArray × Nat)) (s : ByteArray) (w : World) (c0 : w.cell? ⟨kd, 0, none⟩ = some (.pointer (some ⟨g, 0, none⟩))) (c1 : w.cell? ⟨kn, 0, none⟩ = some (.string s)) (c2 : w.cell? ⟨g, 4, none⟩ = some (.map (some bm)))
    (hm : PMap w bm ps) (hs : s.size ≤ maxLen) :
    Calls Try.prog 74 #[.pointer (some ⟨kd, 0, none⟩), .pointer (some ⟨kn, 0, none⟩)] w (fun e w' => e = .returned (.tuple #[]) ∧ PMap w' bm (strike ps s) ∧ Frm (fun b => b = bm) w w') := by
  obtain ⟨w1, hrun, hp, hf, hz⟩ := PMap.drop (w := w.drew) hm s hs
  have HP := Lib.hid hp
  have HF : Hid (Frm (fun b => b = bm) w w1) := Lib.hid ((Frm.of_below (below_drew (Below.refl _ _))).trans hf (fun i hi => .inl hi))
  clear hp hf hz hm
  go_enter Try.func74, Try.ntmps74
  go_region
  go_wp2
  go_end0
  exact ⟨rfl, HP.out, HF.out⟩
theorem strike_erase {ps : List (ByteArray × Nat)} (nd : ps.Pairwise (fun a b => sameN a.1 b.1 = false)) {k : Nat} (hk : k < ps.length) : strike ps ps[k].1 = ps.eraseIdx k := by
  induction ps generalizing k with
  | nil => simp at hk
  | cons a ps ih =>
    obtain ⟨h1, h2⟩ := List.pairwise_cons.1 nd
    unfold strike at ih ⊢
    cases k with
    | zero =>
      rw [List.filter_cons, List.eraseIdx_cons_zero]
      simp only [List.getElem_cons_zero, sameN_refl, Bool.not_true, Bool.false_eq_true, if_false]
      rw [List.filter_eq_self]
      intro p hp
      rw [sameN_comm, h1 p hp]; rfl
    | succ k =>
      have hk2 : k < ps.length := by simpa using hk
      rw [List.filter_cons, List.eraseIdx_cons_succ]
      simp only [List.getElem_cons_succ]
      rw [h1 _ (List.getElem_mem hk2)]
      simp only [Bool.not_false, if_true]
      rw [ih h2 hk2]
theorem map_erase {α β : Type} (f : α → β) (l : List α) (k : Nat) : (l.eraseIdx k).map f = (l.map f).eraseIdx k := by
  induction l generalizing k with
  | nil => rfl
  | cons a l ih => cases k with
    | zero => rfl
    | succ k => simp only [List.eraseIdx_cons_succ, List.map_cons, ih]
theorem strike_no {ps : List (ByteArray × Nat)} {s : ByteArray} (h : ∀ p ∈ ps, sameN p.1 s = false) : strike ps s = ps := by
  unfold strike
  rw [List.filter_eq_self]
  intro p hp
  rw [h p hp]; rfl
section
variable {w w' : World} {g bm : Nat} {ms ms' : List Pf} {d : Dv}
/-- Files are taken out. -/
theorem PDx.fewer (h : PDx w g bm ms d) (hp : PMap w' bm (ms'.map pfN)) (hf : Frm (fun b => b = bm) w w') (hs : ms'.Sublist ms) : PDx w' g bm ms' { d with fs := ms'.map (·.f) } ∧ ∀ b, PG g bm ms' b → PG g bm ms b := by
  obtain ⟨h3, h4⟩ := h.g_ne
  obtain ⟨L, hb, r⟩ := h.box
  refine ⟨⟨⟨L, (hf.block g (block_lt hb) h3).trans hb, r⟩, hp, fun m hm => (h.is m (hs.subset hm)).frm hf (h4 m (hs.subset hm)).2.1 (fun b hb => ((h4 m (hs.subset hm)).2.2 b hb).2.1), rfl, h.apart.sublist hs⟩, fun b hb => ?_⟩
  rcases hb with e | e | ⟨m, hm, e⟩
  · exact .inl e
  · exact .inr (.inl e)
  · exact .inr (.inr ⟨m, hs.subset hm, e⟩)
theorem PDx.erase_fs (h : PDx w g bm ms d) (k : Nat) : (ms.eraseIdx k).map (·.f) = d.fs.eraseIdx k := by rw [← h.fs, map_erase]
theorem remove_pd (s : ByteArray) (h : PDx w g bm ms d) (ok : Dv.Ok d) : Calls Try.prog 44 #[.pointer (some ⟨g, 0, none⟩), .string s] w fun e w' => e = .returned (.int .i64 (remD d s).2) ∧ PRes g bm ms (remD d s).1 w w' := by
  obtain ⟨b1, e1, z1⟩ := box_one w (.pointer (some ⟨g, 0, none⟩)) 22
  generalize hw1 : w.alloc (.cells #[.pointer (some ⟨g, 0, none⟩)] 22) = w1 at *
  obtain ⟨b2, e2, z2⟩ := box_one w1 (.string s) 9
  have e3 : (w1.alloc (.cells #[.string s] 9)).cell? ⟨w.heap.size, 0, none⟩ = some (.pointer (some ⟨g, 0, none⟩)) := (b2.cell (p := ⟨w.heap.size, 0, none⟩) (by show w.heap.size < _; omega)).trans e1
  have b3 := b1.trans (b2.mono b1.size)
  generalize hw2 : w1.alloc (.cells #[.string s] 9) = w2 at *
  have hx := h.below b3
  have HP : Hid (PRes g bm ms d w w2) := Lib.hid ((PRes.same hx).from_below b3)
  cases ho : d.off with
  | true =>
    have hs : remD d s = (d, 10) := by unfold remD; rw [if_pos ho]
    have HF := Lib.hid (find_off s hx ho)
    rw [hs]
    clear h hx ok ho hs z1 z2 b1 b2 b3
    go_enter Try.func44, Try.ntmps44
    go_wp2_with (go_at_call 60; refine HF.out.mono ?_; rintro e w' ⟨rfl, rfl⟩)
    go_ret
    exact ⟨rfl, HP.out⟩
  | false =>
    cases hf : findD d.fs s with
    | none =>
      have hs : remD d s = (d, 6) := by unfold remD; rw [if_neg (by rw [ho]; simp), hf]
      have HF := Lib.hid (find_no s hx ho hf)
      rw [hs]
      clear h hx ok ho hs hf z1 z2 b1 b2 b3
      go_enter Try.func44, Try.ntmps44
      go_wp2_with (go_at_call 60; refine HF.out.mono ?_; rintro e w' ⟨rfl, rfl⟩)
      go_ret
      exact ⟨rfl, HP.out⟩
    | some k =>
      obtain ⟨hk, hk', hlk, hfe, hnm⟩ := h.look_yes hf
      have hs : remD d s = opD d { spentD d with fs := d.fs.eraseIdx k } := by unfold remD; rw [if_neg (by rw [ho]; simp), hf]
      have HF := Lib.hid (find_at s hx ho hf hk)
      have hsz : s.size ≤ maxLen := by
        have := ok_size (ok.fl _ (List.getElem_mem hk')).nm
        rw [hfe, hnm] at this
        unfold maxLen; omega
      have k1 : w.heap.size ≠ g := fun e => by have := h.lt g (.inl rfl); omega
      have k2 : w1.heap.size ≠ g := fun e => by have := h.lt g (.inl rfl); omega
      have l1 : w.heap.size < w2.heap.size := by omega
      have l2 : w1.heap.size < w2.heap.size := by omega
      have HO := Lib.hid (operate_remove w.heap.size w1.heap.size (fun w' => PRes g bm ms { spentD d with fs := d.fs.eraseIdx k } w2 w') hx ok (fun _ W hW hFr => by
        obtain ⟨L, _, _, _, _, c4, _⟩ := hW.cells
        refine (remove1_pd _ _ g bm _ s W ((hFr.cellP l1 k1).trans e3) ((hFr.cellP l2 k2).trans e2) c4 hW.map hsz).mono fun e w' ⟨r1, r2, r3⟩ => ⟨r1, ?_⟩
        have hkp : k < (ms.map pfN).length := by rw [List.length_map]; exact hk
        have e4 : strike (ms.map pfN) s = (ms.eraseIdx k).map pfN := by
          have := strike_erase hW.map.nd hkp
          rw [List.getElem_map, show (pfN ms[k]).1 = s from hnm] at this
          rw [this, ← map_erase]
        rw [e4] at r2
        obtain ⟨a, b⟩ := hW.fewer r2 r3 (List.eraseIdx_sublist _ _)
        rw [h.erase_fs] at a
        exact ⟨_, a, (hFr.mono (fun b e => .inl e)).trans r3 (fun i hi => .inl (.inr (.inl hi))), fun b' hb => .inl (b b' hb)⟩))
      rw [hs]
      have HR : Hid (∀ e w', OperTo g bm ms d w2 (fun w' => PRes g bm ms { spentD d with fs := d.fs.eraseIdx k } w2 w') e w' → e = .returned (.int .i64 (opD d { spentD d with fs := d.fs.eraseIdx k }).2) ∧ PRes g bm ms (opD d { spentD d with fs := d.fs.eraseIdx k }).1 w w') := Lib.hid (fun e w' h => ⟨h.res.1, h.res.2.from_below b3⟩)
      generalize (opD d { spentD d with fs := d.fs.eraseIdx k }).1 = d1 at HR ⊢
      generalize (opD d { spentD d with fs := d.fs.eraseIdx k }).2 = E at HR ⊢
      generalize ms[k].g = q at *
      generalize (OperTo g bm ms d w2 _) = T at HO HR
      clear h hx ok ho hf hs hlk hnm hfe z1 z2 b1 b2 b3 k1 k2 l1 l2 hsz HP hk hk'
      go_enter Try.func44, Try.ntmps44
      go_wp2_with (first
        | (go_at_call 60; refine HF.out.mono ?_; rintro e w' ⟨rfl, rfl⟩)
        | (go_at_call 57; refine HO.out.mono ?_; intro e w2 ht; obtain ⟨rfl, hr⟩ := HR.out _ _ ht))
      go_ret
      exact ⟨rfl, hr⟩
end
end Go.Proofs.Ytfclgjdlkcmnfaa
