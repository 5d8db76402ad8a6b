/-
  Texts of the proof of SegsOpens, joined.
-/
import Derived.Test.YtbdhhmhlcdganaaGreatDoorJSegsOpensD
import Derived.Deep.RegionWith
import Derived.Test.YtbdhhmhlcdganaaGreatDoorJSegsOpensB
import Derived.Deep.RegionLaw
import Derived.Test.YtbdhhmhlcdganaaGreatDoorJSegsOpensC
namespace Go.Proofs.YtbdhhmhlcdganaaGreatDoor
open Go.RowKit
set_option linter.unusedVariables false
set_option maxRecDepth 100000

theorem FmIs.frm {F : Nat → Prop} {w w' : World} {m : Fm} {f : Fl} (h : FmIs w m f) (hf : Frm F w w') (hn : ∀ a, m.A = some a → 0 < m.n → ¬ F a.block) : FmIs w' m f :=
  ⟨h.nm, h.sy, h.n, h.le, h.cap, hf.row h.row (fun a ha hp => hn a ha (by rw [← h.n]; exact hp))⟩
def outM2 (l : List Fl) (ms : List Fm) (s : ByteArray) : List Fm := match findD l s with | some k => ms.eraseIdx k | none => ms
end Go.Proofs.YtbdhhmhlcdganaaGreatDoor
namespace Go.Proofs.YtbdhhmhlcdganaaGreatDoor
open Go.RowKit
set_option linter.unusedVariables false
set_option maxRecDepth 100000

theorem RDx.setFile {w : World} {g b n cap : Nat} {ms : List Fm} {d : Dv} (h : RDx w g (.slice (some ⟨b, 0, none⟩) n cap) ms d) (k : Nat) (hk : k < ms.length) (hk2 : k < d.fs.length) (m' : Fm) (j : Nat) (v : Value) (hj : j < 3) (hm : fmC m' = (fmC ms[k]).set j v) (f' : Fl) (hf : FmIs w m' f')
    (hs : ∀ a, m'.A = some a → 0 < m'.n → a.block ≠ g ∧ a.block ≠ b) : RDx (w.setCell ⟨b, k * 3 + j, none⟩ v) g (.slice (some ⟨b, 0, none⟩) n cap) (ms.set k m') { d with fs := d.fs.set k f' } := by
  have hbg : b ≠ g := fun e => h.sepF (by rw [e]; rfl)
  have hF := Frm.set (F := fun i => i = b) w b (k * 3 + j) v rfl
  refine ⟨(hF.block g (block_lt h.box) (fun e => hbg e.symm)).trans h.box, h.own.set k hk m' j v hj hm, by simp only [List.length_set]; exact h.len, fun i h1 h2 => ?_, h.sepF, fun m hm2 a ha hn => ?_⟩
  · simp only [List.length_set] at h1 h2
    by_cases e : k = i
    · subst e
      simp only [List.getElem_set_self]
      exact hf.frm hF (fun a ha hn e => (hs a ha hn).2 e)
    · simp only [List.getElem_set_ne e]
      exact (h.is i h1 h2).frm hF (fun a ha hn e2 => (h.sepB _ (List.getElem_mem h1) a ha hn).2 (by rw [← e2]; rfl))
  · rcases List.mem_or_eq_of_mem_set hm2 with hm2 | rfl
    · exact h.sepB m hm2 a ha hn
    · have := hs a ha hn
      exact ⟨this.1, fun e => this.2 (by injection e with e; exact e.symm)⟩
theorem RDx.drew {w : World} {g : Nat} {fv : Value} {ms : List Fm} {d : Dv} (h : RDx w g fv ms d) : RDx w.drew g fv ms d := h.below ⟨rfl, rfl, rfl, Nat.le_refl _, fun _ _ => rfl⟩
theorem Frm.drew {F : Nat → Prop} {w w' : World} (h : Frm F w w') : Frm F w w'.drew := ⟨h.os, h.tape, h.output, h.size, h.block⟩
end Go.Proofs.YtbdhhmhlcdganaaGreatDoor
namespace Go.Proofs.YtbdhhmhlcdganaaGreatDoor
open Go.RowKit
set_option linter.unusedVariables false
set_option maxRecDepth 100000

end Go.Proofs.YtbdhhmhlcdganaaGreatDoor
namespace Go.Proofs.YtbdhhmhlcdganaaGreatDoor
open Go.RowKit
set_option linter.unusedVariables false
set_option maxRecDepth 100000

end Go.Proofs.YtbdhhmhlcdganaaGreatDoor
namespace Go.Proofs.YtbdhhmhlcdganaaGreatDoor
open Go.RowKit
set_option linter.unusedVariables false
set_option maxRecDepth 100000

end Go.Proofs.YtbdhhmhlcdganaaGreatDoor
namespace Go.Proofs.YtbdhhmhlcdganaaGreatDoor
open Go.RowKit
set_option linter.unusedVariables false
set_option maxRecDepth 100000

def midD (d : Dv) (keep : Int) (j : Nat) : Dv := { d with fs := (d.fs.take j).map (wakeF keep) ++ d.fs.drop j }
end Go.Proofs.YtbdhhmhlcdganaaGreatDoor
namespace Go.Proofs.YtbdhhmhlcdganaaGreatDoor
open Go.RowKit
set_option linter.unusedVariables false
set_option maxRecDepth 100000

def RDe : DevP := fun w G g d => ∃ fv ms, RDx w g fv ms d ∧ ∀ b, RG g fv ms b ↔ G b
theorem RStep.stp {G : Nat → Prop} {g : Nat} {fv : Value} {ms : List Fm} {d : Dv} {v : Value} {w w' : World} {e : Ending} (h : RStep g fv ms d v w e w') (hg : ∀ b, RG g fv ms b ↔ G b) : Stp RDe G g d v w e w' := by
  obtain ⟨he, fv', ms', hx, hf, hr⟩ := h
  exact ⟨he, RG g fv' ms', ⟨fv', ms', hx, fun b => Iff.rfl⟩, hf.mono (fun b hb => (hg b).1 (hb.elim .inl (fun h => .inr (.inl h)))), fun b hb => (hr b hb).elim (fun h => .inl ((hg b).1 h)) .inr⟩
theorem Stp.mono {D : DevP} {G : Nat → Prop} {g : Nat} {d : Dv} {v : Value} {w0 w : World} {e : Ending} {w' : World} (h : Stp D G g d v w e w') : Stp D G g d v w e w' := h

section
variable {G : Nat → Prop} {g : Nat} {d : Dv} {w : World}
end

structure Twin (D1 D2 : DevP) (w : World) (G1 G2 : Nat → Prop) (g1 g2 : Nat) (d : Dv) : Prop where
  one : D1 w G1 g1 d
  two : D2 w G2 g2 d
  off : ∀ b, G1 b → ¬ G2 b
def Twins (D1 D2 : DevP) (G1 G2 : Nat → Prop) (g1 g2 : Nat) (d : Dv) (w w' : World) : Prop :=
  ∃ G1' G2', Twin D1 D2 w' G1' G2' g1 g2 d ∧ Frm (fun b => G1 b ∨ G2 b) w w' ∧ ∀ b, G1' b ∨ G2' b → (G1 b ∨ G2 b) ∨ w.heap.size ≤ b
theorem Twin.frm {D1 D2 : DevP} (X1 : Dev D1) (X2 : Dev D2) {w w' : World} {G1 G2 F : Nat → Prop} {g1 g2 : Nat} {d : Dv} (h : Twin D1 D2 w G1 G2 g1 g2 d) (hf : Frm F w w') (hn : ∀ b, G1 b ∨ G2 b → ¬ F b) : Twin D1 D2 w' G1 G2 g1 g2 d :=
  ⟨X1.frm h.one hf (fun b hb => hn b (.inl hb)), X2.frm h.two hf (fun b hb => hn b (.inr hb)), h.off⟩
theorem Twin.swap {D1 D2 : DevP} {w : World} {G1 G2 : Nat → Prop} {g1 g2 : Nat} {d : Dv} (h : Twin D1 D2 w G1 G2 g1 g2 d) : Twin D2 D1 w G2 G1 g2 g1 d := ⟨h.two, h.one, fun b h1 h2 => h.off b h2 h1⟩
theorem Twins.swap {D1 D2 : DevP} {w w' : World} {G1 G2 : Nat → Prop} {g1 g2 : Nat} {d : Dv} (h : Twins D1 D2 G1 G2 g1 g2 d w w') : Twins D2 D1 G2 G1 g2 g1 d w w' := by
  obtain ⟨G1', G2', h1, h2, h3⟩ := h
  exact ⟨G2', G1', h1.swap, h2.mono (fun b hb => hb.symm), fun b hb => (h3 b hb.symm).imp .symm id⟩
end Go.Proofs.YtbdhhmhlcdganaaGreatDoor
namespace Go.Proofs.YtbdhhmhlcdganaaGreatDoor
open Go.RowKit Go.Maps
set_option linter.unusedVariables false
set_option maxRecDepth 100000

structure Pf where
  (g : Nat) (v : Value) (f : Fl)
structure PfIs (w : World) (m : Pf) : Prop where
  box : w.heap[m.g]? = some (.cells #[m.v, .int .i64 (m.f.sy : Int)] 78 (0, 0))
  own : KOwn .u8 5 w 0 m.v m.f.bs
def pfN (m : Pf) : ByteArray × Nat := (m.f.nm, m.g)
def PfA (m k : Pf) : Prop := m.g ≠ k.g ∧ ∀ b, m.v.ownBlock = some b → k.v.ownBlock ≠ some b
theorem PfA.symm {m k : Pf} (h : PfA m k) : PfA k m := ⟨h.1.symm, fun b hb hm => h.2 b hm hb⟩
def dvC (d : Dv) (L : Int) (bm : Nat) : Array Value := #[.bool d.off, .bool (decide (0 ≤ d.left)), .int .i64 L, .int .i64 (d.room : Int), .map (some bm)]
structure PDx (w : World) (g bm : Nat) (ms : List Pf) (d : Dv) : Prop where
  box : ∃ L : Int, w.heap[g]? = some (.cells (dvC d L bm) 38 (0, 0)) ∧ (0 ≤ d.left → L = d.left) ∧ -9223372036854775808 ≤ L ∧ L < 9223372036854775808
  map : PMap w bm (ms.map pfN)
  is : ∀ m ∈ ms, PfIs w m
  fs : ms.map (·.f) = d.fs
  apart : ms.Pairwise PfA
def PG (g bm : Nat) (ms : List Pf) (b : Nat) : Prop := b = g ∨ b = bm ∨ ∃ m ∈ ms, b = m.g ∨ m.v.ownBlock = some b
def PDe : DevP := fun w G g d => ∃ bm ms, PDx w g bm ms d ∧ ∀ b, PG g bm ms b ↔ G b

theorem cells_ne {w : World} {a b : Nat} {c1 c2 : Array Value} {t1 t2 : TypeId} {z1 z2 : Nat × Nat} (h1 : w.heap[a]? = some (.cells c1 t1 z1)) (h2 : w.heap[b]? = some (.cells c2 t2 z2)) (ht : t1 ≠ t2) : a ≠ b := by
  intro e
  subst e
  rw [h1] at h2
  injection h2 with h2
  injection h2 with _ h2
  exact ht h2
theorem cells_nm {w : World} {a b : Nat} {c1 : Array Value} {t1 : TypeId} {z1 : Nat × Nat} {es : Array MapEntry} {clock : Nat} (h1 : w.heap[a]? = some (.cells c1 t1 z1)) (h2 : w.heap[b]? = some (.map es clock)) : a ≠ b := by
  intro e
  subst e
  rw [h1] at h2
  injection h2 with h2
  cases h2
theorem KOwn.at_block {k : IntKind} {e : TypeId} {w : World} {base : Nat} {v : Value} {xs : List Int} (h : KOwn k e w base v xs) {b : Nat} (hb : v.ownBlock = some b) : ∃ c, w.heap[b]? = some (.cells c e (0, 0)) := by
  rcases h with ⟨rfl, _⟩ | ⟨g, n, cap, r, rfl, _, _, h4, _⟩
  · cases hb
  · injection hb with hb
    subst hb
    exact ⟨_, h4⟩
theorem KOwn.frm {F : Nat → Prop} {k : IntKind} {e : TypeId} {w w' : World} {base : Nat} {v : Value} {xs : List Int} (h : KOwn k e w base v xs) (hf : Frm F w w') (hn : ∀ b, v.ownBlock = some b → ¬ F b) : KOwn k e w' base v xs := by
  rcases h with h | ⟨g, n, cap, r, rfl, h2, h3, h4, h5⟩
  · exact .inl h
  · exact .inr ⟨g, n, cap, r, rfl, h2, h3, (hf.block g (block_lt h4) (hn g rfl)).trans h4, h5⟩
theorem PfIs.frm {F : Nat → Prop} {w w' : World} {m : Pf} (h : PfIs w m) (hf : Frm F w w') (hg : ¬ F m.g) (hn : ∀ b, m.v.ownBlock = some b → ¬ F b) : PfIs w' m :=
  ⟨(hf.block m.g (block_lt h.box) hg).trans h.box, h.own.frm hf hn⟩
theorem PDx.gbox {w : World} {g bm : Nat} {ms : List Pf} {d : Dv} (h : PDx w g bm ms d) : ∃ c, w.heap[g]? = some (.cells c 38 (0, 0)) := by
  obtain ⟨L, hb, _⟩ := h.box
  exact ⟨_, hb⟩
theorem PDx.lt {w : World} {g bm : Nat} {ms : List Pf} {d : Dv} (h : PDx w g bm ms d) : ∀ b, PG g bm ms b → b < w.heap.size := by
  intro b hb
  rcases hb with rfl | rfl | ⟨m, hm, rfl | hv⟩
  · obtain ⟨c, hc⟩ := h.gbox
    exact block_lt hc
  · exact h.map.lt
  · exact block_lt (h.is m hm).box
  · obtain ⟨c, hc⟩ := (h.is m hm).own.at_block hv
    exact block_lt hc
theorem PDx.frm {F : Nat → Prop} {w w' : World} {g bm : Nat} {ms : List Pf} {d : Dv} (h : PDx w g bm ms d) (hf : Frm F w w') (hn : ∀ b, PG g bm ms b → ¬ F b) : PDx w' g bm ms d := by
  obtain ⟨L, hb, h1, h2, h3⟩ := h.box
  exact ⟨⟨L, (hf.block g (block_lt hb) (hn g (.inl rfl))).trans hb, h1, h2, h3⟩, h.map.same (hf.block bm h.map.lt (hn bm (.inr (.inl rfl)))),
    fun m hm => (h.is m hm).frm hf (hn m.g (.inr (.inr ⟨m, hm, .inl rfl⟩))) (fun b hb => hn b (.inr (.inr ⟨m, hm, .inr hb⟩))), h.fs, h.apart⟩
theorem pde_dev : Dev PDe :=
  ⟨fun h hf hn => by obtain ⟨bm, ms, hx, hg⟩ := h; exact ⟨bm, ms, hx.frm hf (fun b hb => hn b ((hg b).1 hb)), hg⟩, fun h b hb => by
    obtain ⟨bm, ms, hx, hg⟩ := h
    exact hx.lt b ((hg b).2 hb)⟩
theorem PDx.drewN {w : World} {g bm : Nat} {ms : List Pf} {d : Dv} (h : PDx w g bm ms d) (n : Nat) : PDx (w.drewN n) g bm ms d := h.frm (F := fun _ => False) (Frm.of_below (bel_drewN w n)) (fun _ _ e => e)
theorem PDx.g_ne {w : World} {g bm : Nat} {ms : List Pf} {d : Dv} (h : PDx w g bm ms d) : g ≠ bm ∧ ∀ m ∈ ms, m.g ≠ g ∧ m.g ≠ bm ∧ ∀ b, m.v.ownBlock = some b → b ≠ g ∧ b ≠ bm ∧ ∀ k ∈ ms, k.g ≠ b := by
  obtain ⟨c, hc⟩ := h.gbox
  obtain ⟨es, clock, hm⟩ := h.map.block
  refine ⟨cells_nm hc hm, fun m hm' => ⟨cells_ne (h.is m hm').box hc (by decide), cells_nm (h.is m hm').box hm, fun b hb => ?_⟩⟩
  obtain ⟨c', hc'⟩ := (h.is m hm').own.at_block hb
  exact ⟨cells_ne hc' hc (by decide), cells_nm hc' hm, fun k hk => cells_ne (h.is k hk).box hc' (by decide)⟩
theorem PDx.cells {w : World} {g bm : Nat} {ms : List Pf} {d : Dv} (h : PDx w g bm ms d) : ∃ L : Int, w.cell? ⟨g, 0, none⟩ = some (.bool d.off) ∧ w.cell? ⟨g, 1, none⟩ = some (.bool (decide (0 ≤ d.left))) ∧ w.cell? ⟨g, 2, none⟩ = some (.int .i64 L) ∧ w.cell? ⟨g, 3, none⟩ = some (.int .i64 (d.room : Int)) ∧ w.cell? ⟨g, 4, none⟩ = some (.map (some bm))
    ∧ (∀ j, w.frozen? ⟨g, j, none⟩ = false) ∧ (0 ≤ d.left → L = d.left) ∧ -9223372036854775808 ≤ L ∧ L < 9223372036854775808 := by
  obtain ⟨L, hb, h1, h2, h3⟩ := h.box
  exact ⟨L, cell_of_row w g 0 _ _ _ hb, cell_of_row w g 1 _ _ _ hb, cell_of_row w g 2 _ _ _ hb, cell_of_row w g 3 _ _ _ hb, cell_of_row w g 4 _ _ _ hb, fun j => block_frozen w g j _ _ hb, h1, h2, h3⟩
theorem PfIs.cells {w : World} {m : Pf} (h : PfIs w m) : w.cell? ⟨m.g, 0, none⟩ = some m.v ∧ w.cell? ⟨m.g, 1, none⟩ = some (.int .i64 (m.f.sy : Int)) ∧ ∀ j, w.frozen? ⟨m.g, j, none⟩ = false :=
  ⟨cell_of_row w m.g 0 _ _ _ h.box, cell_of_row w m.g 1 _ _ _ h.box, fun j => block_frozen w m.g j _ _ h.box⟩
theorem PDx.look_no {w : World} {g bm : Nat} {ms : List Pf} {d : Dv} (h : PDx w g bm ms d) {s : ByteArray} (hf : findD d.fs s = none) : look (ms.map pfN) s = none := by
  refine look_none ?_
  rw [List.any_eq_false]
  intro p hp hs
  obtain ⟨m, hm, rfl⟩ := List.mem_map.1 hp
  have := findD_none.1 hf m.f (by rw [← h.fs]; exact List.mem_map.2 ⟨m, hm, rfl⟩)
  rw [show sameN m.f.nm s = true from hs] at this
  cases this
theorem PDx.look_yes {w : World} {g bm : Nat} {ms : List Pf} {d : Dv} (h : PDx w g bm ms d) {s : ByteArray} {k : Nat} (hf : findD d.fs s = some k) : ∃ (hk : k < ms.length) (hk' : k < d.fs.length), look (ms.map pfN) s = some ms[k].g ∧ d.fs[k] = ms[k].f ∧ ms[k].f.nm = s := by
  obtain ⟨hk, h1, _⟩ := findD_some hf
  have hl : ms.length = d.fs.length := by rw [← h.fs, List.length_map]
  have hk2 : k < ms.length := by omega
  have e : d.fs[k] = ms[k].f := by simp only [← h.fs, List.getElem_map]
  have e2 : ms[k].f.nm = s := by rw [← e]; exact sameN_iff.1 h1
  refine ⟨hk2, hk, ?_, e, e2⟩
  have := look_mem h.map.nd (p := pfN ms[k]) (List.mem_map.2 ⟨ms[k], List.getElem_mem hk2, rfl⟩)
  rw [show (pfN ms[k]).1 = s from e2] at this
  exact this
end Go.Proofs.YtbdhhmhlcdganaaGreatDoor
