/-
  Texts of the proof of SegsFull, joined.
-/
import Derived.Test.YtbdhhmhlcdganaaGreatDoorJSegsFullE
import Derived.Test.YtbdhhmhlcdganaaGreatDoorJSegsFullB
import Derived.Deep.RegionWith
import Derived.Deep.RegionLaw
import Derived.Test.YtbdhhmhlcdganaaGreatDoorJSegsFullC
namespace Go.Proofs.YtbdhhmhlcdganaaGreatDoor
open Go.RowKit
set_option linter.unusedVariables false
set_option maxRecDepth 100000

def posD (l : List Fl) (s : ByteArray) : Nat := l.findIdx (fun h => lessN s h.nm)
def outM (ms : List Fm) (p : Nat) (m : Fm) (i : Nat) : List Fm := if i ≤ p then ms.take i else ms.take p ++ m :: (ms.take i).drop p
end Go.Proofs.YtbdhhmhlcdganaaGreatDoor
namespace Go.Proofs.YtbdhhmhlcdganaaGreatDoor
open Go.RowKit
set_option linter.unusedVariables false
set_option maxRecDepth 100000

def RStep (g : Nat) (fv : Value) (ms : List Fm) (d : Dv) (v : Value) (w : World) (e : Ending) (w' : World) : Prop :=
  e = .returned v ∧ ∃ fv' ms', RDx w' g fv' ms' d ∧ Frm (fun b => b = g ∨ fv.ownBlock = some b) w w' ∧ ∀ b, RG g fv' ms' b → RG g fv ms b ∨ w.heap.size ≤ b
theorem RStep.same {g : Nat} {fv : Value} {ms : List Fm} {d : Dv} {v : Value} {w : World} (h : RDx w g fv ms d) : RStep g fv ms d v w (.returned v) w := ⟨rfl, fv, ms, h, Frm.refl _ _, fun b hb => .inl hb⟩
theorem RStep.in {g : Nat} {fv : Value} {ms : List Fm} {d : Dv} {v : Value} {w w' : World} {e : Ending} (he : e = .returned v) (h : RDx w' g fv ms d) (hf : Frm (fun b => b = g) w w') : RStep g fv ms d v w e w' := ⟨he, fv, ms, h, hf.mono (fun b hb => .inl hb), fun b hb => .inl hb⟩
end Go.Proofs.YtbdhhmhlcdganaaGreatDoor
namespace Go.Proofs.YtbdhhmhlcdganaaGreatDoor
open Go.RowKit
set_option linter.unusedVariables false
set_option maxRecDepth 100000

theorem FmIs.frm {F : Nat → Prop} {w w' : World} {m : Fm} {f : Fl} (h : FmIs w m f) (hf : Frm F w w') (hn : ∀ a, m.A = some a → 0 < m.n → ¬ F a.block) : FmIs w' m f :=
  ⟨h.nm, h.sy, h.n, h.le, h.cap, hf.row h.row (fun a ha hp => hn a ha (by rw [← h.n]; exact hp))⟩
def outM2 (l : List Fl) (ms : List Fm) (s : ByteArray) : List Fm := match findD l s with | some k => ms.eraseIdx k | none => ms
end Go.Proofs.YtbdhhmhlcdganaaGreatDoor
namespace Go.Proofs.YtbdhhmhlcdganaaGreatDoor
open Go.RowKit
set_option linter.unusedVariables false
set_option maxRecDepth 100000

theorem RDx.setFile {w : World} {g b n cap : Nat} {ms : List Fm} {d : Dv} (h : RDx w g (.slice (some ⟨b, 0, none⟩) n cap) ms d) (k : Nat) (hk : k < ms.length) (hk2 : k < d.fs.length) (m' : Fm) (j : Nat) (v : Value) (hj : j < 3) (hm : fmC m' = (fmC ms[k]).set j v) (f' : Fl) (hf : FmIs w m' f')
    (hs : ∀ a, m'.A = some a → 0 < m'.n → a.block ≠ g ∧ a.block ≠ b) : RDx (w.setCell ⟨b, k * 3 + j, none⟩ v) g (.slice (some ⟨b, 0, none⟩) n cap) (ms.set k m') { d with fs := d.fs.set k f' } := by
  have hbg : b ≠ g := fun e => h.sepF (by rw [e]; rfl)
  have hF := Frm.set (F := fun i => i = b) w b (k * 3 + j) v rfl
  refine ⟨(hF.block g (block_lt h.box) (fun e => hbg e.symm)).trans h.box, h.own.set k hk m' j v hj hm, by simp only [List.length_set]; exact h.len, fun i h1 h2 => ?_, h.sepF, fun m hm2 a ha hn => ?_⟩
  · simp only [List.length_set] at h1 h2
    by_cases e : k = i
    · subst e
      simp only [List.getElem_set_self]
      exact hf.frm hF (fun a ha hn e => (hs a ha hn).2 e)
    · simp only [List.getElem_set_ne e]
      exact (h.is i h1 h2).frm hF (fun a ha hn e2 => (h.sepB _ (List.getElem_mem h1) a ha hn).2 (by rw [← e2]; rfl))
  · rcases List.mem_or_eq_of_mem_set hm2 with hm2 | rfl
    · exact h.sepB m hm2 a ha hn
    · have := hs a ha hn
      exact ⟨this.1, fun e => this.2 (by injection e with e; exact e.symm)⟩
theorem RDx.drew {w : World} {g : Nat} {fv : Value} {ms : List Fm} {d : Dv} (h : RDx w g fv ms d) : RDx w.drew g fv ms d := h.below ⟨rfl, rfl, rfl, Nat.le_refl _, fun _ _ => rfl⟩
theorem Frm.drew {F : Nat → Prop} {w w' : World} (h : Frm F w w') : Frm F w w'.drew := ⟨h.os, h.tape, h.output, h.size, h.block⟩
end Go.Proofs.YtbdhhmhlcdganaaGreatDoor
namespace Go.Proofs.YtbdhhmhlcdganaaGreatDoor
open Go.RowKit
set_option linter.unusedVariables false
set_option maxRecDepth 100000

end Go.Proofs.YtbdhhmhlcdganaaGreatDoor
namespace Go.Proofs.YtbdhhmhlcdganaaGreatDoor
open Go.RowKit
set_option linter.unusedVariables false
set_option maxRecDepth 100000

end Go.Proofs.YtbdhhmhlcdganaaGreatDoor
namespace Go.Proofs.YtbdhhmhlcdganaaGreatDoor
open Go.RowKit
set_option linter.unusedVariables false
set_option maxRecDepth 100000

end Go.Proofs.YtbdhhmhlcdganaaGreatDoor
namespace Go.Proofs.YtbdhhmhlcdganaaGreatDoor
open Go.RowKit
set_option linter.unusedVariables false
set_option maxRecDepth 100000

def midD (d : Dv) (keep : Int) (j : Nat) : Dv := { d with fs := (d.fs.take j).map (wakeF keep) ++ d.fs.drop j }
end Go.Proofs.YtbdhhmhlcdganaaGreatDoor
namespace Go.Proofs.YtbdhhmhlcdganaaGreatDoor
open Go.RowKit
set_option linter.unusedVariables false
set_option maxRecDepth 100000

def RDe : DevP := fun w G g d => ∃ fv ms, RDx w g fv ms d ∧ ∀ b, RG g fv ms b ↔ G b
theorem RStep.stp {G : Nat → Prop} {g : Nat} {fv : Value} {ms : List Fm} {d : Dv} {v : Value} {w w' : World} {e : Ending} (h : RStep g fv ms d v w e w') (hg : ∀ b, RG g fv ms b ↔ G b) : Stp RDe G g d v w e w' := by
  obtain ⟨he, fv', ms', hx, hf, hr⟩ := h
  exact ⟨he, RG g fv' ms', ⟨fv', ms', hx, fun b => Iff.rfl⟩, hf.mono (fun b hb => (hg b).1 (hb.elim .inl (fun h => .inr (.inl h)))), fun b hb => (hr b hb).elim (fun h => .inl ((hg b).1 h)) .inr⟩
theorem Stp.mono {D : DevP} {G : Nat → Prop} {g : Nat} {d : Dv} {v : Value} {w0 w : World} {e : Ending} {w' : World} (h : Stp D G g d v w e w') : Stp D G g d v w e w' := h

section
variable {G : Nat → Prop} {g : Nat} {d : Dv} {w : World}
end

structure Twin (D1 D2 : DevP) (w : World) (G1 G2 : Nat → Prop) (g1 g2 : Nat) (d : Dv) : Prop where
  one : D1 w G1 g1 d
  two : D2 w G2 g2 d
  off : ∀ b, G1 b → ¬ G2 b
def Twins (D1 D2 : DevP) (G1 G2 : Nat → Prop) (g1 g2 : Nat) (d : Dv) (w w' : World) : Prop :=
  ∃ G1' G2', Twin D1 D2 w' G1' G2' g1 g2 d ∧ Frm (fun b => G1 b ∨ G2 b) w w' ∧ ∀ b, G1' b ∨ G2' b → (G1 b ∨ G2 b) ∨ w.heap.size ≤ b
theorem Twin.frm {D1 D2 : DevP} (X1 : Dev D1) (X2 : Dev D2) {w w' : World} {G1 G2 F : Nat → Prop} {g1 g2 : Nat} {d : Dv} (h : Twin D1 D2 w G1 G2 g1 g2 d) (hf : Frm F w w') (hn : ∀ b, G1 b ∨ G2 b → ¬ F b) : Twin D1 D2 w' G1 G2 g1 g2 d :=
  ⟨X1.frm h.one hf (fun b hb => hn b (.inl hb)), X2.frm h.two hf (fun b hb => hn b (.inr hb)), h.off⟩
theorem Twin.swap {D1 D2 : DevP} {w : World} {G1 G2 : Nat → Prop} {g1 g2 : Nat} {d : Dv} (h : Twin D1 D2 w G1 G2 g1 g2 d) : Twin D2 D1 w G2 G1 g2 g1 d := ⟨h.two, h.one, fun b h1 h2 => h.off b h2 h1⟩
theorem Twins.swap {D1 D2 : DevP} {w w' : World} {G1 G2 : Nat → Prop} {g1 g2 : Nat} {d : Dv} (h : Twins D1 D2 G1 G2 g1 g2 d w w') : Twins D2 D1 G2 G1 g2 g1 d w w' := by
  obtain ⟨G1', G2', h1, h2, h3⟩ := h
  exact ⟨G2', G1', h1.swap, h2.mono (fun b hb => hb.symm), fun b hb => (h3 b hb.symm).imp .symm id⟩
end Go.Proofs.YtbdhhmhlcdganaaGreatDoor
