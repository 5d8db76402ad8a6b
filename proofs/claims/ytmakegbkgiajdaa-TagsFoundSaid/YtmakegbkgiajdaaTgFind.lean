/-
  The document's contract of Find of layer 9.
-/
import Derived.Test.YtmakegbkgiajdaaTgRef
import Derived.WalkLawsBesides
namespace Go.Proofs.Ytmakegbkgiajdaa
open Go.RowKit
set_option linter.unusedVariables false
attribute [local go_sem ↓] ldTag_fold

/-- The place of the first tag of that name; -1 if there is none. -/
def findT (l : List Tg) (s : ByteArray) : Int := if l.findIdx (fun t => t.nm.toList == s.toList) < l.length then (l.findIdx (fun t => t.nm.toList == s.toList) : Nat) else -1
theorem findT_at {l : List Tg} {s : ByteArray} {k : Nat} (hk : k < l.length) (h : l[k].nm.toList = s.toList) (hb : ∀ j (hj : j < k), (l[j]'(by omega)).nm.toList ≠ s.toList) : findT l s = k := by
  have : l.findIdx (fun t => t.nm.toList == s.toList) = k := (List.findIdx_eq hk).2 ⟨by simpa using h, fun j hj => by simpa using hb j hj⟩
  unfold findT; rw [this, if_pos hk]
theorem findT_none {l : List Tg} {s : ByteArray} (h : ∀ j (hj : j < l.length), l[j].nm.toList ≠ s.toList) : findT l s = -1 := by
  have : l.findIdx (fun t => t.nm.toList == s.toList) = l.length := List.findIdx_eq_length.2 (fun t ht => by
    obtain ⟨j, hj, rfl⟩ := List.mem_iff_getElem.1 ht
    simpa using h j hj)
  unfold findT; rw [this, if_neg (by omega)]
/-- The name of a tag in memory. -/
theorem VRow.name {w : World} {B : Nat} {A : Option Addr} {l : List Tg} (h : VRow w B A (flatV tgC l)) {i : Nat} (hi : i < l.length) :
    ∃ b o, A = some ⟨b, o, none⟩ ∧ b < B ∧ w.cell? ⟨b, o + i * 19, none⟩ = some (.string l[i].nm) := by
  obtain ⟨b, o, e, hb, hc⟩ := h.elem tgC_len (by omega) hi
  exact ⟨b, o, e, hb, hc 0 _ rfl⟩
theorem refFind_any (A : Option Addr) (n c : Nat) (l : List Tg) (s : ByteArray) (w : World) (B : Nat) (hr : VRow w B A (flatV tgC l)) (hn : l.length = n) (hb : n ≤ 4611686018427387904) :
    Calls Try.prog 19 #[.slice A n c, .string s] w fun e w' => e = .returned (.int .i64 (findT l s)) ∧ w' = w := by
  have hn' := Lib.hid hn
  clear hn
  go_enter Try.func19, Try.ntmps19
  go_wp2
  go_loop [5] (fun i => ∃ k : Nat, k ≤ n ∧ i = .int .i64 k ∧ Hid (∀ j (hj : j < l.length), j < k → l[j].nm.toList ≠ s.toList)) (fun i => n - (intOf i).toNat)
  case atStart => exact ⟨0, by omega, rfl, Lib.hid (fun j _ hj => absurd hj (by omega))⟩
  case round =>
    obtain ⟨k, hk, rfl, hall⟩ := hrel
    by_cases hlt : k < n
    · have hkl : k < l.length := by have := hn'.out; omega
      obtain ⟨b, o, rfl, hb1, hc1⟩ := hr.name hkl
      obtain ⟨t, ht⟩ : ∃ t, l[k].nm = t := ⟨_, rfl⟩
      rw [ht] at hc1
      have HT := Lib.hid ht
      have hlt' : (k : Int) < (n : Int) := by omega
      clear ht
      by_cases he : t.toList = s.toList
      · have HF : Hid (findT l s = k) := Lib.hid (findT_at hkl (by rw [HT.out]; exact he) (fun j hj => hall.out j _ hj))
        have he2 : (t.toList == s.toList) = true := by simp [he]
        clear he
        go_wp2
        go_ret
        exact ⟨by rw [HF.out]; rfl, rfl⟩
      · have hall2 : Hid (∀ j (hj : j < l.length), j < k + 1 → l[j].nm.toList ≠ s.toList) := Lib.hid (fun j hjl hj => by
          rcases Nat.lt_or_ge j k with h | h
          · exact hall.out j hjl h
          · obtain rfl : j = k := by omega
            rw [HT.out]; exact he)
        have he2 : (t.toList == s.toList) = false := by simp [he]
        go_wp2
        go_round
        case rel => exact ⟨k + 1, by omega, by go_num, hall2⟩
        case measure => simp [intOf]; omega
    · have HF : Hid (findT l s = -1) := Lib.hid (findT_none (fun j hj => hall.out j hj (by have := hn'.out; omega)))
      go_wp2
      go_ret
      exact ⟨by rw [HF.out]; rfl, rfl⟩
end Go.Proofs.Ytmakegbkgiajdaa
