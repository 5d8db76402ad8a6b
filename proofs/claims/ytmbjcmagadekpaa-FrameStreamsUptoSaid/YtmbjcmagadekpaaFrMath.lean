/-
  Frames on a line and on a stream as plain lists of numbers: what is made, what is refused, what is read.
-/
import Derived.Test.YtmbjcmagadekpaaPlain
namespace Go.Proofs.Ytmbjcmagadekpaa
open Go.RowKit
set_option linter.unusedVariables false

/-- What is wrong with a PDU. -/
def frChk (l : List Int) : Int := if l.length = 0 then 1 else if 253 < l.length then 2 else 0
/-- A frame on a stream: Id, Unit and PDU. -/
structure Tc where
  id : Int
  u : Int
  l : List Int
def Tc.zero : Tc := ⟨0, 0, []⟩
/-- Its numbers are numbers of 16 and 8 bits. -/
structure Tc.Wf (f : Tc) : Prop where
  id : 0 ≤ f.id ∧ f.id < 65536
  u : 0 ≤ f.u ∧ f.u < 256
  l : ∀ x ∈ f.l, (Lit.int .u8 x).wf = true
theorem Tc.zero_wf : Tc.zero.Wf := ⟨by simp [Tc.zero], by simp [Tc.zero], by simp [Tc.zero]⟩

/-- The seven bytes ahead of a PDU on a stream. -/
def frHead (f : Tc) : List Int := [f.id / 256, f.id % 256, 0, 0, (1 + (f.l.length : Int)) / 256, (1 + (f.l.length : Int)) % 256, f.u]
theorem frHead_length (f : Tc) : (frHead f).length = 7 := rfl
def frPut (f : Tc) : List Int := if frChk f.l = 0 then frHead f ++ f.l else []

/-- How many bytes a head says to follow. -/
def frSays (b : List Int) : Int := nth b 4 * 256 + nth b 5
def frBad (b : List Int) : Prop := nth b 2 ≠ 0 ∨ nth b 3 ≠ 0 ∨ frSays b < 2 ∨ 254 < frSays b
instance (b : List Int) : Decidable (frBad b) := by unfold frBad; infer_instance
/-- What is wrong with the frame that bytes begin with. -/
def frErr (b : List Int) : Int := if b.length < 7 then 1 else if frBad b then 4 else if (b.length : Int) - 6 < frSays b then 1 else 0
def frLen (b : List Int) : Nat := if frErr b = 0 then 6 + (frSays b).toNat else 0
def frGot (b : List Int) : Tc := if frErr b = 0 then ⟨nth b 0 * 256 + nth b 1, nth b 6, (b.take (6 + (frSays b).toNat)).drop 7⟩ else Tc.zero

theorem frErr_zero {b : List Int} (h : frErr b = 0) : 7 ≤ b.length ∧ nth b 2 = 0 ∧ nth b 3 = 0 ∧ 2 ≤ frSays b ∧ frSays b ≤ 254 ∧ 6 + frSays b ≤ b.length := by
  unfold frErr at h
  split at h
  · cases h
  · split at h
    · cases h
    · split at h
      · cases h
      · rename_i h1 h2 h3
        unfold frBad at h2
        refine ⟨by omega, ?_, ?_, ?_, ?_, by omega⟩ <;> (by_cases h4 : nth b 2 = 0 <;> by_cases h5 : nth b 3 = 0 <;> simp [h4, h5] at h2 <;> omega)
theorem frErr_mk {b : List Int} (h1 : 7 ≤ b.length) (h2 : nth b 2 = 0) (h3 : nth b 3 = 0) (h4 : 2 ≤ frSays b) (h5 : frSays b ≤ 254) (h6 : 6 + frSays b ≤ b.length) : frErr b = 0 := by
  unfold frErr
  rw [if_neg (by omega), if_neg (by unfold frBad; simp [h2, h3]; omega), if_neg (by omega)]
theorem frErr_cases (b : List Int) : frErr b = 0 ∨ frErr b = 1 ∨ frErr b = 4 := by
  unfold frErr
  split
  · simp
  · split
    · simp
    · split <;> simp
theorem frLen_le (b : List Int) : frLen b ≤ b.length := by
  unfold frLen
  split
  · rename_i h
    have := frErr_zero h
    omega
  · omega
theorem frLen_pos {b : List Int} (h : frErr b = 0) : 8 ≤ frLen b := by
  rw [frLen, if_pos h]
  have := frErr_zero h
  omega
theorem frGot_l {b : List Int} (h : frErr b = 0) : (frGot b).l = (b.take (frLen b)).drop 7 := by rw [frGot, frLen, if_pos h, if_pos h]
theorem frGot_len {b : List Int} (h : frErr b = 0) : (frGot b).l.length + 7 = frLen b := by
  have h1 := frErr_zero h
  have h2 := frLen_pos h
  have h3 := frLen_le b
  rw [frGot_l h, List.length_drop, List.length_take]
  omega
theorem wf_nth8 {b : List Int} (hb : ∀ x ∈ b, (Lit.int .u8 x).wf = true) (i : Nat) : 0 ≤ nth b i ∧ nth b i < 256 := by
  by_cases h : i < b.length
  · exact wf_u8 (hb _ (nth_mem _ _ h))
  · rw [nth, List.getD_eq_getElem?_getD, List.getElem?_eq_none (by omega)]
    exact ⟨Int.le_refl _, by decide⟩
theorem frGot_wf {b : List Int} (hb : ∀ x ∈ b, (Lit.int .u8 x).wf = true) : (frGot b).Wf := by
  unfold frGot
  split
  · have h0 := wf_nth8 hb 0
    have h1 := wf_nth8 hb 1
    have h6 := wf_nth8 hb 6
    exact ⟨by show 0 ≤ nth b 0 * 256 + nth b 1 ∧ nth b 0 * 256 + nth b 1 < 65536; omega, h6, fun x hx => hb x (List.mem_of_mem_take (List.mem_of_mem_drop hx))⟩
  · exact Tc.zero_wf
theorem frHead_wf {f : Tc} (hf : f.Wf) (hl : f.l.length ≤ 253) : ∀ x ∈ frHead f, (Lit.int .u8 x).wf = true := by
  have h1 := hf.id
  have h2 := hf.u
  intro x hx
  simp only [frHead, List.mem_cons, List.not_mem_nil, or_false] at hx
  have : 0 ≤ x ∧ x < 256 := by
    rcases hx with h | h | h | h | h | h | h <;> subst h <;> omega
  simp [Lit.wf, IntKind.min, IntKind.max, IntKind.signed, IntKind.bits]; omega
theorem frChk_le {l : List Int} (h : frChk l = 0) : 1 ≤ l.length ∧ l.length ≤ 253 := by
  unfold frChk at h
  split at h
  · cases h
  · split at h
    · cases h
    · omega
theorem frPut_wf {f : Tc} (hf : f.Wf) : ∀ x ∈ frPut f, (Lit.int .u8 x).wf = true := by
  unfold frPut
  split
  · rename_i h
    exact wf_append (frHead_wf hf (frChk_le h).2) hf.l
  · simp
theorem frPut_length {f : Tc} (h : frChk f.l = 0) : (frPut f).length = 7 + f.l.length := by
  rw [frPut, if_pos h, List.length_append, frHead_length]

theorem nth_head (f : Tc) (l : List Int) (i : Nat) (h : i < 7) : nth (frHead f ++ l) i = nth (frHead f) i := nth_left _ _ _ (by rw [frHead_length]; exact h)
/-- What is put is got, whatever stands behind it. -/
theorem frBack {f : Tc} (hf : f.Wf) (h : frChk f.l = 0) (more : List Int) : frErr (frPut f ++ more) = 0 ∧ frLen (frPut f ++ more) = 7 + f.l.length ∧ frGot (frPut f ++ more) = f := by
  have hl := frChk_le h
  have e : frPut f ++ more = frHead f ++ (f.l ++ more) := by rw [frPut, if_pos h, List.append_assoc]
  have hs : frSays (frPut f ++ more) = 1 + (f.l.length : Int) := by
    rw [e, frSays, nth_head _ _ _ (by omega), nth_head _ _ _ (by omega)]
    show (1 + (f.l.length : Int)) / 256 * 256 + (1 + (f.l.length : Int)) % 256 = _
    omega
  have h0 : frErr (frPut f ++ more) = 0 := by
    refine frErr_mk ?_ ?_ ?_ (by omega) (by omega) ?_
    · rw [e, List.length_append, frHead_length]; omega
    · rw [e, nth_head _ _ _ (by omega)]; rfl
    · rw [e, nth_head _ _ _ (by omega)]; rfl
    · rw [hs, e, List.length_append, List.length_append, frHead_length]; omega
  have h1 : frLen (frPut f ++ more) = 7 + f.l.length := by rw [frLen, if_pos h0, hs]; omega
  refine ⟨h0, h1, ?_⟩
  have hl2 : (frGot (frPut f ++ more)).l = f.l := by
    rw [frGot_l h0, h1, e, ← List.append_assoc, List.take_left' (by rw [List.length_append, frHead_length]), List.drop_left' (frHead_length f)]
  have hid : (frGot (frPut f ++ more)).id = f.id := by
    rw [frGot, if_pos h0, e]
    show nth (frHead f ++ (f.l ++ more)) 0 * 256 + nth (frHead f ++ (f.l ++ more)) 1 = f.id
    rw [nth_head _ _ _ (by omega), nth_head _ _ _ (by omega)]
    show f.id / 256 * 256 + f.id % 256 = f.id
    omega
  have hu : (frGot (frPut f ++ more)).u = f.u := by
    rw [frGot, if_pos h0, e]
    show nth (frHead f ++ (f.l ++ more)) 6 = f.u
    rw [nth_head _ _ _ (by omega)]
    rfl
  generalize frGot (frPut f ++ more) = g at *
  cases g; cases f
  simp only at hl2 hid hu
  subst hl2 hid hu
  rfl
theorem drop_split (b : List Int) (h : 7 ≤ b.length) : b = [nth b 0, nth b 1, nth b 2, nth b 3, nth b 4, nth b 5, nth b 6] ++ b.drop 7 := by
  match b, h with
  | a0 :: a1 :: a2 :: a3 :: a4 :: a5 :: a6 :: t, _ => rfl
/-- What is got is put as the bytes that it was. -/
theorem frOnly {b : List Int} (hb : ∀ x ∈ b, (Lit.int .u8 x).wf = true) (h : frErr b = 0) : frChk (frGot b).l = 0 ∧ frPut (frGot b) = b.take (frLen b) := by
  have h1 := frErr_zero h
  have h2 := frLen_pos h
  have h3 := frGot_len h
  have h4 : (frLen b : Int) = 6 + frSays b := by rw [frLen, if_pos h]; omega
  have hc : frChk (frGot b).l = 0 := by unfold frChk; rw [if_neg (by omega), if_neg (by omega)]
  refine ⟨hc, ?_⟩
  have b0 := wf_nth8 hb 0
  have b1 := wf_nth8 hb 1
  have b4 := wf_nth8 hb 4
  have b5 := wf_nth8 hb 5
  have hid : (frGot b).id = nth b 0 * 256 + nth b 1 := by rw [frGot, if_pos h]
  have hu : (frGot b).u = nth b 6 := by rw [frGot, if_pos h]
  have hs : 1 + ((frGot b).l.length : Int) = frSays b := by omega
  have e := drop_split b h1.1
  rw [frPut, if_pos hc, frHead, hid, hu, hs, frGot_l h]
  have e2 : b.take (frLen b) = [nth b 0, nth b 1, nth b 2, nth b 3, nth b 4, nth b 5, nth b 6] ++ (b.take (frLen b)).drop 7 := by
    have hlen : 7 ≤ (b.take (frLen b)).length := by rw [List.length_take]; have := frLen_le b; omega
    have e3 := drop_split (b.take (frLen b)) hlen
    have hn : ∀ i, i < 7 → nth (b.take (frLen b)) i = nth b i := by
      intro i hi
      rw [nth, nth, List.getD_eq_getElem?_getD, List.getD_eq_getElem?_getD, List.getElem?_take_of_lt (by omega)]
    rw [hn 0 (by omega), hn 1 (by omega), hn 2 (by omega), hn 3 (by omega), hn 4 (by omega), hn 5 (by omega), hn 6 (by omega)] at e3
    exact e3
  rw [e2, h1.2.1, h1.2.2.1]
  unfold frSays
  rw [show (nth b 0 * 256 + nth b 1) / 256 = nth b 0 by omega, show (nth b 0 * 256 + nth b 1) % 256 = nth b 1 by omega, show (nth b 4 * 256 + nth b 5) / 256 = nth b 4 by omega, show (nth b 4 * 256 + nth b 5) % 256 = nth b 5 by omega]
  simp

/-- A stream is split: into its whole frames, so many bytes, and an error. -/
inductive Spl : List Int → List Tc → Nat → Int → Prop
  | stop (b : List Int) (h : frErr b ≠ 0) : Spl b [] 0 (if frErr b = 1 then 0 else frErr b)
  | step (b : List Int) (h : frErr b = 0) {l : List Tc} {n : Nat} {e : Int} (r : Spl (b.drop (frLen b)) l n e) : Spl b (frGot b :: l) (frLen b + n) e
theorem Spl.one {b : List Int} {l : List Tc} {n : Nat} {e : Int} (h : Spl b l n e) : ∀ {l' : List Tc} {n' : Nat} {e' : Int}, Spl b l' n' e' → l = l' ∧ n = n' ∧ e = e' := by
  induction h with
  | stop b h =>
    intro l' n' e' h'
    cases h' with
    | stop => exact ⟨rfl, rfl, rfl⟩
    | step _ h0 r => exact absurd h0 h
  | step b h r ih =>
    intro l' n' e' h'
    cases h' with
    | stop _ h0 => exact absurd h h0
    | step _ _ r' =>
      obtain ⟨h1, h2, h3⟩ := ih r'
      subst h1 h2 h3
      exact ⟨rfl, rfl, rfl⟩
theorem Spl.some (b : List Int) : ∃ l n e, Spl b l n e := by
  generalize hk : b.length = k
  induction k using Nat.strongRecOn generalizing b with
  | ind k ih =>
    by_cases h : frErr b = 0
    · have h2 := frLen_pos h
      have h3 := frLen_le b
      obtain ⟨l, n, e, r⟩ := ih (b.drop (frLen b)).length (by rw [List.length_drop]; omega) (b.drop (frLen b)) rfl
      exact ⟨_, _, _, .step b h r⟩
    · exact ⟨_, _, _, .stop b h⟩
/-- The frames ahead of a place have been split off. -/
def SplPre (b : List Int) (out : List Tc) (k : Nat) : Prop := k ≤ b.length ∧ ∀ l n e, Spl (b.drop k) l n e → Spl b (out ++ l) (k + n) e
theorem SplPre.zero (b : List Int) : SplPre b [] 0 := ⟨by omega, fun l n e h => by rw [Nat.zero_add]; exact h⟩
theorem SplPre.step {b : List Int} {out : List Tc} {k : Nat} (h : SplPre b out k) (h0 : frErr (b.drop k) = 0) : SplPre b (out ++ [frGot (b.drop k)]) (k + frLen (b.drop k)) := by
  have hl := frLen_le (b.drop k)
  have hk := h.1
  rw [List.length_drop] at hl
  refine ⟨by omega, fun l n e hr => ?_⟩
  rw [List.append_assoc, Nat.add_assoc]
  refine h.2 _ _ _ ?_
  exact .step _ h0 (by rw [List.drop_drop]; exact hr)
theorem SplPre.stop {b : List Int} {out : List Tc} {k : Nat} (h : SplPre b out k) (h0 : frErr (b.drop k) ≠ 0) : Spl b out k (if frErr (b.drop k) = 1 then 0 else frErr (b.drop k)) := by
  have := h.2 _ _ _ (.stop _ h0)
  rw [List.append_nil] at this
  exact this
theorem Spl.wf {b : List Int} {l : List Tc} {n : Nat} {e : Int} (h : Spl b l n e) : (∀ x ∈ b, (Lit.int .u8 x).wf = true) → ∀ f ∈ l, f.Wf := by
  induction h with
  | stop => intro _ f hf; cases hf
  | step b h r ih =>
    intro hb f hf
    rcases List.mem_cons.1 hf with hf | hf
    · subst hf; exact frGot_wf hb
    · exact ih (fun x hx => hb x (List.mem_of_mem_drop hx)) f hf
theorem Spl.le {b : List Int} {l : List Tc} {n : Nat} {e : Int} (h : Spl b l n e) : n ≤ b.length ∧ 8 * l.length ≤ n := by
  induction h with
  | stop => simp
  | step b h r ih =>
    have h1 := frLen_le b
    have h2 := frLen_pos h
    rw [List.length_drop] at ih
    rw [List.length_cons]
    omega
theorem Spl.chk {b : List Int} {l : List Tc} {n : Nat} {e : Int} (h : Spl b l n e) : (∀ x ∈ b, (Lit.int .u8 x).wf = true) → ∀ f ∈ l, frChk f.l = 0 := by
  induction h with
  | stop => intro _ f hf; cases hf
  | step b h r ih =>
    intro hb f hf
    rcases List.mem_cons.1 hf with hf | hf
    · subst hf; exact (frOnly hb h).1
    · exact ih (fun x hx => hb x (List.mem_of_mem_drop hx)) f hf
/-- The frames one behind the other. -/
def frAll : List Tc → List Int
  | [] => []
  | f :: l => frPut f ++ frAll l
theorem Spl.back {b : List Int} {l : List Tc} {n : Nat} {e : Int} (h : Spl b l n e) : (∀ x ∈ b, (Lit.int .u8 x).wf = true) → frAll l = b.take n := by
  induction h with
  | stop => intro _; simp [frAll]
  | step b h r ih =>
    intro hb
    rw [frAll, (frOnly hb h).2, ih (fun x hx => hb x (List.mem_of_mem_drop hx)), List.take_add]
theorem frAll_append (l m : List Tc) : frAll (l ++ m) = frAll l ++ frAll m := by
  induction l with
  | nil => rfl
  | cons f l ih => rw [List.cons_append, frAll, frAll, ih, List.append_assoc]

theorem nthTake (b : List Int) (k i : Nat) (h : i < k) : nth (b.take k) i = nth b i := by
  rw [nth, nth, List.getD_eq_getElem?_getD, List.getD_eq_getElem?_getD, List.getElem?_take_of_lt h]
theorem frSays_take (b : List Int) (k : Nat) (h : 7 ≤ k) : frSays (b.take k) = frSays b := by
  rw [frSays, frSays, nthTake _ _ _ (by omega), nthTake _ _ _ (by omega)]
/-- What is whole in a beginning is whole. -/
theorem frErr_take {b : List Int} {k : Nat} (h : frErr (b.take k) = 0) : frErr b = 0 ∧ frLen (b.take k) = frLen b ∧ frGot (b.take k) = frGot b ∧ frLen b ≤ k := by
  have h1 := frErr_zero h
  have hk : 7 ≤ k := by have := h1.1; rw [List.length_take] at this; omega
  rw [frSays_take b k hk, nthTake _ _ _ (by omega), nthTake _ _ _ (by omega), List.length_take] at h1
  have h0 : frErr b = 0 := frErr_mk (by omega) h1.2.1 h1.2.2.1 h1.2.2.2.1 h1.2.2.2.2.1 (by omega)
  refine ⟨h0, ?_, ?_, ?_⟩
  · rw [frLen, frLen, if_pos h, if_pos h0, frSays_take b k hk]
  · rw [frGot, frGot, if_pos h, if_pos h0, frSays_take b k hk, nthTake _ _ _ (by omega), nthTake _ _ _ (by omega), nthTake _ _ _ (by omega), List.take_take, Nat.min_eq_left (by omega)]
  · rw [frLen, if_pos h0]; omega
theorem frErr_take4 {b : List Int} {k : Nat} (h : frErr (b.take k) = 4) : frErr b = 4 := by
  unfold frErr at h
  split at h
  · cases h
  · rename_i h7
    rw [List.length_take] at h7
    have hk : 7 ≤ k := by omega
    split at h
    · rename_i hb
      unfold frErr
      rw [if_neg (by omega), if_pos]
      unfold frBad at hb ⊢
      rw [frSays_take b k hk, nthTake _ _ _ (by omega), nthTake _ _ _ (by omega)] at hb
      exact hb
    · split at h <;> cases h
theorem drop_take_sub (b : List Int) (k m : Nat) : (b.take k).drop m = (b.drop m).take (k - m) := by rw [List.drop_take]
/-- The first piece of a stream. -/
theorem Spl.piece {x : List Int} {l : List Tc} {n : Nat} {e : Int} (h : Spl x l n e) : ∀ (b : List Int) (k : Nat), x = b.take k → (e = 0 → SplPre b l n) ∧ (e ≠ 0 → Spl b l n e) := by
  induction h with
  | stop x h =>
    intro b k hx
    subst hx
    refine ⟨fun _ => SplPre.zero b, fun he => ?_⟩
    rcases frErr_cases (b.take k) with h0 | h0 | h0
    · exact absurd h0 h
    · rw [if_pos h0] at he; exact absurd rfl he
    · have h4 := frErr_take4 h0
      rw [if_neg (by rw [h0]; decide), h0]
      have := Spl.stop b (by rw [h4]; decide)
      rw [if_neg (by rw [h4]; decide), h4] at this
      exact this
  | step x h r ih =>
    intro b k hx
    subst hx
    obtain ⟨h0, h1, h2, h3⟩ := frErr_take h
    obtain ⟨i1, i2⟩ := ih (b.drop (frLen b)) (k - frLen b) (by rw [h1, drop_take_sub])
    rw [h1, h2]
    have hle := frLen_le b
    refine ⟨fun he => ?_, fun he => .step b h0 (i2 he)⟩
    obtain ⟨j1, j2⟩ := i1 he
    rw [List.length_drop] at j1
    refine ⟨by omega, fun l' n' e' hr => ?_⟩
    rw [List.cons_append, Nat.add_assoc]
    exact .step b h0 (j2 l' n' e' (by rw [List.drop_drop]; exact hr))
theorem Spl.err {b : List Int} {l : List Tc} {n : Nat} {e : Int} (h : Spl b l n e) : e = 0 ∨ e = 4 := by
  induction h with
  | stop b h =>
    rcases frErr_cases b with h0 | h0 | h0
    · exact absurd h0 h
    · left; rw [if_pos h0]
    · right; rw [if_neg (by rw [h0]; decide), h0]
  | step b h r ih => exact ih
end Go.Proofs.Ytmbjcmagadekpaa
