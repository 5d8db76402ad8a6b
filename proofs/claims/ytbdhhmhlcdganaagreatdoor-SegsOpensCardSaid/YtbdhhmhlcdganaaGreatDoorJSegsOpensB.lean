/-
  Texts of the proof of SegsOpens, joined.
-/
import Derived.Test.YtbdhhmhlcdganaaGreatDoorJSegsOpensA
import Derived.Laws.AppendOwn
import Derived.Laws.CopyOwn
import Derived.Maps.AppendAt
import Derived.Deep.AppendLies
import Derived.Deep.RegionHeld3
import Derived.Test.YtbdhhmhlcdganaaGreatDoorProg
import Derived.Lib.Bytes
import Derived.IntWalk
namespace Go.Proofs.YtbdhhmhlcdganaaGreatDoor

def dn (p r : Nat) : Nat := if r % 2 = 1 then r / 2 ^^^ p else r / 2
def dnN (p : Nat) : Nat → Nat → Nat
  | 0, r => r
  | k + 1, r => dn p (dnN p k r)
def tk (p r v : Nat) : Nat := dnN p 8 (r ^^^ v)
def tkAll (p r : Nat) (l : List Int) : Nat := l.foldl (fun r v => tk p r v.toNat) r

theorem tkAll_snoc (p r : Nat) (l : List Int) (v : Int) : tkAll p r (l ++ [v]) = tk p (tkAll p r l) v.toNat := by simp [tkAll]
theorem dn_lt {p b r : Nat} (hp : p < 2 ^ b) (hr : r < 2 ^ b) : dn p r < 2 ^ b := by
  unfold dn
  split
  · exact Nat.xor_lt_two_pow (by omega) hp
  · omega
theorem dnN_lt {p b r : Nat} (hp : p < 2 ^ b) (hr : r < 2 ^ b) (k : Nat) : dnN p k r < 2 ^ b := by
  induction k with
  | zero => exact hr
  | succ k ih => exact dn_lt hp ih
theorem tk_lt {p b r v : Nat} (hp : p < 2 ^ b) (hr : r < 2 ^ b) (hv : v < 2 ^ b) : tk p r v < 2 ^ b := dnN_lt hp (Nat.xor_lt_two_pow hr hv) 8
theorem tkAll_lt {p b r : Nat} (hp : p < 2 ^ b) (hr : r < 2 ^ b) (h8 : 256 ≤ 2 ^ b) (l : List Int) (hl : ∀ v ∈ l, v.toNat < 256) : tkAll p r l < 2 ^ b := by
  induction l generalizing r with
  | nil => exact hr
  | cons v l ih => exact ih (tk_lt hp hr (Nat.lt_of_lt_of_le (hl v (by simp)) h8)) fun x hx => hl x (by simp [hx])

/- Linearity: what is laid over goes through. -/
/- No two registers go down to the same: the sum's own number has its highest bit. -/
end Go.Proofs.YtbdhhmhlcdganaaGreatDoor
namespace Go.Proofs.YtbdhhmhlcdganaaGreatDoor
open Go.RowKit

theorem cast_inj {k : IntKind} {a b : Int} (h : a = b) : Ending.returned (.int k a) = .returned (.int k b) := by rw [h]
theorem toNat_u8 {xs : List Int} (h : ∀ x ∈ xs, (Lit.int .u8 x).wf = true) : ∀ x ∈ xs, x.toNat < 256 := fun x hx => by have := wf_u8 (h x hx); omega

end Go.Proofs.YtbdhhmhlcdganaaGreatDoor
namespace Go.Proofs.YtbdhhmhlcdganaaGreatDoor
open Go.RowKit
theorem and1_32 (r : Nat) (hr : r < 4294967296) : bits .and .u32 (r : Int) 1 = ((r % 2 : Nat) : Int) := by
  have := u32_and_nat r 1 hr (by omega)
  rw [nat_mask1] at this
  exact this
theorem xor_32 (a b : Nat) (ha : a < 4294967296) (hb : b < 4294967296) : bits .xor .u32 (a : Int) (b : Int) = ((a ^^^ b : Nat) : Int) := u32_xor_nat a b ha hb

theorem down_32 (r o : Nat) (hr : r < 4294967296) (ho : o < 4294967296) (w : World) :
    Calls Tryz.prog 183 #[.int .u32 r, .int .u32 o] w fun e w' => e = .returned (.int .u32 (dn o r : Nat)) ∧ w = w' := by
  by_cases h : r % 2 = 1
  · have ht : (bits .and .u32 (r : Int) 1 == 1) = true := by rw [and1_32 r hr, h]; rfl
    have hx : Hid (bits .xor .u32 ((r : Int) / 2) o = ((dn o r : Nat) : Int)) := by
      have := xor_32 (r / 2) o (by omega) ho
      show _ = _
      rw [dn, if_pos h, ← this]; rfl
    clear h
    go_enter Tryz.func183, Tryz.ntmps183
    go_wp2
    go_ret
    exact ⟨cast_inj hx.out, rfl⟩
  · have ht : (bits .and .u32 (r : Int) 1 == 1) = false := by rw [and1_32 r hr, show r % 2 = 0 by omega]; rfl
    have hx : Hid ((r : Int) / 2 = ((dn o r : Nat) : Int)) := by
      show _ = _
      rw [dn, if_neg h]; rfl
    clear h
    go_enter Tryz.func183, Tryz.ntmps183
    go_wp2
    go_ret
    exact ⟨cast_inj hx.out, rfl⟩

theorem take_32 (r o : Nat) (v : Int) (hr : r < 4294967296) (ho : o < 4294967296) (hv : (Lit.int .u8 v).wf = true) (w : World) :
    Calls Tryz.prog 173 #[.int .u32 r, .int .u32 o, .int .u8 v] w fun e w' => e = .returned (.int .u32 (tk o r v.toNat : Nat)) ∧ w = w' := by
  have hv' := wf_u8 hv
  obtain ⟨v, rfl⟩ := Int.eq_ofNat_of_zero_le hv'.1
  have hv2 : v < 256 := by omega
  have hx := xor_32 r v hr (by omega)
  clear hv hv'
  go_enter Tryz.func173, Tryz.ntmps173
  go_wp2
  go_loop [0, 11] (fun t i => ∃ k : Nat, k ≤ 8 ∧ i = .int .i64 k ∧ t = .int .u32 (dnN o k (r ^^^ v) : Nat)) (fun _ i => 8 - (intOf i).toNat)
  case atStart => exact ⟨0, by omega, rfl, rfl⟩
  case round =>
    obtain ⟨k, hk, rfl, rfl⟩ := hrel
    by_cases hlt : k < 8
    · have hb : dnN o k (r ^^^ v) < 4294967296 := dnN_lt (b := 32) ho (Nat.xor_lt_two_pow hr (by omega)) k
      go_wp2_with (go_at_call 183; refine (down_32 _ _ hb ho _).mono ?_; rintro e w' ⟨rfl, rfl⟩)
      go_round
      case rel => exact ⟨k + 1, by omega, by go_num, rfl⟩
      case measure => simp [intOf]; omega
    · obtain rfl : k = 8 := by omega
      go_wp2
      go_ret
      exact ⟨rfl, rfl⟩

theorem takeAll_32 (r o : Nat) (A : Option Addr) (n c : Nat) (xs : List Int) (hr : r < 4294967296) (ho : o < 4294967296) (w : World) (B : Nat) (hx : Row .u8 w B A xs) (hn : xs.length = n) (hm : n ≤ 140737488355328) :
    Calls Tryz.prog 149 #[.int .u32 r, .int .u32 o, .slice A n c] w fun e w' => e = .returned (.int .u32 (tkAll o r xs : Nat)) ∧ w = w' := by
  go_enter Tryz.func149, Tryz.ntmps149
  go_wp2
  go_loop [0, 11] (fun t i => ∃ k : Nat, k ≤ n ∧ i = .int .i64 k ∧ t = .int .u32 (tkAll o r (xs.take k) : Nat)) (fun _ i => n - (intOf i).toNat)
  case atStart => exact ⟨0, by omega, rfl, rfl⟩
  case round =>
    obtain ⟨k, hk, rfl, rfl⟩ := hrel
    by_cases hlt : k < n
    · obtain ⟨b, of, rfl, hb1, hc1⟩ := hx.at_ (i := k) (by omega)
      have hwf := hx.wf_at (i := k) (by omega)
      have hb : tkAll o r (xs.take k) < 4294967296 := tkAll_lt (b := 32) ho hr (by decide) _ fun x hm => toNat_u8 hx.1 x (List.mem_of_mem_take hm)
      have HS := Lib.hid (tkAll_snoc o r (xs.take k) (nth xs k))
      rw [← take_step xs k (by omega)] at HS
      go_wp2_with (go_at_call 173; refine (take_32 _ _ _ hb ho hwf _).mono ?_; rintro e w' ⟨rfl, rfl⟩)
      go_round
      case rel => exact ⟨k + 1, by omega, by go_num, by rw [HS.out]⟩
      case measure => simp [intOf]; omega
    · have hl : Hid (xs.take k = xs) := List.take_of_length_le (by omega)
      go_wp2
      go_ret
      exact ⟨cast_inj (by rw [hl.out]), rfl⟩

theorem not_32 (r : Nat) (hr : r < 4294967296) : bits .xor .u32 IntKind.u32.max (r : Int) = ((4294967295 ^^^ r : Nat) : Int) := u32_xor_nat 4294967295 r (by omega) hr
theorem not_lt_32 {r : Nat} (hr : r < 4294967296) : 4294967295 ^^^ r < 4294967296 := Nat.xor_lt_two_pow (n := 32) (by omega) hr
def more32 (r : Nat) (xs : List Int) : Nat := 4294967295 ^^^ tkAll 3988292384 (4294967295 ^^^ r) xs
theorem more32_lt (r : Nat) (xs : List Int) (hr : r < 4294967296) (h : ∀ x ∈ xs, (Lit.int .u8 x).wf = true) : more32 r xs < 4294967296 :=
  not_lt_32 (tkAll_lt (b := 32) (by decide) (not_lt_32 hr) (by decide) _ (toNat_u8 h))
theorem signed_32 : IntKind.u32.signed = false := rfl
theorem more_32 (r : Nat) (A : Option Addr) (n c : Nat) (xs : List Int) (hr : r < 4294967296) (w : World) (B : Nat) (hx : Row .u8 w B A xs) (hn : xs.length = n) (hm : n ≤ 140737488355328) :
    Calls Tryz.prog 111 #[.int .u32 r, .slice A n c] w fun e w' => e = .returned (.int .u32 (more32 r xs : Nat)) ∧ w = w' := by
  have hs := signed_32
  have h1 := not_32 r hr
  have h3 := not_lt_32 hr
  have h2 := not_32 _ (tkAll_lt (b := 32) (p := 3988292384) (r := 4294967295 ^^^ r) (by decide) h3 (by decide) xs (toNat_u8 hx.1))
  go_enter Tryz.func111, Tryz.ntmps111
  go_wp2_with (go_at_call 149; refine (takeAll_32 (4294967295 ^^^ r) 3988292384 _ _ _ xs h3 (by omega) _ B hx hn hm).mono ?_; rintro e w' ⟨rfl, rfl⟩)
  go_ret
  exact ⟨rfl, rfl⟩
theorem crc_32 (A : Option Addr) (n c : Nat) (xs : List Int) (w : World) (B : Nat) (hx : Row .u8 w B A xs) (hn : xs.length = n) (hm : n ≤ 140737488355328) :
    Calls Tryz.prog 112 #[.slice A n c] w fun e w' => e = .returned (.int .u32 (more32 0 xs : Nat)) ∧ w = w' := by
  go_enter Tryz.func112, Tryz.ntmps112
  go_wp2_with (go_at_call 111; refine (more_32 0 _ _ _ xs (by omega) _ B hx hn hm).mono ?_; rintro e w' ⟨rfl, rfl⟩)
  go_ret
  exact ⟨rfl, rfl⟩

end Go.Proofs.YtbdhhmhlcdganaaGreatDoor
namespace Go.Proofs.YtbdhhmhlcdganaaGreatDoor
open Go.RowKit
set_option linter.unusedVariables false
set_option maxRecDepth 100000

def ckH (n : Nat) : List Int := [((n / 256 : Nat) : Int), ((n % 256 : Nat) : Int)]
def be4 (s : Nat) : List Int := [((s / 16777216 % 256 : Nat) : Int), ((s / 65536 % 256 : Nat) : Int), ((s / 256 % 256 : Nat) : Int), ((s % 256 : Nat) : Int)]
def ckS (p : List Int) : Nat := more32 (more32 0 (ckH p.length)) p
def ckL (p : List Int) : List Int := ckH p.length ++ (be4 (ckS p) ++ p)
def ckPE (p : List Int) : Int := if 1024 < p.length then 2 else 0
def ckPut (p : List Int) : List Int := if 1024 < p.length then [] else ckL p
def ckN (b : List Int) : Nat := (nth b 0).toNat * 256 + (nth b 1).toNat
def ckP (b : List Int) : List Int := (b.drop 6).take (ckN b)
def ckE (b : List Int) : Int := if b.length < 6 then 1 else if 1024 < ckN b then 2 else if b.length < 6 + ckN b then 1 else if (b.drop 2).take 4 = be4 (ckS (ckP b)) then 0 else 5
def ckG (b : List Int) : List Int := if ckE b = 0 then ckP b else []
def ckM (b : List Int) : Nat := if ckE b = 0 then 6 + ckN b else 0
def ckSc : Nat → List Int → List (List Int) × Nat
  | 0, _ => ([], 0)
  | f + 1, b => if ckE b = 0 then (ckP b :: (ckSc f (b.drop (6 + ckN b))).1, 6 + ckN b + (ckSc f (b.drop (6 + ckN b))).2) else ([], 0)
theorem ckL_len (p : List Int) : (ckL p).length = 6 + p.length := by simp [ckL, ckH, be4]; omega
theorem be4_wf (s : Nat) : ∀ x ∈ be4 s, (Lit.int .u8 x).wf = true := by
  intro x hx
  simp only [be4, List.mem_cons, List.not_mem_nil, or_false] at hx
  rcases hx with rfl | rfl | rfl | rfl <;> exact wf_byte _ (Nat.mod_lt _ (by omega))
theorem ckH_wf {n : Nat} (h : n < 65536) : ∀ x ∈ ckH n, (Lit.int .u8 x).wf = true := by
  intro x hx
  simp only [ckH, List.mem_cons, List.not_mem_nil, or_false] at hx
  rcases hx with rfl | rfl
  · exact wf_byte _ (by omega)
  · exact wf_byte _ (Nat.mod_lt _ (by omega))
theorem ckL_wf {p : List Int} (h : p.length < 65536) (hp : ∀ x ∈ p, (Lit.int .u8 x).wf = true) : ∀ x ∈ ckL p, (Lit.int .u8 x).wf = true := fun x hx => (List.mem_append.1 hx).elim (ckH_wf h x) (fun hx => (List.mem_append.1 hx).elim (be4_wf _ x) (hp x))
theorem ckE_zero {b : List Int} : ckE b = 0 ↔ 6 ≤ b.length ∧ ckN b ≤ 1024 ∧ 6 + ckN b ≤ b.length ∧ (b.drop 2).take 4 = be4 (ckS (ckP b)) := by
  unfold ckE
  constructor
  · intro h
    split at h
    · exact absurd h (by decide)
    split at h
    · exact absurd h (by decide)
    split at h
    · exact absurd h (by decide)
    split at h
    · exact ⟨by omega, by omega, by omega, by assumption⟩
    · exact absurd h (by decide)
  · rintro ⟨h1, h2, h3, h4⟩
    rw [if_neg (by omega), if_neg (by omega), if_neg (by omega), if_pos h4]
theorem ckN_put {p more : List Int} : ckN (ckL p ++ more) = p.length := by
  have e0 : nth (ckL p ++ more) 0 = ((p.length / 256 : Nat) : Int) := rfl
  have e1 : nth (ckL p ++ more) 1 = ((p.length % 256 : Nat) : Int) := rfl
  unfold ckN
  rw [e0, e1, Int.toNat_natCast, Int.toNat_natCast]
  omega
theorem ckP_put {p more : List Int} : ckP (ckL p ++ more) = p := by
  unfold ckP
  rw [ckN_put]
  show List.take p.length (p ++ more) = p
  simp
theorem ck_back {p : List Int} (hp : p.length ≤ 1024) (more : List Int) : ckE (ckL p ++ more) = 0 ∧ ckG (ckL p ++ more) = p ∧ ckM (ckL p ++ more) = 6 + p.length := by
  have h : ckE (ckL p ++ more) = 0 := by
    rw [ckE_zero, ckN_put, ckP_put]
    refine ⟨?_, hp, ?_, rfl⟩
    · rw [List.length_append, ckL_len]; omega
    · rw [List.length_append, ckL_len]; omega
  unfold ckG ckM
  rw [if_pos h, if_pos h, ckN_put, ckP_put]
  exact ⟨h, rfl, rfl⟩
theorem ckP_len {b : List Int} (h : ckE b = 0) : (ckP b).length = ckN b := by
  obtain ⟨_, _, h3, _⟩ := ckE_zero.1 h
  unfold ckP
  rw [List.length_take, List.length_drop]
  omega
theorem ck_only {b : List Int} (h : ckE b = 0) (hb : ∀ x ∈ b, (Lit.int .u8 x).wf = true) : b = ckL (ckP b) ++ b.drop (6 + ckN b) := by
  have hl := ckP_len h
  obtain ⟨h1, h2, h3, h4⟩ := ckE_zero.1 h
  have hp : ckP b ++ b.drop (6 + ckN b) = b.drop 6 := by
    unfold ckP
    rw [← List.drop_drop, List.take_append_drop]
  unfold ckL
  rw [hl, ← h4]
  match b, h1, hb with
  | b0 :: b1 :: t, h1, hb =>
    have w0 := wf_u8 (hb b0 (by simp))
    have w1 := wf_u8 (hb b1 (by simp))
    have hn : ckN (b0 :: b1 :: t) = b0.toNat * 256 + b1.toNat := rfl
    have e0 : (((b0.toNat * 256 + b1.toNat) / 256 : Nat) : Int) = b0 := by omega
    have e1 : (((b0.toNat * 256 + b1.toNat) % 256 : Nat) : Int) = b1 := by omega
    have hH : ckH (ckN (b0 :: b1 :: t)) = [b0, b1] := by rw [hn]; unfold ckH; rw [e0, e1]
    rw [hH, List.append_assoc, List.append_assoc, hp]
    show b0 :: b1 :: t = b0 :: b1 :: (List.take 4 t ++ List.drop 4 t)
    rw [List.take_append_drop]
def ckAll (l : List (List Int)) : List Int := l.flatMap ckL
theorem ckSc_len (f : Nat) (b : List Int) : (ckSc f b).2 ≤ b.length := by
  induction f generalizing b with
  | zero => exact Nat.zero_le _
  | succ f ih =>
    unfold ckSc
    split
    · rename_i h
      obtain ⟨_, _, h3, _⟩ := ckE_zero.1 h
      have := ih (b.drop (6 + ckN b))
      rw [List.length_drop] at this
      simp only
      omega
    · exact Nat.zero_le _
theorem ckSc_all (f : Nat) (b : List Int) (hb : ∀ x ∈ b, (Lit.int .u8 x).wf = true) : ckAll (ckSc f b).1 = b.take (ckSc f b).2 := by
  induction f generalizing b with
  | zero => simp [ckSc, ckAll]
  | succ f ih =>
    unfold ckSc
    split
    · rename_i h
      have hd : ∀ x ∈ b.drop (6 + ckN b), (Lit.int .u8 x).wf = true := fun x hx => hb x (List.mem_of_mem_drop hx)
      have := ih _ hd
      have ho := ck_only h hb
      have hl := ckP_len h
      simp only
      unfold ckAll at this ⊢
      rw [List.flatMap_cons, this]
      generalize (ckSc f (b.drop (6 + ckN b))).2 = m
      have key : List.take (6 + ckN b + m) (ckL (ckP b) ++ b.drop (6 + ckN b)) = ckL (ckP b) ++ List.take m (b.drop (6 + ckN b)) := by
        rw [List.take_append, List.take_of_length_le (by rw [ckL_len, hl]; omega), ckL_len, hl]
        congr 2
        omega
      rw [← key]
      exact congrArg (List.take _) ho.symm
    · simp [ckAll]
theorem ckSc_back (l : List (List Int)) (hl : ∀ p ∈ l, p.length ≤ 1024) (t : List Int) (ht : ckE t ≠ 0) (f : Nat) (hf : l.length < f) : ckSc f (ckAll l ++ t) = (l, (ckAll l).length) := by
  induction l generalizing f with
  | nil =>
    obtain ⟨f, rfl⟩ := Nat.exists_eq_succ_of_ne_zero (show f ≠ 0 by omega)
    show ckSc (f + 1) t = _
    unfold ckSc
    rw [if_neg ht]
    rfl
  | cons p l ih =>
    obtain ⟨f, rfl⟩ := Nat.exists_eq_succ_of_ne_zero (show f ≠ 0 by omega)
    have e : ckAll (p :: l) ++ t = ckL p ++ (ckAll l ++ t) := by unfold ckAll; rw [List.flatMap_cons, List.append_assoc]
    obtain ⟨h1, _, _⟩ := ck_back (hl p (by simp)) (ckAll l ++ t)
    have hd : (ckL p ++ (ckAll l ++ t)).drop (6 + p.length) = ckAll l ++ t := by
      rw [← ckL_len p, List.drop_left]
    rw [e]
    show ckSc (f + 1) _ = _
    unfold ckSc
    rw [if_pos h1, ckP_put, ckN_put, hd, ih (fun q hq => hl q (by simp [hq])) f (by simp at hf; omega)]
    have : (ckAll (p :: l)).length = 6 + p.length + (ckAll l).length := by unfold ckAll; rw [List.flatMap_cons, List.length_append, ckL_len]
    rw [this]
theorem ckE_cut {p : List Int} {m : Nat} (hm : m < 6 + p.length) : ckE ((ckL p).take m) ≠ 0 := by
  intro h
  obtain ⟨h1, _, h3, _⟩ := ckE_zero.1 h
  rw [List.length_take, ckL_len] at h1 h3
  have hn : ckN ((ckL p).take m) = p.length := by
    have : (ckL p).take m = ((p.length / 256 : Nat) : Int) :: ((p.length % 256 : Nat) : Int) :: (be4 (ckS p) ++ p).take (m - 2) := by
      obtain ⟨j, rfl⟩ : ∃ j, m = j + 2 := ⟨m - 2, by omega⟩
      rfl
    rw [this]
    unfold ckN
    show ((p.length / 256 : Nat) : Int).toNat * 256 + ((p.length % 256 : Nat) : Int).toNat = _
    rw [Int.toNat_natCast, Int.toNat_natCast]
    omega
  rw [hn] at h3
  omega
theorem ckAll_app (l m : List (List Int)) : ckAll (l ++ m) = ckAll l ++ ckAll m := by unfold ckAll; rw [List.flatMap_append]
theorem ckE_nil : ckE [] ≠ 0 := by decide
theorem ck_cut (l : List (List Int)) (n cut : Nat) (hn : n ≤ l.length) (h1 : (ckAll (l.take n)).length ≤ cut) (h2 : n < l.length → cut < (ckAll (l.take (n + 1))).length) : ∃ t, (ckAll l).take cut = ckAll (l.take n) ++ t ∧ ckE t ≠ 0 := by
  have e : ckAll l = ckAll (l.take n) ++ ckAll (l.drop n) := by rw [← ckAll_app, List.take_append_drop]
  refine ⟨(ckAll (l.drop n)).take (cut - (ckAll (l.take n)).length), ?_, ?_⟩
  · conv => lhs; rw [e]
    rw [List.take_append, List.take_of_length_le h1]
  · by_cases hlt : n < l.length
    · have hd : l.drop n = l[n] :: l.drop (n + 1) := List.drop_eq_getElem_cons hlt
      have ht : ckAll (l.take (n + 1)) = ckAll (l.take n) ++ ckL l[n] := by
        rw [List.take_succ_eq_append_getElem hlt, ckAll_app]
        congr 1
        simp [ckAll]
      have hc := h2 hlt
      rw [ht, List.length_append, ckL_len] at hc
      have hd2 : ckAll (l.drop n) = ckL l[n] ++ ckAll (l.drop (n + 1)) := by rw [hd]; unfold ckAll; rw [List.flatMap_cons]
      rw [hd2, List.take_append_of_le_length (by rw [ckL_len]; omega)]
      exact ckE_cut (by omega)
    · rw [List.drop_of_length_le (by omega)]
      simp only [ckAll, List.flatMap_nil, List.take_nil]
      exact ckE_nil
theorem ckSc_cut (l : List (List Int)) (hl : ∀ p ∈ l, p.length ≤ 1024) (n cut : Nat) (hn : n ≤ l.length) (h1 : (ckAll (l.take n)).length ≤ cut) (h2 : n < l.length → cut < (ckAll (l.take (n + 1))).length) (f : Nat) (hf : n < f) : ckSc f ((ckAll l).take cut) = (l.take n, (ckAll (l.take n)).length) := by
  obtain ⟨t, e, ht⟩ := ck_cut l n cut hn h1 h2
  rw [e]
  exact ckSc_back (l.take n) (fun p hp => hl p (List.mem_of_mem_take hp)) t ht f (by rw [List.length_take]; omega)
end Go.Proofs.YtbdhhmhlcdganaaGreatDoor
namespace Go.Proofs.YtbdhhmhlcdganaaGreatDoor
open Go.RowKit
set_option linter.unusedVariables false

def KOwn (k : IntKind) (e : TypeId) (w : World) (base : Nat) (v : Value) (xs : List Int) : Prop :=
  (v = .slice none 0 0 ∧ xs = []) ∨
  ∃ (g n cap : Nat) (r : List Int), v = .slice (some ⟨g, 0, none⟩) n cap ∧ base ≤ g ∧ xs.length = n ∧ w.heap[g]? = some (.cells (blk k (xs ++ r)) e (0, 0)) ∧ n ≤ cap ∧ cap ≤ maxLen ∧ xs.length + r.length = cap ∧ (∀ x ∈ r, (Lit.int k x).wf = true)
theorem KOwn.nil (k : IntKind) (e : TypeId) (w : World) (base : Nat) : KOwn k e w base (.slice none 0 0) [] := .inl ⟨rfl, rfl⟩
theorem KOwn.below {k : IntKind} {e : TypeId} {w w' : World} {base B : Nat} {v : Value} {xs : List Int} (h : KOwn k e w base v xs) (hb : Below B w w') (hB : w.heap.size ≤ B) : KOwn k e w' base v xs := by
  rcases h with h | ⟨g, n, cap, r, h1, h2, h3, h4, h5⟩
  · exact .inl h
  · exact .inr ⟨g, n, cap, r, h1, h2, h3, (hb.block g (by have := block_lt h4; omega)).trans h4, h5⟩
theorem KOwn.drewN {k : IntKind} {e : TypeId} {w : World} {base : Nat} {v : Value} {xs : List Int} (h : KOwn k e w base v xs) (n : Nat) : KOwn k e (w.drewN n) base v xs := h
theorem KOwn.mono {k : IntKind} {e : TypeId} {w : World} {base base' : Nat} {v : Value} {xs : List Int} (h : KOwn k e w base v xs) (hb : base' ≤ base) : KOwn k e w base' v xs := by
  rcases h with h | ⟨g, n, cap, r, h1, h2, h3⟩
  · exact .inl h
  · exact .inr ⟨g, n, cap, r, h1, by omega, h3⟩
theorem KOwn.block {k : IntKind} {e : TypeId} {w : World} {base : Nat} {v : Value} {xs : List Int} (h : KOwn k e w base v xs) : ∀ g, v.ownBlock = some g → base ≤ g ∧ g < w.heap.size := by
  intro g hg
  rcases h with ⟨rfl, _⟩ | ⟨g', n, cap, r, rfl, h2, h3, h4, h5⟩
  · cases hg
  · injection hg with hg
    subst hg
    exact ⟨h2, block_lt h4⟩
theorem KOwn.own {k : IntKind} {e : TypeId} {w : World} {base : Nat} {v : Value} {xs : List Int} (h : KOwn k e w base v xs) : Own k e w base v xs := by
  rcases h with ⟨rfl, rfl⟩ | ⟨g, n, cap, r, rfl, h2, h3, h4, h5, h6, h7, _⟩
  · exact Own.nil _ _ _ _
  · subst h3
    refine ⟨by simp, .inr ⟨g, cap, _, rfl, h2, h4, h5, h6, by rw [blk_size, List.length_append]; omega, ?_⟩⟩
    rw [Nat.mul_one]
    simp only [blk, List.map_append]
    rw [List.take_left' (by simp)]
theorem KOwn.row {k : IntKind} {e : TypeId} {w : World} {base : Nat} {v : Value} {xs : List Int} (h : KOwn k e w base v xs) (hw : ∀ x ∈ xs, (Lit.int k x).wf = true) :
    ∃ A c, v = .slice A xs.length c ∧ Row k w w.heap.size A xs ∧ xs.length ≤ c ∧ c ≤ maxLen := h.own.row hw
theorem KOwn.kept {k : IntKind} {e : TypeId} {w w' : World} {base : Nat} {v : Value} {xs : List Int} {row : Option Nat} (h : KOwn k e w base v xs) (hg : w.grownBy w' row) (hne : v.ownBlock = none ∨ v.ownBlock ≠ row) : KOwn k e w' base v xs := by
  rcases h with h | ⟨g, n, cap, r, rfl, h2, h3, h4, h5⟩
  · exact .inl h
  · refine .inr ⟨g, n, cap, r, rfl, h2, h3, (hg.block g (block_lt h4) ?_).trans h4, h5⟩
    rcases hne with h | h
    · cases h
    · exact h

section
variable {P : Program}
theorem zero_one (k : IntKind) (m : Nat) : Builtin.zeroCells (Value.int k 0).cells m = blk k (List.replicate m 0) := by
  have h := toList_madeCells_one (Value.int k 0) m
  apply Array.toList_inj.1
  show (madeCells (Value.int k 0).cells (m * 1)).toList = _
  rw [Nat.mul_one, show (Value.int k 0).cells = #[Value.int k 0] from rfl, h]
  simp [blk]
theorem run_append_full (w : World) (t : TypeId) (k : IntKind) (e : TypeId) (bytes : Nat) (ht : P.underlying t = some (.slice e)) (hi : (P.info? e).map (fun i => (i.zero, i.size, i.bytes)) = some (some (.int k 0), 1, bytes))
    (g n : Nat) (xs : List Int) (hg : w.heap[g]? = some (.cells (blk k xs) e (0, 0))) (hn : xs.length = n) (B : Nat) (A : Option Addr) (m c : Nat) (ys : List Int) (hr : Row k w B A ys) (hm : ys.length = m) (h1 : 1 ≤ m)
    (hb : (n + m) * bytes ≤ 140737488355328) (h63 : n + m ≤ maxLen) :
    ∃ cap, (∀ ty, (Builtin.append_ #[t, t] ty #[.slice (some ⟨g, 0, none⟩) n n, .slice A m c]).run P w = .ok (.slice (some ⟨w.heap.size, 0, none⟩) (n + m) cap) (w.drew.alloc (.cells (blk k (xs ++ ys ++ List.replicate (cap - (n + m)) 0)) e))) ∧ n + m ≤ cap ∧ cap ≤ maxLen := by
  obtain ⟨i, hi1, hz, hsz, hby⟩ := info_parts hi
  have h64 := h63
  simp only [maxLen] at h64
  obtain ⟨b, o, rfl, _, hc⟩ := hr.2 (by omega)
  have holds : ∀ j u, (xs.map (Value.int k))[j]? = some u → w.cell? ((⟨g, 0, none⟩ : Addr).add j) = some u := by
    intro j u hu
    rw [Go.WideShapes.add_plain, Nat.zero_add, cell_of_row w g j _ _ _ hg]
    simpa [blk] using hu
  have hnews : ∀ j u, (ys.map (Value.int k))[j]? = some u → w.cell? ((⟨b, o, none⟩ : Addr).add j) = some u := by
    intro j u hu
    rw [List.getElem?_map] at hu
    by_cases hj : j < ys.length
    · rw [List.getElem?_eq_getElem hj] at hu
      rw [Go.WideShapes.add_plain, hc j hj, nth_eq ys j hj]
      exact hu
    · rw [List.getElem?_eq_none (by omega)] at hu
      cases hu
  have hr := fun ty => run_append_grow (P := P) w t ty e i _ ht hi1 hz ⟨g, 0, none⟩ n n (xs.map (Value.int k)) (by rw [hsz]; simp; omega) holds ⟨b, o, none⟩ m c (ys.map (Value.int k)) (by rw [hsz]; simp; omega) hnews (by omega) (by omega) (growslice_fits (by omega) (by rw [hby]; omega))
  have hge := grownCap_ge w (n + m) n e
  refine ⟨grownCap w (n + m) n e, fun ty => ?_, hge, grownCap_le_maxLen w (n + m) n e h63⟩
  rw [hr ty, zero_one]
  congr 3
  apply Array.toList_inj.1
  simp [blk]
theorem wpList_append_run {ops : Array Oper} {rest : List Oper} {o : Oper} {a : Act} {Q : Exit → Act → World → Prop} (w : World) (hgd : o.guard = none) (s x : Operand) (t : TypeId)
    (ho : o.op = .call { callee := .builtin .append, args := #[s, x], argTypes := #[t, t] }) (v u v' : Value) (w' : World) (hs : a.eval s = v) (hx : a.eval x = u)
    (hrun : ∀ ty, (Builtin.append_ #[t, t] ty #[v, u]).run P w = .ok v' w') (h : wpList P ops Q rest (a.put o.dst v') w') : wpList P ops Q (o :: rest) a w := by
  refine wpList_plain hgd fun K hK => ?_
  unfold Oper.wp
  simp [execOp, ho, resolve, invoke, builtin, hs, hx, hrun, Result.andThen]
  exact hK _ _ h
theorem step_append_run {ops : Array Oper} {o : Oper} {a : Act} {K : Act → World → Prop} {Q : Exit → Act → World → Prop} {E : Prop} (w : World) (hgd : o.guard = none) (s x : Operand) (t : TypeId)
    (ho : o.op = .call { callee := .builtin .append, args := #[s, x], argTypes := #[t, t] }) (v u v' : Value) (w' : World) (hs : a.eval s = v) (hx : a.eval x = u)
    (hrun : ∀ ty, (Builtin.append_ #[t, t] ty #[v, u]).run P w = .ok v' w') (h : K (a.put o.dst v') w') :
    if Region.wanted o (yielded ops a.tmps) = true then Oper.wp P o a w K Q else E := by
  have hw : Region.wanted o (yielded ops a.tmps) = true := by simp [Region.wanted, hgd]
  rw [if_pos hw]
  unfold Oper.wp execOp
  simp only [ho, resolve, invoke, builtin, Sem.run_bind, Sem.run_pure, Result.andThen_ok, List.map_toArray, List.map_cons, List.map_nil, hs, hx, hrun]
  exact h
end
end Go.Proofs.YtbdhhmhlcdganaaGreatDoor
namespace Go.Proofs.YtbdhhmhlcdganaaGreatDoor
open Go.RowKit

def Makes (k : IntKind) (t : TypeId) (w : World) (xs : List Int) (e : Ending) (w' : World) : Prop := ∃ v, e = .returned v ∧ Own k t w' w.heap.size v xs ∧ Below w.heap.size w w'

def Lays (k : IntKind) (t : TypeId) (w : World) (xs : List Int) (m : Nat) (e : Ending) (w' : World) : Prop :=
  e = .returned (.slice (some ⟨w.heap.size, 0, none⟩) m m) ∧ w'.heap[w.heap.size]? = some (.cells (blk k xs) t (0, 0)) ∧ Below w.heap.size w w'

end Go.Proofs.YtbdhhmhlcdganaaGreatDoor
namespace Go.Proofs.YtbdhhmhlcdganaaGreatDoor
open Go.RowKit
set_option linter.unusedVariables false

theorem below_drewN {B : Nat} {a w : World} (h : Below B a w) (n : Nat) : Below B a (w.drewN n) := ⟨h.os, h.tape, h.output, h.size, h.block⟩
def Bk (w : World) (g : Nat) (l : List Int) : Prop := w.heap[g]? = some (.cells (blk .u8 l) 5 (0, 0))
theorem Bk.below {w w' : World} {g : Nat} {l : List Int} (h : Bk w g l) (hb : Below w.heap.size w w') : Bk w' g l := (hb.block g (block_lt h)).trans h
theorem Bk.lt {w : World} {g : Nat} {l : List Int} (h : Bk w g l) : g < w.heap.size := block_lt h
theorem Bk.drewN {w : World} {g : Nat} {l : List Int} (h : Bk w g l) (n : Nat) : Bk (w.drewN n) g l := h
theorem Bk.row {w : World} {g : Nat} {l : List Int} (h : Bk w g l) (xs : List Int) (hw : ∀ x ∈ xs, (Lit.int .u8 x).wf = true) (hp : xs <+: l) : Row .u8 w w.heap.size (some ⟨g, 0, none⟩) xs :=
  (Row.of_block h xs hw hp).more h.lt
def Li (w : World) (A : Option Addr) (m g : Nat) (l r : List Int) : Prop := A = none ∧ m = 0 ∨ A = some ⟨g, 0, none⟩ ∧ Bk w g (l ++ r)
theorem Li.below {w w' : World} {A : Option Addr} {m g : Nat} {l r : List Int} (h : Li w A m g l r) (hb : Below w.heap.size w w') : Li w' A m g l r := by
  rcases h with h | ⟨h1, h2⟩
  · exact .inl h
  · exact .inr ⟨h1, h2.below hb⟩
theorem Li.row {w : World} {A : Option Addr} {m g : Nat} {l r : List Int} (h : Li w A m g l r) (hm : l.length = m) (hw : ∀ x ∈ l, (Lit.int .u8 x).wf = true) : Row .u8 w w.heap.size A l := by
  rcases h with ⟨h1, h2⟩ | ⟨h1, h2⟩
  · have : l = [] := List.eq_nil_of_length_eq_zero (by omega)
    subst this
    exact Row.nil _ _ _ _
  · subst h1
    exact h2.row l hw (List.prefix_append _ _)
theorem bel_drewN (w : World) (n : Nat) : Below w.heap.size w (w.drewN n) := ⟨rfl, rfl, rfl, Nat.le_refl _, fun _ _ => rfl⟩

def Gives (w : World) (l : List Int) (err : Int) (e : Ending) (w' : World) : Prop :=
  ∃ A m, e = .returned (.tuple #[.slice A m m, .int .i64 err]) ∧ l.length = m ∧ Li w' A m w.heap.size l [] ∧ Below w.heap.size w w'
def GivesOwn (w : World) (l : List Int) (err : Int) (e : Ending) (w' : World) : Prop :=
  ∃ v, e = .returned (.tuple #[v, .int .i64 err]) ∧ Own .u8 5 w' w.heap.size v l ∧ Below w.heap.size w w'
theorem Li.lt {w : World} {A : Option Addr} {m g : Nat} {l r : List Int} (h : Li w A m g l r) : A = none ∨ g < w.heap.size := by
  rcases h with ⟨h1, _⟩ | ⟨_, h2⟩
  · exact .inl h1
  · exact .inr h2.lt
end Go.Proofs.YtbdhhmhlcdganaaGreatDoor
namespace Go.Proofs.YtbdhhmhlcdganaaGreatDoor
open Go.RowKit
set_option linter.unusedVariables false

theorem below_drew {B : Nat} {a w : World} (h : Below B a w) : Below B a w.drew := ⟨h.os, h.tape, h.output, h.size, h.block⟩
theorem heap_alloc_two (w : World) (o o' : Obj) : ((w.alloc o).alloc o').heap[w.heap.size + 1]? = some o' := by
  have h := heap_alloc_new (w.alloc o) o'
  rw [show (w.alloc o).heap.size = w.heap.size + 1 by simp] at h
  exact h

def Bx (w0 : World) (g : Nat) (o : Obj) (w : World) : Prop := w.heap[g]? = some o ∧ Below g w0 w
theorem Bx.new (w : World) (o : Obj) : Bx w w.heap.size o (w.alloc o) := ⟨heap_alloc_new w o, bel_alloc w o⟩
theorem Bx.lt {w0 w : World} {g : Nat} {o : Obj} (h : Bx w0 g o w) : g < w.heap.size := block_lt h.1
theorem Bx.below {w0 w w' : World} {g : Nat} {o : Obj} (h : Bx w0 g o w) (hb : Below w.heap.size w w') : Bx w0 g o w' :=
  ⟨(hb.block g h.lt).trans h.1, h.2.trans (hb.mono (Nat.le_of_lt h.lt))⟩
theorem Bx.drewN {w0 w : World} {g : Nat} {o : Obj} (h : Bx w0 g o w) (n : Nat) : Bx w0 g o (w.drewN n) := h.below (bel_drewN w n)
theorem Bx.drew {w0 w : World} {g : Nat} {o : Obj} (h : Bx w0 g o w) : Bx w0 g o w.drew := h.below ⟨rfl, rfl, rfl, Nat.le_refl _, fun _ _ => rfl⟩
theorem Bx.alloc {w0 w : World} {g : Nat} {o : Obj} (h : Bx w0 g o w) (o' : Obj) : Bx w0 g o (w.alloc o') := h.below (bel_alloc w o')
theorem Bx.grown {w0 w w' : World} {g : Nat} {o : Obj} {row : Option Nat} (h : Bx w0 g o w) (hg : w.grownBy w' row) (hr : ∀ k, row = some k → g < k) : Bx w0 g o w' :=
  ⟨(hg.block g h.lt (fun e => by have := hr g e.symm; omega)).trans h.1, h.2.grown hg (Nat.le_of_lt h.lt) (fun k e => by have := hr k e; omega)⟩
end Go.Proofs.YtbdhhmhlcdganaaGreatDoor
namespace Go.Proofs.YtbdhhmhlcdganaaGreatDoor
open Go.RowKit
set_option linter.unusedVariables false
set_option maxRecDepth 100000

def lo : Nat → Nat → List Int
  | 0, _ => []
  | i + 1, v => ((v / 256 ^ i % 256 : Nat) : Int) :: lo i v
theorem lo_len (i v : Nat) : (lo i v).length = i := by
  induction i with
  | zero => rfl
  | succ i ih => simp [lo, ih]
theorem lo_wf (i v : Nat) : ∀ x ∈ lo i v, (Lit.int .u8 x).wf = true := by
  induction i with
  | zero => intro x hx; cases hx
  | succ i ih =>
    intro x hx
    rcases List.mem_cons.1 hx with rfl | hx
    · exact wf_byte _ (Nat.mod_lt _ (by omega))
    · exact ih x hx
theorem lo_two (n : Nat) (h : n < 65536) : lo 2 n = ckH n := by
  simp [lo, ckH]; omega
theorem lo_four (s : Nat) : lo 4 s = be4 s := by
  simp [lo, be4]
theorem lo_step (n j v : Nat) (x : Int) (h : j < n) : (List.replicate (n - j) (0 : Int) ++ lo j v).set (n - j - 1) x = List.replicate (n - (j + 1)) 0 ++ (x :: lo j v) := by
  obtain ⟨q, hq⟩ : ∃ q, n - j = q + 1 := ⟨n - j - 1, by omega⟩
  rw [hq, show n - (j + 1) = q by omega, show q + 1 - 1 = q by omega, List.replicate_succ']
  rw [List.append_assoc, List.set_append_right _ _ (by simp)]
  simp
theorem div_step8 (v j : Nat) : v / 256 ^ (j + 1) = v / 256 ^ j / 256 := by rw [Nat.pow_succ, Nat.div_div_eq_div_mul]

theorem highFirst_any (v n : Nat) (hv : v < 4294967296) (hn : n ≤ 4) (w : World) :
    Calls Tryz.prog 110 #[.int .u32 v, .int .i64 n] w fun e w' => e = .returned (.slice (some ⟨w.heap.size, 0, none⟩) n n) ∧ w' = w.alloc (.cells (blk .u8 (lo n v)) 5) := by
  have hmk := make_u8 n (by omega)
  go_enter Tryz.func110, Tryz.ntmps110
  go_wp2
  go_loopw [0, 6, 11] (fun t _ i wr => ∃ j : Nat, j ≤ n ∧ i = .int .i64 j ∧ t = .int .u32 (v / 256 ^ j : Nat) ∧ wr = w.alloc (.cells (blk .u8 (List.replicate (n - j) 0 ++ lo j v)) 5)) (fun _ _ i _ => n - (intOf i).toNat)
  case atStart => exact ⟨0, by omega, rfl, by simp, by simp [lo]⟩
  case round =>
    obtain ⟨j, hj, rfl, rfl, rfl⟩ := hrel
    by_cases hlt : j < n
    · have hb : v / 256 ^ j < 4294967296 := Nat.lt_of_le_of_lt (Nat.div_le_self _ _) hv
      have hq := Lib.hid (div_step8 v j)
      have HS := Lib.hid (lo_step n j v (((v / 256 ^ j : Nat) : Int) % 256) hlt)
      have HL : Hid (lo (j + 1) v = (((v / 256 ^ j : Nat) : Int) % 256) :: lo j v) := Lib.hid (by rw [lo]; congr 1)
      obtain ⟨L, hL⟩ : ∃ L, Hid (List.replicate (n - j) (0 : Int) ++ lo j v = L) := ⟨_, Lib.hid rfl⟩
      have hLl : L.length = n := by rw [← hL.out, List.length_append, List.length_replicate, lo_len]; omega
      obtain ⟨q, hqq⟩ : ∃ q, Hid (v / 256 ^ j = q) := ⟨_, Lib.hid rfl⟩
      rw [hqq.out] at hb hq HS HL ⊢
      rw [hL.out] at HS ⊢
      have hc : (blk .u8 L)[n - j - 1]? = some (.int .u8 (nth L (n - j - 1))) := blk_get _ _ _ (by omega)
      have hwr : IntKind.u8.wrap (q : Int) = (q : Int) % 256 := by rw [IntKind.wrap_u8]
      have hi1 : IntKind.i64.wrap (IntKind.i64.wrap ((n : Int) - 1) - (j : Int)) = ((n - j - 1 : Nat) : Int) := by
        rw [IntKind.wrap_i64, IntKind.wrap_i64]; omega
      have hi2 : (n : Int) - 1 - (j : Int) = ((n - j - 1 : Nat) : Int) := by omega
      go_wp2
      go_roundw
      case rel => exact ⟨j + 1, by omega, by go_num, by rw [hq.out]; rfl, by rw [blk_set, HS.out, ← HL.out]⟩
      case measure => simp [intOf]; omega
    · obtain rfl : j = n := by omega
      have hx : List.replicate (j - j) (0 : Int) ++ lo j v = lo j v := by simp
      rw [hx]
      go_wp2
      go_ret
      exact ⟨rfl, rfl⟩
theorem copy_cells {w : World} {g off n : Nat} {e : TypeId} {l xs : List Int} (hg : w.heap[g]? = some (.cells (blk .u8 l) e (0, 0))) (hl : off + xs.length = n) (hn : n ≤ l.length) :
    w.setRow g ((blk .u8 l).toList.take off ++ (xs.map (Value.int .u8) ++ (blk .u8 l).toList.drop (off + (xs.map (Value.int .u8)).length))).toArray = w.setRow g (blk .u8 (l.take off ++ (xs ++ l.drop n))) := by
  congr 1
  simp only [blk, List.map_append, List.map_take, List.map_drop, List.length_map, hl]
theorem setRow_block {w : World} {g : Nat} {e : TypeId} {l : List Int} (hg : w.heap[g]? = some (.cells (blk .u8 l) e (0, 0))) (m : List Int) : (w.setRow g (blk .u8 m)).heap[g]? = some (.cells (blk .u8 m) e (0, 0)) := setRow_heap w g _ _ e _ hg
theorem cells_src {w : World} {g : Nat} {e : TypeId} {xs : List Int} (hg : w.heap[g]? = some (.cells (blk .u8 xs) e (0, 0))) : ∀ j v, (xs.map (Value.int .u8))[j]? = some v → w.cell? ((⟨g, 0, none⟩ : Addr).add j) = some v := by
  intro j v hj
  rw [Go.WideShapes.add_plain, Nat.zero_add, cell_of_row w g j _ _ _ hg]
  simpa [blk] using hj
def Heads (w : World) (xs : List Int) (e : Ending) (w' : World) : Prop :=
  e = .returned (.slice (some ⟨w.heap.size, 0, none⟩) 6 6) ∧ w'.heap[w.heap.size]? = some (.cells (blk .u8 (ckH xs.length ++ be4 (ckS xs))) 5 (0, 0)) ∧ Below w.heap.size w w'
theorem info_one8 : (Tryz.prog.info? 5).map (·.size) = some 1 := by kernel_rfl
set_option maxHeartbeats 1000000 in
theorem head_any (A : Option Addr) (n c : Nat) (xs : List Int) (w : World) (hr : Row .u8 w w.heap.size A xs) (hn : xs.length = n) (hm : n ≤ 1024) :
    Calls Tryz.prog 75 #[.slice A n c] w (Heads w xs) := by
  have hmk : ∀ W : World, (Instr.makeSlice 47 (.int .i64 6) (.int .i64 6)).run Tryz.prog W = .ok (.slice (some ⟨W.heap.size, 0, none⟩) 6 6) (W.alloc (.cells (blk .u8 [0, 0, 0, 0, 0, 0]) 5)) := make_u8 6 (by omega)
  have HR := Lib.hid hr
  have HN := Lib.hid hn
  obtain ⟨H, hH⟩ : ∃ H, Hid (lo 2 n = H) := ⟨_, Lib.hid rfl⟩
  have hHc : Hid (H = ckH n) := Lib.hid (by rw [← hH.out, lo_two n (by omega)])
  have hHl : Hid (H.length = 2) := Lib.hid (by rw [← hH.out, lo_len])
  have hHw : Hid (∀ x ∈ H, (Lit.int .u8 x).wf = true) := Lib.hid (by rw [← hH.out]; exact lo_wf _ _)
  have hsl : Hid (ckS xs < 4294967296) := Lib.hid (by unfold ckS; exact more32_lt _ _ (more32_lt _ _ (by omega) (ckH_wf (by omega))) hr.1)
  have hsm : Hid (more32 (more32 0 H) xs = ckS xs) := Lib.hid (by rw [hHc.out]; unfold ckS; rw [HN.out])
  have hcr : Hid (more32 0 H < 4294967296) := Lib.hid (more32_lt _ _ (by omega) hHw.out)
  obtain ⟨s, hs⟩ : ∃ s, Hid (ckS xs = s) := ⟨_, Lib.hid rfl⟩
  rw [hs.out] at hsl hsm
  have HF : Hid (∀ W : World, Calls Tryz.prog 110 #[.int .u32 (n : Int), .int .i64 2] W fun e w' => e = .returned (.slice (some ⟨W.heap.size, 0, none⟩) 2 2) ∧ w' = W.alloc (.cells (blk .u8 H) 5)) := Lib.hid (fun W => by rw [← hH.out]; exact highFirst_any n 2 (by omega) (by omega) W)
  obtain ⟨W1, hW1⟩ : ∃ W1 : World, Hid ((w.alloc (.cells (blk .u8 [0, 0, 0, 0, 0, 0]) 5)).alloc (.cells (blk .u8 H) 5) = W1) := ⟨_, Lib.hid rfl⟩
  have hz1 : Hid (W1.heap.size = w.heap.size + 2) := Lib.hid (by rw [← hW1.out]; simp)
  have ha1 : Hid (W1.heap[w.heap.size]? = some (.cells (blk .u8 [0, 0, 0, 0, 0, 0]) 5 (0, 0))) := Lib.hid (by rw [← hW1.out]; exact (heap_alloc_old _ _ (by simp)).trans (heap_alloc_new w _))
  have hb1 : Hid (W1.heap[w.heap.size + 1]? = some (.cells (blk .u8 H) 5 (0, 0))) := Lib.hid (by rw [← hW1.out]; exact heap_alloc_two _ _ _)
  have hB1 : Hid (Below w.heap.size w W1) := Lib.hid (by rw [← hW1.out]; exact (bel_alloc w _).alloc (by simp) _)
  obtain ⟨W2, hW2⟩ : ∃ W2 : World, Hid (W1.setRow w.heap.size (blk .u8 (H ++ [0, 0, 0, 0])) = W2) := ⟨_, Lib.hid rfl⟩
  have ha2 : Hid (W2.heap[w.heap.size]? = some (.cells (blk .u8 (H ++ [0, 0, 0, 0])) 5 (0, 0))) := Lib.hid (by rw [← hW2.out]; exact setRow_block ha1.out _)
  have hB2 : Hid (Below w.heap.size w W2) := Lib.hid (by rw [← hW2.out]; exact below_setRow hB1.out (Nat.le_refl _) _)
  have hR2 : Hid (Row .u8 W2 w.heap.size A xs) := Lib.hid (HR.out.below hB2.out)
  have hL2 : Hid (Row .u8 W2 (w.heap.size + 1) (some ⟨w.heap.size, 0, none⟩) H) := Lib.hid (Row.of_block ha2.out _ hHw.out (List.prefix_append _ _))
  have hz2 : Hid (W2.heap.size = w.heap.size + 2) := Lib.hid (by rw [← hW2.out]; simp [World.setRow, hz1.out])
  have HF4 : Hid (∀ W : World, (∃ q, W = W2.drewN q) → Calls Tryz.prog 110 #[.int .u32 (s : Int), .int .i64 4] W fun e w' => e = .returned (.slice (some ⟨w.heap.size + 2, 0, none⟩) 4 4) ∧ ∃ w3, Hid (w3.heap[w.heap.size]? = some (.cells (blk .u8 (H ++ be4 s)) 5 (0, 0)) ∧ Below w.heap.size w w3) ∧ ∀ ty, (Builtin.copy_ #[47, 47] ty #[.slice (some ⟨w.heap.size, 2, none⟩) 4 4, .slice (some ⟨w.heap.size + 2, 0, none⟩) 4 4]).run Tryz.prog w' = .ok (.int .i64 4) w3) := Lib.hid (fun W ⟨q, hq⟩ => by
    subst hq
    have hzq : (W2.drewN q).heap.size = w.heap.size + 2 := hz2.out
    refine (highFirst_any s 4 hsl.out (by omega) _).mono fun e w1 ⟨he, hw1⟩ => ?_
    rw [hzq] at he
    have ha3 : w1.heap[w.heap.size]? = some (.cells (blk .u8 (H ++ [0, 0, 0, 0])) 5 (0, 0)) := by
      rw [hw1]
      exact (heap_alloc_old _ _ (show w.heap.size < W2.heap.size by have := hz2.out; omega)).trans ha2.out
    have hb3 : w1.heap[w.heap.size + 2]? = some (.cells (blk .u8 (lo 4 s)) 5 (0, 0)) := by
      rw [hw1, ← hzq]
      exact heap_alloc_new _ _
    have hB3 : Below w.heap.size w w1 := by
      rw [hw1]
      have h0 : Below w.heap.size w (W2.drewN q) := hB2.out.trans ⟨rfl, rfl, rfl, Nat.le_refl _, fun _ _ => rfl⟩
      exact h0.alloc (by rw [hzq]; omega) _
    refine ⟨he, w1.setRow w.heap.size (blk .u8 (H ++ be4 s)), Lib.hid ⟨setRow_block ha3 _, below_setRow hB3 (Nat.le_refl _) _⟩, fun ty => ?_⟩
    have := run_copy_row (P := Tryz.prog) w1 47 47 ty 5 w.heap.size 2 4 4 ⟨w.heap.size + 2, 0, none⟩ 4 4 (blk .u8 (H ++ [0, 0, 0, 0])) 5 ((lo 4 s).map (Value.int .u8)) Tryz.underlying47 info_one8 ha3 (by rw [List.length_map, lo_len]; rfl) (cells_src hb3) (by rw [List.length_map, lo_len, blk_size, List.length_append, hHl.out]; decide) (ints_oneCell _ _)
    rw [this, List.length_map, lo_len, List.append_assoc]
    have hcc := copy_cells (w := w1) (off := 2) (n := 6) (xs := lo 4 s) ha3 (by rw [lo_len]) (by rw [List.length_append, hHl.out]; decide)
    rw [List.length_map, lo_len] at hcc
    rw [hcc, List.take_left' hHl.out, List.drop_of_length_le (by rw [List.length_append, hHl.out]; decide), List.append_nil, lo_four]
    rfl)
  clear hr hn
  go_enter Tryz.func75, Tryz.ntmps75
  go_wp2_with (first
    | (go_at_call 110; refine (HF.out _).mono ?_; rintro e w1 ⟨rfl, rfl⟩; rw [hW1.out])
    | (refine wpList_copy_own rfl (.tmp 9) (.tmp 13) 47 47 rfl 5 Tryz.underlying47 info_one8 w.heap.size 0 2 6 ⟨w.heap.size + 1, 0, none⟩ 2 2 rfl rfl (blk .u8 [0, 0, 0, 0, 0, 0]) 5 ha1.out (H.map (Value.int .u8)) (by rw [List.length_map, hHl.out]; rfl) (cells_src hb1.out) (by rw [List.length_map, hHl.out]; decide) (ints_oneCell _ _) ?_; rw [copy_cells (n := 2) ha1.out (by rw [hHl.out]) (by decide)]; simp only [List.take_zero, List.nil_append, List.drop_succ_cons, List.drop_zero]; rw [hW2.out])
    | (go_at_call 112; refine (crc_32 _ 2 _ H _ _ hL2.out hHl.out (by omega)).mono ?_; rintro e w1 ⟨rfl, rfl⟩)
    | (go_at_call 111; refine (more_32 _ _ _ _ xs hcr.out _ _ hR2.out HN.out (by omega)).mono ?_; rintro e w1 ⟨rfl, rfl⟩; rw [hsm.out]))
  clear HF hz1 ha1 hb1 hB1 hL2 hR2 ha2 hB2 hcr hsm hsl
  go_region_with (go_at_call 110; refine (HF4.out _ ⟨_, rfl⟩).mono ?_; rintro e w1 ⟨rfl, w3, HW3, hcp⟩)
  all_goals go_wp2
  all_goals go_ret
  all_goals exact ⟨rfl, by rw [HN.out, ← hHc.out, hs.out]; exact HW3.out.1, HW3.out.2⟩
end Go.Proofs.YtbdhhmhlcdganaaGreatDoor
namespace Go.Proofs.YtbdhhmhlcdganaaGreatDoor
open Go.RowKit

section
variable {P : Program}
end
end Go.Proofs.YtbdhhmhlcdganaaGreatDoor
namespace Go.Proofs.YtbdhhmhlcdganaaGreatDoor
open Go.RowKit
set_option linter.unusedVariables false

theorem zeros_wfK (k : IntKind) (m : Nat) : ∀ x ∈ List.replicate m (0 : Int), (Lit.int k x).wf = true := fun x hx => by
  rw [List.eq_of_mem_replicate hx]; cases k <;> decide
section
variable {P : Program}
theorem run_append_K (w : World) (base : Nat) (t : TypeId) (k : IntKind) (e : TypeId) (bytes : Nat) (ht : P.underlying t = some (.slice e)) (hi : (P.info? e).map (fun i => (i.zero, i.size, i.bytes)) = some (some (.int k 0), 1, bytes))
    (v : Value) (xs : List Int) (hown : KOwn k e w base v xs) (B : Nat) (A : Option Addr) (m c : Nat) (ys : List Int) (hr : Row k w B A ys) (hm : ys.length = m) (h1 : 1 ≤ m)
    (hbytes : (xs.length + m) * bytes ≤ 140737488355328) (h63 : xs.length + m ≤ maxLen) (hbase : base ≤ w.heap.size) :
    ∃ v' w', (∀ ty, (Builtin.append_ #[t, t] ty #[v, .slice A m c]).run P w = .ok v' w') ∧ KOwn k e w' base v' (xs ++ ys) ∧ w.grownBy w' v.ownBlock ∧ (v'.ownBlock = some w.heap.size ∨ (v'.ownBlock = v.ownBlock ∧ v.ownBlock ≠ none)) ∧ ∃ A' n' c', v' = .slice A' n' c' := by
  obtain ⟨i, hi1, hz, hsz, hby⟩ := info_parts hi
  have h64 := h63
  simp only [maxLen] at h64
  obtain ⟨b, o, rfl, _, hc⟩ := hr.2 (by omega)
  have hnews : ∀ j u, (ys.map (Value.int k))[j]? = some u → w.cell? ((⟨b, o, none⟩ : Addr).add j) = some u := by
    intro j u hu
    rw [List.getElem?_map] at hu
    by_cases hj : j < ys.length
    · rw [List.getElem?_eq_getElem hj] at hu
      rw [Go.WideShapes.add_plain, hc j hj, nth_eq ys j hj]
      exact hu
    · rw [List.getElem?_eq_none (by omega)] at hu
      cases hu
  have hnl : (ys.map (Value.int k)).length = m * i.size := by rw [List.length_map, hsz, hm, Nat.mul_one]
  rcases hown with ⟨rfl, rfl⟩ | ⟨g, n, cap, r, rfl, h2, h3, h4, h5, h6, h7, h8⟩
  · simp only [List.length_nil, Nat.zero_add] at hbytes h63 h64
    have hrun := fun ty => run_append_nil (P := P) w t ty e i _ ht hi1 hz ⟨b, o, none⟩ m c (ys.map (Value.int k)) hnl hnews (by omega) (by omega) (by rw [hby]; omega)
    have hge := grownCap_ge w m 0 e
    refine ⟨_, _, hrun, .inr ⟨w.heap.size, m, grownCap w m 0 e, List.replicate (grownCap w m 0 e - m) 0, rfl, hbase, by simpa using hm, ?_, hge, grownCap_le_maxLen w m 0 e h63, by simp; omega, zeros_wfK _ _⟩, ⟨rfl, rfl, rfl, by simp, fun q hq _ => heap_alloc_old w.drew _ hq⟩, .inl rfl, _, _, _, rfl⟩
    rw [zero_one, show ((ys.map (Value.int k)).toArray ++ blk k (List.replicate (grownCap w m 0 e - m) 0)) = blk k ([] ++ ys ++ List.replicate (grownCap w m 0 e - m) 0) by simp [blk]]
    exact heap_alloc_new w.drew _
  · by_cases hroom : n + m ≤ cap
    · have hsz4 : (blk k (xs ++ r)).size = cap := by rw [blk_size, List.length_append]; exact h7
      have hrun := fun ty => run_append_room (P := P) w t ty e i ht hi1 g n cap (blk k (xs ++ r)) h4 ⟨b, o, none⟩ m c (ys.map (Value.int k)) hnl hnews (ints_oneCell k ys) hroom (by rw [hsz4, hsz, Nat.mul_one, List.length_map]; omega)
      refine ⟨_, _, hrun, .inr ⟨g, n + m, cap, r.drop m, rfl, h2, by rw [List.length_append]; omega, ?_, hroom, h6, by rw [List.length_append, List.length_drop]; omega, fun x hx => h8 x (List.mem_of_mem_drop hx)⟩, ⟨rfl, rfl, rfl, by simp, fun q _ hq => setRow_other w g q _ (fun e => hq (by simp [Value.ownBlock, e]))⟩, .inr ⟨rfl, by simp [Value.ownBlock]⟩, _, _, _, rfl⟩
      have hcells : ((blk k (xs ++ r)).toList.take (n * i.size) ++ ys.map (Value.int k) ++ (blk k (xs ++ r)).toList.drop (n * i.size + (ys.map (Value.int k)).length)).toArray = blk k (xs ++ ys ++ r.drop m) := by
        rw [hsz, Nat.mul_one, List.length_map, hm]
        simp only [blk, List.map_append, ← h3]
        congr 1
        rw [List.take_left' (by simp), ← List.drop_drop, List.drop_left' (by simp), List.map_drop]
      rw [hcells]
      exact setRow_heap w g _ _ e _ h4
    · have holds : ∀ j u, (xs.map (Value.int k))[j]? = some u → w.cell? ((⟨g, 0, none⟩ : Addr).add j) = some u := by
        intro j u hu
        have hj : j < xs.length := by have := (List.getElem?_eq_some_iff.1 hu).1; simpa using this
        rw [Go.WideShapes.add_plain, Nat.zero_add, cell_of_row w g j _ _ _ h4, blk_get _ _ _ (by rw [List.length_append]; omega), nth_left _ _ _ hj]
        rw [List.getElem?_map, List.getElem?_eq_getElem hj] at hu
        rw [nth_eq _ _ hj]
        exact hu
      have hrun := fun ty => run_append_grow (P := P) w t ty e i _ ht hi1 hz ⟨g, 0, none⟩ n cap (xs.map (Value.int k)) (by rw [hsz]; simp; omega) holds ⟨b, o, none⟩ m c (ys.map (Value.int k)) hnl hnews (by omega) (by omega) (growslice_fits (by omega) (by rw [hby, ← h3]; exact hbytes))
      have hge := grownCap_ge w (n + m) cap e
      refine ⟨_, _, hrun, .inr ⟨w.heap.size, n + m, grownCap w (n + m) cap e, List.replicate (grownCap w (n + m) cap e - (n + m)) 0, rfl, hbase, by rw [List.length_append]; omega, ?_, hge, grownCap_le_maxLen w (n + m) cap e (by omega), by rw [List.length_append, List.length_replicate]; omega, zeros_wfK _ _⟩, ⟨rfl, rfl, rfl, by simp, fun q hq _ => heap_alloc_old w.drew _ hq⟩, .inl rfl, _, _, _, rfl⟩
      rw [zero_one, show ((xs.map (Value.int k)).toArray ++ (ys.map (Value.int k)).toArray ++ blk k (List.replicate (grownCap w (n + m) cap e - (n + m)) 0)) = blk k (xs ++ ys ++ List.replicate (grownCap w (n + m) cap e - (n + m)) 0) by simp [blk]]
      exact heap_alloc_new w.drew _
end
end Go.Proofs.YtbdhhmhlcdganaaGreatDoor
namespace Go.Proofs.YtbdhhmhlcdganaaGreatDoor
open Go.RowKit
set_option linter.unusedVariables false
set_option maxRecDepth 100000

theorem KOwn.form {k : IntKind} {e : TypeId} {w : World} {base : Nat} {v : Value} {xs : List Int} (h : KOwn k e w base v xs) : ∃ A c, v = .slice A xs.length c ∧ xs.length ≤ c ∧ c ≤ maxLen := by
  rcases h with ⟨rfl, rfl⟩ | ⟨g, n, cap, r, rfl, _, h3, _, h5, h6, _⟩
  · exact ⟨none, 0, rfl, Nat.le_refl _, Nat.zero_le _⟩
  · subst h3
    exact ⟨_, cap, rfl, h5, h6⟩
theorem run_append0 {w : World} {base : Nat} {v : Value} {xs : List Int} (h : KOwn .u8 5 w base v xs) (A : Option Addr) (c : Nat) (ty : TypeId) : (Builtin.append_ #[47, 47] ty #[v, .slice A 0 c]).run Tryz.prog w = .ok v w := by
  obtain ⟨i, hi1, hz, hsz, hby⟩ := info_parts info_u8
  rcases h with ⟨rfl, rfl⟩ | ⟨g, n, cap, r, rfl, h2, h3, h4, h5, h6⟩
  · cases A with
    | none => simp [Builtin.append_, run_underlying Tryz.underlying47, sizeOf, typeInfo, hi1, Builtin.lenOf, Builtin.firstCells]
    | some a => simp [Builtin.append_, run_underlying Tryz.underlying47, sizeOf, typeInfo, hi1, Builtin.lenOf, Builtin.firstCells, loadCells, loadCellsFrom]
  · cases A with
    | none => simp [Builtin.append_, run_underlying Tryz.underlying47, sizeOf, typeInfo, hi1, Builtin.lenOf, Builtin.firstCells, h5, storeCells]
    | some a => simp [Builtin.append_, run_underlying Tryz.underlying47, sizeOf, typeInfo, hi1, Builtin.lenOf, Builtin.firstCells, h5, storeCells, loadCells, loadCellsFrom]
theorem run_append8 (w0 w : World) (base : Nat) (v : Value) (xs : List Int) (h : KOwn .u8 5 w base v xs) (B : Nat) (A : Option Addr) (m c : Nat) (ys : List Int) (hr : Row .u8 w B A ys) (hm : ys.length = m) (hb : xs.length + m ≤ 140737488355328) (hbase : base ≤ w.heap.size) (hbel : Below base w0 w) :
    ∃ v' w', (∀ ty, (Builtin.append_ #[47, 47] ty #[v, .slice A m c]).run Tryz.prog w = .ok v' w') ∧ KOwn .u8 5 w' base v' (xs ++ ys) ∧ w.grownBy w' v.ownBlock ∧ Below base w0 w' := by
  by_cases h1 : 1 ≤ m
  · obtain ⟨v', w', r1, r2, r3, _⟩ := run_append_K w base 47 .u8 5 1 Tryz.underlying47 info_u8 v xs h B A m c ys hr hm h1 (by omega) (by unfold maxLen; omega) hbase
    exact ⟨v', w', r1, r2, r3, hbel.grown r3 hbase fun g e => (h.block g e).1⟩
  · obtain rfl : m = 0 := by omega
    obtain rfl : ys = [] := List.eq_nil_of_length_eq_zero hm
    exact ⟨v, w, run_append0 h A c, by rw [List.append_nil]; exact h, World.grownBy.refl _ _, hbel⟩
def ChMakes (w : World) (xs : List Int) (E : Int) (e : Ending) (w' : World) : Prop := ∃ v, e = .returned (.tuple #[v, .int .i64 E]) ∧ KOwn .u8 5 w' w.heap.size v xs ∧ Below w.heap.size w w'
theorem ckPE_big {xs : List Int} (h : 1024 < xs.length) : ckPE xs = 2 := if_pos h
theorem ckPE_ok {xs : List Int} (h : xs.length ≤ 1024) : ckPE xs = 0 := if_neg (by omega)
theorem ckPut_big {xs : List Int} (h : 1024 < xs.length) : ckPut xs = [] := if_pos h
theorem ckPut_ok {xs : List Int} (h : xs.length ≤ 1024) : ckPut xs = ckL xs := if_neg (by omega)
theorem chPut_any (A : Option Addr) (n c : Nat) (xs : List Int) (w : World) (hr : Row .u8 w w.heap.size A xs) (hn : xs.length = n) (hm : n ≤ 140737488355328) :
    Calls Tryz.prog 47 #[.slice A n c] w (ChMakes w (ckPut xs) (ckPE xs)) := by
  by_cases hlt : 1024 < n
  · rw [ckPut_big (by omega), ckPE_big (by omega)]
    have i1 : (n : Int) > 1024 := by omega
    clear hr hn
    go_enter Tryz.func47, Tryz.ntmps47
    go_wp2
    go_ret2
    exact ⟨_, rfl, KOwn.nil _ _ _ _, Below.refl _ _⟩
  · rw [ckPut_ok (by omega), ckPE_ok (by omega)]
    have HC : Hid (∀ w1 : World, w1.heap[w.heap.size]? = some (.cells (blk .u8 (ckH xs.length ++ be4 (ckS xs))) 5 (0, 0)) → Below w.heap.size w w1 → ∃ v' w', (∀ ty, (Builtin.append_ #[47, 47] ty #[.slice (some ⟨w.heap.size, 0, none⟩) 6 6, .slice A n c]).run Tryz.prog w1 = .ok v' w') ∧ KOwn .u8 5 w' w.heap.size v' (ckL xs) ∧ Below w.heap.size w w') := Lib.hid (fun w1 hg hb => by
      have hl : (ckH xs.length ++ be4 (ckS xs)).length = 6 := by simp [ckH, be4]
      have hk : KOwn .u8 5 w1 w.heap.size (.slice (some ⟨w.heap.size, 0, none⟩) 6 6) (ckH xs.length ++ be4 (ckS xs)) := .inr ⟨w.heap.size, 6, 6, [], rfl, Nat.le_refl _, hl, by rw [List.append_nil]; exact hg, Nat.le_refl _, by unfold maxLen; omega, by rw [hl]; rfl, by simp⟩
      obtain ⟨v', w', r1, r2, _, r4⟩ := run_append8 w w1 w.heap.size _ _ hk _ A n c xs (hr.below hb) hn (by omega) hb.size hb
      exact ⟨v', w', r1, by rw [ckL, ← List.append_assoc]; exact r2, r4⟩)
    have i1 : ¬ (n : Int) > 1024 := by omega
    go_enter Tryz.func47, Tryz.ntmps47
    go_wp2_with (first
      | (go_at_call 75; refine (head_any A n c xs _ hr hn (by omega)).mono ?_; rintro e w1 ⟨rfl, hg, hb⟩; obtain ⟨v', w', r1, r2, r3⟩ := HC.out w1 hg hb; have R2 := Lib.hid r2; have R1 := Lib.hid r1; clear hg r2 r1)
      | (at_builtin; refine wpList_append_run _ rfl (.tmp 8) (.tmp 9) 47 rfl (.slice (some ⟨w.heap.size, 0, none⟩) 6 6) (.slice A n c) v' w' rfl rfl R1.out ?_))
    go_ret2
    exact ⟨_, rfl, R2.out, r3⟩
end Go.Proofs.YtbdhhmhlcdganaaGreatDoor
namespace Go.Proofs.YtbdhhmhlcdganaaGreatDoor
open Go.RowKit
set_option linter.unusedVariables false


theorem conv_row (w : World) (B : Nat) (A : Option Addr) (n c : Nat) (xs : List Int) (h : Row .u8 w B A xs) (hn : xs.length = n) : (convert 47 9 (.slice A n c)).run Tryz.prog w = .ok (.string (strOfNums xs)) w := by
  rcases Nat.eq_zero_or_pos n with h0 | h0
  · subst h0
    have hx : xs = [] := List.eq_nil_of_length_eq_zero hn
    subst hx
    rw [run_convert_bytes_string w _ _ _ _ 0 c Tryz.underlying47 Tryz.underlying5 Tryz.underlying9]
    cases A <;> simp [Conv.bytesToString, loadCells]
    all_goals rfl
  · obtain ⟨b, o, rfl, _, hc⟩ := h.2 (by omega)
    exact run_convert_bytes_arg (P := Tryz.prog) w _ _ Tryz.underlying47 Tryz.underlying5 b o n c xs hn (fun i hi => hc i (by omega)) _ Tryz.underlying9

theorem strs_eq (xs ys : List Int) (hx : ∀ x ∈ xs, (Lit.int .u8 x).wf = true) (hy : ∀ x ∈ ys, (Lit.int .u8 x).wf = true) (h : (strOfNums xs).toList = (strOfNums ys).toList) : xs = ys := by
  have inj : ∀ a b : Int, (Lit.int .u8 a).wf = true → (Lit.int .u8 b).wf = true → UInt8.ofNat a.toNat = UInt8.ofNat b.toNat → a = b := by
    intro a b ha hb e
    have ha := wf_u8 ha
    have hb := wf_u8 hb
    have := congrArg UInt8.toNat e
    simp at this
    omega
  rw [Lib.strOfNums_toList, Lib.strOfNums_toList] at h
  unfold Lib.bytesOf at h
  revert ys
  induction xs with
  | nil => intro ys _ h; cases ys with | nil => rfl | cons _ _ => simp at h
  | cons a xs ih =>
    intro ys hy h
    cases ys with
    | nil => simp at h
    | cons b ys =>
      simp only [List.map_cons, List.cons.injEq] at h
      rw [inj a b (hx a (by simp)) (hy b (by simp)) h.1, ih (fun x hm => hx x (by simp [hm])) ys (fun x hm => hy x (by simp [hm])) h.2]

theorem equal_yes (A A' : Option Addr) (n n' c c' : Nat) (xs : List Int) (w : World) (B B' : Nat) (hr : Row .u8 w B A xs) (hr' : Row .u8 w B' A' xs) (hn : xs.length = n) (hn' : xs.length = n') :
    Calls Tryz.prog 105 #[.slice A n c, .slice A' n' c'] w fun e w' => e = .returned (.bool true) ∧ w = w' := by
  have h1 := conv_row w B A n c xs hr hn
  have h2 := conv_row w B' A' n' c' xs hr' hn'
  clear hr hr' hn hn'
  generalize strOfNums xs = s at *
  have h3 : (s.toList == s.toList) = true := by simp
  go_enter Tryz.func105, Tryz.ntmps105
  go_wp2
  go_ret
  exact ⟨rfl, rfl⟩
theorem equal_no (A A' : Option Addr) (n n' c c' : Nat) (xs ys : List Int) (w : World) (B B' : Nat) (hr : Row .u8 w B A xs) (hr' : Row .u8 w B' A' ys) (hn : xs.length = n) (hn' : ys.length = n') (hne : xs ≠ ys) :
    Calls Tryz.prog 105 #[.slice A n c, .slice A' n' c'] w fun e w' => e = .returned (.bool false) ∧ w = w' := by
  have h1 := conv_row w B A n c xs hr hn
  have h2 := conv_row w B' A' n' c' ys hr' hn'
  have h3 : ((strOfNums xs).toList == (strOfNums ys).toList) = false := by
    rw [beq_eq_false_iff_ne]
    exact fun h => hne (strs_eq xs ys hr.1 hr'.1 h)
  clear hr hr' hn hn' hne
  generalize strOfNums xs = s at *
  generalize strOfNums ys = t at *
  go_enter Tryz.func105, Tryz.ntmps105
  go_wp2
  go_ret
  exact ⟨rfl, rfl⟩

end Go.Proofs.YtbdhhmhlcdganaaGreatDoor
namespace Go.Proofs.YtbdhhmhlcdganaaGreatDoor
open Go.RowKit
set_option linter.unusedVariables false

def MakesCl (w : World) (xs : List Int) (e : Ending) (w' : World) : Prop := ∃ v, e = .returned v ∧ KOwn .u8 5 w' w.heap.size v xs ∧ Below w.heap.size w w'
theorem info_cl : (Tryz.prog.info? 5).map (fun i => (i.zero, i.size, i.bytes)) = some (some (.int .u8 0), 1, 1) := by kernel_rfl
theorem zeros_cl (m : Nat) : ∀ x ∈ List.replicate m (0 : Int), (Lit.int .u8 x).wf = true := fun x hx => by rw [List.eq_of_mem_replicate hx]; decide
theorem append_cl (A : Option Addr) (n c : Nat) (xs : List Int) (w : World) (hr : Row .u8 w w.heap.size A xs) (hn : xs.length = n) (h1 : 1 ≤ n) (hb : n ≤ 140737488351232) :
    ∃ cap w', (∀ ty, (Builtin.append_ #[47, 47] ty #[.slice (some ⟨w.heap.size, 0, none⟩) 0 0, .slice A n c]).run Tryz.prog (w.alloc (.cells #[] 5)) = .ok (.slice (some ⟨w.heap.size + 1, 0, none⟩) n cap) w') ∧ KOwn .u8 5 w' w.heap.size (.slice (some ⟨w.heap.size + 1, 0, none⟩) n cap) xs ∧ Below w.heap.size w w' := by
  have h := run_append_full (P := Tryz.prog) (w.alloc (.cells #[] 5)) 47 .u8 5 1 Tryz.underlying47 info_cl w.heap.size 0 [] (heap_alloc_new w _) rfl _ _ n c xs (hr.alloc (Nat.le_refl _) _) hn h1 (by omega) (by simp only [maxLen]; omega)
  obtain ⟨cap, h2, h3, h4⟩ := h
  have hz : (w.alloc (.cells #[] 5)).heap.size = w.heap.size + 1 := by simp
  simp only [Nat.zero_add, List.nil_append, hz] at h2
  refine ⟨cap, _, h2, ?_, ?_⟩
  · refine .inr ⟨_, n, cap, List.replicate (cap - n) 0, rfl, by omega, hn, ?_, by omega, h4, by rw [List.length_replicate]; omega, zeros_cl _⟩
    have := heap_alloc_new ((w.alloc (.cells #[] 5)).drew) (.cells (blk .u8 (xs ++ List.replicate (cap - n) 0)) 5)
    rw [show ((w.alloc (.cells #[] 5)).drew).heap.size = w.heap.size + 1 from hz] at this
    exact this
  · exact (below_drew (bel_alloc w _)).alloc (by show _ ≤ (w.alloc _).heap.size; omega) _
set_option maxRecDepth 100000 in
theorem clone_any (A : Option Addr) (n c : Nat) (xs : List Int) (w : World) (hr : Row .u8 w w.heap.size A xs) (hn : xs.length = n) (hb : n ≤ 140737488351232) :
    Calls Tryz.prog 74 #[.slice A n c] w (MakesCl w xs) := by
  by_cases h1 : 1 ≤ n
  · obtain ⟨b, o, rfl, _⟩ := hr.2 (by omega)
    obtain ⟨cap, w1, hap, hk, hbel⟩ := append_cl (some ⟨b, o, none⟩) n c xs w hr hn h1 hb
    have HK := Lib.hid hk
    clear hr hn hk
    have he : ∀ W : World, (binOp .eql 47 (.slice (some ⟨b, o, none⟩) n c) (.slice none 0 0)).run Tryz.prog W = .ok (.bool false) W := fun _ => rfl
    go_enter Tryz.func74, Tryz.ntmps74
    go_wp2_with (at_builtin; refine wpList_append_run _ rfl (.tmp 5) (.tmp 6) 47 rfl (.slice (some ⟨w.heap.size, 0, none⟩) 0 0) (.slice (some ⟨b, o, none⟩) n c) (.slice (some ⟨w.heap.size + 1, 0, none⟩) n cap) w1 rfl rfl hap ?_)
    go_ret
    exact ⟨_, rfl, HK.out, hbel⟩
  obtain rfl : n = 0 := by omega
  obtain rfl : xs = [] := List.eq_nil_of_length_eq_zero hn
  clear hn hb hr
  cases A with
  | none =>
    have he : ∀ W : World, (binOp .eql 47 (.slice none 0 c) (.slice none 0 0)).run Tryz.prog W = .ok (.bool true) W := fun _ => rfl
    go_enter Tryz.func74, Tryz.ntmps74
    go_wp2
    go_ret
    exact ⟨_, rfl, KOwn.nil _ _ _ _, Below.refl _ _⟩
  | some a =>
    have he : ∀ W : World, (binOp .eql 47 (.slice (some a) 0 c) (.slice none 0 0)).run Tryz.prog W = .ok (.bool false) W := fun _ => rfl
    go_enter Tryz.func74, Tryz.ntmps74
    go_wp2
    go_ret
    refine ⟨_, rfl, .inr ⟨w.heap.size, 0, 0, [], rfl, Nat.le_refl _, rfl, ?_, Nat.le_refl _, by unfold maxLen; omega, rfl, by simp⟩, bel_alloc w _⟩
    exact heap_alloc_new w _
end Go.Proofs.YtbdhhmhlcdganaaGreatDoor
namespace Go.Proofs.YtbdhhmhlcdganaaGreatDoor
open Go.RowKit
set_option linter.unusedVariables false
set_option maxRecDepth 100000

theorem or_u8 (x y : Int) (hx : 0 ≤ x ∧ x < 256) (hy : 0 ≤ y ∧ y < 256) : bits .or .i64 (x * 256) y = x * 256 + y := by
  have orw : ∀ x y : Nat, y < 256 → (x * 256) ||| y = x * 256 + y := fun x y hy => by
    have h := Nat.two_pow_add_eq_or_of_lt (i := 8) (b := y) (by omega) x
    rw [Nat.mul_comm x 256]
    exact h.symm
  obtain ⟨a, rfl⟩ := Int.eq_ofNat_of_zero_le hx.1
  obtain ⟨b, rfl⟩ := Int.eq_ofNat_of_zero_le hy.1
  show IntKind.i64.wrap ((BitVec.ofInt 64 ((a : Int) * 256) ||| BitVec.ofInt 64 (b : Int)).toNat : Int) = _
  have e1 : (a : Int) * 256 = ((a * 256 : Nat) : Int) := by omega
  have f1 : (BitVec.ofInt 64 ((a * 256 : Nat) : Int)).toNat = a * 256 := by rw [BitVec.ofInt_natCast, BitVec.toNat_ofNat]; exact Nat.mod_eq_of_lt (by omega)
  have f2 : (BitVec.ofInt 64 ((b : Nat) : Int)).toNat = b := by rw [BitVec.ofInt_natCast, BitVec.toNat_ofNat]; exact Nat.mod_eq_of_lt (by omega)
  rw [e1, BitVec.toNat_or, f1, f2, orw a b (by omega)]
  exact IntWalk.i64_in _ (by omega)
theorem ckE_1 {b : List Int} (h : b.length < 6) : ckE b = 1 := if_pos h
theorem ckE_2 {b : List Int} (h : ¬ b.length < 6) (h2 : 1024 < ckN b) : ckE b = 2 := by unfold ckE; rw [if_neg h, if_pos h2]
theorem ckE_3 {b : List Int} (h : ¬ b.length < 6) (h2 : ¬ 1024 < ckN b) (h3 : b.length < 6 + ckN b) : ckE b = 1 := by unfold ckE; rw [if_neg h, if_neg h2, if_pos h3]
theorem ckE_4 {b : List Int} (h : ¬ b.length < 6) (h2 : ¬ 1024 < ckN b) (h3 : ¬ b.length < 6 + ckN b) (h4 : (b.drop 2).take 4 = be4 (ckS (ckP b))) : ckE b = 0 := by unfold ckE; rw [if_neg h, if_neg h2, if_neg h3, if_pos h4]
theorem ckE_5 {b : List Int} (h : ¬ b.length < 6) (h2 : ¬ 1024 < ckN b) (h3 : ¬ b.length < 6 + ckN b) (h4 : ¬ (b.drop 2).take 4 = be4 (ckS (ckP b))) : ckE b = 5 := by unfold ckE; rw [if_neg h, if_neg h2, if_neg h3, if_neg h4]
theorem ckG_no {b : List Int} (h : ¬ ckE b = 0) : ckG b = [] := if_neg h
theorem ckM_no {b : List Int} (h : ¬ ckE b = 0) : ckM b = 0 := if_neg h
theorem ckG_yes {b : List Int} (h : ckE b = 0) : ckG b = ckP b := if_pos h
theorem ckM_yes {b : List Int} (h : ckE b = 0) : ckM b = 6 + ckN b := if_pos h
theorem ckP_has {b : List Int} (h3 : 6 + ckN b ≤ b.length) : (ckP b).length = ckN b := by
  unfold ckP
  rw [List.length_take, List.length_drop]
  omega
theorem ck_head {b : List Int} (hb : ∀ x ∈ b, (Lit.int .u8 x).wf = true) (h1 : 6 ≤ b.length) (h3 : 6 + ckN b ≤ b.length) : b.take 6 = ckH (ckP b).length ++ be4 (ckS (ckP b)) ↔ (b.drop 2).take 4 = be4 (ckS (ckP b)) := by
  rw [ckP_has h3]
  generalize be4 (ckS (ckP b)) = z
  match b, h1, hb with
  | b0 :: b1 :: t, h1, hb =>
    have w0 := wf_u8 (hb b0 (by simp))
    have w1 := wf_u8 (hb b1 (by simp))
    have hn : ckN (b0 :: b1 :: t) = b0.toNat * 256 + b1.toNat := rfl
    have e0 : (((b0.toNat * 256 + b1.toNat) / 256 : Nat) : Int) = b0 := by omega
    have e1 : (((b0.toNat * 256 + b1.toNat) % 256 : Nat) : Int) = b1 := by omega
    have hH : ckH (ckN (b0 :: b1 :: t)) = [b0, b1] := by rw [hn]; unfold ckH; rw [e0, e1]
    rw [hH]
    simp
theorem ckE_small (b : List Int) : 0 ≤ ckE b ∧ ckE b ≤ 5 := by
  unfold ckE
  repeat' split
  all_goals omega
theorem ckM_le (b : List Int) : ckM b ≤ b.length := by
  by_cases h : ckE b = 0
  · rw [ckM_yes h]; exact (ckE_zero.1 h).2.2.1
  · rw [ckM_no h]; exact Nat.zero_le _
theorem ckG_len (b : List Int) : (ckG b).length ≤ 1024 := by
  by_cases h : ckE b = 0
  · rw [ckG_yes h, ckP_len h]; exact (ckE_zero.1 h).2.1
  · rw [ckG_no h]; simp
theorem ckG_wf {b : List Int} (hb : ∀ x ∈ b, (Lit.int .u8 x).wf = true) : ∀ x ∈ ckG b, (Lit.int .u8 x).wf = true := by
  by_cases h : ckE b = 0
  · rw [ckG_yes h]; intro x hx; exact hb x (List.mem_of_mem_drop (List.mem_of_mem_take hx))
  · rw [ckG_no h]; intro x hx; cases hx

def ChGot (w : World) (b : List Int) (e : Ending) (w' : World) : Prop := ∃ v, e = .returned (.tuple #[v, .int .i64 (ckM b : Nat), .int .i64 (ckE b)]) ∧ KOwn .u8 5 w' w.heap.size v (ckG b) ∧ Below w.heap.size w w'
theorem ChGot.none_ {w w' : World} {b : List Int} {E : Int} (h : ckE b = E) (h0 : E ≠ 0) (hb : Below w.heap.size w w') : ChGot w b (.returned (.tuple #[.slice none 0 0, .int .i64 0, .int .i64 E])) w' := by
  have hn : ¬ ckE b = 0 := by rw [h]; exact h0
  exact ⟨_, by rw [ckM_no hn, h]; rfl, by rw [ckG_no hn]; exact KOwn.nil _ _ _ _, hb⟩
theorem bel_dn (w : World) (m : Nat) : Below w.heap.size w (w.drewN m) := ⟨rfl, rfl, rfl, Nat.le_refl _, fun _ _ => rfl⟩

set_option maxHeartbeats 2000000 in
theorem chGet_any (A : Option Addr) (n c : Nat) (b : List Int) (w : World) (hr : Row .u8 w w.heap.size A b) (hn : b.length = n) (hc : n ≤ c) (hm : n ≤ 140737488355328) :
    Calls Tryz.prog 70 #[.slice A n c] w (ChGot w b) := by
  by_cases h6 : n < 6
  · have HE : Hid (ckE b = 1) := Lib.hid (ckE_1 (by omega))
    have i1 : (n : Int) < 6 := by omega
    clear hr hn
    go_enter Tryz.func70, Tryz.ntmps70
    go_wp2
    go_ret3
    exact ChGot.none_ HE.out (by decide) (Below.refl _ _)
  · obtain ⟨b0, o0, rfl, _, c0⟩ := hr.at_ (i := 0) (by omega)
    obtain ⟨b1, o1, e1, _, c1⟩ := hr.at_ (i := 1) (by omega)
    injection e1 with e1
    injection e1 with e11 e12
    subst e11 e12
    have x0 := wf_u8 (hr.wf_at (i := 0) (by omega))
    have x1 := wf_u8 (hr.wf_at (i := 1) (by omega))
    have hor := or_u8 _ _ x0 x1
    have hN : nth b 0 * 256 + nth b 1 = ((ckN b : Nat) : Int) := by unfold ckN; omega
    rw [hN] at hor
    have hNb : ckN b < 65536 := by omega
    rw [Nat.add_zero] at c0
    have HR := Lib.hid hr
    have HN := Lib.hid hn
    obtain ⟨N, hNN⟩ : ∃ N, Hid (ckN b = N) := ⟨_, Lib.hid rfl⟩
    rw [hNN.out] at hor hNb
    clear hN
    generalize nth b 0 = x at *
    generalize nth b 1 = y at *
    have ew : IntKind.i64.wrap (x * 256) = x * 256 := IntWalk.i64_in _ (by omega)
    have t0 : (0 : Int) < (n : Int) := by omega
    have t1 : (1 : Int) < (n : Int) := by omega
    have t6 : ¬ (n : Int) < 6 := by omega
    clear hr hn
    by_cases hbig : 1024 < N
    · have HE : Hid (ckE b = 2) := Lib.hid (ckE_2 (by rw [HN.out]; exact h6) (by rw [hNN.out]; exact hbig))
      have i2 : (N : Int) > 1024 := by omega
      go_enter Tryz.func70, Tryz.ntmps70
      go_wp2
      go_quiet (fail)
      go_wp2
      go_ret3
      exact ChGot.none_ HE.out (by decide) (bel_dn _ _)
    by_cases hsh : n < 6 + N
    · have HE : Hid (ckE b = 1) := Lib.hid (ckE_3 (by rw [HN.out]; exact h6) (by rw [hNN.out]; exact hbig) (by rw [HN.out, hNN.out]; exact hsh))
      have i2 : ¬ (N : Int) > 1024 := by omega
      have i3 : (n : Int) < 6 + (N : Int) := by omega
      go_enter Tryz.func70, Tryz.ntmps70
      go_wp2
      go_quiet (fail)
      go_wp2
      go_ret3
      exact ChGot.none_ HE.out (by decide) (bel_dn _ _)
    have i2 : ¬ (N : Int) > 1024 := by omega
    have i3 : ¬ (n : Int) < 6 + (N : Int) := by omega
    have j1 : (6 : Int) ≤ 6 + (N : Int) := by omega
    have j2 : (6 : Int) + (N : Int) ≤ (c : Int) := by omega
    have j3 : 6 + N ≤ c := by omega
    have j4 : ((6 : Int) + (N : Int)).toNat = 6 + N := by omega
    have j5 : (6 : Int) ≤ (c : Int) := by omega
    have hpl : Hid ((ckP b).length = N) := Lib.hid (by rw [ckP_has (by rw [hNN.out, HN.out]; omega), hNN.out])
    have hh := ck_head HR.out.1 (by rw [HN.out]; omega) (by rw [hNN.out, HN.out]; omega)
    have HP : Hid (Row .u8 w w.heap.size (some ⟨b0, o0 + 6, none⟩) (ckP b)) := Lib.hid (by have := (HR.out.drop 6).front N; rw [← hNN.out] at this; exact this)
    have HT : Hid (Row .u8 w w.heap.size (some ⟨b0, o0, none⟩) (b.take 6)) := Lib.hid (HR.out.front 6)
    have HTL : Hid ((b.take 6).length = 6) := Lib.hid (by rw [List.length_take, HN.out]; omega)
    obtain ⟨P, hP⟩ : ∃ P, Hid (ckP b = P) := ⟨_, Lib.hid rfl⟩
    obtain ⟨T, hT⟩ : ∃ T, Hid (b.take 6 = T) := ⟨_, Lib.hid rfl⟩
    rw [hP.out] at hpl hh HP
    rw [hT.out] at hh HT HTL
    have HHL : Hid ((ckH P.length ++ be4 (ckS P)).length = 6) := Lib.hid (by simp [ckH, be4])
    have HHW : Hid (∀ x ∈ ckH P.length ++ be4 (ckS P), (Lit.int .u8 x).wf = true) := Lib.hid (wf_append (ckH_wf (by rw [hpl.out]; omega)) (be4_wf _))
    have k1 : Hid (¬ b.length < 6) := Lib.hid (by rw [HN.out]; exact h6)
    have k2 : Hid (¬ 1024 < ckN b) := Lib.hid (by rw [hNN.out]; exact hbig)
    have k3 : Hid (¬ b.length < 6 + ckN b) := Lib.hid (by rw [HN.out, hNN.out]; exact hsh)
    have HHd : Hid (∀ q ad cc, (0 < N → ad = some ⟨b0, o0 + 6, none⟩) → Calls Tryz.prog 75 #[.slice ad N cc] (w.drewN q) fun e w' => e = .returned (.slice (some ⟨w.heap.size, 0, none⟩) 6 6) ∧ Below w.heap.size w w' ∧ (∀ cc', Calls Tryz.prog 105 #[.slice (some ⟨b0, o0, none⟩) 6 cc', .slice (some ⟨w.heap.size, 0, none⟩) 6 6] w' fun e w'' => e = .returned (.bool (decide (T = ckH P.length ++ be4 (ckS P)))) ∧ w' = w'')) := Lib.hid (fun q ad cc had => by
      have hrow : Row .u8 (w.drewN q) (w.drewN q).heap.size ad P := by
        rcases Nat.eq_zero_or_pos N with h0 | h0
        · have : P = [] := List.eq_nil_of_length_eq_zero (by rw [hpl.out]; exact h0)
          rw [this]; exact Row.nil _ _ _ _
        · rw [had h0]; exact HP.out.drewN q
      refine (head_any ad N cc P _ hrow hpl.out (by omega)).mono fun e w1 ⟨he, hg, hb⟩ => ?_
      have hbel : Below w.heap.size w w1 := (bel_dn w q).trans hb
      refine ⟨he, hbel, fun cc' => ?_⟩
      have hT1 := HT.out.below hbel
      have hH1 := Row.of_block hg _ HHW.out (List.prefix_refl _)
      by_cases heq : T = ckH P.length ++ be4 (ckS P)
      · rw [decide_eq_true heq]
        rw [← heq] at hH1
        exact equal_yes _ _ _ _ _ _ T _ _ _ hT1 hH1 HTL.out HTL.out
      · rw [decide_eq_false heq]
        exact equal_no _ _ _ _ _ _ T _ _ _ _ hT1 hH1 HTL.out HHL.out heq)
    have HCl : Hid (∀ w1 ad cc, (0 < N → ad = some ⟨b0, o0 + 6, none⟩) → Below w.heap.size w w1 → Calls Tryz.prog 74 #[.slice ad N cc] w1 fun e w' => ∃ v, e = .returned v ∧ KOwn .u8 5 w' w.heap.size v P ∧ Below w.heap.size w w') := Lib.hid (fun w1 ad cc had hb => by
      have hrow : Row .u8 w1 w1.heap.size ad P := by
        rcases Nat.eq_zero_or_pos N with h0 | h0
        · have : P = [] := List.eq_nil_of_length_eq_zero (by rw [hpl.out]; exact h0)
          rw [this]; exact Row.nil _ _ _ _
        · rw [had h0]; exact (HP.out.below hb).more hb.size
      refine (clone_any ad N cc P w1 hrow hpl.out (by omega)).mono fun e w2 ⟨v, he, hk, hb2⟩ => ⟨v, he, hk.mono hb.size, hb.trans (hb2.mono hb.size)⟩)
    by_cases heq : T = ckH P.length ++ be4 (ckS P)
    · have HE : Hid (ckE b = 0) := Lib.hid (ckE_4 k1.out k2.out k3.out (by rw [hP.out]; exact hh.1 heq))
      have HD : Hid (decide (T = ckH P.length ++ be4 (ckS P)) = true) := Lib.hid (decide_eq_true heq)
      rw [HD.out] at HHd
      clear heq hh HR HT HP HTL HHL HHW k1 k2 k3 HD hT
      have HM : Hid (∀ v : Value, (Ending.returned (.tuple #[v, .int .i64 (6 + (N : Int)), .int .i64 0])) = .returned (.tuple #[v, .int .i64 (ckM b : Nat), .int .i64 (ckE b)])) := Lib.hid (fun v => by rw [ckM_yes HE.out, HE.out, hNN.out]; rfl)
      have HG : Hid (ckG b = P) := Lib.hid (by rw [ckG_yes HE.out, hP.out])
      by_cases hc6 : c = 6
      all_goals
        (go_enter Tryz.func70, Tryz.ntmps70
         go_wp2
         go_quiet (fail)
         go_wp2
         go_region_with (first
           | (go_at_call 75; refine (HHd.out _ _ _ (fun h => by first | rfl | omega)).mono ?_; rintro e w1 ⟨rfl, hb1, heq⟩)
           | (go_at_call 105; refine (heq _).mono ?_; rintro e w2 ⟨rfl, rfl⟩))
         go_wp2_with (go_at_call 74; refine (HCl.out _ _ _ (fun h => by first | rfl | omega) hb1).mono ?_; rintro e w3 ⟨v3, rfl, hk3, hb3⟩)
         go_ret3
         exact ⟨v3, HM.out v3, by rw [HG.out]; exact hk3, hb3⟩)
    · have HE : Hid (ckE b = 5) := Lib.hid (ckE_5 k1.out k2.out k3.out (by rw [hP.out]; exact fun h => heq (hh.2 h)))
      have HD : Hid (decide (T = ckH P.length ++ be4 (ckS P)) = false) := Lib.hid (decide_eq_false heq)
      rw [HD.out] at HHd
      clear heq hh HR HT HP HTL HHL HHW k1 k2 k3 HD hT HCl
      by_cases hc6 : c = 6
      all_goals
        (go_enter Tryz.func70, Tryz.ntmps70
         go_wp2
         go_quiet (fail)
         go_wp2
         go_region_with (first
           | (go_at_call 75; refine (HHd.out _ _ _ (fun h => by first | rfl | omega)).mono ?_; rintro e w1 ⟨rfl, hb1, heq⟩)
           | (go_at_call 105; refine (heq _).mono ?_; rintro e w2 ⟨rfl, rfl⟩))
         go_wp2
         go_ret3
         exact ChGot.none_ HE.out (by decide) hb1)
end Go.Proofs.YtbdhhmhlcdganaaGreatDoor
namespace Go.Proofs.YtbdhhmhlcdganaaGreatDoor
open Go.RowKit
set_option linter.unusedVariables false
set_option maxRecDepth 100000

theorem info_l8 : (Tryz.prog.info? 47).map (fun i => (i.zero, i.size, i.bytes)) = some (some (.slice none 0 0), 1, 24) := by kernel_rfl
def nthB (l : List (List Int)) (i : Nat) : List Int := l.getD i []
theorem nthB_eq (l : List (List Int)) (i : Nat) (h : i < l.length) : nthB l i = l[i] := by simp [nthB, List.getD_eq_getElem?_getD, List.getElem?_eq_getElem h]
theorem nthB_mem (l : List (List Int)) (i : Nat) (h : i < l.length) : nthB l i ∈ l := by rw [nthB_eq l i h]; exact List.getElem_mem h
theorem takeB_step (l : List (List Int)) (i : Nat) (h : i < l.length) : l.take (i + 1) = l.take i ++ [nthB l i] := by
  rw [List.take_succ_eq_append_getElem h, nthB_eq l i h]
def BRow (w : World) (B : Nat) (A : Option Addr) (ls : List (List Int)) : Prop :=
  0 < ls.length → ∃ b o, A = some ⟨b, o, none⟩ ∧ b < B ∧ ∀ i, i < ls.length → ∃ Ai ci, w.cell? ⟨b, o + i, none⟩ = some (.slice Ai (nthB ls i).length ci) ∧ Row .u8 w B Ai (nthB ls i) ∧ (nthB ls i).length ≤ ci ∧ ci ≤ maxLen
theorem BRow.nil (w : World) (B : Nat) (A : Option Addr) : BRow w B A [] := fun h => absurd h (by simp)
theorem BRow.below {w w' : World} {B : Nat} {A : Option Addr} {ls : List (List Int)} (h : BRow w B A ls) (hb : Below B w w') : BRow w' B A ls := fun h0 => by
  obtain ⟨b, o, e, hlt, hc⟩ := h h0
  refine ⟨b, o, e, hlt, fun i hi => ?_⟩
  obtain ⟨Ai, ci, h1, h2, h3⟩ := hc i hi
  exact ⟨Ai, ci, (hb.cell (p := ⟨b, o + i, none⟩) hlt).trans h1, h2.below hb, h3⟩
theorem BRow.more {w : World} {B B' : Nat} {A : Option Addr} {ls : List (List Int)} (h : BRow w B A ls) (hB : B ≤ B') : BRow w B' A ls := fun h0 => by
  obtain ⟨b, o, e, hlt, hc⟩ := h h0
  refine ⟨b, o, e, by omega, fun i hi => ?_⟩
  obtain ⟨Ai, ci, h1, h2, h3⟩ := hc i hi
  exact ⟨Ai, ci, h1, h2.more hB, h3⟩
theorem BRow.drewN {w : World} {B : Nat} {A : Option Addr} {ls : List (List Int)} (h : BRow w B A ls) (n : Nat) : BRow (w.drewN n) B A ls := h
theorem BRow.at_ {w : World} {B : Nat} {A : Option Addr} {ls : List (List Int)} (h : BRow w B A ls) {i : Nat} (hi : i < ls.length) :
    ∃ b o Ai ci, A = some ⟨b, o, none⟩ ∧ b < B ∧ w.cell? ⟨b, o + i, none⟩ = some (.slice Ai (nthB ls i).length ci) ∧ Row .u8 w B Ai (nthB ls i) ∧ (nthB ls i).length ≤ ci ∧ ci ≤ maxLen := by
  obtain ⟨b, o, hA, hb, hc⟩ := h (by omega)
  obtain ⟨Ai, ci, h1, h2, h3⟩ := hc i hi
  exact ⟨b, o, Ai, ci, hA, hb, h1, h2, h3⟩
theorem BRow.wf {w : World} {B : Nat} {A : Option Addr} {ls : List (List Int)} (h : BRow w B A ls) : ∀ xs ∈ ls, ∀ x ∈ xs, (Lit.int .u8 x).wf = true := by
  intro xs hxs
  obtain ⟨i, hi, rfl⟩ := List.mem_iff_getElem.1 hxs
  obtain ⟨b, o, _, _, hc⟩ := h (by omega)
  obtain ⟨Ai, ci, _, h2, _⟩ := hc i hi
  rw [nthB_eq ls i hi] at h2
  exact h2.1
theorem BRow.front {w : World} {B : Nat} {A : Option Addr} {ls : List (List Int)} (h : BRow w B A ls) (m : Nat) : BRow w B A (ls.take m) := fun h0 => by
  rw [List.length_take] at h0
  obtain ⟨b, o, e, hlt, hc⟩ := h (by omega)
  refine ⟨b, o, e, hlt, fun i hi => ?_⟩
  rw [List.length_take] at hi
  have he : nthB (ls.take m) i = nthB ls i := by
    rw [nthB_eq _ _ (by rw [List.length_take]; omega), nthB_eq _ _ (by omega), List.getElem_take]
  rw [he]
  exact hc i (by omega)

def LOwn (w : World) (base : Nat) (v : Value) (ls : List (List Int)) : Prop :=
  ∃ L : List (List Int × Value), L.map Prod.fst = ls ∧ w.ownsRow base 47 1 v L.length (L.map Prod.snd) ∧ ∀ p ∈ L, KOwn .u8 5 w base p.2 p.1
theorem LOwn.nil (w : World) (base : Nat) : LOwn w base (.slice none 0 0) [] := ⟨[], rfl, World.ownsRow_nil _ _ _ _, fun p hp => by cases hp⟩
theorem rowL_below {w w' : World} {base B n : Nat} {v : Value} {xs : List Value} (h : w.ownsRow base 47 1 v n xs) (hb : Below B w w') (hB : w.heap.size ≤ B) : w'.ownsRow base 47 1 v n xs := by
  refine h.kept (row := none) ⟨hb.os, hb.tape, hb.output, hb.size, fun i hi _ => hb.block i (by omega)⟩ ?_
  cases hv : v.ownBlock with
  | none => exact .inl rfl
  | some g => exact .inr (by simp)
theorem LOwn.below {w w' : World} {base B : Nat} {v : Value} {ls : List (List Int)} (h : LOwn w base v ls) (hb : Below B w w') (hB : w.heap.size ≤ B) : LOwn w' base v ls := by
  obtain ⟨L, h1, h2, h3⟩ := h
  exact ⟨L, h1, rowL_below h2 hb hB, fun p hp => (h3 p hp).below hb hB⟩
theorem LOwn.drewN {w : World} {base : Nat} {v : Value} {ls : List (List Int)} (h : LOwn w base v ls) (n : Nat) : LOwn (w.drewN n) base v ls := h
theorem LOwn.alloc {w : World} {base : Nat} {v : Value} {ls : List (List Int)} (h : LOwn w base v ls) (o : Obj) : LOwn (w.alloc o) base v ls := h.below ((Below.refl _ _).alloc (Nat.le_refl _) o) (Nat.le_refl _)
theorem LOwn.mono {w : World} {base base' : Nat} {v : Value} {ls : List (List Int)} (h : LOwn w base v ls) (hb : base' ≤ base) : LOwn w base' v ls := by
  obtain ⟨L, h1, h2, h3⟩ := h
  refine ⟨L, h1, ⟨h2.1, ?_⟩, fun p hp => (h3 p hp).mono hb⟩
  rcases h2.2 with h0 | ⟨g, cap, cur, hv, h1, r⟩
  · exact .inl h0
  · exact .inr ⟨g, cap, cur, hv, by omega, r⟩
theorem LOwn.block {w : World} {base : Nat} {v : Value} {ls : List (List Int)} (h : LOwn w base v ls) : ∀ g, v.ownBlock = some g → base ≤ g ∧ g < w.heap.size := by
  obtain ⟨L, h1, h2, h3⟩ := h
  exact World.ownsRow.lt h2
theorem list8_far {w : World} {base base' : Nat} {v u : Value} {n : Nat} {xs : List Value} {ys : List Int} (h : w.ownsRow base 47 1 v n xs) (k : KOwn .u8 5 w base' u ys) : u.ownBlock = none ∨ u.ownBlock ≠ v.ownBlock := by
  rcases k with ⟨rfl, _⟩ | ⟨g, m, cap, r, rfl, _, _, hg, _⟩
  · exact .inl rfl
  · refine .inr fun e => ?_
    rcases h.2 with ⟨rfl, _⟩ | ⟨g', cap', cur, rfl, _, hg', _⟩
    · cases e
    · have e : some g = some g' := e
      injection e with e
      subst e
      rw [hg] at hg'
      injection hg' with hg'
      injection hg' with _ ht
      exact absurd ht (by decide)
theorem LOwn.len {w : World} {base : Nat} {v : Value} {ls : List (List Int)} (h : LOwn w base v ls) : ∃ A c, v = .slice A ls.length c ∧ ls.length ≤ c ∧ c ≤ maxLen := by
  obtain ⟨L, rfl, h2, h3⟩ := h
  rw [List.length_map]
  rcases h2.2 with ⟨rfl, h0⟩ | ⟨g, cap, cur, rfl, _, _, h4, h5, _⟩
  · rw [h0]; exact ⟨none, 0, rfl, Nat.le_refl _, Nat.zero_le _⟩
  · exact ⟨_, cap, rfl, h4, h5⟩
theorem LOwn.at_ {w : World} {base : Nat} {A : Option Addr} {n c : Nat} {ls : List (List Int)} (h : LOwn w base (.slice A n c) ls) {i : Nat} (hi : i < ls.length) :
    ∃ g u, A = some ⟨g, 0, none⟩ ∧ base ≤ g ∧ g < w.heap.size ∧ w.cell? ⟨g, i, none⟩ = some u ∧ KOwn .u8 5 w base u (nthB ls i) ∧ ∃ cs, w.heap[g]? = some (.cells cs 47 (0, 0)) := by
  obtain ⟨L, rfl, h2, h3⟩ := h
  rw [List.length_map] at hi
  rcases h2.2 with ⟨e, h9⟩ | ⟨g, cap, cur, e, hb, hg, h4, h5, h6, h7⟩
  · omega
  · injection e with e1 e2 e3
    subst e1 e2 e3
    refine ⟨g, (L[i]).2, rfl, hb, block_lt hg, ?_, ?_, _, hg⟩
    · rw [cell_of_row w g i cur _ _ hg, ← Array.getElem?_toList]
      have : (cur.toList.take (L.length * 1))[i]? = (L.map Prod.snd)[i]? := by rw [h7]
      rw [List.getElem?_take_of_lt (by omega)] at this
      rw [this, List.getElem?_map, List.getElem?_eq_getElem hi]
      rfl
    · have hf : nthB (L.map Prod.fst) i = (L[i]).1 := by rw [nthB_eq _ _ (by simpa using hi)]; simp
      rw [hf]
      exact h3 _ (List.getElem_mem hi)
theorem LOwn.brow {w : World} {base : Nat} {A : Option Addr} {n c : Nat} {ls : List (List Int)} (h : LOwn w base (.slice A n c) ls) (hw : ∀ xs ∈ ls, ∀ x ∈ xs, (Lit.int .u8 x).wf = true) : BRow w w.heap.size A ls := by
  intro h0
  obtain ⟨g, _, rfl, _, hg, _⟩ := h.at_ h0
  refine ⟨g, 0, rfl, hg, fun i hi => ?_⟩
  obtain ⟨g', u, e, _, _, hc, hk, _⟩ := h.at_ hi
  injection e with e
  injection e with e
  subst e
  obtain ⟨Ai, ci, rfl, hr, h1, h2⟩ := hk.row (hw _ (nthB_mem _ _ hi))
  exact ⟨Ai, ci, by rw [Nat.zero_add]; exact hc, hr, h1, h2⟩
theorem Below.lown {w0 w w' : World} {base B : Nat} {v : Value} {ls : List (List Int)} (hb : Below B w0 w) (hB : B ≤ w.heap.size) (h : LOwn w base v ls) (hBB : B ≤ base) (hg : w.grownBy w' v.ownBlock) : Below B w0 w' :=
  hb.grown hg hB fun g e => Nat.le_trans hBB (h.block g e).1

section
variable {P : Program}
theorem wpList_append_l8 {ops : Array Oper} {rest : List Oper} {o : Oper} {a : Act} {Q : Exit → Act → World → Prop} (w : World) (hgd : o.guard = none) (s x : Operand) (t : TypeId)
    (ho : o.op = .call { callee := .builtin .append, args := #[s, x], argTypes := #[t, t] }) (base : Nat) (ht : P.underlying t = some (.slice 47)) (hi : (P.info? 47).map (fun i => (i.zero, i.size, i.bytes)) = some (some (.slice none 0 0), 1, 24))
    (v : Value) (ls : List (List Int)) (hs : a.eval s = v) (hown : LOwn w base v ls) (ad : Addr) (c : Nat) (xs : List Int) (A : Option Addr) (m cc : Nat) (hx : a.eval x = .slice (some ad) 1 c)
    (hk : KOwn .u8 5 w base (.slice A m cc) xs) (hnews : ∀ j u, [Value.slice A m cc][j]? = some u → w.cell? (ad.add j) = some u) (hb : ls.length ≤ 1073741824) (hbase : base ≤ w.heap.size)
    (h : ∀ v' w', LOwn w' base v' (ls ++ [xs]) → w.grownBy w' v.ownBlock → wpList P ops Q rest (a.put o.dst v') w') : wpList P ops Q (o :: rest) a w := by
  obtain ⟨i, hi1, hz, hsz, hby⟩ := info_parts hi
  obtain ⟨L, rfl, h2, h3⟩ := hown
  rw [List.length_map] at hb
  refine wpList_append_own w hgd s x t ho base 47 i _ 1 24 ht hi1 hz hsz hby rfl (by omega) v L.length (L.map Prod.snd) hs h2 ad 1 c [.slice A m cc] hx rfl hnews (by simp [Value.oneCell']) (by simp only [maxLen]; omega) (by omega) hbase fun v' w' h4 h5 _ => h v' w' ?_ h5
  refine ⟨L ++ [(xs, .slice A m cc)], by simp, ?_, fun p hp => ?_⟩
  · rw [List.map_append, List.length_append]
    exact h4
  · rcases List.mem_append.1 hp with hp | hp
    · exact (h3 p hp).kept h5 (list8_far h2 (h3 p hp))
    · simp only [List.mem_singleton] at hp
      subst hp
      exact hk.kept h5 (list8_far h2 hk)
end
theorem box_l8 (w : World) (t : TypeId) (x : Value) : ∀ j u, [x][j]? = some u → (w.alloc (.cells #[x] t)).cell? ((⟨w.heap.size, 0, none⟩ : Addr).add j) = some u := by
  intro j u hu
  rw [Go.WideShapes.add_plain, Nat.zero_add, World.cell?_alloc_at _ _ _ _ rfl]
  simpa using hu
end Go.Proofs.YtbdhhmhlcdganaaGreatDoor
namespace Go.Proofs.YtbdhhmhlcdganaaGreatDoor
open Go.RowKit
set_option linter.unusedVariables false
set_option maxRecDepth 100000

def ckScan (b : List Int) : List (List Int) × Nat := ckSc (b.length + 1) b
def ScPre (b : List Int) (ls : List (List Int)) (k : Nat) : Prop := 6 * ls.length ≤ k ∧ ∀ f, ckSc (f + ls.length) b = (ls ++ (ckSc f (b.drop k)).1, k + (ckSc f (b.drop k)).2)
theorem ScPre.zero (b : List Int) : ScPre b [] 0 := ⟨by simp, fun f => by simp⟩
theorem ScPre.step {b : List Int} {ls : List (List Int)} {k : Nat} (h : ScPre b ls k) (h0 : ckE (b.drop k) = 0) : ScPre b (ls ++ [ckG (b.drop k)]) (k + ckM (b.drop k)) := by
  rw [ckG_yes h0, ckM_yes h0]
  refine ⟨by have := h.1; simp; omega, fun f => ?_⟩
  have h2 := h.2 (f + 1)
  rw [show f + (ls ++ [ckP (b.drop k)]).length = f + 1 + ls.length by simp; omega, h2]
  rw [ckSc, if_pos h0, List.drop_drop]
  simp [Nat.add_assoc]
theorem ScPre.stop {b : List Int} {ls : List (List Int)} {k : Nat} (h : ScPre b ls k) (hk : k ≤ b.length) (h0 : ckE (b.drop k) ≠ 0) : ckScan b = (ls, k) := by
  have h2 := h.2 (b.length + 1 - ls.length)
  rw [show b.length + 1 - ls.length + ls.length = b.length + 1 by have := h.1; omega] at h2
  unfold ckScan
  rw [h2, show b.length + 1 - ls.length = (b.length - ls.length) + 1 by have := h.1; omega, ckSc, if_neg h0]
  simp
def ChScans (w : World) (b : List Int) (e : Ending) (w' : World) : Prop :=
  ∃ v, e = .returned (.tuple #[v, .int .i64 ((ckScan b).2 : Nat)]) ∧ LOwn w' w.heap.size v (ckScan b).1 ∧ Below w.heap.size w w'
theorem ChScans.of {w w' : World} {b : List Int} {v : Value} {ls : List (List Int)} {k : Nat} (h : ckScan b = (ls, k)) (h1 : LOwn w' w.heap.size v ls) (h2 : Below w.heap.size w w') : ChScans w b (.returned (.tuple #[v, .int .i64 (k : Nat)])) w' := by
  unfold ChScans
  rw [h]
  exact ⟨v, rfl, h1, h2⟩
theorem chGet_left (A : Option Addr) (n c k cc : Nat) (b : List Int) (w W : World) (hr : Row .u8 w w.heap.size A b) (hn : b.length = n) (hc : n ≤ c) (hm : n ≤ 140737488355328) (hk : k ≤ n) (hB : Below w.heap.size w W) (A' : Option Addr) (hA : k < n → ∃ b0 o0, A = some ⟨b0, o0, none⟩ ∧ A' = some ⟨b0, o0 + k, none⟩) (hcc : n - k ≤ cc) :
    Calls Tryz.prog 70 #[.slice A' (n - k) cc] W (ChGot W (b.drop k)) := by
  refine chGet_any A' (n - k) cc (b.drop k) W ?_ (by rw [List.length_drop, hn]) hcc (by omega)
  by_cases hlt : k < n
  · obtain ⟨b0, o0, rfl, rfl⟩ := hA hlt
    exact ((hr.drop k).below hB).more hB.size
  · rw [List.drop_of_length_le (by omega)]
    exact Row.nil _ _ _ _
theorem ckGot_len {b : List Int} (h0 : ckE b = 0) : 6 ≤ ckM b ∧ ckM b ≤ b.length := ⟨by rw [ckM_yes h0]; omega, ckM_le b⟩

set_option maxHeartbeats 4000000 in
theorem chScan_any (A : Option Addr) (n c : Nat) (b : List Int) (w : World) (hr : Row .u8 w w.heap.size A b) (hn : b.length = n) (hc : n ≤ c) (hm : n ≤ 1073741824) :
    Calls Tryz.prog 66 #[.slice A n c] w (ChScans w b) := by
  have HR := Lib.hid hr
  have HN := Lib.hid hn
  clear hr hn
  go_enter Tryz.func66, Tryz.ntmps66
  go_wp2
  go_step3
  go_wp2
  go_step3
  go_wp2
  go_loopw [4, 5] (fun v q wr => ∃ (k : Nat) (ls : List (List Int)), k ≤ n ∧ q = .int .i64 k ∧ ScPre b ls k ∧ LOwn wr w.heap.size v ls ∧ Below w.heap.size w wr) (fun _ q _ => n + 1 - (intOf q).toNat)
  case atStart => exact ⟨0, [], by omega, rfl, ScPre.zero b, LOwn.nil _ _, Below.refl _ _⟩
  case round =>
    obtain ⟨k, ls, hk, rfl, pre, own, bel⟩ := hrel
    have HG : Hid (∀ A' cc, (k < n → ∃ b0 o0, A = some ⟨b0, o0, none⟩ ∧ A' = some ⟨b0, o0 + k, none⟩) → n - k ≤ cc → Calls Tryz.prog 70 #[.slice A' (n - k) cc] wr (ChGot wr (b.drop k))) := Lib.hid (fun A' cc hA hcc => chGet_left A n c k cc b w wr HR.out HN.out hc (by omega) hk bel A' hA hcc)
    have HA : Hid (k < n → ∃ b0 o0, A = some ⟨b0, o0, none⟩) := Lib.hid (fun hlt => by
      obtain ⟨b0, o0, rfl, _, _⟩ := HR.out.at_ (i := k) (by rw [HN.out]; exact hlt)
      exact ⟨_, _, rfl⟩)
    obtain ⟨E, hE⟩ : ∃ E, Hid (ckE (b.drop k) = E) := ⟨_, Lib.hid rfl⟩
    obtain ⟨M, hM⟩ : ∃ M, Hid (ckM (b.drop k) = M) := ⟨_, Lib.hid rfl⟩
    obtain ⟨G, hG⟩ : ∃ G, Hid (ckG (b.drop k) = G) := ⟨_, Lib.hid rfl⟩
    have hMl : M ≤ n - k := by rw [← hM.out]; have := ckM_le (b.drop k); rw [List.length_drop, HN.out] at this; exact this
    have PRE := Lib.hid pre
    have OWN := Lib.hid own
    have BEL := Lib.hid bel
    have hsz := bel.size
    have hls : ls.length ≤ 1073741824 := by have := pre.1; omega
    have i2 : (k : Int) ≤ (n : Int) := by omega
    have i3 : (k : Int) ≤ (c : Int) := by omega
    have i4 : (n : Int) ≤ (c : Int) := by omega
    clear pre own bel
    have HS : Hid (E ≠ 0 → ∀ w', Below wr.heap.size wr w' → ∀ v, LOwn wr w.heap.size v ls → ChScans w b (.returned (.tuple #[v, .int .i64 (k : Nat)])) w') := Lib.hid (fun h0 w' hb v hv => ChScans.of (PRE.out.stop (by rw [HN.out]; exact hk) (by rw [hE.out]; exact h0)) (hv.below hb (Nat.le_refl _)) (BEL.out.trans (hb.mono hsz)))
    have HG2 : Hid (∀ A' cc, (k < n → ∃ b0 o0, A = some ⟨b0, o0, none⟩ ∧ A' = some ⟨b0, o0 + k, none⟩) → n - k ≤ cc → Calls Tryz.prog 70 #[.slice A' (n - k) cc] wr fun e w' => ∃ A1 c1, e = .returned (.tuple #[.slice A1 G.length c1, .int .i64 (M : Nat), .int .i64 E]) ∧ KOwn .u8 5 w' wr.heap.size (.slice A1 G.length c1) G ∧ Below wr.heap.size wr w') := Lib.hid (fun A' cc hA hcc => (HG.out A' cc hA hcc).mono fun e w' ⟨v, he, hk, hb⟩ => by
      rw [hG.out] at hk
      rw [hM.out, hE.out] at he
      obtain ⟨A1, c1, rfl, _⟩ := hk.form
      exact ⟨A1, c1, he, hk, hb⟩)
    clear HG
    by_cases hlt : k < n
    · obtain ⟨b0, o0, rfl⟩ := HA.out hlt
      have hkc : ¬ c = k := by omega
      by_cases h0 : E = 0
      · have h06 : 6 ≤ M := by rw [← hM.out]; exact (ckGot_len (by rw [hE.out]; exact h0)).1
        have PRE2 : Hid (ScPre b (ls ++ [G]) (k + M)) := Lib.hid (by have := PRE.out.step (by rw [hE.out]; exact h0); rw [hG.out, hM.out] at this; exact this)
        subst h0
        go_wp2_with (first
          | (go_at_call 70; refine (HG2.out _ _ (fun _ => ⟨_, _, rfl, rfl⟩) (by omega)).mono ?_; rintro e w1 ⟨A1, c1, rfl, k1, b1⟩; have K1 := Lib.hid k1; have B1 := Lib.hid b1; have OWN1 := Lib.hid (OWN.out.below b1 (Nat.le_refl _)); have hs1 := b1.size; clear k1 b1)
          | (at_builtin; refine wpList_append_l8 _ rfl _ _ 22 rfl w.heap.size Tryz.underlying22 info_l8 _ ls rfl (OWN1.out.alloc _) ⟨w1.heap.size, 0, none⟩ 1 G A1 G.length c1 rfl ((K1.out.mono hsz).below (bel_alloc w1 _) (Nat.le_refl _)) (box_l8 _ _ _) hls (by simp; omega) ?_; intro v2 w2 own4 g4))
        have bel4 := Below.lown ((BEL.out.trans (B1.out.mono hsz)).alloc (by omega) _) (by simp; omega) (OWN1.out.alloc _) (Nat.le_refl _) g4
        go_roundw
        case rel => exact ⟨k + M, ls ++ [G], by omega, by go_num, PRE2.out, own4, bel4⟩
        case measure => simp [intOf]; omega
      · have e1 : (E == 0) = false := by simpa using h0
        have e2 : (E != 0) = true := by simpa using h0
        have HS2 := Lib.hid (HS.out h0)
        clear h0
        go_wp2_with (go_at_call 70; refine (HG2.out _ _ (fun _ => ⟨_, _, rfl, rfl⟩) (by omega)).mono ?_; rintro e w1 ⟨A1, c1, rfl, k1, b1⟩; have B1 := Lib.hid b1; clear k1 b1)
        (try rw [Exit.noGoto_ret])
        go_ret2
        exact HS2.out _ B1.out _ OWN.out
    · obtain rfl : k = n := by omega
      have h0 : E ≠ 0 := by
        rw [← hE.out, List.drop_of_length_le (by rw [HN.out]; exact Nat.le_refl _)]
        decide
      have e1 : (E == 0) = false := by simpa using h0
      have e2 : (E != 0) = true := by simpa using h0
      have HS2 := Lib.hid (HS.out h0)
      have e3 : k - k = 0 := by omega
      rw [e3] at HG2
      clear h0 HS
      rcases A with _ | ⟨ab, ao, asp⟩
      all_goals
        by_cases hkc : c = k
        all_goals
          (go_wp2_with (go_at_call 70; refine (HG2.out _ _ (fun h => absurd h (by omega)) (by omega)).mono ?_; rintro e w1 ⟨A1, c1, rfl, k1, b1⟩; have B1 := Lib.hid b1; clear k1 b1)
           (try rw [Exit.noGoto_ret])
           go_ret2
           exact HS2.out _ B1.out _ OWN.out)
end Go.Proofs.YtbdhhmhlcdganaaGreatDoor
