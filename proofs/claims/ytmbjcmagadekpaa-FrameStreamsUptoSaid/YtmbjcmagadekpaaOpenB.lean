/-
  Contracts of Seal, Open, bytes.Equal, and of the document's answer to Seal and Open.
-/
import Derived.Test.YtmbjcmagadekpaaSealB
import Derived.Lib.Bytes
import Derived.Test.YtmbjcmagadekpaaEqual
namespace Go.Proofs.Ytmbjcmagadekpaa
open Go.RowKit
set_option linter.unusedVariables false
/-- The document's 'same', both ways. -/
theorem refSame_yes (A A' : Option Addr) (n c c' : Nat) (xs : List Int) (w : World) (B B' : Nat) (hr : Row .u8 w B A xs) (hr' : Row .u8 w B' A' xs) (hn : xs.length = n) (hb : n ≤ 140737488355328) :
    Calls Try.prog 119 #[.slice A n c, .slice A' n c'] w fun e w' => e = .returned (.bool true) ∧ ∃ m, w' = w.drewN m := by
  go_enter Try.func119, Try.ntmps119
  go_wp2
  go_loopw [5] (fun i wr => ∃ k nq : Nat, k ≤ n ∧ i = .int .i64 k ∧ wr = w.drewN nq) (fun i _ => n - (intOf i).toNat)
  case atStart => exact ⟨0, 0, by omega, rfl, rfl⟩
  case round =>
    obtain ⟨k, nq, hk, rfl, rfl⟩ := hrel
    by_cases hlt : k < n
    · obtain ⟨b, o, rfl, hb1, hc1⟩ := hr.at_ (i := k) (by omega)
      obtain ⟨b', o', rfl, hb1', hc1'⟩ := hr'.at_ (i := k) (by omega)
      have hlt' : (k : Int) < (n : Int) := by omega
      go_wp2
      go_quiet (fail)
      go_wp2
      go_roundw
      case rel => exact ⟨k + 1, _, by omega, by go_num, rfl⟩
      case measure => simp [intOf]; omega
    · go_wp2
      go_ret
      exact ⟨rfl, nq, rfl⟩
theorem refSame_no (A A' : Option Addr) (n c c' : Nat) (xs ys : List Int) (w : World) (B B' : Nat) (hr : Row .u8 w B A xs) (hr' : Row .u8 w B' A' ys) (hn : xs.length = n) (hn' : ys.length = n) (hb : n ≤ 140737488355328) (hne : xs ≠ ys) :
    Calls Try.prog 119 #[.slice A n c, .slice A' n c'] w fun e w' => e = .returned (.bool false) ∧ ∃ m, w' = w.drewN m := by
  have HN := Lib.hid hne
  clear hne
  go_enter Try.func119, Try.ntmps119
  go_wp2
  go_loopw [5] (fun i wr => ∃ k nq : Nat, k ≤ n ∧ i = .int .i64 k ∧ wr = w.drewN nq ∧ Hid (∀ q, q < k → nth xs q = nth ys q)) (fun i _ => n - (intOf i).toNat)
  case atStart => exact ⟨0, 0, by omega, rfl, rfl, Lib.hid (fun q hq => by omega)⟩
  case round =>
    obtain ⟨k, nq, hk, rfl, rfl, hall⟩ := hrel
    by_cases hlt : k < n
    · obtain ⟨b, o, rfl, hb1, hc1⟩ := hr.at_ (i := k) (by omega)
      obtain ⟨b', o', rfl, hb1', hc1'⟩ := hr'.at_ (i := k) (by omega)
      have hlt' : (k : Int) < (n : Int) := by omega
      by_cases hq : nth xs k = nth ys k
      · have hall2 : Hid (∀ q, q < k + 1 → nth xs q = nth ys q) := by
          refine Lib.hid fun q hlq => ?_
          rcases Nat.lt_or_ge q k with h | h
          · exact hall.out q h
          · obtain rfl : q = k := by omega
            exact hq
        rw [← hq] at hc1'
        clear hq hall
        go_wp2
        go_quiet (fail)
        go_wp2
        go_roundw
        case rel => exact ⟨k + 1, _, by omega, by go_num, rfl, hall2⟩
        case measure => simp [intOf]; omega
      · have ht : (nth xs k != nth ys k) = true := by simp [hq]
        clear hall
        generalize nth xs k = u at *
        generalize nth ys k = v at *
        clear hq
        go_wp2
        go_quiet (fail)
        go_wp2
        go_ret
        refine ⟨rfl, ?_⟩
        rw [World.drewN_drewN]
        exact ⟨_, rfl⟩
    · exact absurd (ext_nth xs ys (by omega) fun i hi => hall.out i (by omega)) HN.out

set_option maxHeartbeats 1000000 in
theorem refBehind (A : Option Addr) (n c s z : Nat) (xs : List Int) (w : World) (hr : Row .u8 w w.heap.size A xs) (hn : xs.length = n) (hm : n ≤ 140737488351232) (hs : s < 4294967296) (hz : z ≤ 4) :
    Calls Try.prog 116 #[.slice A n c, .int .u32 s, .int .i64 z] w (Makes .u8 5 w (xs ++ le z s)) := by
  have hn' := Lib.hid hn
  clear hn
  go_enter Try.func116, Try.ntmps116
  go_wp2
  go_loopw [7, 8] (fun v i wr => ∃ k : Nat, k ≤ n ∧ i = .int .i64 k ∧ Own .u8 5 wr w.heap.size v (xs.take k) ∧ Below w.heap.size w wr) (fun _ i _ => n - (intOf i).toNat)
  case atStart => exact ⟨0, by omega, rfl, Own.nil _ _ _ _, Below.refl _ _⟩
  case round =>
    obtain ⟨k, hk, rfl, hown, hbel⟩ := hrel
    by_cases hlt : k < n
    · obtain ⟨b, o, rfl, hb1, hc1⟩ := (hr.below hbel).at_ (i := k) (by have := hn'.out; omega)
      have hl : Hid ((xs.take k).length = k) := by show _ = _; have := hn'.out; simp; omega
      have hone := Row.one .u8 wr 5 (nth xs k) (hr.wf_at (by have := hn'.out; omega))
      have hsz := hbel.size
      have HT := Lib.hid (take_step xs k (by have := hn'.out; omega))
      go_wp2_with (at_builtin; refine wpList_append_row _ rfl _ _ 34 rfl w.heap.size .u8 5 1 Try.underlying34 info_u8 _ (xs.take k) rfl (hown.alloc _) _ _ 1 1 [nth xs k] rfl hone rfl (by rw [hl.out]; omega) (by rw [hl.out]; simp only [maxLen]; omega) (by simp; omega) ?_; intro v1 w1 hown1 hg1)
      have hbel1 := Below.own1 hbel hsz hown hg1
      rw [← HT.out] at hown1
      clear hone hc1 hg1 hown
      go_wp2
      go_roundw
      case rel => exact ⟨k + 1, by omega, by go_num, hown1, hbel1⟩
      case measure => simp [intOf]; omega
    · have hx : xs.take k = xs := List.take_of_length_le (by have := hn'.out; omega)
      rw [hx] at hown
      clear hx
      go_wp2
      go_loopw [1, 7, 9] (fun t v i wr => ∃ j : Nat, j ≤ z ∧ i = .int .i64 j ∧ t = .int .u32 (s / 256 ^ j : Nat) ∧ Own .u8 5 wr w.heap.size v (xs ++ le j s) ∧ Below w.heap.size w wr) (fun _ _ i _ => z - (intOf i).toNat)
      case atStart => exact ⟨0, by omega, rfl, by simp, by simpa [le] using hown, hbel⟩
      case round =>
        obtain ⟨j, hj, rfl, rfl, own2, bel2⟩ := hrel
        by_cases hlj : j < z
        · have hb : s / 256 ^ j < 4294967296 := Nat.lt_of_le_of_lt (Nat.div_le_self _ _) hs
          have hq := Lib.hid (div_step s j)
          have hle := Lib.hid (le_succ j s)
          have hlen : Hid ((xs ++ le j s).length = n + j) := by show _ = _; rw [List.length_append, hn'.out, le_length]
          generalize s / 256 ^ j = q at *
          have hone := Row.one .u8 wr 5 ((q % 256 : Nat) : Int) (wf_byte _ (Nat.mod_lt _ (by omega)))
          have hsz := bel2.size
          have hwr : IntKind.u8.wrap ((q : Int) % 256) = ((q % 256 : Nat) : Int) := by rw [IntKind.wrap_u8]; omega
          go_wp2_with (at_builtin; refine wpList_append_row _ rfl _ _ 34 rfl w.heap.size .u8 5 1 Try.underlying34 info_u8 _ (xs ++ le j s) rfl (own2.alloc _) _ _ 1 1 [((q % 256 : Nat) : Int)] rfl hone rfl (by rw [hlen.out]; omega) (by rw [hlen.out]; simp only [maxLen]; omega) (by simp; omega) ?_; intro v3 w3 own3 hg3)
          have bel3 := Below.own1 bel2 hsz own2 hg3
          rw [List.append_assoc, ← hle.out] at own3
          clear hone hg3 hwr own2
          go_wp2
          go_roundw
          case rel => exact ⟨j + 1, by omega, by go_num, by rw [← hq.out]; go_num, own3, bel3⟩
          case measure => simp [intOf]; omega
        · obtain rfl : j = z := by omega
          go_wp2
          go_ret
          exact ⟨_, rfl, own2, bel2⟩

/-- What is sealed. -/
def sealed16 (xs : List Int) : List Int := xs ++ le 2 (tkAll 40961 65535 xs)
theorem Seal_16 (A : Option Addr) (n c : Nat) (xs : List Int) (w : World) (hr : Row .u8 w w.heap.size A xs) (hn : xs.length = n) (hm : n ≤ 140737488351232) :
    Calls Try.prog 80 #[.slice A n c] w (Lays .u8 5 w (sealed16 xs) (n + 2)) := by
  have hb : tkAll 40961 65535 xs < 65536 := tkAll_lt (b := 16) (by decide) (by decide) (by decide) _ (toNat_u8 hr.1)
  go_enter Try.func80, Try.ntmps80
  go_wp2_with fail
  refine (crc_16 _ _ _ xs _ _ hr hn (by omega)).mono ?_
  rintro e w' ⟨rfl, rfl⟩
  go_wp2_with fail
  refine (seal_16 _ _ _ _ xs _ hr hn hm hb).mono ?_
  rintro e w' ⟨rfl, hf, bel⟩
  go_wp2
  go_ret
  exact ⟨rfl, hf, bel⟩
theorem refSeal_16 (A : Option Addr) (n c : Nat) (xs : List Int) (w : World) (hr : Row .u8 w w.heap.size A xs) (hn : xs.length = n) (hm : n ≤ 140737488351232) :
    Calls Try.prog 82 #[.slice A n c] w (Makes .u8 5 w (sealed16 xs)) := by
  have hb : tkAll 40961 65535 xs < 65536 := tkAll_lt (b := 16) (by decide) (by decide) (by decide) _ (toNat_u8 hr.1)
  go_enter Try.func82, Try.ntmps82
  go_wp2_with fail
  refine (refCrc_16 _ _ _ xs _ _ hr hn (by omega)).mono ?_
  rintro e w' ⟨rfl, rfl⟩
  go_wp2_with fail
  refine (refBehind _ _ _ _ 2 xs _ hr hn hm (by omega) (by omega)).mono ?_
  rintro e w' ⟨v, rfl, own, bel⟩
  go_wp2
  go_ret
  exact ⟨_, rfl, own, bel⟩
theorem sealed16_wf {xs : List Int} (h : ∀ x ∈ xs, (Lit.int .u8 x).wf = true) : ∀ x ∈ sealed16 xs, (Lit.int .u8 x).wf = true := wf_append h (le_wf _ _)
theorem sealed16_length (xs : List Int) : (sealed16 xs).length = xs.length + 2 := by rw [sealed16, List.length_append, le_length]

end Go.Proofs.Ytmbjcmagadekpaa
