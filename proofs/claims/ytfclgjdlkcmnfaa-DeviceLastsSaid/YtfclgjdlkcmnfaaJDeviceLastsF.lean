/-
  The statement DeviceLasts of outstationlaw12 holds: for every input that can be read, the call returns true, and each argument reads as it did. No condition of its own.
-/
import Derived.Test.YtfclgjdlkcmnfaaJDeviceLastsE
import Derived.Test.YtfclgjdlkcmnfaaJDeviceLastsA
import Derived.Test.YtfclgjdlkcmnfaaRows
namespace Go.Proofs.Ytfclgjdlkcmnfaa
open Go.RowKit
set_option linter.unusedVariables false
set_option maxRecDepth 100000

theorem begins_yes (A1 A2 : Option Addr) (n1 c1 n2 c2 : Nat) (xs : List Int) (w : World) (B1 B2 : Nat) (hr1 : Row .u8 w B1 A1 xs) (hr2 : Row .u8 w B2 A2 (xs.take n2)) (hn1 : xs.length = n1) (h12 : n2 ≤ n1) (hc : n1 ≤ c1) (hb : n1 ≤ 140737488355328) (hA : A1 = none → c1 = 0) :
    Calls Try.prog 28 #[.slice A1 n1 c1, .slice A2 n2 c2] w fun e w' => e = .returned (.bool true) ∧ ∃ m, w' = w.drewN m := by
  have HS : Hid (∀ W, (∃ m, W = w.drewN m) → ∀ c, Calls Try.prog 22 #[.slice A1 n2 c, .slice A2 n2 c2] W fun e w' => e = .returned (.bool true) ∧ ∃ m, w' = w.drewN m) := Lib.hid (fun W ⟨m, hm⟩ c => by
    subst hm
    refine (same_yes_u8 A1 A2 n2 c c2 (xs.take n2) _ _ _ ((hr1.front n2).drewN m) (hr2.drewN m) (by rw [List.length_take]; omega) (by omega)).mono fun e w' ⟨h1, k, h2⟩ => ⟨h1, ?_⟩
    rw [h2]
    exact ⟨m + k, by simp [World.drewN, Nat.add_assoc]⟩)
  have i1 : (n1 : Int) ≥ (n2 : Int) := by omega
  have i2 : (n2 : Int) ≤ (c1 : Int) := by omega
  have i3 : n2 ≤ c1 := by omega
  cases A1 with
  | none =>
    have hc0 := hA rfl
    obtain rfl : c1 = 0 := hc0
    obtain rfl : n1 = 0 := by omega
    obtain rfl : n2 = 0 := by omega
    clear hr1 hr2 hn1 h12 hc hb hA i1 i2 i3
    go_enter Try.func28, Try.ntmps28
    go_wp2_with (go_at_call 22; refine (HS.out _ ⟨0, rfl⟩ _).mono ?_; rintro e w' ⟨rfl, m, rfl⟩)
    go_ret
    exact ⟨rfl, _, rfl⟩
  | some a =>
    clear hr1 hr2 hn1 h12 hc hb hA
    go_enter Try.func28, Try.ntmps28
    go_wp2_with (go_at_call 22; refine (HS.out _ ⟨0, rfl⟩ _).mono ?_; rintro e w' ⟨rfl, m, rfl⟩)
    go_ret
    exact ⟨rfl, _, rfl⟩

theorem KOwn.nilcap {k : IntKind} {e : TypeId} {w : World} {base : Nat} {A : Option Addr} {n c : Nat} {xs : List Int} (h : KOwn k e w base (.slice A n c) xs) : A = none → c = 0 := by
  intro hA
  rcases h with ⟨h1, _⟩ | ⟨g, n', cap, r, h1, _⟩
  · injection h1
  · injection h1 with h1 _ _
    rw [hA] at h1
    cases h1
def logN : ByteArray := ⟨#[108, 111, 103]⟩
/-- One file of a device of the call's own, beside it what was appended to it. -/
structure LsTo (D : DevP) (g : Nat) (G : Nat → Prop) (d : Dv) (all : List Int) (sy k : Nat) (v : Value) (w wr : World) : Prop where
  dev : D wr G g d
  ok : Dv.Ok d
  new : ∀ b, G b → w.heap.size ≤ b
  bel : Below w.heap.size w wr
  own : KOwn .u8 5 wr w.heap.size v all
  off : ∀ b, v.ownBlock = some b → ¬ G b
  is : LastIs d logN all sy
  len : all.length ≤ k * 4096
  wf : ∀ x ∈ all, (Lit.int .u8 x).wf = true
  le : sy ≤ all.length
theorem LsTo.below {D : DevP} (X : Dev D) {g : Nat} {G : Nat → Prop} {d : Dv} {all : List Int} {sy k : Nat} {v : Value} {w wr W : World} (h : LsTo D g G d all sy k v w wr) (hb : Below wr.heap.size wr W) : LsTo D g G d all sy k v w W :=
  ⟨X.frm h.dev (Frm.of_below (F := fun _ => False) hb) (fun _ _ e => e), h.ok, h.new, h.bel.trans (hb.mono h.bel.size), h.own.frm (F := fun _ => False) (Frm.of_below hb) (fun _ _ e => e), h.off, h.is, h.len, h.wf, h.le⟩
/-- A call with the device. -/
theorem LsTo.did {D : DevP} (X : Dev D) {g : Nat} {G G' : Nat → Prop} {d d' : Dv} {all : List Int} {sy sy' k k' : Nat} {v : Value} {w wr W : World} (h : LsTo D g G d all sy k v w wr) (s : Did D G g d' wr W G') (ok : Dv.Ok d') (is : LastIs d' logN all sy') (hk : k ≤ k') (hs : sy' ≤ all.length) : LsTo D g G' d' all sy' k' v w W := by
  obtain ⟨s1, s2, s3⟩ := s
  refine ⟨s1, ok, fun b hb => (s3 b hb).elim (h.new b) (fun e => Nat.le_trans h.bel.size e), s2.below h.bel h.bel.size h.new, h.own.frm s2 h.off, fun b hb e => (s3 b e).elim (h.off b hb) (fun e => ?_), is, Nat.le_trans h.len (Nat.mul_le_mul_right _ hk), h.wf, hs⟩
  have := (h.own.block b hb).2
  omega
/-- Rows of the call's arguments stay. -/
theorem LsTo.arg {D : DevP} {g : Nat} {G : Nat → Prop} {d : Dv} {all : List Int} {sy k : Nat} {v : Value} {w wr : World} (h : LsTo D g G d all sy k v w wr) {A : Option Addr} {bs : List Int} (hr : Row .u8 w w.heap.size A bs) : Row .u8 wr wr.heap.size A bs := (hr.below h.bel).more h.bel.size
/-- An append to what was appended, in any world. -/
theorem LsTo.grow {D : DevP} (X : Dev D) {g : Nat} {G : Nat → Prop} {d : Dv} {all bs : List Int} {sy k : Nat} {v : Value} {w wr : World} (h : LsTo D g G d all sy k v w wr) (A : Option Addr) (n c : Nat) (hr : Row .u8 w w.heap.size A bs) (hn : bs.length = n) (hb : n ≤ 4096) (hk : k ≤ 200) (d' : Dv) (is : d'.fs = d.fs) :
    ∃ A' n' c' w', (∀ ty, (Builtin.append_ #[30, 30] ty #[v, .slice A n c]).run Try.prog wr = .ok (.slice A' n' c') w') ∧ D w' G g d ∧ (∀ b, G b → w.heap.size ≤ b) ∧ Below w.heap.size w w' ∧ KOwn .u8 5 w' w.heap.size (.slice A' n' c') (all ++ bs) ∧ (∀ b, (Value.slice A' n' c').ownBlock = some b → ¬ G b) := by
  have hl := h.len
  obtain ⟨A', n', c', w', r1, r2, r3, r4⟩ := run_append_any wr w.heap.size v all h.own wr.heap.size A n c bs (h.arg hr) hn (by omega) h.bel.size
  have hvb : ∀ b, v.ownBlock = some b → w.heap.size ≤ b := fun b hb => (h.own.block b hb).1
  refine ⟨A', n', c', w', r1, X.frm h.dev r3 (fun b hb e => h.off b e hb), h.new, r3.below h.bel h.bel.size hvb, r2, fun b hb e => (r4 b hb).elim (fun e' => h.off b e' e) (fun e' => ?_)⟩
  have := X.lt h.dev b e
  omega

set_option maxHeartbeats 8000000 in
theorem lasts_any {D : DevP} (X : DevOk D) (A : Option Addr) (n c : Nat) (l : List Lm) (SA : Option Addr) (sn sc : Nat) (ss : List Bool) (cut keep : Int) (w : World) (hr : VRow w w.heap.size A (flatV lmC l)) (hn : l.length = n) (hb : n ≤ 5864062016288) (hok : ∀ m ∈ l, Lm.Ok w w.heap.size m)
    (hsr : L.Row () w w.heap.size SA ss) (hsn : ss.length = sn) (hsb : sn ≤ 140737488351232) (hkeep : -9223372036854775808 ≤ keep ∧ keep < 9223372036854775808) :
    Calls Try.prog 5 #[.slice A n c, .slice SA sn sc, .int .i64 cut, .int .i64 keep] w fun e w' => e = .returned (.bool true) ∧ Below w.heap.size w w' := by
  have HR := Lib.hid hr
  have HN := Lib.hid hn
  have HO := Lib.hid hok
  have HX := Lib.hid X
  have HKP := Lib.hid hkeep
  have HSR := Lib.hid hsr
  have HSN := Lib.hid hsn
  clear hr hn hok X hkeep hsr hsn
  by_cases hbig : (n : Int) > 200
  · clear HR HN HO HKP HSR HSN
    go_enter Try.func5, Try.ntmps5
    go_wp2_with fail
    refine (works12 HX.out w).mono ?_
    rintro e w1 ⟨rfl, b1⟩
    go_wp2
    go_ret
    exact ⟨rfl, b1⟩
  have hn200 : n ≤ 200 := by omega
  have i0 : ¬ (n : Int) > 200 := hbig
  clear hbig
  go_enter Try.func5, Try.ntmps5
  go_wp2_with fail
  refine (works12 HX.out w).mono ?_
  rintro e w1 ⟨rfl, b1⟩
  go_wp2_with fail
  refine (HX.out.newYes 16777216 w1 (by omega)).mono ?_
  rintro e w2 ⟨g1, G1, rfl, h1, b2, n1⟩
  have hok0 := new_ok 16777216 (by omega)
  have hp := pick_lt cut 410 (by omega)
  have HPK : Hid (∀ W, Calls Try.prog 24 #[.int .i64 cut, .int .i64 410] W fun e w' => e = .returned (.int .i64 (pick cut 410 : Nat)) ∧ W = w') := Lib.hid (fun W => Pick_any cut 410 W (by omega) (by omega))
  obtain ⟨L0, hL0⟩ : ∃ L0 : Nat, pick cut 410 = L0 := ⟨_, rfl⟩
  rw [hL0] at hp HPK
  have HOA := Lib.hid (arm_ok hok0 (L0 : Int) (by omega))
  have D2 := HX.out.dev.frm h1 (Frm.of_below (F := fun _ => False) (below_drew (Below.refl w2.heap.size w2))) (fun _ _ e => e)
  have HAR := Lib.hid (HX.out.arm (w := w2.drew) (L0 : Int) D2 hok0 ⟨by omega, by omega⟩)
  have B2 := b1.trans (b2.mono b1.size)
  have HLS : Hid (∀ W G', Did D G1 g1 (armD (newD 16777216) L0) w2.drew W G' → ∃ G d, LsTo D g1 G d [] 0 0 (.slice none 0 0) w W) := Lib.hid (fun W G' s => ⟨G', _, s.1, HOA.out, fun b hb => (s.2.2 b hb).elim (fun e => Nat.le_trans b1.size (n1 b e)) (fun e => Nat.le_trans B2.size e), s.2.1.below (below_drew B2) B2.size (fun b hb => Nat.le_trans b1.size (n1 b hb)), KOwn.nil _ _ _ _, fun b hb => (nomatch hb), .inl ⟨rfl, rfl, rfl⟩, Nat.zero_le _, fun x hx => absurd hx (by simp), Nat.le_refl _⟩)
  clear h1 n1 b2 b1 hok0 hL0 D2 B2 hp HOA
  go_wp2_with fail
  go_region_with (first
    | (go_at_call 24; refine (HPK.out _).mono ?_; rintro e w3 ⟨rfl, rfl⟩)
    | (go_at_call 23; refine HAR.out.mono ?_; rintro e w4 ⟨rfl, G', hd4⟩))
  have HI := Lib.hid (HLS.out _ _ hd4)
  clear hd4 HLS HAR HPK
  go_wp2_with fail
  go_loopw [11, 12, 13] (fun v y i wr => ∃ k : Nat, k ≤ n ∧ i = .int .i64 k ∧ ∃ sy : Nat, y = .int .i64 (sy : Int) ∧ ∃ A0 n0 q0, v = .slice A0 n0 q0 ∧ Hid (∃ G d all, LsTo D g1 G d all sy k (.slice A0 n0 q0) w wr)) (fun _ _ i _ => n - (intOf i).toNat)
  case atStart =>
    obtain ⟨G, d, h⟩ := HI.out
    exact ⟨0, by omega, rfl, 0, rfl, none, 0, 0, rfl, Lib.hid ⟨G, d, [], h⟩⟩
  case round =>
    obtain ⟨k, hk, rfl, sy, rfl, A0, n0, q0, rfl, hrel⟩ := hrel
    clear HI
    by_cases hlt : k < n
    · have hkl : k < l.length := by rw [HN.out]; exact hlt
      obtain ⟨G, d0, all, hls⟩ := hrel.out
      obtain ⟨b, o, rfl, hbw, hc⟩ := HR.out.elem lmC_len (by omega) hkl
      have hm := HO.out _ (List.getElem_mem hkl)
      obtain ⟨m, hmm⟩ : ∃ m, l[k] = m := ⟨_, rfl⟩
      rw [hmm] at hc hm
      obtain ⟨A', n', c', bs⟩ := m
      have HC := Lib.hid (hc 0 _ rfl)
      have c0 := (hls.bel.cell (p := ⟨b, o + k * 1 + 0, none⟩) hbw).trans HC.out
      have hmr := hm.row
      have hml := hm.len
      have hle := hm.le
      have hcap := hm.cap
      simp only at c0 hmr hml hle hcap
      rw [Nat.mul_one, Nat.add_zero] at c0
      have i3 : (0 : Int) ≤ (k : Int) := by omega
      have HLSO := Lib.hid hls
      have HMR := Lib.hid hmr
      have HML := Lib.hid hml
      by_cases hbg : (n' : Int) > 4096
      · have HBE := Lib.hid hls.bel
        clear hls hmm hc hm hmr hml hle hcap hrel
        go_wp2
        go_ret
        exact ⟨rfl, HBE.out⟩
      have hn4 : n' ≤ 4096 := by omega
      have hbg2 : ¬ (n' : Int) > 4096 := hbg
      have HAPP := Lib.hid (HX.out.append logN A' n' c' bs hls.dev hls.ok (hls.arg hmr) hml hle hcap (by omega) (fun a ha hp e => by
        obtain ⟨b', o', e1, e2, _⟩ := hmr.2 (by rw [hml]; exact hp)
        rw [ha] at e1
        injection e1 with e1
        subst e1
        have := hls.new _ e
        simp only at this
        omega))
      have HAO := Lib.hid (app_ok hls.ok logN bs hmr.1)
      have HAL := Lib.hid (last_app hls.is bs)
      generalize (appD d0 logN bs).1 = d1 at HAPP HAO HAL
      generalize (appD d0 logN bs).2 = E1 at HAPP HAL
      have hlo : (⟨#[108, 111, 103]⟩ : ByteArray) = logN := rfl
      clear hls hmm hc hm hmr hml hle hcap hrel hbg
      rw [← hlo] at HAPP
      clear hlo
      go_wp2_with fail
      refine HAPP.out.mono ?_
      rintro e wa ⟨rfl, G2, hd2⟩
      have e0 : wa.cell? ⟨b, o + k, none⟩ = some (.slice A' n' c') := by
        have hB := hd2.2.1.below HLSO.out.bel HLSO.out.bel.size HLSO.out.new
        have := (hB.cell (p := ⟨b, o + k * 1 + 0, none⟩) hbw).trans HC.out
        rw [Nat.mul_one, Nat.add_zero] at this
        exact this
      clear c0 HAPP
      by_cases hE1 : E1 = 0
      · have hA := HAL.out.1 hE1
        have HST : Hid (∃ A1 n1 q1 w', (∀ ty, (Builtin.append_ #[30, 30] ty #[.slice A0 n0 q0, .slice A' n' c']).run Try.prog wa = .ok (.slice A1 n1 q1) w') ∧ LsTo D g1 G2 d1 (all ++ bs) sy (k + 1) (.slice A1 n1 q1) w w' ∧ n1 = (all ++ bs).length) := Lib.hid (by
          have s := hd2
          have hB := s.2.1.below HLSO.out.bel HLSO.out.bel.size HLSO.out.new
          have hNew : ∀ b, G2 b → w.heap.size ≤ b := fun b hb => (s.2.2 b hb).elim (HLSO.out.new b) (fun e => Nat.le_trans HLSO.out.bel.size e)
          have hK := HLSO.out.own.frm s.2.1 HLSO.out.off
          have hOff : ∀ b, (Value.slice A0 n0 q0).ownBlock = some b → ¬ G2 b := fun b hb e => (s.2.2 b e).elim (HLSO.out.off b hb) (fun e => by have := (HLSO.out.own.block b hb).2; omega)
          have hl := HLSO.out.len
          obtain ⟨A1, n1, q1, w', r1, r2, r3, r4⟩ := run_append_any wa w.heap.size (.slice A0 n0 q0) all hK wa.heap.size A' n' c' bs ((HMR.out.below hB).more hB.size) HML.out (by omega) hB.size
          have hvb : ∀ b, (Value.slice A0 n0 q0).ownBlock = some b → w.heap.size ≤ b := fun b hb => (hK.block b hb).1
          refine ⟨A1, n1, q1, w', r1, ⟨HX.out.dev.frm s.1 r3 (fun b hb e => hOff b e hb), HAO.out, hNew, r3.below hB hB.size hvb, r2, fun b hb e => (r4 b hb).elim (fun e' => hOff b e' e) (fun e' => ?_), hA, ?_, wf_append HLSO.out.wf HMR.out.1, ?_⟩, ?_⟩
          · have := HX.out.dev.lt s.1 b e
            omega
          · have h4 := HML.out
            rw [List.length_append]; omega
          · have := HLSO.out.le
            rw [List.length_append]; omega
          · obtain ⟨A9, q9, e9, _⟩ := r2.val
            injection e9)
        subst hE1
        clear hA hd2 HAL HAO HLSO
        obtain ⟨A1, n1, q1, w', hrun, hls2, hn1⟩ := HST.out
        have HLS2 := Lib.hid hls2
        have HN1 := Lib.hid hn1
        have hn1b : n1 ≤ 819200 := by
          have h1 := hls2.len
          rw [← hn1] at h1
          have : (k + 1) * 4096 ≤ 200 * 4096 := Nat.mul_le_mul_right _ (by omega)
          omega
        clear hls2 HST hn1
        by_cases hks : k < sn
        · have hks1 : decide ((k : Int) < (sn : Int)) = true := decide_eq_true (by omega)
          have hks2 : (k : Int) < (sn : Int) := by omega
          have hkss : k < ss.length := by have := HSN.out; omega
          obtain ⟨sb, so, rfl, hsbw, hsc⟩ := HSR.out.2 (by omega)
          have s0 := (HLS2.out.bel.cell (p := ⟨sb, so + k, none⟩) hsbw).trans (hsc k hkss)
          clear hsc
          generalize L.nth ss k = want at s0
          cases want with
          | false =>
            have HEND : Hid (∃ G d all, LsTo D g1 G d all sy (k + 1) (.slice A1 n1 q1) w w') := Lib.hid ⟨_, _, _, HLS2.out⟩
            go_wp2_with (at_builtin; refine wpList_append_run _ rfl _ _ 30 rfl _ _ _ _ rfl rfl hrun ?_)
            go_roundw
            case rel => exact ⟨k + 1, by omega, by go_num, sy, rfl, A1, n1, q1, rfl, HEND⟩
            case measure => simp [intOf]; omega
          | true =>
            have HSY := Lib.hid (HX.out.sync logN HLS2.out.dev HLS2.out.ok)
            have HSO := Lib.hid (sync_ok HLS2.out.ok logN)
            have HSL := Lib.hid (last_sync HLS2.out.is)
            generalize (syncD d1 logN).1 = d3 at HSY HSO HSL
            generalize (syncD d1 logN).2 = E3 at HSY HSL
            have hlo : (⟨#[108, 111, 103]⟩ : ByteArray) = logN := rfl
            rw [← hlo] at HSY
            clear hlo
            go_wp2_with (at_builtin; refine wpList_append_run _ rfl _ _ 30 rfl _ _ _ _ rfl rfl hrun ?_)
            refine HSY.out.mono ?_
            rintro e wb ⟨rfl, G3, hd3⟩
            clear s0
            by_cases hE3 : E3 = 0
            · have HEND : Hid (∃ G d all, LsTo D g1 G d all n1 (k + 1) (.slice A1 n1 q1) w wb) := Lib.hid ⟨_, _, _, HLS2.out.did HX.out.dev hd3 HSO.out (by rw [HN1.out]; exact HSL.out.1 hE3) (Nat.le_refl _) (by rw [HN1.out]; exact Nat.le_refl _)⟩
              subst hE3
              clear hd3
              go_wp2
              go_roundw
              case rel => exact ⟨k + 1, by omega, by go_num, n1, rfl, A1, n1, q1, rfl, HEND⟩
              case measure => simp [intOf]; omega
            · have hE3b : (E3 == 0) = false := beq_false_of_ne hE3
              have HEND : Hid (∃ G d all, LsTo D g1 G d all sy (k + 1) (.slice A1 n1 q1) w wb) := Lib.hid ⟨_, _, _, HLS2.out.did HX.out.dev hd3 HSO.out (HSL.out.2 hE3) (Nat.le_refl _) HLS2.out.le⟩
              clear hd3 hE3
              go_wp2
              go_roundw
              case rel => exact ⟨k + 1, by omega, by go_num, sy, rfl, A1, n1, q1, rfl, HEND⟩
              case measure => simp [intOf]; omega
        · have hks1 : decide ((k : Int) < (sn : Int)) = false := decide_eq_false (by omega)
          have HEND : Hid (∃ G d all, LsTo D g1 G d all sy (k + 1) (.slice A1 n1 q1) w w') := Lib.hid ⟨_, _, _, HLS2.out⟩
          go_wp2_with (at_builtin; refine wpList_append_run _ rfl _ _ 30 rfl _ _ _ _ rfl rfl hrun ?_)
          go_roundw
          case rel => exact ⟨k + 1, by omega, by go_num, sy, rfl, A1, n1, q1, rfl, HEND⟩
          case measure => simp [intOf]; omega
      · have hE1b : (E1 == 0) = false := beq_false_of_ne hE1
        have hA := HAL.out.2 hE1
        have HLS2 : Hid (LsTo D g1 G2 d1 all sy (k + 1) (.slice A0 n0 q0) w wa) := Lib.hid (HLSO.out.did HX.out.dev hd2 HAO.out hA (Nat.le_succ _) HLSO.out.le)
        have HN1 : Hid (n0 = all.length) := Lib.hid (by
          obtain ⟨A9, q9, e9, _⟩ := HLSO.out.own.val
          injection e9)
        have hn1b : n0 ≤ 819200 := by
          have h1 := HLS2.out.len
          have h2 := HN1.out
          have : (k + 1) * 4096 ≤ 200 * 4096 := Nat.mul_le_mul_right _ (by omega)
          omega
        clear hA hd2 HAL HAO HLSO hE1 e0
        by_cases hks : k < sn
        · have hks1 : decide ((k : Int) < (sn : Int)) = true := decide_eq_true (by omega)
          have hks2 : (k : Int) < (sn : Int) := by omega
          have hkss : k < ss.length := by have := HSN.out; omega
          obtain ⟨sb, so, rfl, hsbw, hsc⟩ := HSR.out.2 (by omega)
          have s0 := (HLS2.out.bel.cell (p := ⟨sb, so + k, none⟩) hsbw).trans (hsc k hkss)
          clear hsc
          generalize L.nth ss k = want at s0
          cases want with
          | false =>
            have HEND : Hid (∃ G d all, LsTo D g1 G d all sy (k + 1) (.slice A0 n0 q0) w wa) := Lib.hid ⟨_, _, _, HLS2.out⟩
            go_wp2
            go_roundw
            case rel => exact ⟨k + 1, by omega, by go_num, sy, rfl, A0, n0, q0, rfl, HEND⟩
            case measure => simp [intOf]; omega
          | true =>
            have HSY := Lib.hid (HX.out.sync logN HLS2.out.dev HLS2.out.ok)
            have HSO := Lib.hid (sync_ok HLS2.out.ok logN)
            have HSL := Lib.hid (last_sync HLS2.out.is)
            generalize (syncD d1 logN).1 = d3 at HSY HSO HSL
            generalize (syncD d1 logN).2 = E3 at HSY HSL
            have hlo : (⟨#[108, 111, 103]⟩ : ByteArray) = logN := rfl
            rw [← hlo] at HSY
            clear hlo
            go_wp2_with fail
            refine HSY.out.mono ?_
            rintro e wb ⟨rfl, G3, hd3⟩
            clear s0
            by_cases hE3 : E3 = 0
            · have HEND : Hid (∃ G d all, LsTo D g1 G d all n0 (k + 1) (.slice A0 n0 q0) w wb) := Lib.hid ⟨_, _, _, HLS2.out.did HX.out.dev hd3 HSO.out (by rw [HN1.out]; exact HSL.out.1 hE3) (Nat.le_refl _) (by rw [HN1.out]; exact Nat.le_refl _)⟩
              subst hE3
              clear hd3
              go_wp2
              go_roundw
              case rel => exact ⟨k + 1, by omega, by go_num, n0, rfl, A0, n0, q0, rfl, HEND⟩
              case measure => simp [intOf]; omega
            · have hE3b : (E3 == 0) = false := beq_false_of_ne hE3
              have HEND : Hid (∃ G d all, LsTo D g1 G d all sy (k + 1) (.slice A0 n0 q0) w wb) := Lib.hid ⟨_, _, _, HLS2.out.did HX.out.dev hd3 HSO.out (HSL.out.2 hE3) (Nat.le_refl _) HLS2.out.le⟩
              clear hd3 hE3
              go_wp2
              go_roundw
              case rel => exact ⟨k + 1, by omega, by go_num, sy, rfl, A0, n0, q0, rfl, HEND⟩
              case measure => simp [intOf]; omega
        · have hks1 : decide ((k : Int) < (sn : Int)) = false := decide_eq_false (by omega)
          have HEND : Hid (∃ G d all, LsTo D g1 G d all sy (k + 1) (.slice A0 n0 q0) w wa) := Lib.hid ⟨_, _, _, HLS2.out⟩
          go_wp2
          go_roundw
          case rel => exact ⟨k + 1, by omega, by go_num, sy, rfl, A0, n0, q0, rfl, HEND⟩
          case measure => simp [intOf]; omega
    · obtain rfl : k = n := by omega
      obtain ⟨G, d, all, hls⟩ := hrel.out
      have hlo3 : logN = (⟨#[108, 111, 103]⟩ : ByteArray) := rfl
      have HLS := Lib.hid hls
      have HN1 : Hid (n0 = all.length) := Lib.hid (by
        obtain ⟨A9, q9, e9, _⟩ := hls.own.val
        injection e9)
      have hn0b : n0 ≤ 819200 := by
        have h1 := hls.len
        have h2 := HN1.out
        have : k * 4096 ≤ 200 * 4096 := Nat.mul_le_mul_right _ (by omega)
        omega
      have HWA : Hid (∀ x ∈ all, (Lit.int .u8 x).wf = true) := Lib.hid hls.wf
      have HAR : Hid (∀ W, Below w.heap.size w W → KOwn .u8 5 W w.heap.size (.slice A0 n0 q0) all → Row .u8 W W.heap.size A0 all) := Lib.hid (fun W _ hk => by
        obtain ⟨A9, q9, e9, r9, _⟩ := hk.own.row HWA.out
        injection e9 with e9 _ _
        rw [e9]; exact r9)
      have HRD := Lib.hid (last_read hls.is)
      have hsyl : sy ≤ all.length := hls.le
      clear hls hrel
      rcases HRD.out with ⟨hr1, hr2, hr3⟩ | ⟨hr1, hr2, hr3⟩
      · have HR1 : Hid (readE d ⟨#[108, 111, 103]⟩ = 6) := Lib.hid hr1
        have HNM : Hid (namesD d = []) := Lib.hid hr3
        have hz : n0 = 0 := by rw [HN1.out, hr2]; rfl
        subst hz
        clear hr1 hr2 hr3 HRD HAR HWA
        go_wp2_with fail
        refine (HX.out.read ⟨#[108, 111, 103]⟩ HLS.out.dev HLS.out.ok).mono ?_
        rintro e wa ⟨v1, rfl, own1, p1⟩
        rw [HR1.out]
        obtain ⟨Z1, Z2, Z3, rfl⟩ := own1.letters
        have HLa := Lib.hid (HLS.out.below HX.out.dev p1)
        clear own1 p1
        go_wp2_with fail
        refine (HX.out.names HLa.out.dev HLa.out.ok).mono ?_
        rintro e wb ⟨v2, rfl, own2, p2⟩
        rw [HNM.out] at own2
        obtain ⟨Z4, Z5, rfl⟩ := own2.letters
        have HBb := Lib.hid (HLa.out.bel.trans (p2.mono HLa.out.bel.size))
        clear own2 p2
        go_wp2
        go_ret
        exact ⟨rfl, HBb.out⟩
      · have HR1 : Hid (readE d ⟨#[108, 111, 103]⟩ = 0) := Lib.hid hr1
        have HR2 : Hid (readL d ⟨#[108, 111, 103]⟩ = all) := Lib.hid hr2
        have HW1 := Lib.hid (wake_ok HLS.out.ok keep)
        have HW2 := Lib.hid (wake_ok HW1.out (-1))
        obtain ⟨K, hmax, hK⟩ := max_lit keep
        obtain ⟨y, hy⟩ : ∃ y, y = n0 - sy := ⟨_, rfl⟩
        obtain ⟨q, hmin, hq⟩ := min_lit K y
        obtain ⟨N, hN⟩ : ∃ N, N = sy + q := ⟨_, rfl⟩
        have hN2 : N = sy + min keep.toNat (all.length - sy) := by rw [hN, hq, hy, hK, HN1.out]
        have hNn : N ≤ n0 := by have := HN1.out; omega
        have hsN : sy ≤ N := by omega
        obtain ⟨w1, w2, w3⟩ := last_wake hr3 keep hN2
        obtain ⟨w4, w5, w6⟩ := last_wake w1 (-1) (N := N) (by simp)
        have htl : (all.take N).length = N := by rw [List.length_take]; have := HN1.out; omega
        rw [List.take_of_length_le (by omega)] at w6
        have HE2 : Hid (readE (wakeD d keep) ⟨#[108, 111, 103]⟩ = 0) := Lib.hid w2
        have HL2 : Hid (readL (wakeD d keep) ⟨#[108, 111, 103]⟩ = all.take N) := Lib.hid w3
        have HE3 : Hid (readE (wakeD (wakeD d keep) (-1)) ⟨#[108, 111, 103]⟩ = 0) := Lib.hid w5
        have HL3 : Hid (readL (wakeD (wakeD d keep) (-1)) ⟨#[108, 111, 103]⟩ = all.take N) := Lib.hid w6
        have HTL := Lib.hid htl
        have HTT : Hid ((all.take N).take sy = all.take sy) := Lib.hid (by rw [List.take_take, Nat.min_eq_left hsN])
        have HWT : Hid (∀ x ∈ all.take N, (Lit.int .u8 x).wf = true) := Lib.hid (fun x hx => HWA.out x (List.mem_of_mem_take hx))
        have v1e : IntKind.i64.wrap ((N : Int) - (sy : Int)) = (q : Int) := by rw [IntKind.wrap_i64]; omega
        have v2e : IntKind.i64.wrap ((n0 : Int) - (sy : Int)) = (y : Int) := by rw [IntKind.wrap_i64]; have := HN1.out; omega
        have hcap : sy ≤ q0 := by
          obtain ⟨A9, q9, e9, h9, _⟩ := HLS.out.own.val
          injection e9 with _ _ e9
          omega
        have hnil : A0 = none → q0 = 0 := HLS.out.own.nilcap
        clear hr1 hr2 hr3 HRD w1 w2 w3 w4 w5 w6 htl hN hN2 hq hy hK hsyl hlo3
        go_wp2_with fail
        refine (HX.out.read ⟨#[108, 111, 103]⟩ HLS.out.dev HLS.out.ok).mono ?_
        rintro e wa ⟨v1, rfl, own1, p1⟩
        rw [HR1.out]
        rw [HR2.out] at own1
        obtain ⟨Z1, Z3, hz1, rowN, _, _⟩ := own1.own.row HWA.out
        rw [← HN1.out] at hz1
        subst hz1
        have HLa := Lib.hid (HLS.out.below HX.out.dev p1)
        have HBa := Lib.hid HLa.out.bel
        have HKa := Lib.hid HLa.out.own
        clear own1 p1
        have HNN := Lib.hid hnil
        cases A0 with
        | none =>
          have hq0 : q0 = 0 := hnil rfl
          subst hq0
          have hs0 : sy = 0 := by omega
          subst hs0
          clear hnil
          clear HNN
          go_wp2_with fail
          refine (same_yes_u8 _ _ n0 _ _ all wa _ _ rowN (HAR.out wa HBa.out HKa.out) HN1.out.symm (by omega)).mono ?_
          rintro e wb ⟨rfl, m1, rfl⟩
          have HLb := Lib.hid (HLa.out.below HX.out.dev (bel_drewN wa m1))
          clear rowN
          go_wp2_with fail
          refine (HX.out.wake keep HLb.out.dev HLb.out.ok HKP.out).mono ?_
          rintro e wc ⟨rfl, G2, hd2⟩
          have HKc : Hid (KOwn .u8 5 wc w.heap.size (.slice none n0 0) all) := Lib.hid (HLb.out.own.frm hd2.2.1 HLb.out.off)
          have HBc : Hid (Below w.heap.size w wc) := Lib.hid (hd2.2.1.below HLb.out.bel HLb.out.bel.size HLb.out.new)
          have HGc : Hid (∀ b, G2 b → w.heap.size ≤ b) := Lib.hid (fun b hb => (hd2.2.2 b hb).elim (HLb.out.new b) (fun e => Nat.le_trans HLb.out.bel.size e))
          have HOc : Hid (∀ b, (Value.slice none n0 0).ownBlock = some b → ¬ G2 b) := Lib.hid (fun b hb e => (hd2.2.2 b e).elim (HLb.out.off b hb) (fun e => by have := (HLb.out.own.block b hb).2; omega))
          have HDc := Lib.hid hd2.1
          clear hd2 HLb HLa
          go_wp2_with fail
          refine (HX.out.read ⟨#[108, 111, 103]⟩ HDc.out HW1.out).mono ?_
          rintro e wd ⟨vb, rfl, ownb, p4⟩
          rw [HE2.out]
          rw [HL2.out] at ownb
          have HDd := Lib.hid (HX.out.dev.frm HDc.out (Frm.of_below (F := fun _ => False) p4) (fun _ _ e => e))
          have HBd := Lib.hid (HBc.out.trans (p4.mono HBc.out.size))
          have HKd := Lib.hid (HKc.out.frm (F := fun _ => False) (Frm.of_below p4) (fun _ _ e => e))
          have hltc : ∀ b, G2 b → b < wc.heap.size := fun b hb => HX.out.dev.lt HDc.out b hb
          obtain ⟨Ab, qb, hvb, _, _⟩ := ownb.val
          rw [HTL.out] at hvb
          subst hvb
          have HVb : Hid (∀ b, (Value.slice Ab N qb).ownBlock = some b → ¬ G2 b) := Lib.hid (fun b hb e => by have := hltc b e; have := (ownb.block b hb).1; omega)
          have HOb := Lib.hid ownb
          clear ownb p4 hltc HDc HBc HKc
          go_wp2_with fail
          refine (HX.out.down HDd.out HW1.out).mono ?_
          rintro e we ⟨rfl, p5⟩
          rw [show (wakeD d keep).off = false from rfl]
          have HDe := Lib.hid (HX.out.dev.frm HDd.out (Frm.of_below (F := fun _ => False) p5) (fun _ _ e => e))
          have HBe := Lib.hid (HBd.out.trans (p5.mono HBd.out.size))
          have HKe := Lib.hid (HKd.out.frm (F := fun _ => False) (Frm.of_below p5) (fun _ _ e => e))
          have HObe := Lib.hid (HOb.out.frm (F := fun _ => False) (Frm.of_below p5) (fun _ _ e => e))
          clear p5 HDd HBd HKd HOb
          obtain ⟨Ab', qb', eb, rowb, hNq, _⟩ := HObe.out.own.row HWT.out
          obtain ⟨A0', q0', e0, row0, hnq, _⟩ := HKe.out.own.row HWA.out
          rw [HTL.out] at eb hNq
          rw [← HN1.out] at e0 hnq
          injection eb with ebA _ ebq
          injection e0 with e0A _ e0q
          subst ebA ebq
          rw [← e0A] at row0
          rw [← e0q] at hnq
          clear e0A e0q
          have HBG1 : Hid (∀ W, (∃ m, W = we.drewN m) → ∀ Z, Calls Try.prog 28 #[.slice Ab N qb, .slice none 0 Z] W fun e w' => e = .returned (.bool true) ∧ ∃ m, w' = we.drewN m) := Lib.hid (fun W ⟨m, hm⟩ Z => by
            subst hm
            have hr2 := (row0.front 0).drewN m
            rw [← HTT.out] at hr2
            refine (begins_yes Ab none N qb 0 Z (all.take N) (we.drewN m) _ _ (rowb.drewN m) hr2 HTL.out (by omega) hNq (by omega) HObe.out.nilcap).mono fun e w' ⟨h1, k, h2⟩ => ⟨h1, m + k, ?_⟩
            rw [h2]
            simp [World.drewN, Nat.add_assoc])
          have HBG2 : Hid (∀ W, (∃ m, W = we.drewN m) → Calls Try.prog 28 #[.slice none n0 0, .slice Ab N qb] W fun e w' => e = .returned (.bool true) ∧ ∃ m, w' = we.drewN m) := Lib.hid (fun W ⟨m, hm⟩ => by
            subst hm
            refine (begins_yes none Ab n0 0 N qb all (we.drewN m) _ _ (row0.drewN m) (rowb.drewN m) HN1.out.symm (by omega) hnq (by omega) HKe.out.nilcap).mono fun e w' ⟨h1, k, h2⟩ => ⟨h1, m + k, ?_⟩
            rw [h2]
            simp [World.drewN, Nat.add_assoc])
          have HRB := Lib.hid rowb
          clear rowb row0 hNq

          go_wp2_with fail
          refine (HBG1.out _ ⟨0, rfl⟩ _).mono ?_
          rintro e wf ⟨rfl, m2, rfl⟩
          go_wp2_with fail
          refine (HBG2.out _ ⟨m2, rfl⟩).mono ?_
          rintro e wg ⟨rfl, m3, rfl⟩
          have HDg : Hid (D (we.drewN m3) G2 g1 (wakeD d keep)) := Lib.hid (HX.out.dev.frm HDe.out (Frm.of_below (F := fun _ => False) (bel_drewN we m3)) (fun _ _ e => e))
          have HBg := Lib.hid (below_drewN HBe.out m3)
          have HObg : Hid (KOwn .u8 5 (we.drewN m3) wc.heap.size (.slice Ab N qb) (all.take N)) := Lib.hid (HObe.out.drewN m3)
          clear HBG1 HBG2 HDe HBe HKe HObe HRB
          go_wp2_with fail
          refine (HX.out.wake (-1) HDg.out HW1.out ⟨by omega, by omega⟩).mono ?_
          rintro e wh ⟨rfl, G3, hd3⟩
          have HDh := Lib.hid hd3.1
          have HBh := Lib.hid (hd3.2.1.below HBg.out HBg.out.size HGc.out)
          have HObh := Lib.hid (HObg.out.frm hd3.2.1 HVb.out)
          clear hd3 HDg HBg HObg
          go_wp2_with fail
          refine (HX.out.read ⟨#[108, 111, 103]⟩ HDh.out HW2.out).mono ?_
          rintro e wi ⟨vc, rfl, ownc, p6⟩
          rw [HE3.out]
          rw [HL3.out] at ownc
          have HBi := Lib.hid (HBh.out.trans (p6.mono HBh.out.size))
          obtain ⟨Ac, qc, hvc, rowc, _, _⟩ := ownc.own.row HWT.out
          obtain ⟨Ab2, qb2, eb2, rowb2, _, _⟩ := (HObh.out.frm (F := fun _ => False) (Frm.of_below p6) (fun _ _ e => e)).own.row HWT.out
          rw [HTL.out] at hvc eb2
          subst hvc
          injection eb2 with eb2A _ _
          subst eb2A
          clear ownc p6 HDh HBh HObh
          go_wp2_with fail
          refine (same_yes_u8 _ _ N _ _ (all.take N) wi _ _ rowb2 rowc HTL.out (by omega)).mono ?_
          rintro e wj ⟨rfl, m4, rfl⟩
          clear rowb2 rowc
          go_wp2
          go_ret
          exact ⟨rfl, below_drewN HBi.out m4⟩
        | some a0 =>
          clear hnil
          clear HNN
          go_wp2_with fail
          refine (same_yes_u8 _ _ n0 _ _ all wa _ _ rowN (HAR.out wa HBa.out HKa.out) HN1.out.symm (by omega)).mono ?_
          rintro e wb ⟨rfl, m1, rfl⟩
          have HLb := Lib.hid (HLa.out.below HX.out.dev (bel_drewN wa m1))
          clear rowN
          go_wp2_with fail
          refine (HX.out.wake keep HLb.out.dev HLb.out.ok HKP.out).mono ?_
          rintro e wc ⟨rfl, G2, hd2⟩
          have HKc : Hid (KOwn .u8 5 wc w.heap.size (.slice (some a0) n0 q0) all) := Lib.hid (HLb.out.own.frm hd2.2.1 HLb.out.off)
          have HBc : Hid (Below w.heap.size w wc) := Lib.hid (hd2.2.1.below HLb.out.bel HLb.out.bel.size HLb.out.new)
          have HGc : Hid (∀ b, G2 b → w.heap.size ≤ b) := Lib.hid (fun b hb => (hd2.2.2 b hb).elim (HLb.out.new b) (fun e => Nat.le_trans HLb.out.bel.size e))
          have HOc : Hid (∀ b, (Value.slice (some a0) n0 q0).ownBlock = some b → ¬ G2 b) := Lib.hid (fun b hb e => (hd2.2.2 b e).elim (HLb.out.off b hb) (fun e => by have := (HLb.out.own.block b hb).2; omega))
          have HDc := Lib.hid hd2.1
          clear hd2 HLb HLa
          go_wp2_with fail
          refine (HX.out.read ⟨#[108, 111, 103]⟩ HDc.out HW1.out).mono ?_
          rintro e wd ⟨vb, rfl, ownb, p4⟩
          rw [HE2.out]
          rw [HL2.out] at ownb
          have HDd := Lib.hid (HX.out.dev.frm HDc.out (Frm.of_below (F := fun _ => False) p4) (fun _ _ e => e))
          have HBd := Lib.hid (HBc.out.trans (p4.mono HBc.out.size))
          have HKd := Lib.hid (HKc.out.frm (F := fun _ => False) (Frm.of_below p4) (fun _ _ e => e))
          have hltc : ∀ b, G2 b → b < wc.heap.size := fun b hb => HX.out.dev.lt HDc.out b hb
          obtain ⟨Ab, qb, hvb, _, _⟩ := ownb.val
          rw [HTL.out] at hvb
          subst hvb
          have HVb : Hid (∀ b, (Value.slice Ab N qb).ownBlock = some b → ¬ G2 b) := Lib.hid (fun b hb e => by have := hltc b e; have := (ownb.block b hb).1; omega)
          have HOb := Lib.hid ownb
          clear ownb p4 hltc HDc HBc HKc
          go_wp2_with fail
          refine (HX.out.down HDd.out HW1.out).mono ?_
          rintro e we ⟨rfl, p5⟩
          rw [show (wakeD d keep).off = false from rfl]
          have HDe := Lib.hid (HX.out.dev.frm HDd.out (Frm.of_below (F := fun _ => False) p5) (fun _ _ e => e))
          have HBe := Lib.hid (HBd.out.trans (p5.mono HBd.out.size))
          have HKe := Lib.hid (HKd.out.frm (F := fun _ => False) (Frm.of_below p5) (fun _ _ e => e))
          have HObe := Lib.hid (HOb.out.frm (F := fun _ => False) (Frm.of_below p5) (fun _ _ e => e))
          clear p5 HDd HBd HKd HOb
          obtain ⟨Ab', qb', eb, rowb, hNq, _⟩ := HObe.out.own.row HWT.out
          obtain ⟨A0', q0', e0, row0, hnq, _⟩ := HKe.out.own.row HWA.out
          rw [HTL.out] at eb hNq
          rw [← HN1.out] at e0 hnq
          injection eb with ebA _ ebq
          injection e0 with e0A _ e0q
          subst ebA ebq
          rw [← e0A] at row0
          rw [← e0q] at hnq
          clear e0A e0q
          have HBG1 : Hid (∀ W, (∃ m, W = we.drewN m) → ∀ Z, Calls Try.prog 28 #[.slice Ab N qb, .slice (some a0) sy Z] W fun e w' => e = .returned (.bool true) ∧ ∃ m, w' = we.drewN m) := Lib.hid (fun W ⟨m, hm⟩ Z => by
            subst hm
            have hr2 := (row0.front sy).drewN m
            rw [← HTT.out] at hr2
            refine (begins_yes Ab (some a0) N qb sy Z (all.take N) (we.drewN m) _ _ (rowb.drewN m) hr2 HTL.out (by omega) hNq (by omega) HObe.out.nilcap).mono fun e w' ⟨h1, k, h2⟩ => ⟨h1, m + k, ?_⟩
            rw [h2]
            simp [World.drewN, Nat.add_assoc])
          have HBG2 : Hid (∀ W, (∃ m, W = we.drewN m) → Calls Try.prog 28 #[.slice (some a0) n0 q0, .slice Ab N qb] W fun e w' => e = .returned (.bool true) ∧ ∃ m, w' = we.drewN m) := Lib.hid (fun W ⟨m, hm⟩ => by
            subst hm
            refine (begins_yes (some a0) Ab n0 q0 N qb all (we.drewN m) _ _ (row0.drewN m) (rowb.drewN m) HN1.out.symm (by omega) hnq (by omega) HKe.out.nilcap).mono fun e w' ⟨h1, k, h2⟩ => ⟨h1, m + k, ?_⟩
            rw [h2]
            simp [World.drewN, Nat.add_assoc])
          have HRB := Lib.hid rowb
          clear rowb row0 hNq
          have sl1 : (sy : Int) ≤ (q0 : Int) := by omega

          go_wp2_with fail
          refine (HBG1.out _ ⟨0, rfl⟩ _).mono ?_
          rintro e wf ⟨rfl, m2, rfl⟩
          go_wp2_with fail
          refine (HBG2.out _ ⟨m2, rfl⟩).mono ?_
          rintro e wg ⟨rfl, m3, rfl⟩
          have HDg : Hid (D (we.drewN m3) G2 g1 (wakeD d keep)) := Lib.hid (HX.out.dev.frm HDe.out (Frm.of_below (F := fun _ => False) (bel_drewN we m3)) (fun _ _ e => e))
          have HBg := Lib.hid (below_drewN HBe.out m3)
          have HObg : Hid (KOwn .u8 5 (we.drewN m3) wc.heap.size (.slice Ab N qb) (all.take N)) := Lib.hid (HObe.out.drewN m3)
          clear HBG1 HBG2 HDe HBe HKe HObe HRB
          go_wp2_with fail
          refine (HX.out.wake (-1) HDg.out HW1.out ⟨by omega, by omega⟩).mono ?_
          rintro e wh ⟨rfl, G3, hd3⟩
          have HDh := Lib.hid hd3.1
          have HBh := Lib.hid (hd3.2.1.below HBg.out HBg.out.size HGc.out)
          have HObh := Lib.hid (HObg.out.frm hd3.2.1 HVb.out)
          clear hd3 HDg HBg HObg
          go_wp2_with fail
          refine (HX.out.read ⟨#[108, 111, 103]⟩ HDh.out HW2.out).mono ?_
          rintro e wi ⟨vc, rfl, ownc, p6⟩
          rw [HE3.out]
          rw [HL3.out] at ownc
          have HBi := Lib.hid (HBh.out.trans (p6.mono HBh.out.size))
          obtain ⟨Ac, qc, hvc, rowc, _, _⟩ := ownc.own.row HWT.out
          obtain ⟨Ab2, qb2, eb2, rowb2, _, _⟩ := (HObh.out.frm (F := fun _ => False) (Frm.of_below p6) (fun _ _ e => e)).own.row HWT.out
          rw [HTL.out] at hvc eb2
          subst hvc
          injection eb2 with eb2A _ _
          subst eb2A
          clear ownc p6 HDh HBh HObh
          go_wp2_with fail
          refine (same_yes_u8 _ _ N _ _ (all.take N) wi _ _ rowb2 rowc HTL.out (by omega)).mono ?_
          rintro e wj ⟨rfl, m4, rfl⟩
          clear rowb2 rowc
          go_wp2
          go_ret
          exact ⟨rfl, below_drewN HBi.out m4⟩
theorem walk_DeviceLasts (A : Option Addr) (n c : Nat) (l : List Lm) (SA : Option Addr) (sn sc : Nat) (ss : List Bool) (cut keep : Int) (w : World) (hrow : VRow w w.heap.size A (flatV lmC l)) (hn : l.length = n) (hok : ∀ m ∈ l, Lm.Ok w w.heap.size m) (hle : n ≤ c) (hb : c * 24 ≤ 140737488351232)
    (hsr : L.Row () w w.heap.size SA ss) (hsn : ss.length = sn) (hsl : sn ≤ sc) (hsb : sc ≤ 140737488351232) (hc : (Lit.int .i64 cut).wf = true) (hk : (Lit.int .i64 keep).wf = true) :
    Calls Try.prog 5 #[.slice A n c, .slice SA sn sc, .int .i64 cut, .int .i64 keep] w fun e w' => e = .returned (.bool true) ∧ Below w.heap.size w w' :=
  lasts_any devOk12 A n c l SA sn sc ss cut keep w hrow hn (by omega) hok hsr hsn (by omega) (wf_i64 hk)
end Go.Proofs.Ytfclgjdlkcmnfaa
namespace Go.Proofs.Ytfclgjdlkcmnfaa.deviceLasts
open Go.ChangeShapes Go.WideShapes Go.ChangeAt Go.RowKit
open Go.ChangeMaps (open_string shut_string)
set_option linter.unusedVariables false

theorem own : ownKnob Try.prog.godebug = none := by kernel_rfl
theorem laidOut : laidOutB Try.prog = true := by kernel_rfl

set_option maxRecDepth 100000 in
theorem lifted (os : Os) (started : os.Started) (H : Type) (enc : TypeId × Value → H) :
    ReturnsInHanded {} Try.checked os 5 .any (Rows.deviceLastsSpec.pre6 enc Try.prog Try.f5 Rows.deviceLastsRow.domain false) (Rows.deviceLastsSpec.post enc Try.prog Try.f5 false true false false) := by
  refine returnsInHanded_of_change_sized (C := Try.checked) own started (by kernel_rfl) Try.func5
    (ChangeSpec.witness6 (enc := enc) (C := Try.checked) false ⟨#[], #[.slice none 0 0, .slice none 0 0, .int .i64 0, .int .i64 0], []⟩ 8 (by kernel_rfl) (by kernel_rfl) (by kernel_rfl) (by kernel_rfl)) ?_
  intro W base args ds gs before hval0 hW hcnd hsz0 _
  have hsz : (DataW.weightsEach Try.prog (Try.f5.params.toList ++ Rows.deviceLastsSpec.plain.varTypes Try.prog) (ds ++ gs)).all (· ≤ reachBytes) = true := hsz0
  clear hsz0
  have hval : ∀ (j : Nat) t v, Try.f5.params[j]? = some t → args[j]? = some v → Value.okWide Try.prog W .any base t v := hval0
  have hW' := hW
  obtain ⟨p, q, hA0, hV, rfl, hfz, hnd⟩ := hW
  have hA : DataW.TrodAll enc Try.prog W 0 (fun _ => true) true Try.f5.params.toList args.toList ds p := hA0
  rw [Try.params5] at hA hval hsz
  obtain ⟨v0, vs0, d0, ds0, p0, q0, hargs, rfl, rfl, h0, r0⟩ := trodAll_cons hA
  obtain ⟨v1, vs1, d1, ds1, p1, q1, rfl, rfl, rfl, h1, r1⟩ := trodAll_cons r0
  obtain ⟨v2, vs2, d2, ds2, p2, q2, rfl, rfl, rfl, h2, r2⟩ := trodAll_cons r1
  obtain ⟨v3, vs3, d3, ds3, p3, q3, rfl, rfl, rfl, h3, r3⟩ := trodAll_cons r2
  obtain ⟨rfl, rfl, rfl⟩ := trodAll_nil r3
  obtain rfl : args = #[v0, v1, v2, v3] := by cases args; simp_all
  obtain ⟨rfl, rfl⟩ := trodVars_none hV
  obtain ⟨a0, l0, c0, rfl⟩ := okWide_slice Try.underlying50 (hval 0 50 v0 rfl rfl)
  have k0 := h0
  have lt0 : ∀ x ∈ p0, x.block < W.heap.size := by obtain ⟨m, hm⟩ := k0; exact DataW.trod_lt m _ _ _ hm
  obtain ⟨x0, w0, n0, o0, s0, r0d⟩ := lists_in h0 lt0 (fun n hn => of_decide_eq_true (List.all_eq_true.1 hsz _ (DataW.weights_mem_each (j := 0) (t := 50) (d := d0) rfl rfl n hn)))
  have m0 := reach_lists hsz 0 rfl rfl r0d
  obtain ⟨a1, l1, c1, rfl⟩ := okWide_slice Try.underlying51 (hval 1 51 v1 rfl rfl)
  have k1 := h1
  have lt1 : ∀ x ∈ p1, x.block < W.heap.size := by obtain ⟨m, hm⟩ := k1; exact DataW.trod_lt m _ _ _ hm
  obtain ⟨x1, w1, n1, s1, r1d⟩ := L.row_in Try.underlying51 Try.underlying4 (by kernel_rfl) h1 lt1
  have m1 := reach_in hsz 1 rfl rfl Try.underlying51 (of_decide_eq_true (by kernel_rfl)) r1d
  obtain ⟨a2, rfl, rfl, rfl, w2⟩ := open_int Try.underlying3 (hval 2 3 v2 rfl rfl) h2
  obtain ⟨a3, rfl, rfl, rfl, w3⟩ := open_int Try.underlying3 (hval 3 3 v3 rfl rfl) h3
  clear hA0 hval0
  refine (walk_DeviceLasts a0 l0 c0 x0 a1 l1 c1 x1 a2 a3 W w0 n0 o0 s0 m0 w1 n1 s1 m1 w2 w3).mono fun e W' ⟨he, bel⟩ => ?_
  subst he
  exact ⟨_, rfl, _, _, _, [], _, [], hW', trodAll_mk1 (shut_bool Try.underlying4 _), (trodAll_cons_mk (Below.trod laidOut (by kernel_rfl) (of_decide_eq_true (by kernel_rfl)) k0 bel lt0) (trodAll_cons_mk (Below.trod laidOut (by kernel_rfl) (of_decide_eq_true (by kernel_rfl)) k1 bel lt1) (trodAll_cons_mk (shut_int Try.underlying3 w2) (trodAll_cons_mk (shut_int Try.underlying3 w3) trodAll_mk0)))), rfl, bel.frame _, fun h => by cases h⟩

theorem over : Rows.deviceLastsRow.holds Try.pinned (OpenSpec.ofChange Rows.deviceLastsSpec) :=
  OpenClaim.holds_of_wide 5 Try.f5 rfl rfl rfl rfl rfl rfl rfl ⟨rfl, rfl, rfl, rfl, rfl⟩ rfl rfl rfl rfl rfl (by kernel_rfl) Try.func5 (by kernel_rfl)
    (of_decide_eq_true (by kernel_rfl)) (by unfold Func.isWrapper; first | (rw [if_pos (by decide +kernel)]; kernel_rfl) | (rw [if_neg (by decide +kernel)]; exact ⟨rfl, rfl⟩))
    (fun os started H enc _ => lifted os started H enc)

theorem proved : Rows.DeviceLastsSaid := over
#print axioms proved
end Go.Proofs.Ytfclgjdlkcmnfaa.deviceLasts
