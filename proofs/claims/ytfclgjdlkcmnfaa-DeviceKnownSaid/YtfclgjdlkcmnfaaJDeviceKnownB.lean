/-
  Texts of the proof of DeviceKnown, joined.
-/
import Derived.Test.YtfclgjdlkcmnfaaJDeviceKnownA
import Derived.Deep.RegionWith
import Derived.Maps.AppendAt
import Derived.Deep.AppendLies
import Derived.Deep.RegionHeld3
import Derived.Deep.RegionLaw
namespace Go.Proofs.Ytfclgjdlkcmnfaa
open Go.RowKit
set_option linter.unusedVariables false
set_option maxRecDepth 100000

theorem RDx.files {w w' : World} {g : Nat} {fv fv' : Value} {ms ms' : List Fm} {d d' : Dv} (h : RDx w g fv ms d) (hf : Frm (fun b => b = g) w w') (hb : w'.heap[g]? = some (.cells #[.int .i64 (d'.room : Int), .int .i64 d'.left, .bool d'.off, fv'] 65 (0, 0)))
    (own : FmOwn w' w.heap.size fv' ms') (hl : ms'.length = d'.fs.length) (is : ∀ i (h1 : i < ms'.length) (h2 : i < d'.fs.length), FmIs w ms'[i] d'.fs[i]) (hm : ∀ m ∈ ms', ∀ a, m.A = some a → 0 < m.n → a.block ≠ g ∧ a.block < w.heap.size) : RDx w' g fv' ms' d' := by
  have hlt := block_lt h.box
  refine ⟨hb, own.mono (Nat.zero_le _), hl, fun i h1 h2 => ?_, fun e => ?_, fun m h1 a ha hn => ?_⟩
  · have := is i h1 h2
    exact ⟨this.nm, this.sy, this.n, this.le, this.cap, hf.row this.row (fun a ha hp e => (hm _ (List.getElem_mem h1) a ha (by rw [← this.n]; exact hp)).1 e)⟩
  · have := (own.lt g e).1
    omega
  · have h3 := hm m h1 a ha hn
    refine ⟨h3.1, fun e => ?_⟩
    have := (own.lt _ e).1
    omega
theorem RDx.near {w : World} {g : Nat} {fv : Value} {ms : List Fm} {d : Dv} (h : RDx w g fv ms d) : ∀ m ∈ ms, ∀ a, m.A = some a → 0 < m.n → a.block ≠ g ∧ a.block < w.heap.size :=
  fun m hm a ha hn => ⟨(h.sepB m hm a ha hn).1, h.lt _ (.inr (.inr ⟨m, hm, a, ha, rfl, hn⟩))⟩
/-- What a call makes of the files. -/
def FilesTo (g : Nat) (w : World) (ms : List Fm) (d : Dv) (e : Ending) (w' : World) : Prop :=
  e = .returned (.tuple #[]) ∧ ∃ fv, RDx w' g fv ms d ∧ Frm (fun b => b = g) w w' ∧ ∀ b, fv.ownBlock = some b → w.heap.size ≤ b

theorem take_erase_skip (l : List Fm) (k : Nat) (h : k < l.length) : (l.take (k + 1)).eraseIdx k = (l.take k).eraseIdx k := by
  rw [List.take_succ_eq_append_getElem h, List.eraseIdx_append_of_length_le (by rw [List.length_take]; omega), List.eraseIdx_of_length_le (by rw [List.length_take]; omega : (l.take k).length ≤ k), List.length_take, Nat.min_eq_left (by omega), Nat.sub_self]
  simp
theorem take_erase_step (l : List Fm) (k j : Nat) (hj : j < l.length) (h : j ≠ k) : (l.take (j + 1)).eraseIdx k = (l.take j).eraseIdx k ++ [l[j]] := by
  rw [List.take_succ_eq_append_getElem hj]
  rcases Nat.lt_or_ge k j with h1 | h1
  · rw [List.eraseIdx_append_of_lt_length (by rw [List.length_take]; omega)]
  · rw [List.eraseIdx_append_of_length_le (by rw [List.length_take]; omega), List.eraseIdx_of_length_le (by rw [List.length_take]; omega : (l.take j).length ≤ k), List.length_take, Nat.min_eq_left (by omega)]
    rw [List.eraseIdx_of_length_le (by simp; omega)]
set_option maxHeartbeats 1000000 in
theorem refTake_dv (g k : Nat) (fv : Value) (ms : List Fm) (d : Dv) (w : World) (h : RDx w g fv ms d) (hn : d.fs.length ≤ 1000) :
    Calls Try.prog 73 #[.pointer (some ⟨g, 0, none⟩), .int .i64 k] w (FilesTo g w (ms.eraseIdx k) { d with fs := d.fs.eraseIdx k }) := by
  obtain ⟨A, cap, rfl, hle, hcm⟩ := h.slice
  obtain ⟨n, hn2⟩ : ∃ n, d.fs.length = n := ⟨_, rfl⟩
  have HN := Lib.hid hn2
  have HM : Hid (ms.length = n) := Lib.hid (h.len.trans hn2)
  rw [hn2] at hle hn
  have H := Lib.hid h
  have hltg := block_lt h.box
  have c3 := h.c4.2.2.2.1
  rw [hn2] at c3
  clear h hn2
  go_enter Try.func73, Try.ntmps73
  go_wp2_with fail
  go_loopw [4, 5] (fun v i wr => ∃ j : Nat, j ≤ n ∧ i = .int .i64 j ∧ FmOwn wr w.heap.size v ((ms.take j).eraseIdx k) ∧ Below w.heap.size w wr) (fun _ i _ => n - (intOf i).toNat)
  case atStart => exact ⟨0, by omega, rfl, by rw [List.take_zero]; simp; exact FmOwn.nil _ _, Below.refl _ _⟩
  case round =>
    obtain ⟨j, hj, rfl, hown, hbel⟩ := hrel
    have H1 := Lib.hid (H.out.below hbel)
    have d3 := H1.out.c4.2.2.2.1
    rw [HN.out] at d3
    clear c3
    by_cases hlt : j < n
    · by_cases hjk : j = k
      · subst hjk
        have HS := Lib.hid (take_erase_skip ms j (by rw [HM.out]; exact hlt))
        rw [← HS.out] at hown
        go_wp2
        go_roundw
        case rel => exact ⟨j + 1, by omega, by go_num, hown, hbel⟩
        case measure => simp [intOf]; omega
      · have hjl : j < ms.length := by rw [HM.out]; exact hlt
        have HS := Lib.hid (take_erase_step ms k j hjl hjk)
        obtain ⟨b, cap', e, _, _, _, _, e0, e1, e2, _⟩ := H1.out.own.elem hjl
        injection e with eA en ec
        subst eA ec
        have hl5 : Hid (((ms.take j).eraseIdx k).length ≤ 1000) := Lib.hid (Nat.le_trans (List.length_eraseIdx_le _ _) (by rw [List.length_take]; omega))
        have hjk2 : ((j : Int) != (k : Int)) = true := by simp; omega
        have hjk3 : ((j : Int) == (k : Int)) = false := beq_false_of_ne (by omega)
        have hsz := hbel.size
        obtain ⟨mj, hmj⟩ : ∃ m, ms[j] = m := ⟨_, rfl⟩
        rw [hmj] at e0 e1 e2 HS
        obtain ⟨mnm, mA, mn, mc, msy⟩ := mj
        simp only at e0 e1 e2
        have hbx := box_fm wr ⟨mnm, mA, mn, mc, msy⟩
        clear hjk en hmj
        go_wp2_with (at_builtin; refine wpList_append_fm _ rfl _ _ rfl w.heap.size _ ((ms.take j).eraseIdx k) rfl (hown.alloc _) ⟨wr.heap.size, 0, none⟩ 1 ⟨mnm, mA, mn, mc, msy⟩ rfl hbx (by have := hl5.out; omega) (by simp; omega) ?_; intro v1 w1 hown1 hg1)
        have hbel1 : Below w.heap.size w w1 := (hbel.alloc hsz _).grown hg1 (by simp; omega) (fun q e => (hown.lt q e).1)
        rw [← HS.out] at hown1
        clear hbx hown hg1 hbel e0 e1 e2 d3 H1
        go_wp2
        go_roundw
        case rel => exact ⟨j + 1, by omega, by go_num, hown1, hbel1⟩
        case measure => simp [intOf]; omega
    · obtain rfl : j = n := by omega
      have HT : Hid (ms.take j = ms) := Lib.hid (List.take_of_length_le (by rw [HM.out]; exact Nat.le_refl _))
      rw [HT.out] at hown
      have cf := H1.out.c4.2.2.2.2
      obtain ⟨A2, c2, rfl, _, _, _⟩ := hown.row
      have hF := (Frm.of_below (F := fun b => b = g) hbel).trans (Frm.set (F := fun b => b = g) wr g 3 (.slice A2 (ms.eraseIdx k).length c2) rfl) (fun i hi => .inl hi)
      have hown2 := hown.frm (Frm.set (F := fun b => b = g) wr g 3 (.slice A2 (ms.eraseIdx k).length c2) rfl) (fun b hb e => by have := (hown.lt b hb).1; omega)
      have hbx := dv_box_set H1.out.box 3 (.slice A2 (ms.eraseIdx k).length c2)
      obtain ⟨L, hL⟩ : ∃ L, Hid ((ms.eraseIdx k).length = L) := ⟨_, Lib.hid rfl⟩
      have hlt2 := hown.lt
      clear hown
      rw [hL.out] at hF hown2 hbx hlt2 ⊢
      have HF := Lib.hid hF
      have HO := Lib.hid hown2
      have HBX := Lib.hid hbx
      clear hF hown2 hbx
      go_wp2
      go_end0
      refine ⟨rfl, _, RDx.files H.out HF.out HBX.out HO.out ?_ ?_ ?_, HF.out, fun b hb => (hlt2 b hb).1⟩
      · rw [List.length_eraseIdx, List.length_eraseIdx, HM.out, HN.out]
      · intro i h1 h2
        simp only at h2
        rw [List.length_eraseIdx, HM.out] at h1
        have e1 := List.getElem_eraseIdx (l := ms) (i := k) (j := i) (h := by rw [List.length_eraseIdx, HM.out]; exact h1)
        have e2 := List.getElem_eraseIdx (l := d.fs) (i := k) (j := i) (h := h2)
        rw [e1]
        simp only [e2]
        have hI := H.out.is
        split
        · exact hI i _ _
        · exact hI (i + 1) _ _
      · intro m hm a ha hn
        exact H.out.near m (List.mem_of_mem_eraseIdx hm) a ha hn
end Go.Proofs.Ytfclgjdlkcmnfaa
namespace Go.Proofs.Ytfclgjdlkcmnfaa
open Go.RowKit
set_option linter.unusedVariables false
set_option maxRecDepth 100000

def posD (l : List Fl) (s : ByteArray) : Nat := l.findIdx (fun h => lessN s h.nm)
theorem insD_split (l : List Fl) (f : Fl) : insD l f = l.take (posD l f.nm) ++ f :: l.drop (posD l f.nm) := by
  induction l with
  | nil => rfl
  | cons a l ih =>
    unfold insD posD
    rw [List.findIdx_cons]
    cases h : lessN f.nm a.nm
    · simp only [cond_false, List.take_succ_cons, List.drop_succ_cons, List.cons_append]
      rw [ih]
      rfl
    · simp
theorem posD_le (l : List Fl) (s : ByteArray) : posD l s ≤ l.length := List.findIdx_le_length
theorem posD_not (l : List Fl) (s : ByteArray) (j : Nat) (h : j < posD l s) (hj : j < l.length) : lessN s l[j].nm = false := by
  have := List.not_of_lt_findIdx h
  simpa using this
theorem posD_is (l : List Fl) (s : ByteArray) (h : posD l s < l.length) : lessN s (l[posD l s]'h).nm = true := List.findIdx_getElem (w := h)
def outM (ms : List Fm) (p : Nat) (m : Fm) (i : Nat) : List Fm := if i ≤ p then ms.take i else ms.take p ++ m :: (ms.take i).drop p
theorem outM_zero (ms : List Fm) (p : Nat) (m : Fm) : outM ms p m 0 = [] := by unfold outM; rw [if_pos (Nat.zero_le _)]; rfl
theorem outM_low (ms : List Fm) (p : Nat) (m : Fm) (i : Nat) (hi : i < ms.length) (h : i < p) : outM ms p m (i + 1) = outM ms p m i ++ [ms[i]] := by
  unfold outM
  rw [if_pos (show i + 1 ≤ p by omega), if_pos (show i ≤ p by omega), List.take_succ_eq_append_getElem hi]
theorem outM_at (ms : List Fm) (p : Nat) (m : Fm) (hi : p < ms.length) : outM ms p m (p + 1) = (outM ms p m p ++ [m]) ++ [ms[p]] := by
  unfold outM
  rw [if_neg (show ¬ p + 1 ≤ p by omega), if_pos (Nat.le_refl p), List.take_succ_eq_append_getElem hi, List.drop_append_of_le_length (by rw [List.length_take]; omega), List.drop_eq_nil_of_le (by rw [List.length_take]; omega)]
  simp
theorem outM_high (ms : List Fm) (p : Nat) (m : Fm) (i : Nat) (hi : i < ms.length) (h : p < i) : outM ms p m (i + 1) = outM ms p m i ++ [ms[i]] := by
  unfold outM
  rw [if_neg (show ¬ i + 1 ≤ p by omega), if_neg (show ¬ i ≤ p by omega), List.take_succ_eq_append_getElem hi, List.drop_append_of_le_length (by rw [List.length_take]; omega)]
  simp
theorem outM_len (ms : List Fm) (p : Nat) (m : Fm) (i : Nat) : (outM ms p m i).length ≤ ms.length + 1 := by
  unfold outM
  split
  · rw [List.length_take]; omega
  · simp only [List.length_append, List.length_cons, List.length_take, List.length_drop]; omega
theorem outM_end (ms : List Fm) (p : Nat) (m : Fm) (hp : p ≤ ms.length) : (if p < ms.length then outM ms p m ms.length else outM ms p m ms.length ++ [m]) = ms.take p ++ m :: ms.drop p := by
  unfold outM
  split
  · rename_i h
    rw [if_neg (by omega), List.take_of_length_le (Nat.le_refl ms.length)]
  · rw [if_pos (by omega), List.take_of_length_le (Nat.le_refl _), List.take_of_length_le (by omega), List.drop_eq_nil_of_le (by omega)]
theorem box3 {w : World} {g : Nat} {t : TypeId} {v0 v1 v2 : Value} (h : w.heap[g]? = some (.cells #[v0, v1, v2] t (0, 0))) : w.cell? ⟨g, 0, none⟩ = some v0 ∧ w.cell? ⟨g, 1, none⟩ = some v1 ∧ w.cell? ⟨g, 2, none⟩ = some v2 :=
  ⟨cell_of_row w g 0 _ _ _ h, cell_of_row w g 1 _ _ _ h, cell_of_row w g 2 _ _ _ h⟩
theorem put_pair {w : World} {g : Nat} {fv : Value} {ms : List Fm} {d : Dv} {m : Fm} {f : Fl} {N : Nat} (H : RDx w g fv ms d) (p : Nat) (hM : ms.length = N) (hN : d.fs.length = N) (hp : p ≤ N) (hf : FmIs w m f) (hs : insD d.fs f = d.fs.take p ++ f :: d.fs.drop p) (i : Nat) (h1 : i < (ms.take p ++ m :: ms.drop p).length) (h2 : i < (insD d.fs f).length) : FmIs w (ms.take p ++ m :: ms.drop p)[i] (insD d.fs f)[i] := by
  have e : (insD d.fs f)[i] = (d.fs.take p ++ f :: d.fs.drop p)[i]'(by rw [← hs]; exact h2) := by simp only [hs]
  rw [e]
  have hl1 : (ms.take p).length = p := by rw [List.length_take]; omega
  have hl2 : (d.fs.take p).length = p := by rw [List.length_take]; omega
  simp only [List.length_append, List.length_cons, hl1, List.length_drop] at h1
  rcases Nat.lt_trichotomy i p with h | h | h
  · rw [List.getElem_append_left (by omega), List.getElem_append_left (by omega), List.getElem_take, List.getElem_take]
    exact H.is i _ _
  · subst h
    rw [List.getElem_append_right (by omega), List.getElem_append_right (by omega)]
    simp only [hl1, hl2, Nat.sub_self, List.getElem_cons_zero]
    exact hf
  · obtain ⟨q, rfl⟩ : ∃ q, i = p + 1 + q := ⟨i - p - 1, by omega⟩
    rw [List.getElem_append_right (by omega), List.getElem_append_right (by omega)]
    simp only [hl1, hl2, show p + 1 + q - p = q + 1 by omega, List.getElem_cons_succ, List.getElem_drop]
    exact H.is (p + q) _ _
set_option maxHeartbeats 4000000 in
theorem refPut_dv (g : Nat) (fv : Value) (ms : List Fm) (d : Dv) (nm : ByteArray) (A : Option Addr) (n c : Nat) (sy : Int) (f : Fl) (w : World) (h : RDx w g fv ms d) (hn : d.fs.length ≤ 1000) (hf : FmIs w ⟨nm, A, n, c, sy⟩ f) (hA : ∀ a, A = some a → 0 < n → a.block ≠ g ∧ a.block < w.heap.size) :
    Calls Try.prog 70 #[.pointer (some ⟨g, 0, none⟩), .agg #[.string nm, .slice A n c, .int .i64 sy]] w (FilesTo g w (ms.take (posD d.fs nm) ++ (⟨nm, A, n, c, sy⟩ : Fm) :: ms.drop (posD d.fs nm)) { d with fs := insD d.fs f }) := by
  obtain ⟨A0, cap, rfl, hle, hcm⟩ := h.slice
  obtain ⟨N, hn2⟩ : ∃ n, d.fs.length = n := ⟨_, rfl⟩
  have HN := Lib.hid hn2
  have HM : Hid (ms.length = N) := Lib.hid (h.len.trans hn2)
  rw [hn2] at hle hn
  have H := Lib.hid h
  have hltg := block_lt h.box
  have c3 := h.c4.2.2.2.1
  rw [hn2] at c3
  have HPN := Lib.hid (posD_not d.fs nm)
  have HPI := Lib.hid (posD_is d.fs nm)
  have hpl := posD_le d.fs nm
  have HSP := Lib.hid (insD_split d.fs f)
  have hfn : f.nm = nm := hf.nm.symm
  rw [hfn] at HSP
  rw [hn2] at hpl
  generalize hp0 : posD d.fs nm = p at *
  have HFI := Lib.hid hf
  have HAA := Lib.hid hA
  have bx0 := Bx.new w (.cells #[.string nm, .slice A n c, .int .i64 sy] 77)
  clear h hn2 hf hA hfn hp0
  have b3 := (bx0.2.cell (p := ⟨g, 3, none⟩) hltg).trans c3
  go_enter Try.func70, Try.ntmps70
  go_wp2_with fail
  go_loopw [4, 5, 6] (fun v l i wr => ∃ j : Nat, j ≤ N ∧ i = .int .i64 j ∧ l = .bool (decide (p < j)) ∧ FmOwn wr (w.heap.size + 1) v (outM ms p ⟨nm, A, n, c, sy⟩ j) ∧ Bx w w.heap.size (.cells #[.string nm, .slice A n c, .int .i64 sy] 77) wr) (fun _ _ i _ => N - (intOf i).toNat)
  case atStart => exact ⟨0, by omega, rfl, by rw [decide_eq_false (show ¬ p < 0 by omega)], by rw [outM_zero]; exact FmOwn.nil _ _, bx0⟩
  case round =>
    clear bx0 b3
    obtain ⟨j, hj, rfl, rfl, hown, hbx⟩ := hrel
    have H1 := Lib.hid (H.out.below hbx.2)
    have d3 := H1.out.c4.2.2.2.1
    rw [HN.out] at d3
    have hsz := hbx.lt
    by_cases hlt : j < N
    · have hjl : j < ms.length := by rw [HM.out]; exact hlt
      have hjd : j < d.fs.length := by rw [HN.out]; exact hlt
      have hnm := (H1.out.is j hjl hjd).nm
      obtain ⟨b, cap', e, _, hbl, _, _, e0, e1, e2, _⟩ := H1.out.own.elem hjl
      injection e with eA en ec
      subst eA ec
      have hl5 : Hid ((outM ms p ⟨nm, A, n, c, sy⟩ j).length ≤ 1001) := Lib.hid (Nat.le_trans (outM_len _ _ _ _) (by have := HM.out; omega))
      clear en
      obtain ⟨x0, x1, x2⟩ := box3 hbx.1
      rcases Nat.lt_trichotomy j p with hjp | hjp | hjp
      · have HS := Lib.hid (outM_low ms p ⟨nm, A, n, c, sy⟩ j hjl hjp)
        have hl0 : decide (p < j) = false := decide_eq_false (by omega)
        have hl1 : decide (p < j + 1) = false := decide_eq_false (by omega)
        rw [hl0]
        obtain ⟨mj, hmj⟩ : ∃ m, ms[j] = m := ⟨_, rfl⟩
        rw [hmj] at e0 e1 e2 HS hnm
        obtain ⟨mnm, mA, mn, mc, msy⟩ := mj
        simp only at e0 e1 e2 hnm
        have hls : lessN nm mnm = false := by rw [hnm]; exact HPN.out j hjp hjd
        unfold lessN at hls
        clear hnm
        clear hmj hl0
        go_wp2_with fail
        go_quiet (fail)
        have hown' : FmOwn (wr.drewN nq) (w.heap.size + 1) u4 (outM ms p ⟨nm, A, n, c, sy⟩ j) := hown
        have hbx' := hbx.drewN nq
        have e0' : (wr.drewN nq).cell? ⟨b, j * 3, none⟩ = some (.string mnm) := e0
        have e1' : (wr.drewN nq).cell? ⟨b, j * 3 + 1, none⟩ = some (.slice mA mn mc) := e1
        have e2' : (wr.drewN nq).cell? ⟨b, j * 3 + 2, none⟩ = some (.int .i64 msy) := e2
        have d3' : (wr.drewN nq).cell? ⟨g, 3, none⟩ = some (.slice (some ⟨b, 0, none⟩) N cap) := d3
        have hsz' : w.heap.size < (wr.drewN nq).heap.size := hsz
        clear hown hbx e0 e1 e2 d3 hsz H1 x0 x1 x2 hbl
        generalize wr.drewN nq = wd at *
        go_wp2_with (at_builtin; refine wpList_append_fm _ rfl _ _ rfl (w.heap.size + 1) _ (outM ms p ⟨nm, A, n, c, sy⟩ j) rfl (hown'.alloc _) ⟨wd.heap.size, 0, none⟩ 1 ⟨mnm, mA, mn, mc, msy⟩ rfl (box_fm wd ⟨mnm, mA, mn, mc, msy⟩) (by have := hl5.out; omega) (by simp; omega) ?_; intro v1 w1 own1 hg1)
        have bx1 := (hbx'.alloc _).grown hg1 (fun q e => by have := (hown'.lt q e).1; omega)
        rw [← HS.out] at own1
        clear hown' hg1 hbx' e0' e1' e2' d3'
        go_wp2
        go_roundw
        case rel => exact ⟨j + 1, by omega, by go_num, by rw [hl1], own1, bx1⟩
        case measure => simp [intOf]; omega
      · subst hjp
        have hjl2 : j < ms.length := hjl
        have HS := Lib.hid (outM_at ms j ⟨nm, A, n, c, sy⟩ hjl)
        have hl0 : decide (j < j) = false := decide_eq_false (by omega)
        have hl1 : decide (j < j + 1) = true := decide_eq_true (by omega)
        rw [hl0]
        obtain ⟨mj, hmj⟩ : ∃ m, ms[j] = m := ⟨_, rfl⟩
        rw [hmj] at e0 e1 e2 HS hnm
        obtain ⟨mnm, mA, mn, mc, msy⟩ := mj
        simp only at e0 e1 e2 hnm
        have hls : lessN nm mnm = true := by
          rw [hnm]
          exact HPI.out hjd
        unfold lessN at hls
        clear hnm hmj hl0
        have hbw : b < w.heap.size := (H.out.own.lt b rfl).2
        go_wp2_with fail
        go_quiet (fail)
        have hown' : FmOwn (wr.drewN nq) (w.heap.size + 1) u4 (outM ms j ⟨nm, A, n, c, sy⟩ j) := hown
        have hbx' := hbx.drewN nq
        have e0' : (wr.drewN nq).cell? ⟨b, j * 3, none⟩ = some (.string mnm) := e0
        have e1' : (wr.drewN nq).cell? ⟨b, j * 3 + 1, none⟩ = some (.slice mA mn mc) := e1
        have e2' : (wr.drewN nq).cell? ⟨b, j * 3 + 2, none⟩ = some (.int .i64 msy) := e2
        have d3' : (wr.drewN nq).cell? ⟨g, 3, none⟩ = some (.slice (some ⟨b, 0, none⟩) N cap) := d3
        have hsz' : w.heap.size < (wr.drewN nq).heap.size := hsz
        clear hown hbx e0 e1 e2 d3 hsz H1 x0 x1 x2
        generalize wr.drewN nq = wd at *
        obtain ⟨x0, x1, x2⟩ := box3 hbx'.1
        have hl6 : Hid ((outM ms j ⟨nm, A, n, c, sy⟩ j ++ [(⟨nm, A, n, c, sy⟩ : Fm)]).length ≤ 1002) := Lib.hid (by rw [List.length_append]; have := hl5.out; simp only [List.length_cons, List.length_nil]; omega)
        go_wp2_with (first
          | (at_builtin; refine wpList_append_fm _ rfl _ _ rfl (w.heap.size + 1) _ (outM ms j ⟨nm, A, n, c, sy⟩ j) rfl (hown'.alloc _) ⟨wd.heap.size, 0, none⟩ 1 ⟨nm, A, n, c, sy⟩ rfl (box_fm wd ⟨nm, A, n, c, sy⟩) (by have := hl5.out; omega) (by simp; omega) ?_; intro v1 w1 own1 hg1; have bx1 := (hbx'.alloc (.cells #[.string nm, .slice A n c, .int .i64 sy] 77)).grown hg1 (fun q e => by have := (hown'.lt q e).1; omega); have bw1 : Below w.heap.size wd w1 := ((Below.refl w.heap.size wd).alloc (by omega) (.cells #[.string nm, .slice A n c, .int .i64 sy] 77)).grown hg1 (by simp; omega) (fun q e => by have := (hown'.lt q e).1; omega); have d31 := (bw1.cell (p := ⟨g, 3, none⟩) hltg).trans d3'; have e01 := (bw1.cell (p := ⟨b, j * 3, none⟩) hbw).trans e0'; have e11 := (bw1.cell (p := ⟨b, j * 3 + 1, none⟩) hbw).trans e1'; have e21 := (bw1.cell (p := ⟨b, j * 3 + 2, none⟩) hbw).trans e2'; have hz1 := bx1.lt)
          | (at_builtin; refine wpList_append_fm _ rfl _ _ rfl (w.heap.size + 1) _ (outM ms j ⟨nm, A, n, c, sy⟩ j ++ [(⟨nm, A, n, c, sy⟩ : Fm)]) rfl (own1.alloc _) ⟨w1.heap.size, 0, none⟩ 1 ⟨mnm, mA, mn, mc, msy⟩ rfl (box_fm w1 ⟨mnm, mA, mn, mc, msy⟩) (by have := hl6.out; omega) (by simp; omega) ?_; intro v2 w2 own2 hg2; have bx2 := (bx1.alloc (.cells #[.string mnm, .slice mA mn mc, .int .i64 msy] 77)).grown hg2 (fun q e => by have := (own1.lt q e).1; omega)))
        rw [← HS.out] at own2
        clear hown' own1 hg1 hg2 bx1 hbx' e0' e1' e2' d3' bw1 d31 e01 e11 e21 x0 x1 x2
        go_wp2
        go_roundw
        case rel => exact ⟨j + 1, by omega, by go_num, by rw [hl1], own2, bx2⟩
        case measure => simp [intOf]; omega
      · have HS := Lib.hid (outM_high ms p ⟨nm, A, n, c, sy⟩ j hjl hjp)
        have hl0 : decide (p < j) = true := decide_eq_true (by omega)
        have hl1 : decide (p < j + 1) = true := decide_eq_true (by omega)
        rw [hl0]
        obtain ⟨mj, hmj⟩ : ∃ m, ms[j] = m := ⟨_, rfl⟩
        rw [hmj] at e0 e1 e2 HS hnm
        obtain ⟨mnm, mA, mn, mc, msy⟩ := mj
        simp only at e0 e1 e2 hnm
        clear hnm
        clear hmj hl0
        go_wp2_with fail
        go_quiet (fail)
        have hown' : FmOwn (wr.drewN nq) (w.heap.size + 1) u4 (outM ms p ⟨nm, A, n, c, sy⟩ j) := hown
        have hbx' := hbx.drewN nq
        have e0' : (wr.drewN nq).cell? ⟨b, j * 3, none⟩ = some (.string mnm) := e0
        have e1' : (wr.drewN nq).cell? ⟨b, j * 3 + 1, none⟩ = some (.slice mA mn mc) := e1
        have e2' : (wr.drewN nq).cell? ⟨b, j * 3 + 2, none⟩ = some (.int .i64 msy) := e2
        have d3' : (wr.drewN nq).cell? ⟨g, 3, none⟩ = some (.slice (some ⟨b, 0, none⟩) N cap) := d3
        have hsz' : w.heap.size < (wr.drewN nq).heap.size := hsz
        clear hown hbx e0 e1 e2 d3 hsz H1 x0 x1 x2 hbl
        generalize wr.drewN nq = wd at *
        go_wp2_with (at_builtin; refine wpList_append_fm _ rfl _ _ rfl (w.heap.size + 1) _ (outM ms p ⟨nm, A, n, c, sy⟩ j) rfl (hown'.alloc _) ⟨wd.heap.size, 0, none⟩ 1 ⟨mnm, mA, mn, mc, msy⟩ rfl (box_fm wd ⟨mnm, mA, mn, mc, msy⟩) (by have := hl5.out; omega) (by simp; omega) ?_; intro v1 w1 own1 hg1)
        have bx1 := (hbx'.alloc _).grown hg1 (fun q e => by have := (hown'.lt q e).1; omega)
        rw [← HS.out] at own1
        clear hown' hg1 hbx' e0' e1' e2' d3'
        go_wp2
        go_roundw
        case rel => exact ⟨j + 1, by omega, by go_num, by rw [hl1], own1, bx1⟩
        case measure => simp [intOf]; omega
    · obtain rfl : j = N := by omega
      obtain ⟨x0, x1, x2⟩ := box3 hbx.1
      obtain ⟨LL, hLL⟩ : ∃ LL, ms.take p ++ (⟨nm, A, n, c, sy⟩ : Fm) :: ms.drop p = LL := ⟨_, rfl⟩
      have HLL := Lib.hid hLL
      have HEND := Lib.hid (outM_end ms p ⟨nm, A, n, c, sy⟩ (by rw [HM.out]; exact hpl))
      rw [HM.out, hLL] at HEND
      clear hLL
      by_cases hpn : p < j
      · have hown3 : FmOwn wr (w.heap.size + 1) u4 LL := by
          have := HEND.out
          rw [if_pos hpn] at this
          rw [← this]; exact hown
        rw [decide_eq_true hpn]
        have bxz := hbx
        have ownz := hown3
        clear hown hown3 hbx hpn HEND hlt hj x0 x1 x2 H1
        obtain ⟨wz, hwz⟩ : ∃ z, z = wr := ⟨_, rfl⟩
        subst hwz
        obtain ⟨A2, c2, rfl, _, _, _⟩ := ownz.row
        have hF := (Frm.of_below (F := fun b => b = g) bxz.2).trans (Frm.set (F := fun b => b = g) wz g 3 (.slice A2 LL.length c2) rfl) (fun i hi => .inl hi)
        have hown2 := (ownz.mono (Nat.le_succ w.heap.size)).frm (Frm.set (F := fun b => b = g) wz g 3 (.slice A2 LL.length c2) rfl) (fun b hb e => by have := (ownz.lt b hb).1; omega)
        have Hz := H.out.below bxz.2
        have hbx2 := dv_box_set Hz.box 3 (.slice A2 LL.length c2)
        have cf := Hz.c4.2.2.2.2
        have d3z := Hz.c4.2.2.2.1
        have hlt2 := ownz.lt
        obtain ⟨L, hL⟩ : ∃ L, Hid (LL.length = L) := ⟨_, Lib.hid rfl⟩
        rw [hL.out] at hF hown2 hbx2 hlt2 ⊢
        have HF := Lib.hid hF
        have HO := Lib.hid hown2
        have HBX := Lib.hid hbx2
        clear hF hown2 hbx2 ownz
        go_wp2
        go_end0
        refine ⟨rfl, _, RDx.files H.out HF.out HBX.out (by rw [HLL.out]; exact HO.out) ?_ ?_ ?_, HF.out, fun b hb => by have := (hlt2 b hb).1; omega⟩
        · simp only [HSP.out, List.length_append, List.length_cons, List.length_take, List.length_drop, HM.out, HN.out]
        · intro i h1 h2
          exact put_pair H.out p HM.out HN.out hpl HFI.out HSP.out i h1 h2
        · intro m hm a ha hn
          rcases List.mem_append.1 hm with hm | hm
          · exact H.out.near m (List.mem_of_mem_take hm) a ha hn
          · rcases List.mem_cons.1 hm with rfl | hm
            · exact HAA.out a ha hn
            · exact H.out.near m (List.mem_of_mem_drop hm) a ha hn
      · have hl6 : Hid ((outM ms p ⟨nm, A, n, c, sy⟩ j).length ≤ 1001) := Lib.hid (Nat.le_trans (outM_len _ _ _ _) (by have := HM.out; omega))
        have HE2 : Hid (outM ms p ⟨nm, A, n, c, sy⟩ j ++ [(⟨nm, A, n, c, sy⟩ : Fm)] = LL) := Lib.hid (by
          have := HEND.out
          rw [if_neg hpn] at this
          exact this)
        rw [decide_eq_false hpn]
        clear hpn HEND hlt hj
        go_wp2_with (at_builtin; refine wpList_append_fm _ rfl _ _ rfl (w.heap.size + 1) _ (outM ms p ⟨nm, A, n, c, sy⟩ j) rfl (hown.alloc _) ⟨wr.heap.size, 0, none⟩ 1 ⟨nm, A, n, c, sy⟩ rfl (box_fm wr ⟨nm, A, n, c, sy⟩) (by have := hl6.out; omega) (by simp; omega) ?_; intro vz wz ownz hgz; have bxz := (hbx.alloc (.cells #[.string nm, .slice A n c, .int .i64 sy] 77)).grown hgz (fun q e => by have := (hown.lt q e).1; omega); rw [HE2.out] at ownz; obtain ⟨A2, c2, rfl, _, _, _⟩ := ownz.row; have hF := (Frm.of_below (F := fun b => b = g) bxz.2).trans (Frm.set (F := fun b => b = g) wz g 3 (.slice A2 LL.length c2) rfl) (fun i hi => .inl hi); have hown2 := (ownz.mono (Nat.le_succ w.heap.size)).frm (Frm.set (F := fun b => b = g) wz g 3 (.slice A2 LL.length c2) rfl) (fun b hb e => by have := (ownz.lt b hb).1; omega); have Hz := H.out.below bxz.2; have hbx2 := dv_box_set Hz.box 3 (.slice A2 LL.length c2); have cf := Hz.c4.2.2.2.2; have d3z := Hz.c4.2.2.2.1; have hlt2 := ownz.lt; have HF := Lib.hid hF; have HO := Lib.hid hown2; have HBX := Lib.hid hbx2; clear hF hown2 hbx2)
        clear hown hgz hbx x0 x1 x2 H1
        go_end0
        refine ⟨rfl, _, RDx.files H.out HF.out HBX.out (by rw [HLL.out]; exact HO.out) ?_ ?_ ?_, HF.out, fun b hb => by have := (hlt2 b hb).1; omega⟩
        · simp only [HSP.out, List.length_append, List.length_cons, List.length_take, List.length_drop, HM.out, HN.out]
        · intro i h1 h2
          exact put_pair H.out p HM.out HN.out hpl HFI.out HSP.out i h1 h2
        · intro m hm a ha hn
          rcases List.mem_append.1 hm with hm | hm
          · exact H.out.near m (List.mem_of_mem_take hm) a ha hn
          · rcases List.mem_cons.1 hm with rfl | hm
            · exact HAA.out a ha hn
            · exact H.out.near m (List.mem_of_mem_drop hm) a ha hn
end Go.Proofs.Ytfclgjdlkcmnfaa
namespace Go.Proofs.Ytfclgjdlkcmnfaa
open Go.RowKit
set_option linter.unusedVariables false
set_option maxRecDepth 100000

/-- A call with the document's device: what it answers, what the device is, what has changed. -/
def RStep (g : Nat) (fv : Value) (ms : List Fm) (d : Dv) (v : Value) (w : World) (e : Ending) (w' : World) : Prop :=
  e = .returned v ∧ ∃ fv' ms', RDx w' g fv' ms' d ∧ Frm (fun b => b = g ∨ fv.ownBlock = some b) w w' ∧ ∀ b, RG g fv' ms' b → RG g fv ms b ∨ w.heap.size ≤ b
theorem RStep.same {g : Nat} {fv : Value} {ms : List Fm} {d : Dv} {v : Value} {w : World} (h : RDx w g fv ms d) : RStep g fv ms d v w (.returned v) w := ⟨rfl, fv, ms, h, Frm.refl _ _, fun b hb => .inl hb⟩
theorem RStep.in {g : Nat} {fv : Value} {ms : List Fm} {d : Dv} {v : Value} {w w' : World} {e : Ending} (he : e = .returned v) (h : RDx w' g fv ms d) (hf : Frm (fun b => b = g) w w') : RStep g fv ms d v w e w' := ⟨he, fv, ms, h, hf.mono (fun b hb => .inl hb), fun b hb => .inl hb⟩
theorem off_false {d : Dv} (h : ¬ d.off = true) : d.off = false := by simpa using h
theorem there_off {d : Dv} {s : ByteArray} (h : d.off = true) : thereE d s = 10 := if_pos h
theorem there_none {d : Dv} {s : ByteArray} (h : ¬ d.off = true) (hf : findD d.fs s = none) : thereE d s = 6 := by unfold thereE; rw [if_neg h, hf]
theorem there_some {d : Dv} {s : ByteArray} {k : Nat} (h : ¬ d.off = true) (hf : findD d.fs s = some k) : thereE d s = 0 ∧ thereK d s = k := ⟨by unfold thereE; rw [if_neg h, hf], by unfold thereK; rw [if_neg h, hf]⟩
theorem done_no {d : Dv} (h : d.left = 0) : doneB d = false ∧ doneD d = { d with off := true } := ⟨by unfold doneB; rw [decide_eq_true h]; rfl, if_pos h⟩
theorem done_yes {d : Dv} (h : ¬ d.left = 0) : doneB d = true ∧ doneD d = spentD d := ⟨by unfold doneB; rw [decide_eq_false h]; rfl, if_neg h⟩

/-- The three ways on which a call on a file is refused, and the one on which it is done. -/
theorem op_cases {d : Dv} {s : ByteArray} {P : Prop} (a : d.off = true → P) (b : ¬ d.off = true → findD d.fs s = none → P) (c : ∀ k, ¬ d.off = true → findD d.fs s = some k → d.left = 0 → P) (e : ∀ k, ¬ d.off = true → findD d.fs s = some k → ¬ d.left = 0 → P) : P := by
  by_cases h : d.off = true
  · exact a h
  cases hf : findD d.fs s with
  | none => exact b h hf
  | some k =>
    by_cases hl : d.left = 0
    · exact c k h hf hl
    · exact e k h hf hl

set_option maxHeartbeats 1000000 in
theorem refRemove_dv (g : Nat) (fv : Value) (ms : List Fm) (d : Dv) (s : ByteArray) (w : World) (h : RDx w g fv ms d) (ok : Dv.Ok d) :
    Calls Try.prog 45 #[.pointer (some ⟨g, 0, none⟩), .string s] w (RStep g fv ms (remD d s).1 (.int .i64 (remD d s).2) w) := by
  have hn : d.fs.length ≤ 1000 := by have := ok.ln; omega
  have HT := Lib.hid (refThere_dv g fv ms d s w h hn)
  have HDo := Lib.hid (refDone_dv g fv ms d w h ok.lf ok.li)
  refine op_cases (d := d) (s := s) ?_ ?_ ?_ ?_
  · intro ho
    have HR : Hid (remD d s = (d, 10)) := Lib.hid (by unfold remD; rw [if_pos ho])
    have HE := Lib.hid (there_off (s := s) ho)
    rw [HR.out]
    have H := Lib.hid h
    clear h ok ho hn
    go_enter Try.func45, Try.ntmps45
    go_wp2_with fail
    refine HT.out.mono ?_
    rintro e w' ⟨rfl, rfl⟩
    rw [HE.out]
    go_wp2
    go_ret
    exact RStep.same H.out
  · intro ho hf
    have HR : Hid (remD d s = (d, 6)) := Lib.hid (by unfold remD; rw [if_neg ho, hf])
    have HE := Lib.hid (there_none ho hf)
    rw [HR.out]
    have H := Lib.hid h
    clear h ok ho hn hf
    go_enter Try.func45, Try.ntmps45
    go_wp2_with fail
    refine HT.out.mono ?_
    rintro e w' ⟨rfl, rfl⟩
    rw [HE.out]
    go_wp2
    go_ret
    exact RStep.same H.out
  · intro k ho hf hl
    have HR : Hid (remD d s = ({ d with off := true }, 10)) := Lib.hid (by unfold remD opD; rw [if_neg ho, hf]; simp only [hl, if_true])
    have HE := Lib.hid (there_some ho hf)
    have HB := Lib.hid (done_no hl)
    rw [HR.out]
    clear h ok ho hn hf hl
    go_enter Try.func45, Try.ntmps45
    go_wp2_with fail
    refine HT.out.mono ?_
    rintro e w' ⟨rfl, rfl⟩
    rw [HE.out.1, HE.out.2]
    go_wp2_with fail
    refine HDo.out.mono ?_
    rintro e w2 ⟨rfl, h2, f2⟩
    rw [HB.out.1]
    rw [HB.out.2] at h2
    go_wp2
    go_ret
    exact RStep.in rfl h2 f2
  · intro k ho hf hl
    have HR : Hid (remD d s = ({ spentD d with fs := d.fs.eraseIdx k }, 0)) := Lib.hid (by unfold remD opD; rw [if_neg ho, hf]; simp only [hl, if_false])
    have HE := Lib.hid (there_some ho hf)
    have HB := Lib.hid (done_yes hl)
    rw [HR.out]
    have hgl := h.lt
    clear h ok ho hf hl
    go_enter Try.func45, Try.ntmps45
    go_wp2_with fail
    refine HT.out.mono ?_
    rintro e w' ⟨rfl, rfl⟩
    rw [HE.out.1, HE.out.2]
    go_wp2_with fail
    refine HDo.out.mono ?_
    rintro e w2 ⟨rfl, h2, f2⟩
    rw [HB.out.1]
    rw [HB.out.2] at h2
    go_wp2_with fail
    refine (refTake_dv g k fv ms (spentD d) w2 h2 (by rw [spent_fs]; exact hn)).mono ?_
    rintro e w3 ⟨rfl, fv3, h3, f3, n3⟩
    rw [spent_fs] at h3
    go_wp2
    go_ret
    refine ⟨rfl, fv3, _, h3, (f2.trans f3 (fun i hi => .inl hi)).mono (fun b hb => .inl hb), fun b hb => ?_⟩
    rcases hb with hb | hb | ⟨m, hm, hb⟩
    · exact .inl (.inl hb)
    · right
      have := n3 b hb
      have := f2.size
      omega
    · exact .inl (.inr (.inr ⟨m, List.mem_of_mem_eraseIdx hm, hb⟩))
end Go.Proofs.Ytfclgjdlkcmnfaa
namespace Go.Proofs.Ytfclgjdlkcmnfaa
open Go.RowKit
set_option linter.unusedVariables false
set_option maxRecDepth 100000

theorem readL_mem {d : Dv} {s : ByteArray} {k : Nat} (hf : findD d.fs s = some k) : ∃ hk : k < d.fs.length, readL d s = d.fs[k].bs := by
  obtain ⟨hk, _⟩ := findD_some hf
  refine ⟨hk, ?_⟩
  unfold readL
  rw [hf]
  simp only [List.getElem?_eq_getElem hk]
  rfl
set_option maxHeartbeats 1000000 in
theorem refRead_dv (g : Nat) (fv : Value) (ms : List Fm) (d : Dv) (s : ByteArray) (w : World) (h : RDx w g fv ms d) (ok : Dv.Ok d) :
    Calls Try.prog 21 #[.pointer (some ⟨g, 0, none⟩), .string s] w fun e w' => ∃ v, e = .returned (.tuple #[v, .int .i64 (readE d s)]) ∧ Own .u8 5 w' w.heap.size v (readL d s) ∧ Below w.heap.size w w' := by
  have hn : d.fs.length ≤ 1000 := by have := ok.ln; omega
  have HF := Lib.hid (refFind_dv g fv ms d s w h hn)
  cases hf : findD d.fs s with
  | none =>
    have HE : Hid (readE d s = 6 ∧ readL d s = [] ∧ findZ d.fs s = -1) := Lib.hid ⟨by unfold readE; rw [hf], by unfold readL; rw [hf], by unfold findZ; rw [hf]⟩
    rw [HE.out.1, HE.out.2.1]
    clear h ok hf
    go_enter Try.func21, Try.ntmps21
    go_wp2_with fail
    refine HF.out.mono ?_
    rintro e w' ⟨rfl, rfl⟩
    rw [HE.out.2.2]
    go_wp2
    go_ret2
    exact ⟨_, rfl, Own.nil _ _ _ _, Below.refl _ _⟩
  | some k =>
    obtain ⟨hk, hrl⟩ := readL_mem hf
    have HE : Hid (readE d s = 0 ∧ readL d s = d.fs[k].bs ∧ findZ d.fs s = (k : Int)) := Lib.hid ⟨by unfold readE; rw [hf], hrl, by unfold findZ; rw [hf]⟩
    rw [HE.out.1, HE.out.2.1]
    have hus := used_mem (List.getElem_mem hk)
    have huo := ok.us
    have hro := ok.rm
    have c3 := h.c4.2.2.2.1
    obtain ⟨b, cap, m, hm, rfl, hle, hcm, e0, e1, e2, _, hIs⟩ := h.elem hk
    have HI := Lib.hid hIs
    have hmn : m.n ≤ 16777216 := by have := hIs.n; omega
    obtain ⟨N, hN⟩ : ∃ N, d.fs.length = N := ⟨_, rfl⟩
    have hk2 : k < N := by rw [← hN]; exact hk
    rw [hN] at c3 hle hn
    obtain ⟨mnm, mA, mn, mc, msy⟩ := m
    simp only at e1 hmn
    clear h ok hf hIs hm hrl hus huo hro hN e0 e2
    go_enter Try.func21, Try.ntmps21
    go_wp2_with fail
    refine HF.out.mono ?_
    rintro e w' ⟨rfl, rfl⟩
    rw [HE.out.2.2]
    go_wp2_with fail
    refine (copy_u8 mA mn mc _ _ HI.out.row HI.out.n (by omega)).mono ?_
    rintro e w2 ⟨v2, rfl, own2, b2⟩
    go_wp2
    go_ret2
    exact ⟨_, rfl, own2, b2⟩

theorem froz_all {w : World} {g : Nat} {cs : Array Value} {t : TypeId} (h : w.heap[g]? = some (.cells cs t (0, 0))) : ∀ j, w.frozen? ⟨g, j, none⟩ = false := fun j => block_frozen w g j _ _ h
theorem FmIs.name {w : World} {m : Fm} {f : Fl} (h : FmIs w m f) (s : ByteArray) : FmIs w { m with nm := s } { f with nm := s } := ⟨rfl, h.sy, h.n, h.le, h.cap, h.row⟩
theorem FmIs.frm {F : Nat → Prop} {w w' : World} {m : Fm} {f : Fl} (h : FmIs w m f) (hf : Frm F w w') (hn : ∀ a, m.A = some a → 0 < m.n → ¬ F a.block) : FmIs w' m f :=
  ⟨h.nm, h.sy, h.n, h.le, h.cap, hf.row h.row (fun a ha hp => hn a ha (by rw [← h.n]; exact hp))⟩
def outM2 (l : List Fl) (ms : List Fm) (s : ByteArray) : List Fm := match findD l s with | some k => ms.eraseIdx k | none => ms
theorem outM2_mem {l : List Fl} {ms : List Fm} {s : ByteArray} {m : Fm} (h : m ∈ outM2 l ms s) : m ∈ ms := by
  unfold outM2 at h
  split at h
  · exact List.mem_of_mem_eraseIdx h
  · exact h
set_option maxHeartbeats 2000000 in
theorem refRename_dv (g : Nat) (fv : Value) (ms : List Fm) (d : Dv) (s u : ByteArray) (w : World) (h : RDx w g fv ms d) (ok : Dv.Ok d) :
    Calls Try.prog 43 #[.pointer (some ⟨g, 0, none⟩), .string s, .string u] w (RStep g fv ms (renD d s u).1 (.int .i64 (renD d s u).2) w) := by
  have hn : d.fs.length ≤ 1000 := by have := ok.ln; omega
  have HT := Lib.hid (refThere_dv g fv ms d s w h hn)
  have HDo := Lib.hid (refDone_dv g fv ms d w h ok.lf ok.li)
  cases hok : okN u with
  | false =>
    have HR : Hid (renD d s u = (d, 8)) := Lib.hid (by unfold renD; rw [if_pos hok])
    have HO := Lib.hid hok
    rw [HR.out]
    have H := Lib.hid h
    clear h ok hok hn
    go_enter Try.func43, Try.ntmps43
    go_wp2_with fail
    refine (refNamed_any u _).mono ?_
    rintro e w' ⟨rfl, rfl⟩
    rw [HO.out]
    go_wp2
    go_ret
    exact RStep.same H.out
  | true =>
  have HO := Lib.hid hok
  have hok2 : ¬ okN u = false := by rw [hok]; decide
  refine op_cases (d := d) (s := s) ?_ ?_ ?_ ?_
  · intro ho
    have HR : Hid (renD d s u = (d, 10)) := Lib.hid (by unfold renD; rw [if_neg hok2, if_pos ho])
    have HE := Lib.hid (there_off (s := s) ho)
    rw [HR.out]
    have H := Lib.hid h
    clear h ok ho hn hok hok2
    go_enter Try.func43, Try.ntmps43
    go_wp2_with fail
    refine (refNamed_any u _).mono ?_
    rintro e w' ⟨rfl, rfl⟩
    rw [HO.out]
    go_wp2_with fail
    refine HT.out.mono ?_
    rintro e w' ⟨rfl, rfl⟩
    rw [HE.out]
    go_wp2
    go_ret
    exact RStep.same H.out
  · intro ho hf
    have HR : Hid (renD d s u = (d, 6)) := Lib.hid (by unfold renD; rw [if_neg hok2, if_neg ho, hf])
    have HE := Lib.hid (there_none ho hf)
    rw [HR.out]
    have H := Lib.hid h
    clear h ok ho hn hf hok hok2
    go_enter Try.func43, Try.ntmps43
    go_wp2_with fail
    refine (refNamed_any u _).mono ?_
    rintro e w' ⟨rfl, rfl⟩
    rw [HO.out]
    go_wp2_with fail
    refine HT.out.mono ?_
    rintro e w' ⟨rfl, rfl⟩
    rw [HE.out]
    go_wp2
    go_ret
    exact RStep.same H.out
  · intro k ho hf hl
    have HR : Hid (renD d s u = ({ d with off := true }, 10)) := Lib.hid (by unfold renD opD; rw [if_neg hok2, if_neg ho, hf]; simp only [hl, if_true])
    have HE := Lib.hid (there_some ho hf)
    have HB := Lib.hid (done_no hl)
    rw [HR.out]
    clear h ok ho hn hf hl hok hok2
    go_enter Try.func43, Try.ntmps43
    go_wp2_with fail
    refine (refNamed_any u _).mono ?_
    rintro e w' ⟨rfl, rfl⟩
    rw [HO.out]
    go_wp2_with fail
    refine HT.out.mono ?_
    rintro e w' ⟨rfl, rfl⟩
    rw [HE.out.1, HE.out.2]
    go_wp2_with fail
    refine HDo.out.mono ?_
    rintro e w2 ⟨rfl, h2, f2⟩
    rw [HB.out.1]
    rw [HB.out.2] at h2
    go_wp2
    go_ret
    exact RStep.in rfl h2 f2
  · intro k ho hf hl
    obtain ⟨hk, _, _⟩ := findD_some hf
    have HR : Hid (renD d s u = ({ spentD d with fs := insD (outD (d.fs.eraseIdx k) u) { d.fs[k] with nm := u } }, 0)) := Lib.hid (by
      unfold renD opD; rw [if_neg hok2, if_neg ho, hf]; simp only [hl, if_false, List.getElem?_eq_getElem hk])
    have HE := Lib.hid (there_some ho hf)
    have HB := Lib.hid (done_yes hl)
    rw [HR.out]
    have hgl := h.lt
    have hln := ok.ln
    clear h ok ho hf hl hok hok2
    go_enter Try.func43, Try.ntmps43
    go_wp2_with fail
    refine (refNamed_any u _).mono ?_
    rintro e w' ⟨rfl, rfl⟩
    rw [HO.out]
    go_wp2_with fail
    refine HT.out.mono ?_
    rintro e w' ⟨rfl, rfl⟩
    rw [HE.out.1, HE.out.2]
    go_wp2_with fail
    refine HDo.out.mono ?_
    rintro e w2 ⟨rfl, h2, f2⟩
    rw [HB.out.1]
    rw [HB.out.2] at h2
    have hk2 : k < (spentD d).fs.length := by rw [spent_fs]; exact hk
    have hkm : k < ms.length := by rw [h2.len]; exact hk2
    have hIs := h2.is k hkm hk2
    have hnear := h2.near _ (List.getElem_mem hkm)
    have c3 := h2.c4.2.2.2.1
    obtain ⟨b, cap, rfl, _, hbl, hle, hcm, e0, e1, e2, _⟩ := h2.own.elem hkm
    have hmem := List.getElem_mem hkm
    obtain ⟨mk, hmk⟩ : ∃ m, ms[k] = m := ⟨_, rfl⟩
    rw [hmk] at e0 e1 e2 hIs hnear hmem
    have efs : (spentD d).fs[k] = d.fs[k] := by simp only [spent_fs]
    rw [efs] at hIs
    obtain ⟨mnm, mA, mn, mc, msy⟩ := mk
    simp only at e0 e1 e2 hnear
    obtain ⟨N, hN⟩ : ∃ N, ms.length = N := ⟨_, rfl⟩
    rw [hN] at c3 hle hkm
    have hltg := block_lt h2.box
    have bx3 := Bx.new w2 (.cells #[.string mnm, .slice mA mn mc, .int .i64 msy] 77)
    have h3 := h2.below (bel_alloc w2 (.cells #[.string mnm, .slice mA mn mc, .int .i64 msy] 77))
    have HIS := Lib.hid hIs
    have HNR := Lib.hid hnear
    have HMEM := Lib.hid hmem
    have HH2 := Lib.hid h2
    have f3 : Frm (fun b => b = g) w2 (w2.alloc (.cells #[.string mnm, .slice mA mn mc, .int .i64 msy] 77)) := Frm.of_below (bel_alloc w2 _)
    clear hmk hIs hnear hmem h2 efs
    go_wp2_with fail
    refine (refTake_dv g k _ ms (spentD d) _ h3 (by rw [spent_fs]; omega)).mono ?_
    rintro e w4 ⟨rfl, fv4, h4, f4, n4⟩
    rw [spent_fs] at h4
    obtain ⟨d4, hd4⟩ : ∃ x : Dv, x = { spentD d with fs := d.fs.eraseIdx k } := ⟨_, rfl⟩
    rw [← hd4] at h4
    have e4 : d4.fs = d.fs.eraseIdx k := by rw [hd4]
    have HD4 := Lib.hid hd4
    have hb4 := (f4.block w2.heap.size (by simp) (by omega)).trans bx3.1
    have f24 := f3.trans f4 (fun i hi => .inl hi)
    clear bx3 h3 f3 c3 e0 e1 e2 hd4
    have hn4 : d4.fs.length ≤ 1000 := by rw [e4]; exact Nat.le_trans (List.length_eraseIdx_le _ _) (by omega)
    have HE4 := Lib.hid e4
    have hsz4 := f24.size
    have n4b : ∀ b, fv4.ownBlock = some b → w2.heap.size < b := fun b hb => by have := n4 b hb; simp at this; omega
    have hms : ∀ m ∈ ms.eraseIdx k, m ∈ ms := fun m hm => List.mem_of_mem_eraseIdx hm
    clear e4 n4 f4
    go_wp2_with fail
    refine (refFind_dv g fv4 _ d4 u w4 h4 hn4).mono ?_
    rintro e w' ⟨rfl, rfl⟩
    cases hf4 : findD d4.fs u with
    | none =>
      have HZ : Hid (findZ d4.fs u = -1) := Lib.hid (by unfold findZ; rw [hf4])
      have HQ : Hid (outD (d.fs.eraseIdx k) u = d4.fs) := Lib.hid (by unfold outD; rw [← HE4.out, hf4])
      rw [HZ.out]
      clear hf4
      have HD5 : Hid (d4 = { spentD d with fs := d4.fs }) := Lib.hid (by rw [HD4.out])
      have hs4 := f24.size
      have hx5 := box3 hb4
      have hz5 := froz_all hb4
      obtain ⟨x0, x1, x2⟩ := hx5
      have hnz : ∀ b, RG g fv4 (ms.eraseIdx k) b → ¬ b = w2.heap.size := by
        intro b hb e
        subst e
        rcases hb with hb | hb | ⟨m, hm, a, ha, hab, hmn⟩
        · omega
        · have := n4b _ hb; omega
        · have := (HH2.out.near m (hms m hm) a ha hmn).2
          omega
      have fz := Frm.set (F := fun b => b = w2.heap.size) w4 w2.heap.size 0 (.string u) rfl
      have h6 := h4.frm fz hnz
      have hb6 := dv_box_set hb4 0 (.string u)
      obtain ⟨y0, y1, y2⟩ := box3 (v0 := .string u) (v1 := .slice mA mn mc) (v2 := .int .i64 msy) hb6
      have f26 := f24.trans fz (fun i hi => .inr (by omega))
      have HI6 := Lib.hid ((HIS.out.name u).frm f26 (fun a ha hn e => (HNR.out a ha hn).1 e))
      have H6 := Lib.hid h6
      have F26 := Lib.hid f26
      clear h6 h4 hb4 hb6 fz f26 f24 hnz 
      go_wp2_with fail
      generalize w4.setCell ⟨w2.heap.size, 0, none⟩ (.string u) = w6 at *
      refine (refPut_dv g fv4 (ms.eraseIdx k) d4 u mA mn mc msy _ w6 H6.out hn4 HI6.out (fun a ha hn => ⟨(HNR.out a ha hn).1, Nat.lt_of_lt_of_le (HNR.out a ha hn).2 F26.out.size⟩)).mono ?_
      rintro e w7 ⟨rfl, fv7, h7, f7, n7⟩
      have hfin : ({ d4 with fs := insD d4.fs { d.fs[k] with nm := u } } : Dv) = { spentD d with fs := insD (outD (d.fs.eraseIdx k) u) { d.fs[k] with nm := u } } := by
        rw [HQ.out, HD5.out]
      rw [hfin] at h7
      go_wp2
      go_ret
      refine ⟨rfl, fv7, _, h7, ((f2.trans F26.out (fun i hi => .inl hi)).trans f7 (fun i hi => .inl hi)).mono (fun b hb => .inl hb), fun b hb => ?_⟩
      have z1 := f2.size
      have z2 := F26.out.size
      rcases hb with hb | hb | ⟨m, hm, hb⟩
      · exact .inl (.inl hb)
      · right
        have := n7 b hb
        omega
      · left
        refine .inr (.inr ?_)
        rcases List.mem_append.1 hm with hm | hm
        · exact ⟨m, hms m (List.mem_of_mem_take hm), hb⟩
        · rcases List.mem_cons.1 hm with rfl | hm
          · exact ⟨_, HMEM.out, hb⟩
          · exact ⟨m, hms m (List.mem_of_mem_drop hm), hb⟩
    | some k4 =>
      have HZ : Hid (findZ d4.fs u = (k4 : Int)) := Lib.hid (by unfold findZ; rw [hf4])
      have HQ : Hid (outD (d.fs.eraseIdx k) u = d4.fs.eraseIdx k4) := Lib.hid (by unfold outD; rw [← HE4.out, hf4])
      rw [HZ.out]
      clear hf4
      go_wp2_with fail
      refine (refTake_dv g k4 fv4 _ d4 w4 h4 hn4).mono ?_
      rintro e w5 ⟨rfl, fv5, h5, f5, n5⟩
      obtain ⟨d5, hd5⟩ : ∃ x : Dv, x = { d4 with fs := d4.fs.eraseIdx k4 } := ⟨_, rfl⟩
      rw [← hd5] at h5
      have e5 : d5.fs = d4.fs.eraseIdx k4 := by rw [hd5]
      have HD5 : Hid (d5 = { spentD d with fs := d5.fs }) := Lib.hid (by rw [hd5, HD4.out])
      have HQ : Hid (outD (d.fs.eraseIdx k) u = d5.fs) := Lib.hid (by rw [e5]; exact HQ.out)
      have hn5 : d5.fs.length ≤ 1000 := by rw [e5]; exact Nat.le_trans (List.length_eraseIdx_le _ _) hn4
      have hb5 := (f5.block w2.heap.size (block_lt hb4) (by omega)).trans hb4
      have f25 := f24.trans f5 (fun i hi => .inl hi)
      have n5b : ∀ b, fv5.ownBlock = some b → w2.heap.size < b := fun b hb => by have := n5 b hb; have := block_lt hb4; omega
      have hms5 : ∀ m ∈ (ms.eraseIdx k).eraseIdx k4, m ∈ ms := fun m hm => List.mem_of_mem_eraseIdx (List.mem_of_mem_eraseIdx hm)
      clear hd5 e5 h4 f5 n5 hb4 f24 n4b hms
      have hs5 := f25.size
      have hx5 := box3 hb5
      have hz5 := froz_all hb5
      obtain ⟨x0, x1, x2⟩ := hx5
      have hnz : ∀ b, RG g fv5 ((ms.eraseIdx k).eraseIdx k4) b → ¬ b = w2.heap.size := by
        intro b hb e
        subst e
        rcases hb with hb | hb | ⟨m, hm, a, ha, hab, hmn⟩
        · omega
        · have := n5b _ hb; omega
        · have := (HH2.out.near m (hms5 m hm) a ha hmn).2
          omega
      have fz := Frm.set (F := fun b => b = w2.heap.size) w5 w2.heap.size 0 (.string u) rfl
      have h6 := h5.frm fz hnz
      have hb6 := dv_box_set hb5 0 (.string u)
      obtain ⟨y0, y1, y2⟩ := box3 (v0 := .string u) (v1 := .slice mA mn mc) (v2 := .int .i64 msy) hb6
      have f26 := f25.trans fz (fun i hi => .inr (by omega))
      have HI6 := Lib.hid ((HIS.out.name u).frm f26 (fun a ha hn e => (HNR.out a ha hn).1 e))
      have H6 := Lib.hid h6
      have F26 := Lib.hid f26
      clear h6 h5 hb5 hb6 fz f26 f25 hnz
      go_wp2_with fail
      generalize w5.setCell ⟨w2.heap.size, 0, none⟩ (.string u) = w6 at *
      refine (refPut_dv g fv5 ((ms.eraseIdx k).eraseIdx k4) d5 u mA mn mc msy _ w6 H6.out hn5 HI6.out (fun a ha hn => ⟨(HNR.out a ha hn).1, Nat.lt_of_lt_of_le (HNR.out a ha hn).2 F26.out.size⟩)).mono ?_
      rintro e w7 ⟨rfl, fv7, h7, f7, n7⟩
      have hfin : ({ d5 with fs := insD d5.fs { d.fs[k] with nm := u } } : Dv) = { spentD d with fs := insD (outD (d.fs.eraseIdx k) u) { d.fs[k] with nm := u } } := by
        rw [HQ.out, HD5.out]
      rw [hfin] at h7
      go_wp2
      go_ret
      refine ⟨rfl, fv7, _, h7, ((f2.trans F26.out (fun i hi => .inl hi)).trans f7 (fun i hi => .inl hi)).mono (fun b hb => .inl hb), fun b hb => ?_⟩
      have z1 := f2.size
      have z2 := F26.out.size
      rcases hb with hb | hb | ⟨m, hm, hb⟩
      · exact .inl (.inl hb)
      · right
        have := n7 b hb
        omega
      · left
        refine .inr (.inr ?_)
        rcases List.mem_append.1 hm with hm | hm
        · exact ⟨m, hms5 m (List.mem_of_mem_take hm), hb⟩
        · rcases List.mem_cons.1 hm with rfl | hm
          · exact ⟨_, HMEM.out, hb⟩
          · exact ⟨m, hms5 m (List.mem_of_mem_drop hm), hb⟩
end Go.Proofs.Ytfclgjdlkcmnfaa
namespace Go.Proofs.Ytfclgjdlkcmnfaa
open Go.RowKit
set_option linter.unusedVariables false
set_option maxRecDepth 100000

/-- A field of one file is written. -/
theorem RDx.setFile {w : World} {g b n cap : Nat} {ms : List Fm} {d : Dv} (h : RDx w g (.slice (some ⟨b, 0, none⟩) n cap) ms d) (k : Nat) (hk : k < ms.length) (hk2 : k < d.fs.length) (m' : Fm) (j : Nat) (v : Value) (hj : j < 3) (hm : fmC m' = (fmC ms[k]).set j v) (f' : Fl) (hf : FmIs w m' f')
    (hs : ∀ a, m'.A = some a → 0 < m'.n → a.block ≠ g ∧ a.block ≠ b) : RDx (w.setCell ⟨b, k * 3 + j, none⟩ v) g (.slice (some ⟨b, 0, none⟩) n cap) (ms.set k m') { d with fs := d.fs.set k f' } := by
  have hbg : b ≠ g := fun e => h.sepF (by rw [e]; rfl)
  have hF := Frm.set (F := fun i => i = b) w b (k * 3 + j) v rfl
  refine ⟨(hF.block g (block_lt h.box) (fun e => hbg e.symm)).trans h.box, h.own.set k hk m' j v hj hm, by simp only [List.length_set]; exact h.len, fun i h1 h2 => ?_, h.sepF, fun m hm2 a ha hn => ?_⟩
  · simp only [List.length_set] at h1 h2
    by_cases e : k = i
    · subst e
      simp only [List.getElem_set_self]
      exact hf.frm hF (fun a ha hn e => (hs a ha hn).2 e)
    · simp only [List.getElem_set_ne e]
      exact (h.is i h1 h2).frm hF (fun a ha hn e2 => (h.sepB _ (List.getElem_mem h1) a ha hn).2 (by rw [← e2]; rfl))
  · rcases List.mem_or_eq_of_mem_set hm2 with hm2 | rfl
    · exact h.sepB m hm2 a ha hn
    · have := hs a ha hn
      exact ⟨this.1, fun e => this.2 (by injection e with e; exact e.symm)⟩
theorem modify_set (l : List Fl) (k : Nat) (hk : k < l.length) (f : Fl → Fl) : l.modify k f = l.set k (f l[k]) := by
  refine List.ext_getElem (by simp) fun i h1 h2 => ?_
  rw [List.getElem_modify, List.getElem_set]
  split
  · rename_i e; subst e; rfl
  · rfl
theorem RDx.drew {w : World} {g : Nat} {fv : Value} {ms : List Fm} {d : Dv} (h : RDx w g fv ms d) : RDx w.drew g fv ms d := h.below ⟨rfl, rfl, rfl, Nat.le_refl _, fun _ _ => rfl⟩
theorem Frm.drew {F : Nat → Prop} {w w' : World} (h : Frm F w w') : Frm F w w'.drew := ⟨h.os, h.tape, h.output, h.size, h.block⟩
theorem RG_set {g b : Nat} {fv : Value} {ms : List Fm} {k : Nat} {m' : Fm} {W : Nat} (h : RG g fv (ms.set k m') b) (hm : ∀ a, m'.A = some a → 0 < m'.n → RG g fv ms a.block ∨ W ≤ a.block) : RG g fv ms b ∨ W ≤ b := by
  rcases h with h | h | ⟨m, h1, a, ha, hab, hn⟩
  · exact .inl (.inl h)
  · exact .inl (.inr (.inl h))
  · rcases List.mem_or_eq_of_mem_set h1 with h1 | rfl
    · exact .inl (.inr (.inr ⟨m, h1, a, ha, hab, hn⟩))
    · rw [← hab]; exact hm a ha hn
set_option maxHeartbeats 1000000 in
theorem refSync_dv (g : Nat) (fv : Value) (ms : List Fm) (d : Dv) (s : ByteArray) (w : World) (h : RDx w g fv ms d) (ok : Dv.Ok d) :
    Calls Try.prog 40 #[.pointer (some ⟨g, 0, none⟩), .string s] w (RStep g fv ms (syncD d s).1 (.int .i64 (syncD d s).2) w) := by
  have hn : d.fs.length ≤ 1000 := by have := ok.ln; omega
  have HT := Lib.hid (refThere_dv g fv ms d s w h hn)
  have HDo := Lib.hid (refDone_dv g fv ms d w h ok.lf ok.li)
  refine op_cases (d := d) (s := s) ?_ ?_ ?_ ?_
  · intro ho
    have HR : Hid (syncD d s = (d, 10)) := Lib.hid (by unfold syncD; rw [if_pos ho])
    have HE := Lib.hid (there_off (s := s) ho)
    rw [HR.out]
    have H := Lib.hid h
    clear h ok ho hn
    go_enter Try.func40, Try.ntmps40
    go_wp2_with fail
    refine HT.out.mono ?_
    rintro e w' ⟨rfl, rfl⟩
    rw [HE.out]
    go_wp2
    go_ret
    exact RStep.same H.out
  · intro ho hf
    have HR : Hid (syncD d s = (d, 6)) := Lib.hid (by unfold syncD; rw [if_neg ho, hf])
    have HE := Lib.hid (there_none ho hf)
    rw [HR.out]
    have H := Lib.hid h
    clear h ok ho hn hf
    go_enter Try.func40, Try.ntmps40
    go_wp2_with fail
    refine HT.out.mono ?_
    rintro e w' ⟨rfl, rfl⟩
    rw [HE.out]
    go_wp2
    go_ret
    exact RStep.same H.out
  · intro k ho hf hl
    have HR : Hid (syncD d s = ({ d with off := true }, 10)) := Lib.hid (by unfold syncD opD; rw [if_neg ho, hf]; simp only [hl, if_true])
    have HE := Lib.hid (there_some ho hf)
    have HB := Lib.hid (done_no hl)
    rw [HR.out]
    clear h ok ho hn hf hl
    go_enter Try.func40, Try.ntmps40
    go_wp2_with fail
    refine HT.out.mono ?_
    rintro e w' ⟨rfl, rfl⟩
    rw [HE.out.1, HE.out.2]
    go_wp2_with fail
    refine HDo.out.mono ?_
    rintro e w2 ⟨rfl, h2, f2⟩
    rw [HB.out.1]
    rw [HB.out.2] at h2
    go_wp2
    go_ret
    exact RStep.in rfl h2 f2
  · intro k ho hf hl
    obtain ⟨hk, _, _⟩ := findD_some hf
    have HR : Hid (syncD d s = ({ spentD d with fs := d.fs.set k { d.fs[k] with sy := d.fs[k].bs.length } }, 0)) := Lib.hid (by
      unfold syncD opD; rw [if_neg ho, hf]; simp only [hl, if_false, modify_set d.fs k hk])
    have HE := Lib.hid (there_some ho hf)
    have HB := Lib.hid (done_yes hl)
    rw [HR.out]
    clear h ok ho hf hl
    go_enter Try.func40, Try.ntmps40
    go_wp2_with fail
    refine HT.out.mono ?_
    rintro e w' ⟨rfl, rfl⟩
    rw [HE.out.1, HE.out.2]
    go_wp2_with fail
    refine HDo.out.mono ?_
    rintro e w2 ⟨rfl, h2, f2⟩
    rw [HB.out.1]
    rw [HB.out.2] at h2
    have hk2 : k < (spentD d).fs.length := by rw [spent_fs]; exact hk
    have hkm : k < ms.length := by rw [h2.len]; exact hk2
    have c3 := h2.c4.2.2.2.1
    obtain ⟨b, cap, rfl, _, hbl, hle, hcm, e0, e1, e2, ef⟩ := h2.own.elem hkm
    have hIs := h2.is k hkm hk2
    have efs : (spentD d).fs[k] = d.fs[k] := by simp only [spent_fs]
    have HFin := Lib.hid (h2.setFile k hkm hk2 { ms[k] with sy := (ms[k].n : Int) } 2 (.int .i64 (ms[k].n : Int)) (by omega) rfl { d.fs[k] with sy := d.fs[k].bs.length } (by
      rw [efs] at hIs
      exact ⟨hIs.nm, by rw [hIs.n], hIs.n, hIs.le, hIs.cap, hIs.row⟩) (fun a ha hn => by
        have := h2.sepB _ (List.getElem_mem hkm) a ha hn
        exact ⟨this.1, fun e => this.2 (by rw [e]; rfl)⟩))
    have HMEM := Lib.hid (List.getElem_mem hkm)
    obtain ⟨mk, hmk⟩ : ∃ m, ms[k] = m := ⟨_, rfl⟩
    rw [spent_fs] at HFin
    rw [hmk] at e0 e1 e2 HFin HMEM
    obtain ⟨mnm, mA, mn, mc, msy⟩ := mk
    simp only at e0 e1 e2 HFin
    obtain ⟨N, hN⟩ : ∃ N, ms.length = N := ⟨_, rfl⟩
    rw [hN] at c3 hle hkm
    have i1 : (0 : Int) ≤ (k : Int) := by omega
    have hcm2 : cap ≤ 9223372036854775807 := by simpa only [maxLen] using hcm
    clear h2 hIs efs hmk hN e0
    go_wp2_with fail
    go_region
    go_wp2
    go_ret
    refine ⟨rfl, _, _, HFin.out.drew, (((f2.mono (fun b hb => .inl hb)).trans (Frm.set (F := fun i => i = b) w2 b (k * 3 + 2) (.int .i64 (mn : Int)) rfl) (fun i hi => .inl (.inr (by rw [hi]; rfl))))).drew, fun i hi => RG_set (m' := ⟨mnm, mA, mn, mc, (mn : Int)⟩) hi (fun a ha hn => .inl (.inr (.inr ⟨_, HMEM.out, a, ha, rfl, hn⟩)))⟩
end Go.Proofs.Ytfclgjdlkcmnfaa
namespace Go.Proofs.Ytfclgjdlkcmnfaa
open Go.RowKit
set_option linter.unusedVariables false
set_option maxRecDepth 100000

theorem Own.lt_block {k : IntKind} {e : TypeId} {w : World} {base n c : Nat} {A : Option Addr} {xs : List Int} (h : Own k e w base (.slice A n c) xs) {a : Addr} (ha : A = some a) (hn : 0 < xs.length) : base ≤ a.block :=
  (h.block a.block (by rw [ha]; rfl)).1
theorem truncD_out {d : Dv} {s : ByteArray} {n : Int} {k : Nat} (ho : ¬ d.off = true) (hf : findD d.fs s = some k) (hk : k < d.fs.length) (h : n < 0 ∨ (d.fs[k].bs.length : Int) < n) : truncD d s n = (d, 3) := by
  unfold truncD
  rw [if_neg ho, hf]
  simp only [List.getElem?_eq_getElem hk, Option.map_some, Option.getD_some]
  exact if_pos h
theorem truncD_in {d : Dv} {s : ByteArray} {n : Int} {k : Nat} (ho : ¬ d.off = true) (hf : findD d.fs s = some k) (hk : k < d.fs.length) (h : ¬ (n < 0 ∨ (d.fs[k].bs.length : Int) < n)) : truncD d s n = opD d { spentD d with fs := d.fs.set k { d.fs[k] with bs := d.fs[k].bs.take n.toNat, sy := min d.fs[k].sy n.toNat } } := by
  unfold truncD
  rw [if_neg ho, hf]
  simp only [List.getElem?_eq_getElem hk, Option.map_some, Option.getD_some]
  rw [if_neg h, modify_set d.fs k hk]
set_option maxHeartbeats 2000000 in
theorem refTruncate_dv (g : Nat) (fv : Value) (ms : List Fm) (d : Dv) (s : ByteArray) (n : Int) (w : World) (h : RDx w g fv ms d) (ok : Dv.Ok d) :
    Calls Try.prog 42 #[.pointer (some ⟨g, 0, none⟩), .string s, .int .i64 n] w (RStep g fv ms (truncD d s n).1 (.int .i64 (truncD d s n).2) w) := by
  have hn : d.fs.length ≤ 1000 := by have := ok.ln; omega
  have HT := Lib.hid (refThere_dv g fv ms d s w h hn)
  have HDo := Lib.hid (refDone_dv g fv ms d w h ok.lf ok.li)
  by_cases ho : d.off = true
  · have HR : Hid (truncD d s n = (d, 10)) := Lib.hid (by unfold truncD; rw [if_pos ho])
    have HE := Lib.hid (there_off (s := s) ho)
    rw [HR.out]
    have H := Lib.hid h
    clear h ok ho hn
    go_enter Try.func42, Try.ntmps42
    go_wp2_with fail
    refine HT.out.mono ?_
    rintro e w' ⟨rfl, rfl⟩
    rw [HE.out]
    go_wp2
    go_ret
    exact RStep.same H.out
  cases hf : findD d.fs s with
  | none =>
    have HR : Hid (truncD d s n = (d, 6)) := Lib.hid (by unfold truncD; rw [if_neg ho, hf])
    have HE := Lib.hid (there_none ho hf)
    rw [HR.out]
    have H := Lib.hid h
    clear h ok ho hn hf
    go_enter Try.func42, Try.ntmps42
    go_wp2_with fail
    refine HT.out.mono ?_
    rintro e w' ⟨rfl, rfl⟩
    rw [HE.out]
    go_wp2
    go_ret
    exact RStep.same H.out
  | some k =>
  obtain ⟨hk, _, _⟩ := findD_some hf
  have HE := Lib.hid (there_some ho hf)
  have c3 := h.c4.2.2.2.1
  have hus := used_mem (List.getElem_mem hk)
  have huo := ok.us
  have hro := ok.rm
  have hsy := (ok.fl _ (List.getElem_mem hk)).sy
  obtain ⟨b, cap, m, hm, rfl, hle, hcm, e0, e1, e2, _, hIs⟩ := h.elem hk
  obtain ⟨N, hN⟩ : ∃ N, d.fs.length = N := ⟨_, rfl⟩
  have hkN : k < N := by rw [← hN]; exact hk
  have hmn := hIs.n
  by_cases hr : n < 0 ∨ (d.fs[k].bs.length : Int) < n
  · have HR : Hid (truncD d s n = (d, 3)) := Lib.hid (truncD_out ho hf hk hr)
    rw [HR.out]
    rw [hN] at c3 hle
    rw [hmn] at hr
    have H := Lib.hid h
    obtain ⟨mnm, mA, mn, mc, msy⟩ := m
    simp only at e1 hr
    clear h ok ho hn hf hm hIs hmn hus huo hro hsy hN e0 e2
    by_cases hr1 : n < 0
    · clear hr
      go_enter Try.func42, Try.ntmps42
      go_wp2_with fail
      refine HT.out.mono ?_
      rintro e w' ⟨rfl, rfl⟩
      rw [HE.out.1, HE.out.2]
      go_wp2
      go_ret
      exact RStep.same H.out
    · have hr2 : n > (mn : Int) := by omega
      clear hr
      go_enter Try.func42, Try.ntmps42
      go_wp2_with fail
      refine HT.out.mono ?_
      rintro e w' ⟨rfl, rfl⟩
      rw [HE.out.1, HE.out.2]
      go_wp2
      go_ret
      exact RStep.same H.out
  have hr1 : ¬ n < 0 := fun e => hr (.inl e)
  have hr2 : ¬ n > (m.n : Int) := fun e => hr (.inr (by rw [hmn]; exact e))
  obtain ⟨q, rfl⟩ := Int.eq_ofNat_of_zero_le (show 0 ≤ n by omega)
  by_cases hl : d.left = 0
  · have HR : Hid (truncD d s q = ({ d with off := true }, 10)) := Lib.hid (by rw [truncD_in ho hf hk hr]; exact if_pos hl)
    have HB := Lib.hid (done_no hl)
    rw [HR.out]
    rw [hN] at c3 hle
    obtain ⟨mnm, mA, mn, mc, msy⟩ := m
    simp only at e1 hr2
    clear h ok ho hn hf hm hIs hmn hus huo hro hsy hN e0 e2 hr hl
    go_enter Try.func42, Try.ntmps42
    go_wp2_with fail
    refine HT.out.mono ?_
    rintro e w' ⟨rfl, rfl⟩
    rw [HE.out.1, HE.out.2]
    go_wp2_with fail
    refine HDo.out.mono ?_
    rintro e w2 ⟨rfl, h2, f2⟩
    rw [HB.out.1]
    rw [HB.out.2] at h2
    go_wp2
    go_ret
    exact RStep.in rfl h2 f2
  have HR : Hid (truncD d s q = ({ spentD d with fs := d.fs.set k { d.fs[k] with bs := d.fs[k].bs.take q, sy := min d.fs[k].sy q } }, 0)) := Lib.hid (by rw [truncD_in ho hf hk hr]; exact if_neg hl)
  have HB := Lib.hid (done_yes hl)
  rw [HR.out]
  have hqn : q ≤ m.n := by omega
  have hmn2 : m.n ≤ 16777216 := by omega
  have hmc := hIs.le
  have hmk : ms[k]? = some m := hm
  have hkm : k < ms.length := by rw [h.len]; exact hk
  have hmk2 : ms[k] = m := by rw [List.getElem?_eq_getElem hkm] at hmk; exact Option.some.inj hmk
  have hlt0 := h.lt
  have hbw : b < w.heap.size := (h.own.lt b rfl).2
  have hgw : g < w.heap.size := block_lt h.box
  have hbg : b ≠ g := fun e => h.sepF (by rw [e]; rfl)
  rw [hN] at c3 hle
  have hfl : (spentD d).fs = d.fs := spent_fs d
  obtain ⟨mnm, mA, mn, mc, msy⟩ := m
  simp only at e1 e2 hr2 hqn hmn2 hmc
  have hms := hIs.sy
  simp only at hms
  have HNN := Lib.hid hN
  clear h ok ho hf hm hus huo hro hr hl e0 hmk hN
  go_enter Try.func42, Try.ntmps42
  go_wp2_with fail
  refine HT.out.mono ?_
  rintro e w' ⟨rfl, rfl⟩
  rw [HE.out.1, HE.out.2]
  go_wp2_with fail
  refine HDo.out.mono ?_
  rintro e w2 ⟨rfl, h2, f2⟩
  rw [HB.out.1]
  rw [HB.out.2] at h2
  clear c3 e1 e2
  have hk2 : k < (spentD d).fs.length := by rw [spent_fs]; exact hk
  have d3 := h2.c4.2.2.2.1
  obtain ⟨b', cap', e, _, _, _, _, g0, g1, g2, gf⟩ := h2.own.elem hkm
  injection e with eA en ec
  injection eA with eA
  injection eA with eA
  subst eA ec
  rw [hmk2] at g0 g1 g2
  simp only at g0 g1 g2
  have hI2 := h2.is k hkm hk2
  rw [hmk2] at hI2
  have efs : (spentD d).fs[k] = d.fs[k] := by simp only [spent_fs]
  rw [efs] at hI2
  have HI2 := Lib.hid hI2
  have H2 := Lib.hid h2
  have hgw2 : g < w2.heap.size := Nat.lt_of_lt_of_le hgw f2.size
  have hbw2 : b < w2.heap.size := Nat.lt_of_lt_of_le hbw f2.size
  have i1 : (0 : Int) ≤ (q : Int) := by omega
  have i2 : (q : Int) ≤ (mc : Int) := by omega
  have i3 : (0 : Int) ≤ (k : Int) := by omega
  rw [HNN.out] at d3
  clear en
  have HROW : Hid (Row .u8 w2.drew w2.drew.heap.size mA (d.fs[k].bs.take q)) := Lib.hid (HI2.out.row.front q)
  have hI2n := hI2.n
  simp only at hI2n
  have HLQ : Hid ((d.fs[k].bs.take q).length = q) := Lib.hid (by rw [List.length_take]; omega)
  have HWF : Hid (∀ x ∈ d.fs[k].bs.take q, (Lit.int .u8 x).wf = true) := Lib.hid (fun x hx => HI2.out.row.1 x (List.mem_of_mem_take hx))
  clear hI2 hI2n h2 hIs g0
  generalize hB : d.fs[k].bs.take q = bq at *
  have HBQ := Lib.hid hB
  clear hB
  go_wp2_with fail
  go_region_with (go_at_call 54; refine (copy_u8 mA q mc bq _ HROW.out HLQ.out (by omega)).mono ?_; rintro e w5 ⟨v5, rfl, own5, b5d⟩; have b5 : Below w2.heap.size w2 w5 := ⟨b5d.os, b5d.tape, b5d.output, b5d.size, b5d.block⟩; obtain ⟨A5, q5, rfl, row5, hq51, hq52⟩ := own5.row HWF.out; rw [HLQ.out] at hq51 ⊢; have d35 := (b5.cell (p := ⟨g, 3, none⟩) hgw2).trans d3; have g15 := (b5.cell (p := ⟨b, k * 3 + 1, none⟩) hbw2).trans g1; have gf5 := fun j => (b5.frozen (p := ⟨b, j, none⟩) hbw2).trans (gf j))
  all_goals
    have H5 := H2.out.below b5
    have hb5 : ∀ a, A5 = some a → 0 < q → w2.heap.size ≤ a.block := fun a ha hq => (own5.lt_block ha (by rw [HLQ.out]; exact hq))
    have HI5 : FmIs w5 ⟨mnm, A5, q, q5, msy⟩ { d.fs[k] with bs := bq } := ⟨HI2.out.nm, HI2.out.sy, HLQ.out, hq51, hq52, row5⟩
    have HS5 := H5.setFile k hkm hk2 ⟨mnm, A5, q, q5, msy⟩ 1 (.slice A5 q q5) (by omega) (by rw [hmk2]; rfl) { d.fs[k] with bs := bq } HI5 (fun a ha hq => by have := hb5 a ha hq; exact ⟨by omega, by omega⟩)
    have f5 := (Frm.of_below (F := fun i => i = b) b5).trans (Frm.set (F := fun i => i = b) w5 b (k * 3 + 1) (.slice A5 q q5) rfl) (fun i hi => .inl hi)
    have hz6 := f5.size
    clear H5 HI5 b5 b5d own5 row5 d35 g15 gf5
    generalize w5.setCell ⟨b, k * 3 + 1, none⟩ (.slice A5 q q5) = w6 at *
    obtain ⟨d6, hd6⟩ : ∃ x : Dv, x = { spentD d with fs := (spentD d).fs.set k { d.fs[k] with bs := bq } } := ⟨_, rfl⟩
    rw [← hd6] at HS5
    have hk6 : k < d6.fs.length := by rw [hd6]; simp only [List.length_set]; exact hk2
    have hkm6 : k < (ms.set k ⟨mnm, A5, q, q5, msy⟩).length := by rw [List.length_set]; exact hkm
    have hd63 : d6.fs.length = N := by rw [hd6, ← HNN.out]; simp only [List.length_set, hfl]
    have j3 := HS5.c4.2.2.2.1
    obtain ⟨b', cap', e, _, _, _, _, j0, j1, j2, jf⟩ := HS5.own.elem hkm6
    injection e with eA en ec
    injection eA with eA
    injection eA with eA
    subst eA ec
    simp only [List.getElem_set_self] at j0 j1 j2
    have HS6 := Lib.hid HS5
    rw [HNN.out] at j3
    have HD6 := Lib.hid hd6
    clear hd6 hd63
    by_cases hsq : msy > (q : Int)
    · have HF6 := Lib.hid (HS5.setFile k hkm6 hk6 ⟨mnm, A5, q, q5, (q : Int)⟩ 2 (.int .i64 (q : Int)) (by omega) (by simp only [List.getElem_set_self]; rfl) { d.fs[k] with bs := bq, sy := q } (by
        have := HS5.is k hkm6 hk6
        have e6 : d6.fs[k] = { d.fs[k] with bs := bq } := by simp only [HD6.out, List.getElem_set_self]
        rw [e6] at this
        simp only [List.getElem_set_self] at this
        exact ⟨this.nm, rfl, this.n, this.le, this.cap, this.row⟩) (fun a ha hq => by have := hb5 a ha hq; exact ⟨by omega, by omega⟩))
      have HMIN : Hid (min d.fs[k].sy q = q) := Lib.hid (by show _ = _; omega)
      go_wp2
      go_ret
      have e7 : ({ d6 with fs := d6.fs.set k { d.fs[k] with bs := bq, sy := q } } : Dv) = { spentD d with fs := d.fs.set k { d.fs[k] with bs := d.fs[k].bs.take q, sy := min d.fs[k].sy q } } := by
        rw [HD6.out, HMIN.out, HBQ.out, hfl]; simp only [List.set_set]
      have HF7 := HF6.out
      rw [e7, List.set_set] at HF7
      refine ⟨rfl, _, _, HF7, ((f2.mono (fun b hb => .inl hb)).trans ((f5.trans (Frm.set (F := fun i => i = b) w6 b (k * 3 + 2) (.int .i64 (q : Int)) rfl) (fun i hi => .inl hi))) (fun i hi => .inl (.inr (by rw [hi]; rfl)))), fun i hi => RG_set (m' := ⟨mnm, A5, q, q5, (q : Int)⟩) hi (fun a ha hq => .inr (by have := hb5 a ha hq; have := f2.size; omega))⟩
    · have HMIN : Hid (min d.fs[k].sy q = d.fs[k].sy) := Lib.hid (by show _ = _; omega)
      go_wp2
      go_ret
      have e7 : d6 = { spentD d with fs := d.fs.set k { d.fs[k] with bs := d.fs[k].bs.take q, sy := min d.fs[k].sy q } } := by
        rw [HD6.out, HMIN.out, HBQ.out, hfl]
      have HF7 := HS6.out
      rw [e7] at HF7
      refine ⟨rfl, _, _, HF7, ((f2.mono (fun b hb => .inl hb)).trans f5 (fun i hi => .inl (.inr (by rw [hi]; rfl)))), fun i hi => RG_set (m' := ⟨mnm, A5, q, q5, msy⟩) hi (fun a ha hq => .inr (by have := hb5 a ha hq; have := f2.size; omega))⟩
end Go.Proofs.Ytfclgjdlkcmnfaa
namespace Go.Proofs.Ytfclgjdlkcmnfaa
open Go.RowKit

section
variable {P : Program}
theorem run_append_row (w : World) (base : Nat) (t ty : TypeId) (k : IntKind) (e : TypeId) (bytes : Nat) (ht : P.underlying t = some (.slice e)) (hi : (P.info? e).map (fun i => (i.zero, i.size, i.bytes)) = some (some (.int k 0), 1, bytes))
    (v : Value) (xs : List Int) (hown : Own k e w base v xs) (B : Nat) (A : Option Addr) (m c : Nat) (ys : List Int) (hr : Row k w B A ys) (hm : ys.length = m)
    (hbytes : (xs.length + m) * bytes ≤ 140737488355328) (h63 : xs.length + m ≤ maxLen) (hbase : base ≤ w.heap.size) :
    ∃ v' w', (Builtin.append_ #[t, t] ty #[v, .slice A m c]).run P w = .ok v' w' ∧ Own k e w' base v' (xs ++ ys) ∧ w.grownBy w' v.ownBlock := by
  obtain ⟨i, hi1, hz, hsz, hby⟩ := info_parts hi
  cases A with
  | none =>
    have hm0 : m = 0 := by
      rcases Nat.eq_zero_or_pos m with h0 | h0
      · exact h0
      · obtain ⟨b, o, h, _⟩ := hr.2 (by omega); cases h
    subst hm0
    have hy : ys = [] := List.eq_nil_of_length_eq_zero hm
    subst hy
    exact ⟨v, w, run_append_none (P := P) w t ty e i ht hi1 base v _ _ hown c, by simpa using hown, World.grownBy.refl _ _⟩
  | some ad =>
    have hcells : ∀ j u, (ys.map (Value.int k))[j]? = some u → w.cell? (ad.add j) = some u := by
      intro j u hu
      rw [List.getElem?_map] at hu
      by_cases hj : j < ys.length
      · obtain ⟨b, o, e1, _, hc⟩ := hr.2 (by omega)
        injection e1 with e1
        subst e1
        rw [List.getElem?_eq_getElem hj] at hu
        rw [Go.WideShapes.add_plain, hc j hj, nth_eq ys j hj]
        exact hu
      · rw [List.getElem?_eq_none (by omega)] at hu
        cases hu
    obtain ⟨v', w', hrun, h2, h3, _, _⟩ := run_append_own_at (P := P) w base t ty e i (.int k 0) 1 bytes ht hi1 hz hsz hby rfl (by omega) v _ _ hown ad m c (ys.map (Value.int k)) (by simp [hm]) hcells (ints_oneCell k ys) h63 hbytes hbase
    exact ⟨v', w', hrun, by simpa [Own, hm] using h2, h3⟩

theorem run_append_row2 (w : World) (base : Nat) (t ty : TypeId) (k : IntKind) (e : TypeId) (bytes : Nat) (ht : P.underlying t = some (.slice e)) (hi : (P.info? e).map (fun i => (i.zero, i.size, i.bytes)) = some (some (.int k 0), 1, bytes))
    (v : Value) (xs : List Int) (hown : Own k e w base v xs) (B : Nat) (A : Option Addr) (m c : Nat) (ys : List Int) (hr : Row k w B A ys) (hm : ys.length = m)
    (hbytes : (xs.length + m) * bytes ≤ 140737488355328) (h63 : xs.length + m ≤ maxLen) (hbase : base ≤ w.heap.size) :
    ∃ v' w', (Builtin.append_ #[t, t] ty #[v, .slice A m c]).run P w = .ok v' w' ∧ Own k e w' base v' (xs ++ ys) ∧ w.grownBy w' v.ownBlock ∧ (v'.ownBlock = v.ownBlock ∨ v'.ownBlock = some w.heap.size) := by
  obtain ⟨i, hi1, hz, hsz, hby⟩ := info_parts hi
  cases A with
  | none =>
    have hm0 : m = 0 := by
      rcases Nat.eq_zero_or_pos m with h0 | h0
      · exact h0
      · obtain ⟨b, o, h, _⟩ := hr.2 (by omega); cases h
    subst hm0
    have hy : ys = [] := List.eq_nil_of_length_eq_zero hm
    subst hy
    exact ⟨v, w, run_append_none (P := P) w t ty e i ht hi1 base v _ _ hown c, by simpa using hown, World.grownBy.refl _ _, .inl rfl⟩
  | some ad =>
    have hcells : ∀ j u, (ys.map (Value.int k))[j]? = some u → w.cell? (ad.add j) = some u := by
      intro j u hu
      rw [List.getElem?_map] at hu
      by_cases hj : j < ys.length
      · obtain ⟨b, o, e1, _, hc⟩ := hr.2 (by omega)
        injection e1 with e1
        subst e1
        rw [List.getElem?_eq_getElem hj] at hu
        rw [Go.WideShapes.add_plain, hc j hj, nth_eq ys j hj]
        exact hu
      · rw [List.getElem?_eq_none (by omega)] at hu
        cases hu
    obtain ⟨v', w', hrun, h2, h3, _, h5⟩ := run_append_own_at (P := P) w base t ty e i (.int k 0) 1 bytes ht hi1 hz hsz hby rfl (by omega) v _ _ hown ad m c (ys.map (Value.int k)) (by simp [hm]) hcells (ints_oneCell k ys) h63 hbytes hbase
    exact ⟨v', w', hrun, by simpa [Own, hm] using h2, h3, h5⟩

/-- 'append(v, src...)': v owned, src whatever row of integers; where the new row lies. -/
theorem wpList_append_row2 {ops : Array Oper} {rest : List Oper} {o : Oper} {a : Act} {Q : Exit → Act → World → Prop} (w : World) (hgd : o.guard = none) (s x : Operand) (t : TypeId)
    (ho : o.op = .call { callee := .builtin .append, args := #[s, x], argTypes := #[t, t] })
    (base : Nat) (k : IntKind) (e : TypeId) (bytes : Nat) (ht : P.underlying t = some (.slice e)) (hi : (P.info? e).map (fun i => (i.zero, i.size, i.bytes)) = some (some (.int k 0), 1, bytes))
    (v : Value) (xs : List Int) (hs : a.eval s = v) (hown : Own k e w base v xs) (B : Nat) (A : Option Addr) (m c : Nat) (ys : List Int) (hx : a.eval x = .slice A m c) (hr : Row k w B A ys) (hm : ys.length = m)
    (hbytes : (xs.length + m) * bytes ≤ 140737488355328) (h63 : xs.length + m ≤ maxLen) (hbase : base ≤ w.heap.size)
    (h : ∀ v' w', Own k e w' base v' (xs ++ ys) → w.grownBy w' v.ownBlock → (v'.ownBlock = v.ownBlock ∨ v'.ownBlock = some w.heap.size) → wpList P ops Q rest (a.put o.dst v') w') : wpList P ops Q (o :: rest) a w := by
  obtain ⟨v', w', hrun, h1, h2, h3⟩ := run_append_row2 (P := P) w base t o.type k e bytes ht hi v xs hown B A m c ys hr hm hbytes h63 hbase
  refine wpList_plain hgd fun K hK => ?_
  unfold Oper.wp
  simp [execOp, ho, resolve, invoke, builtin, hs, hx, hrun, Result.andThen]
  exact hK _ _ (h v' w' h1 h2 h3)

theorem step_append_row {ops : Array Oper} {o : Oper} {a : Act} {K : Act → World → Prop} {Q : Exit → Act → World → Prop} {E : Prop} (w : World) (hgd : o.guard = none) (s x : Operand) (t : TypeId)
    (ho : o.op = .call { callee := .builtin .append, args := #[s, x], argTypes := #[t, t] })
    (base : Nat) (k : IntKind) (e : TypeId) (bytes : Nat) (ht : P.underlying t = some (.slice e)) (hi : (P.info? e).map (fun i => (i.zero, i.size, i.bytes)) = some (some (.int k 0), 1, bytes))
    (v : Value) (xs : List Int) (hs : a.eval s = v) (hown : Own k e w base v xs) (B : Nat) (A : Option Addr) (m c : Nat) (ys : List Int) (hx : a.eval x = .slice A m c) (hr : Row k w B A ys) (hm : ys.length = m)
    (hbytes : (xs.length + m) * bytes ≤ 140737488355328) (h63 : xs.length + m ≤ maxLen) (hbase : base ≤ w.heap.size)
    (h : ∀ v' w', Own k e w' base v' (xs ++ ys) → w.grownBy w' v.ownBlock → K (a.put o.dst v') w') :
    if Region.wanted o (yielded ops a.tmps) = true then Oper.wp P o a w K Q else E := by
  have hw : Region.wanted o (yielded ops a.tmps) = true := by simp [Region.wanted, hgd]
  rw [if_pos hw]
  obtain ⟨v', w', hrun, h1, h2⟩ := run_append_row (P := P) w base t o.type k e bytes ht hi v xs hown B A m c ys hr hm hbytes h63 hbase
  unfold Oper.wp execOp
  simp only [ho, resolve, invoke, builtin, Sem.run_bind, Sem.run_pure, Result.andThen_ok, List.map_toArray, List.map_cons, List.map_nil, hs, hx, hrun]
  exact h v' w' h1 h2
end
end Go.Proofs.Ytfclgjdlkcmnfaa
namespace Go.Proofs.Ytfclgjdlkcmnfaa
open Go.RowKit
set_option linter.unusedVariables false
set_option maxRecDepth 100000

theorem ins_find {l : List Fl} {s : ByteArray} (h : findD l s = none) (b : List Int) (y : Nat) : findD (insD l ⟨s, b, y⟩) s = some (posD l s) ∧ ∃ hk : posD l s < (insD l ⟨s, b, y⟩).length, (insD l ⟨s, b, y⟩)[posD l s] = ⟨s, b, y⟩ := by
  have hp := posD_le l s
  have hs := insD_split l ⟨s, b, y⟩
  simp only at hs
  have hl1 : (l.take (posD l s)).length = posD l s := by rw [List.length_take]; omega
  have hk : posD l s < (insD l ⟨s, b, y⟩).length := by rw [ins_len]; omega
  have hg : (insD l ⟨s, b, y⟩)[posD l s] = ⟨s, b, y⟩ := by
    simp only [hs]
    rw [List.getElem_append_right (by omega)]
    simp only [hl1, Nat.sub_self, List.getElem_cons_zero]
  refine ⟨findD_at (posD l s) hk (by rw [hg]; exact sameN_refl s) (fun j hj => ?_), hk, hg⟩
  simp only [hs]
  rw [List.getElem_append_left (by omega), List.getElem_take]
  exact findD_none.1 h _ (List.getElem_mem _)
theorem ins_set (l : List Fl) (s : ByteArray) (b : List Int) : (insD l ⟨s, [], 0⟩).set (posD l s) ⟨s, b, 0⟩ = insD l ⟨s, b, 0⟩ := by
  have hp := posD_le l s
  have h1 := insD_split l ⟨s, [], 0⟩
  have h2 := insD_split l ⟨s, b, 0⟩
  simp only at h1 h2
  have hl1 : (l.take (posD l s)).length = posD l s := by rw [List.length_take]; omega
  rw [h1, h2, List.set_append_right _ _ (by omega), hl1, Nat.sub_self]
  rfl
theorem appD_name {d : Dv} {s : ByteArray} {b : List Int} (h : okN s = false) : appD d s b = (d, 8) := if_pos h
theorem appD_off {d : Dv} {s : ByteArray} {b : List Int} (h : ¬ okN s = false) (ho : d.off = true) : appD d s b = (d, 10) := by unfold appD; rw [if_neg h, if_pos ho]
theorem appD_full {d : Dv} {s : ByteArray} {b : List Int} (h : ¬ okN s = false) (ho : ¬ d.off = true) (hf : (findD d.fs s = none ∧ d.fs.length = 64) ∨ (d.room : Int) - usedD d.fs < b.length) : appD d s b = (d, 9) := by unfold appD; rw [if_neg h, if_neg ho, if_pos hf]
theorem appD_in {d : Dv} {s : ByteArray} {b : List Int} (h : ¬ okN s = false) (ho : ¬ d.off = true) (hf : ¬ ((findD d.fs s = none ∧ d.fs.length = 64) ∨ (d.room : Int) - usedD d.fs < b.length)) : appD d s b = opD d { spentD d with fs := addF d.fs s b } := by unfold appD; rw [if_neg h, if_neg ho, if_neg hf]

set_option maxHeartbeats 4000000 in
theorem refAppend_dv (g : Nat) (fv : Value) (ms : List Fm) (d : Dv) (s : ByteArray) (A : Option Addr) (n c : Nat) (bs : List Int) (w : World) (h : RDx w g fv ms d) (ok : Dv.Ok d) (hr : Row .u8 w w.heap.size A bs) (hbn : bs.length = n) (hb : n ≤ 100000000)
    (hA : ∀ a, A = some a → 0 < n → ¬ RG g fv ms a.block) :
    Calls Try.prog 37 #[.pointer (some ⟨g, 0, none⟩), .string s, .slice A n c] w (RStep g fv ms (appD d s bs).1 (.int .i64 (appD d s bs).2) w) := by
  have hn : d.fs.length ≤ 1000 := by have := ok.ln; omega
  have HFD := Lib.hid (fun W (hW : RDx W g fv ms d) => refFind_dv g fv ms d s W hW hn)
  have HFR := Lib.hid (fun W (hW : RDx W g fv ms d) => refFree_dv g fv ms d W hW ok)
  have HDo := Lib.hid (fun W (hW : RDx W g fv ms d) => refDone_dv g fv ms d W hW ok.lf ok.li)
  have H := Lib.hid h
  have c2 := h.c4.2.2.1
  have c3 := h.c4.2.2.2.1
  obtain ⟨A0, cap, rfl, hle, hcm⟩ := h.slice
  obtain ⟨N, hN⟩ : ∃ N, d.fs.length = N := ⟨_, rfl⟩
  rw [hN] at c3 hle
  cases hok : okN s with
  | false =>
    have HR : Hid (appD d s bs = (d, 8)) := Lib.hid (appD_name hok)
    have HO := Lib.hid hok
    rw [HR.out]
    clear h ok hok hn hN hr hbn hA c2 c3
    go_enter Try.func37, Try.ntmps37
    go_wp2_with fail
    refine (refNamed_any s _).mono ?_
    rintro e w' ⟨rfl, rfl⟩
    rw [HO.out]
    go_wp2
    go_ret
    exact RStep.same H.out
  | true =>
  have HO := Lib.hid hok
  have hok2 : ¬ okN s = false := by rw [hok]; decide
  by_cases ho : d.off = true
  · have HR : Hid (appD d s bs = (d, 10)) := Lib.hid (appD_off hok2 ho)
    rw [HR.out]
    rw [ho] at c2
    clear h ok ho hn hok hok2 hN hr hbn hA c3
    go_enter Try.func37, Try.ntmps37
    go_wp2_with fail
    refine (refNamed_any s _).mono ?_
    rintro e w' ⟨rfl, rfl⟩
    rw [HO.out]
    go_wp2
    go_ret
    exact RStep.same H.out
  have ho2 := off_false ho
  rw [ho2] at c2
  have hu := ok.us
  have hrm := ok.rm
  have hln := ok.ln
  have HFRm : Hid (∃ fr : Int, fr = (d.room : Int) - usedD d.fs) := Lib.hid ⟨_, rfl⟩
  by_cases hf1 : findD d.fs s = none ∧ N = 64
  · have HR : Hid (appD d s bs = (d, 9)) := Lib.hid (appD_full hok2 ho (.inl ⟨hf1.1, by rw [hN]; exact hf1.2⟩))
    have HZ : Hid (findZ d.fs s = -1) := Lib.hid (by unfold findZ; rw [hf1.1])
    rw [HR.out]
    obtain ⟨hf1a, rfl⟩ := hf1
    clear h ok ho hn hok hok2 hN hr hbn hA ho2 hf1a
    go_enter Try.func37, Try.ntmps37
    go_wp2_with fail
    refine (refNamed_any s _).mono ?_
    rintro e w' ⟨rfl, rfl⟩
    rw [HO.out]
    go_wp2_with fail
    refine (HFD.out _ H.out).mono ?_
    rintro e w' ⟨rfl, rfl⟩
    rw [HZ.out]
    go_wp2
    go_ret
    exact RStep.same H.out
  obtain ⟨Z, hZ⟩ : ∃ Z, findZ d.fs s = Z := ⟨_, rfl⟩
  have HZ := Lib.hid hZ
  obtain ⟨fr, hfr⟩ : ∃ fr : Int, (d.room : Int) - usedD d.fs = fr := ⟨_, rfl⟩
  have HFRR := Lib.hid hfr
  have hfrb : 0 ≤ fr ∧ fr ≤ 16777216 := by omega
  -- the first test: no such file, and as many as there may be
  have hT : (Z < 0 ∧ (Z = -1) ∧ ((N : Int) == 64) = false ∧ findD d.fs s = none) ∨ (¬ Z < 0 ∧ ∃ k : Nat, Z = k ∧ findD d.fs s = some k) := by
    unfold findZ at hZ
    cases hf : findD d.fs s with
    | none =>
      rw [hf] at hZ
      simp only at hZ
      left
      refine ⟨by omega, hZ.symm, beq_false_of_ne (fun e => hf1 ⟨hf, by omega⟩), rfl⟩
    | some k =>
      rw [hf] at hZ
      simp only at hZ
      right
      exact ⟨by omega, k, hZ.symm, rfl⟩
  have HT := Lib.hid hT
  clear hZ hfr
  by_cases hf2 : fr < (n : Int)
  · have HR : Hid (appD d s bs = (d, 9)) := Lib.hid (appD_full hok2 ho (.inr (by have := HFRR.out; omega)))
    rw [HR.out]
    have hf3 : (n : Int) > fr := hf2
    clear h ok ho hn hok hok2 hN hr hbn hA ho2 hf1 hu hrm hln hf2
    rcases hT with ⟨z1, rfl, z2, _⟩ | ⟨z1, k, rfl, _⟩
    · go_enter Try.func37, Try.ntmps37
      go_wp2_with fail
      refine (refNamed_any s _).mono ?_
      rintro e w' ⟨rfl, rfl⟩
      rw [HO.out]
      go_wp2_with fail
      refine (HFD.out _ H.out).mono ?_
      rintro e w' ⟨rfl, rfl⟩
      rw [HZ.out]
      go_wp2_with fail
      refine (HFR.out _ H.out).mono ?_
      rintro e w' ⟨rfl, m, rfl⟩
      rw [HFRR.out]
      go_wp2
      go_ret
      exact RStep.in rfl (H.out.drewN m) (Frm.of_below (bel_drewN w m))
    · go_enter Try.func37, Try.ntmps37
      go_wp2_with fail
      refine (refNamed_any s _).mono ?_
      rintro e w' ⟨rfl, rfl⟩
      rw [HO.out]
      go_wp2_with fail
      refine (HFD.out _ H.out).mono ?_
      rintro e w' ⟨rfl, rfl⟩
      rw [HZ.out]
      go_wp2_with fail
      refine (HFR.out _ H.out).mono ?_
      rintro e w' ⟨rfl, m, rfl⟩
      rw [HFRR.out]
      go_wp2
      go_ret
      exact RStep.in rfl (H.out.drewN m) (Frm.of_below (bel_drewN w m))
  have hf3 : ¬ (n : Int) > fr := hf2
  have HIN : Hid (¬ ((findD d.fs s = none ∧ d.fs.length = 64) ∨ (d.room : Int) - usedD d.fs < bs.length)) := Lib.hid (fun e => e.elim (fun e => hf1 ⟨e.1, by rw [← hN]; exact e.2⟩) (fun e => hf2 (by rw [← HFRR.out]; omega)))
  have f1 : ∀ m, Frm (fun b => b = g) w (w.drewN m) := fun m => Frm.of_below (bel_drewN w m)
  by_cases hl : d.left = 0
  · have HR : Hid (appD d s bs = ({ d with off := true }, 10)) := Lib.hid (by rw [appD_in hok2 ho HIN.out]; exact if_pos hl)
    have HB := Lib.hid (done_no hl)
    rw [HR.out]
    clear h ok ho hn hok hok2 hN hr hbn hA ho2 hf1 hu hrm hln hf2 hl
    rcases hT with ⟨z1, rfl, z2, _⟩ | ⟨z1, k, rfl, _⟩
    · skip
      go_enter Try.func37, Try.ntmps37
      go_wp2_with fail
      refine (refNamed_any s _).mono ?_
      rintro e w' ⟨rfl, rfl⟩
      rw [HO.out]
      go_wp2_with fail
      refine (HFD.out _ H.out).mono ?_
      rintro e w' ⟨rfl, rfl⟩
      rw [HZ.out]
      go_wp2_with fail
      refine (HFR.out _ H.out).mono ?_
      rintro e w' ⟨rfl, m, rfl⟩
      rw [HFRR.out]
      go_wp2_with fail
      refine (HDo.out _ (H.out.drewN m)).mono ?_
      rintro e w2 ⟨rfl, h2, f2⟩
      rw [HB.out.1]
      rw [HB.out.2] at h2
      have f12 := (f1 m).trans f2 (fun i hi => .inl hi)
      go_wp2
      go_ret
      exact RStep.in rfl h2 f12
    · skip
      go_enter Try.func37, Try.ntmps37
      go_wp2_with fail
      refine (refNamed_any s _).mono ?_
      rintro e w' ⟨rfl, rfl⟩
      rw [HO.out]
      go_wp2_with fail
      refine (HFD.out _ H.out).mono ?_
      rintro e w' ⟨rfl, rfl⟩
      rw [HZ.out]
      go_wp2_with fail
      refine (HFR.out _ H.out).mono ?_
      rintro e w' ⟨rfl, m, rfl⟩
      rw [HFRR.out]
      go_wp2_with fail
      refine (HDo.out _ (H.out.drewN m)).mono ?_
      rintro e w2 ⟨rfl, h2, f2⟩
      rw [HB.out.1]
      rw [HB.out.2] at h2
      have f12 := (f1 m).trans f2 (fun i hi => .inl hi)
      go_wp2
      go_ret
      exact RStep.in rfl h2 f12
  have HR : Hid (appD d s bs = ({ spentD d with fs := addF d.fs s bs }, 0)) := Lib.hid (by rw [appD_in hok2 ho HIN.out]; exact if_neg hl)
  have HB := Lib.hid (done_yes hl)
  rw [HR.out]
  have hRG0 := h.lt
  have hrow := Lib.hid hr
  have HBN := Lib.hid hbn
  have hgw : g < w.heap.size := block_lt h.box
  have HU : Hid (usedD d.fs ≤ 16777216) := Lib.hid (by show _ ≤ _; omega)
  clear h ok ho hok hok2 hr hbn ho2 hf1 hu hrm hf2 hl
  have HNN := Lib.hid hN
  clear hN
  rcases hT with ⟨z1, rfl, z2, hfn⟩ | ⟨z1, k, rfl, hfk⟩
  · have HADD : Hid (addF d.fs s bs = insD d.fs ⟨s, bs, 0⟩) := Lib.hid (by unfold addF; rw [hfn])
    have HFn := Lib.hid hfn
    clear hfn HFRm
    go_enter Try.func37, Try.ntmps37
    go_wp2_with fail
    refine (refNamed_any s _).mono ?_
    rintro e w' ⟨rfl, rfl⟩
    rw [HO.out]
    go_wp2_with fail
    refine (HFD.out _ H.out).mono ?_
    rintro e w' ⟨rfl, rfl⟩
    rw [HZ.out]
    go_wp2_with fail
    refine (HFR.out _ H.out).mono ?_
    rintro e w' ⟨rfl, m, rfl⟩
    rw [HFRR.out]
    go_wp2_with fail
    refine (HDo.out _ (H.out.drewN m)).mono ?_
    rintro e w2 ⟨rfl, h2, f2⟩
    rw [HB.out.1]
    rw [HB.out.2] at h2
    have f12 := (f1 m).trans f2 (fun i hi => .inl hi)
    go_wp2_with fail
    refine (refPut_dv g _ ms (spentD d) s none 0 0 0 ⟨s, [], 0⟩ w2 h2 (by rw [spent_fs]; exact hn) ⟨rfl, rfl, rfl, Nat.le_refl _, Nat.zero_le _, Row.nil _ _ _ _⟩ (fun a ha _ => nomatch ha)).mono ?_
    rintro e w3 ⟨rfl, fv3, h3, f3, o3⟩
    have HSZ2 : w.heap.size ≤ w2.heap.size := f12.size
    have f13 := f12.trans f3 (fun i hi => .inl hi)
    have HSZ : Hid (w.heap.size ≤ w3.heap.size) := Lib.hid f13.size
    have HO3 : Hid (∀ b, fv3.ownBlock = some b → w.heap.size ≤ b) := Lib.hid (fun b hb => Nat.le_trans HSZ2 (o3 b hb))
    have HRG2 : Hid (∀ i, RG g fv3 (ms.take (posD (spentD d).fs s) ++ (⟨s, none, 0, 0, 0⟩ : Fm) :: ms.drop (posD (spentD d).fs s)) i → RG g (Value.slice A0 d.fs.length cap) ms i ∨ w.heap.size ≤ i) := Lib.hid (fun i hi => by
      rcases hi with hi | hi | ⟨m, hm, a, ha, hab, hp⟩
      · exact .inl (.inl hi)
      · exact .inr (HO3.out i hi)
      · rcases List.mem_append.1 hm with hm | hm
        · exact .inl (.inr (.inr ⟨m, List.mem_of_mem_take hm, a, ha, hab, hp⟩))
        rcases List.mem_cons.1 hm with rfl | hm
        · exact absurd ha (fun e => nomatch e)
        · exact .inl (.inr (.inr ⟨m, List.mem_of_mem_drop hm, a, ha, hab, hp⟩)))
    obtain ⟨D, hD⟩ : ∃ D : Dv, ({ spentD d with fs := insD (spentD d).fs ⟨s, [], 0⟩ } : Dv) = D := ⟨_, rfl⟩
    obtain ⟨MS, hMS⟩ : ∃ MS, ms.take (posD (spentD d).fs s) ++ (⟨s, none, 0, 0, 0⟩ : Fm) :: ms.drop (posD (spentD d).fs s) = MS := ⟨_, rfl⟩
    rw [hMS] at HRG2 h3
    rw [hD] at h3
    clear hMS
    obtain ⟨K, hK⟩ : ∃ K, posD d.fs s = K := ⟨_, rfl⟩
    have HF : ∃ hk : K < D.fs.length, D.fs[K] = ⟨s, [], 0⟩ ∧ findZ D.fs s = (K : Int) ∧ ({ D with fs := D.fs.set K { D.fs[K] with bs := D.fs[K].bs ++ bs } } : Dv) = { spentD d with fs := addF d.fs s bs } ∧ usedD D.fs ≤ 16777216 ∧ D.fs.length ≤ 1000 := by
      subst hD hK
      obtain ⟨e1, e2, e3⟩ := ins_find HFn.out [] 0
      simp only [spent_fs]
      refine ⟨e2, e3, by unfold findZ; rw [e1], ?_, ?_, ?_⟩
      · rw [HADD.out, e3, ← ins_set d.fs s bs]; rfl
      · rw [used_ins]; simpa using HU.out
      · rw [ins_len]; omega
    obtain ⟨hk, hfK, hZ3, hFIN, hu3, hl3⟩ := HF
    have HfK := Lib.hid hfK
    have HZ3 := Lib.hid hZ3
    have HFIN := Lib.hid hFIN
    have HUW := Lib.hid hu3
    have R2 := f13.row hrow.out (fun a ha hp e => hA a ha (by rw [← HBN.out]; exact hp) (.inl e))
    have F12 := Lib.hid f13
    clear hfK hZ3 hFIN hu3 hD hK f12 f13 f3 f2 c2 c3 o3
    go_wp2_with fail
    refine (refFind_dv g fv3 MS D s w3 h3 (by omega)).mono ?_
    rintro e w' ⟨rfl, rfl⟩
    rw [HZ3.out]
    have hk2 : K < D.fs.length := hk
    have hkm : K < (MS).length := by rw [(h3).len]; exact hk2
    have d3 := (h3).c4.2.2.2.1
    obtain ⟨b, cap', efv, _, hbW, _, _, g0, g1, g2, gf⟩ := (h3).own.elem hkm
    have hIs := (h3).is K hkm hk2
    have hsepB := (h3).sepB _ (List.getElem_mem hkm)
    have hsepF := (h3).sepF
    have HWW := Lib.hid (h3)
    subst efv
    have hbg : b ≠ g := fun e => hsepF (by rw [e]; rfl)
    have hgW := block_lt (h3).box
    have hus := used_mem (List.getElem_mem hk2)
    obtain ⟨mk, hmk⟩ : ∃ m, (MS)[K] = m := ⟨_, rfl⟩
    rw [hmk] at g0 g1 g2 hIs hsepB
    obtain ⟨mnm, mA, mn, mc, msy⟩ := mk
    simp only at g0 g1 g2
    have HMK := Lib.hid hmk
    have HIs := Lib.hid hIs
    have hmn := hIs.n
    simp only at hmn
    have hmn2 : mn ≤ 16777216 := by have := HUW.out; omega
    have hNW : ∃ NW, (MS).length = NW := ⟨_, rfl⟩
    obtain ⟨NW, hNW⟩ := hNW
    have HNW := Lib.hid hNW
    have HND : Hid (D.fs.length = NW) := Lib.hid ((h3).len.symm.trans hNW)
    rw [hNW] at d3
    have hkNW : K < NW := by rw [← hNW]; exact hkm
    have i3 : (0 : Int) ≤ (K : Int) := by omega
    have HWFb : Hid (∀ x ∈ D.fs[K].bs, (Lit.int .u8 x).wf = true) := Lib.hid hIs.row.1
    clear hmk hIs hmn hus hNW g0 g2 hsepF
    go_wp2_with fail
    refine (copy_u8 mA mn mc _ _ HIs.out.row HIs.out.n (by omega)).mono ?_
    rintro e w6 ⟨v6, rfl, own6, b6⟩
    have d36 := (b6.cell (p := ⟨g, 3, none⟩) hgW).trans d3
    have g16 := (b6.cell (p := ⟨b, K * 3 + 1, none⟩) hbW).trans g1
    have gf6 := fun j => (b6.frozen (p := ⟨b, j, none⟩) hbW).trans (gf j)
    have RB := Lib.hid (R2.below b6)
    have HL6 : Hid ((D.fs[K].bs).length = mn) := HIs.out.n
    have hs6 := b6.size
    clear d3 g1 gf
    go_wp2_with fail
    go_region_law (first
      | (refine step_append_row (w6) rfl _ _ 30 rfl w3.heap.size .u8 5 1 Try.underlying30 info_u8 v6 (D.fs[K].bs) rfl own6 _ A n c bs rfl RB.out HBN.out (by rw [HL6.out]; omega) (by rw [HL6.out]; simp only [maxLen]; omega) hs6 ?_; intro v7 w7 own7 g7; have bw7 : Below w3.heap.size w6 w7 := Below.grown (Below.refl w3.heap.size w6) (show World.grownBy w6 w7 v6.ownBlock from ⟨g7.os, g7.tape, g7.output, g7.size, g7.block⟩) hs6 (fun q e => (own6.block q e).1); obtain ⟨A7, q7, rfl, row7, hq71, hq72⟩ := own7.row (wf_append HWFb.out RB.out.1); have d37 := (bw7.cell (p := ⟨g, 3, none⟩) hgW).trans d36; have g17 := (bw7.cell (p := ⟨b, K * 3 + 1, none⟩) hbW).trans g16; have gf7 := fun j => (bw7.frozen (p := ⟨b, j, none⟩) hbW).trans (gf6 j))
      | (refine step_append_row (World.drew w6) rfl _ _ 30 rfl w3.heap.size .u8 5 1 Try.underlying30 info_u8 v6 (D.fs[K].bs) rfl own6 _ A n c bs rfl RB.out HBN.out (by rw [HL6.out]; omega) (by rw [HL6.out]; simp only [maxLen]; omega) hs6 ?_; intro v7 w7 own7 g7; have bw7 : Below w3.heap.size w6 w7 := Below.grown (Below.refl w3.heap.size w6) (show World.grownBy w6 w7 v6.ownBlock from ⟨g7.os, g7.tape, g7.output, g7.size, g7.block⟩) hs6 (fun q e => (own6.block q e).1); obtain ⟨A7, q7, rfl, row7, hq71, hq72⟩ := own7.row (wf_append HWFb.out RB.out.1); have d37 := (bw7.cell (p := ⟨g, 3, none⟩) hgW).trans d36; have g17 := (bw7.cell (p := ⟨b, K * 3 + 1, none⟩) hbW).trans g16; have gf7 := fun j => (bw7.frozen (p := ⟨b, j, none⟩) hbW).trans (gf6 j))
      | (refine step_append_row (World.drew (World.drew w6)) rfl _ _ 30 rfl w3.heap.size .u8 5 1 Try.underlying30 info_u8 v6 (D.fs[K].bs) rfl own6 _ A n c bs rfl RB.out HBN.out (by rw [HL6.out]; omega) (by rw [HL6.out]; simp only [maxLen]; omega) hs6 ?_; intro v7 w7 own7 g7; have bw7 : Below w3.heap.size w6 w7 := Below.grown (Below.refl w3.heap.size w6) (show World.grownBy w6 w7 v6.ownBlock from ⟨g7.os, g7.tape, g7.output, g7.size, g7.block⟩) hs6 (fun q e => (own6.block q e).1); obtain ⟨A7, q7, rfl, row7, hq71, hq72⟩ := own7.row (wf_append HWFb.out RB.out.1); have d37 := (bw7.cell (p := ⟨g, 3, none⟩) hgW).trans d36; have g17 := (bw7.cell (p := ⟨b, K * 3 + 1, none⟩) hbW).trans g16; have gf7 := fun j => (bw7.frozen (p := ⟨b, j, none⟩) hbW).trans (gf6 j)))
    all_goals
      have hl7 : (D.fs[K].bs ++ bs).length = mn + n := by rw [List.length_append, HL6.out, HBN.out]
      rw [hl7] at hq71
      have hb7 : ∀ a, A7 = some a → 0 < mn + n → w3.heap.size ≤ a.block := fun a ha hq => own7.lt_block ha (by rw [hl7]; exact hq)
      have f7 : Frm (fun i => i = b) w3 w7 := Frm.of_below (b6.trans (bw7.mono (Nat.le_refl _)))
      have H7 := HWW.out.below (b6.trans (bw7.mono (Nat.le_refl _)))
      have HI7 : FmIs w7 ⟨mnm, A7, mn + n, q7, msy⟩ { D.fs[K] with bs := D.fs[K].bs ++ bs } := ⟨HIs.out.nm, HIs.out.sy, hl7, hq71, hq72, row7⟩
      have HS7 := H7.setFile K hkm hk2 ⟨mnm, A7, mn + n, q7, msy⟩ 1 (.slice A7 (mn + n) q7) (by omega) (by rw [HMK.out]; rfl) { D.fs[K] with bs := D.fs[K].bs ++ bs } HI7 (fun a ha hq => by have := hb7 a ha hq; exact ⟨by omega, by omega⟩)
      rw [show ({ D with fs := D.fs.set K { D.fs[K] with bs := D.fs[K].bs ++ bs } } : Dv) = { spentD d with fs := addF d.fs s bs } from HFIN.out] at HS7
      have f8 := f7.trans (Frm.set (F := fun i => i = b) w7 b (K * 3 + 1) (.slice A7 (mn + n) q7) rfl) (fun i hi => .inl hi)
      simp only [HL6.out, HBN.out]
      clear H7 HI7 f7 row7 d37 g17 gf7 bw7
      (try go_wp2)
      go_ret
      refine ⟨rfl, _, _, (by first | exact HS7 | exact HS7.drew), (by first | exact ((F12.out.mono (fun b hb => .inl hb)).trans f8 (fun i hi => .inr (by rw [hi]; exact HO3.out b rfl))) | exact (((F12.out.mono (fun b hb => .inl hb)).trans f8 (fun i hi => .inr (by rw [hi]; exact HO3.out b rfl)))).drew), fun i hi => ?_⟩
      rcases RG_set (m' := ⟨mnm, A7, mn + n, q7, msy⟩) (W := w3.heap.size) hi (fun a ha hq => .inr (hb7 a ha hq)) with hi | hi
      · exact HRG2.out i hi
      · exact .inr (Nat.le_trans HSZ.out hi)

  · obtain ⟨hk, _, _⟩ := findD_some hfk
    have HADD : Hid (addF d.fs s bs = d.fs.set k { d.fs[k] with bs := d.fs[k].bs ++ bs }) := Lib.hid (by unfold addF; rw [hfk]; exact modify_set d.fs k hk _)
    clear hfk HFRm
    go_enter Try.func37, Try.ntmps37
    go_wp2_with fail
    refine (refNamed_any s _).mono ?_
    rintro e w' ⟨rfl, rfl⟩
    rw [HO.out]
    go_wp2_with fail
    refine (HFD.out _ H.out).mono ?_
    rintro e w' ⟨rfl, rfl⟩
    rw [HZ.out]
    go_wp2_with fail
    refine (HFR.out _ H.out).mono ?_
    rintro e w' ⟨rfl, m, rfl⟩
    rw [HFRR.out]
    go_wp2_with fail
    refine (HDo.out _ (H.out.drewN m)).mono ?_
    rintro e w2 ⟨rfl, h2, f2⟩
    rw [HB.out.1]
    rw [HB.out.2] at h2
    have f12 := (f1 m).trans f2 (fun i hi => .inl hi)
    have HRG2 : Hid (∀ i, RG g (Value.slice A0 d.fs.length cap) ms i → RG g (Value.slice A0 d.fs.length cap) ms i ∨ w.heap.size ≤ i) := Lib.hid (fun i hi => .inl hi)
    have HSZ : Hid (w.heap.size ≤ w2.heap.size) := Lib.hid f12.size
    have HUW : Hid (usedD (spentD d).fs ≤ 16777216) := Lib.hid (by rw [spent_fs]; exact HU.out)
    have R2 := f12.row hrow.out (fun a ha hp e => hA a ha (by rw [← HBN.out]; exact hp) (.inl e))
    have F12 := Lib.hid f12
    clear f12 f2 c2 c3
    have hk2 : k < (spentD d).fs.length := by rw [spent_fs]; exact hk
    have hkm : k < (ms).length := by rw [(h2).len]; exact hk2
    have d3 := (h2).c4.2.2.2.1
    obtain ⟨b, cap', efv, _, hbW, _, _, g0, g1, g2, gf⟩ := (h2).own.elem hkm
    have hIs := (h2).is k hkm hk2
    have hsepB := (h2).sepB _ (List.getElem_mem hkm)
    have hsepF := (h2).sepF
    have HWW := Lib.hid (h2)
    injection efv with eA en ec
    subst eA ec
    clear en
    have hbg : b ≠ g := fun e => hsepF (by rw [e]; rfl)
    have hgW := block_lt (h2).box
    have hus := used_mem (List.getElem_mem hk2)
    obtain ⟨mk, hmk⟩ : ∃ m, (ms)[k] = m := ⟨_, rfl⟩
    rw [hmk] at g0 g1 g2 hIs hsepB
    obtain ⟨mnm, mA, mn, mc, msy⟩ := mk
    simp only at g0 g1 g2
    have HMK := Lib.hid hmk
    have HIs := Lib.hid hIs
    have hmn := hIs.n
    simp only at hmn
    have hmn2 : mn ≤ 16777216 := by have := HUW.out; omega
    have hNW : ∃ NW, (ms).length = NW := ⟨_, rfl⟩
    obtain ⟨NW, hNW⟩ := hNW
    have HNW := Lib.hid hNW
    have HND : Hid ((spentD d).fs.length = NW) := Lib.hid ((h2).len.symm.trans hNW)
    rw [← spent_fs d, HND.out] at d3
    have hkNW : k < NW := by rw [← hNW]; exact hkm
    have i3 : (0 : Int) ≤ (k : Int) := by omega
    have HWFb : Hid (∀ x ∈ (spentD d).fs[k].bs, (Lit.int .u8 x).wf = true) := Lib.hid hIs.row.1
    clear hmk hIs hmn hus hNW g0 g2 hsepF
    go_wp2_with fail
    refine (copy_u8 mA mn mc _ _ HIs.out.row HIs.out.n (by omega)).mono ?_
    rintro e w6 ⟨v6, rfl, own6, b6⟩
    have d36 := (b6.cell (p := ⟨g, 3, none⟩) hgW).trans d3
    have g16 := (b6.cell (p := ⟨b, k * 3 + 1, none⟩) hbW).trans g1
    have gf6 := fun j => (b6.frozen (p := ⟨b, j, none⟩) hbW).trans (gf j)
    have RB := Lib.hid (R2.below b6)
    have HL6 : Hid (((spentD d).fs[k].bs).length = mn) := HIs.out.n
    have hs6 := b6.size
    clear d3 g1 gf
    go_wp2_with fail
    go_region_law (first
      | (refine step_append_row (w6) rfl _ _ 30 rfl w2.heap.size .u8 5 1 Try.underlying30 info_u8 v6 ((spentD d).fs[k].bs) rfl own6 _ A n c bs rfl RB.out HBN.out (by rw [HL6.out]; omega) (by rw [HL6.out]; simp only [maxLen]; omega) hs6 ?_; intro v7 w7 own7 g7; have bw7 : Below w2.heap.size w6 w7 := Below.grown (Below.refl w2.heap.size w6) (show World.grownBy w6 w7 v6.ownBlock from ⟨g7.os, g7.tape, g7.output, g7.size, g7.block⟩) hs6 (fun q e => (own6.block q e).1); obtain ⟨A7, q7, rfl, row7, hq71, hq72⟩ := own7.row (wf_append HWFb.out RB.out.1); have d37 := (bw7.cell (p := ⟨g, 3, none⟩) hgW).trans d36; have g17 := (bw7.cell (p := ⟨b, k * 3 + 1, none⟩) hbW).trans g16; have gf7 := fun j => (bw7.frozen (p := ⟨b, j, none⟩) hbW).trans (gf6 j))
      | (refine step_append_row (World.drew w6) rfl _ _ 30 rfl w2.heap.size .u8 5 1 Try.underlying30 info_u8 v6 ((spentD d).fs[k].bs) rfl own6 _ A n c bs rfl RB.out HBN.out (by rw [HL6.out]; omega) (by rw [HL6.out]; simp only [maxLen]; omega) hs6 ?_; intro v7 w7 own7 g7; have bw7 : Below w2.heap.size w6 w7 := Below.grown (Below.refl w2.heap.size w6) (show World.grownBy w6 w7 v6.ownBlock from ⟨g7.os, g7.tape, g7.output, g7.size, g7.block⟩) hs6 (fun q e => (own6.block q e).1); obtain ⟨A7, q7, rfl, row7, hq71, hq72⟩ := own7.row (wf_append HWFb.out RB.out.1); have d37 := (bw7.cell (p := ⟨g, 3, none⟩) hgW).trans d36; have g17 := (bw7.cell (p := ⟨b, k * 3 + 1, none⟩) hbW).trans g16; have gf7 := fun j => (bw7.frozen (p := ⟨b, j, none⟩) hbW).trans (gf6 j))
      | (refine step_append_row (World.drew (World.drew w6)) rfl _ _ 30 rfl w2.heap.size .u8 5 1 Try.underlying30 info_u8 v6 ((spentD d).fs[k].bs) rfl own6 _ A n c bs rfl RB.out HBN.out (by rw [HL6.out]; omega) (by rw [HL6.out]; simp only [maxLen]; omega) hs6 ?_; intro v7 w7 own7 g7; have bw7 : Below w2.heap.size w6 w7 := Below.grown (Below.refl w2.heap.size w6) (show World.grownBy w6 w7 v6.ownBlock from ⟨g7.os, g7.tape, g7.output, g7.size, g7.block⟩) hs6 (fun q e => (own6.block q e).1); obtain ⟨A7, q7, rfl, row7, hq71, hq72⟩ := own7.row (wf_append HWFb.out RB.out.1); have d37 := (bw7.cell (p := ⟨g, 3, none⟩) hgW).trans d36; have g17 := (bw7.cell (p := ⟨b, k * 3 + 1, none⟩) hbW).trans g16; have gf7 := fun j => (bw7.frozen (p := ⟨b, j, none⟩) hbW).trans (gf6 j)))
    all_goals
      have hl7 : ((spentD d).fs[k].bs ++ bs).length = mn + n := by rw [List.length_append, HL6.out, HBN.out]
      rw [hl7] at hq71
      have hb7 : ∀ a, A7 = some a → 0 < mn + n → w2.heap.size ≤ a.block := fun a ha hq => own7.lt_block ha (by rw [hl7]; exact hq)
      have f7 : Frm (fun i => i = b) w2 w7 := Frm.of_below (b6.trans (bw7.mono (Nat.le_refl _)))
      have H7 := HWW.out.below (b6.trans (bw7.mono (Nat.le_refl _)))
      have HI7 : FmIs w7 ⟨mnm, A7, mn + n, q7, msy⟩ { (spentD d).fs[k] with bs := (spentD d).fs[k].bs ++ bs } := ⟨HIs.out.nm, HIs.out.sy, hl7, hq71, hq72, row7⟩
      have HS7 := H7.setFile k hkm hk2 ⟨mnm, A7, mn + n, q7, msy⟩ 1 (.slice A7 (mn + n) q7) (by omega) (by rw [HMK.out]; rfl) { (spentD d).fs[k] with bs := (spentD d).fs[k].bs ++ bs } HI7 (fun a ha hq => by have := hb7 a ha hq; exact ⟨by omega, by omega⟩)
      rw [show ({ (spentD d) with fs := (spentD d).fs.set k { (spentD d).fs[k] with bs := (spentD d).fs[k].bs ++ bs } } : Dv) = { spentD d with fs := addF d.fs s bs } from by rw [HADD.out]; simp only [spent_fs]] at HS7
      have f8 := f7.trans (Frm.set (F := fun i => i = b) w7 b (k * 3 + 1) (.slice A7 (mn + n) q7) rfl) (fun i hi => .inl hi)
      simp only [HL6.out, HBN.out]
      clear H7 HI7 f7 row7 d37 g17 gf7 bw7
      (try go_wp2)
      go_ret
      refine ⟨rfl, _, _, (by first | exact HS7 | exact HS7.drew), (by first | exact ((F12.out.mono (fun b hb => .inl hb)).trans f8 (fun i hi => .inl (.inr (by rw [hi]; rfl)))) | exact (((F12.out.mono (fun b hb => .inl hb)).trans f8 (fun i hi => .inl (.inr (by rw [hi]; rfl))))).drew), fun i hi => ?_⟩
      rcases RG_set (m' := ⟨mnm, A7, mn + n, q7, msy⟩) (W := w2.heap.size) hi (fun a ha hq => .inr (hb7 a ha hq)) with hi | hi
      · exact HRG2.out i hi
      · exact .inr (Nat.le_trans HSZ.out hi)
end Go.Proofs.Ytfclgjdlkcmnfaa
namespace Go.Proofs.Ytfclgjdlkcmnfaa
open Go.RowKit
set_option linter.unusedVariables false
set_option maxRecDepth 100000

def txC (s : ByteArray) : List Value := [.string s]
theorem txC_len (s : ByteArray) : (txC s).length = 1 := rfl
theorem txC_one (s : ByteArray) : ∀ u ∈ txC s, u.oneCell' = true := by
  intro u hu
  simp only [txC, List.mem_cons, List.mem_nil_iff, or_false] at hu
  rcases hu with rfl
  rfl
theorem info_tx : (Try.prog.info? 9).map (fun i => (i.zero, i.size, i.bytes)) = some (some (.string ⟨#[]⟩), 1, 16) := by kernel_rfl
/-- A list of texts of the call's own. -/
def TxOwn (w : World) (base : Nat) (v : Value) (l : List ByteArray) : Prop := w.ownsRow base 9 1 v l.length (flatV txC l)
theorem TxOwn.nil (w : World) (base : Nat) : TxOwn w base (.slice none 0 0) [] := World.ownsRow_nil w base _ 1
theorem TxOwn.row {w : World} {base : Nat} {v : Value} {l : List ByteArray} (h : TxOwn w base v l) : ∃ A c, v = .slice A l.length c ∧ VRow w w.heap.size A (flatV txC l) ∧ l.length ≤ c ∧ c ≤ maxLen := VRow.of_own h
theorem TxOwn.alloc {w : World} {base : Nat} {v : Value} {l : List ByteArray} (h : TxOwn w base v l) (o : Obj) : TxOwn (w.alloc o) base v l := World.ownsRow.alloc h o
theorem TxOwn.frm {F : Nat → Prop} {w w' : World} {base : Nat} {v : Value} {l : List ByteArray} (h : TxOwn w base v l) (hf : Frm F w w') (hn : ∀ b, v.ownBlock = some b → ¬ F b) : TxOwn w' base v l := by
  refine ⟨h.1, ?_⟩
  rcases h.2 with h0 | ⟨g, cap, cur, hv, h1, h2, h3⟩
  · exact .inl h0
  · exact .inr ⟨g, cap, cur, hv, h1, (hf.block g (block_lt h2) (hn g (by rw [hv]; rfl))).trans h2, h3⟩
theorem TxOwn.mono {w : World} {base base' : Nat} {v : Value} {l : List ByteArray} (h : TxOwn w base v l) (hb : base' ≤ base) : TxOwn w base' v l := by
  refine ⟨h.1, ?_⟩
  rcases h.2 with h0 | ⟨g, cap, cur, hv, h1, r⟩
  · exact .inl h0
  · exact .inr ⟨g, cap, cur, hv, by omega, r⟩
theorem TxOwn.lt {w : World} {base : Nat} {v : Value} {l : List ByteArray} (h : TxOwn w base v l) : ∀ g, v.ownBlock = some g → base ≤ g ∧ g < w.heap.size := World.ownsRow.lt h
theorem TxOwn.below {w w' : World} {base : Nat} {v : Value} {l : List ByteArray} (h : TxOwn w base v l) (hb : Below w.heap.size w w') : TxOwn w' base v l := h.frm (F := fun _ => False) (Frm.of_below hb) (fun _ _ h => h)
theorem wpList_append_tx {ops : Array Oper} {rest : List Oper} {o : Oper} {a : Act} {Q : Exit → Act → World → Prop} (w : World) (hgd : o.guard = none) (s x : Operand)
    (ho : o.op = .call { callee := .builtin .append, args := #[s, x], argTypes := #[34, 34] })
    (base : Nat) (v : Value) (l : List ByteArray) (hs : a.eval s = v) (hown : TxOwn w base v l) (ad : Addr) (c : Nat) (t : ByteArray) (hx : a.eval x = .slice (some ad) 1 c)
    (hnews : ∀ j u, (txC t)[j]? = some u → w.cell? (ad.add j) = some u) (hb : (l.length + 1) * 16 ≤ 140737488355328) (hbase : base ≤ w.heap.size)
    (h : ∀ v' w', TxOwn w' base v' (l ++ [t]) → w.grownBy w' v.ownBlock → wpList Try.prog ops Q rest (a.put o.dst v') w') : wpList Try.prog ops Q (o :: rest) a w := by
  obtain ⟨i, hi1, hz, hsz, hby⟩ := info_parts info_tx
  refine wpList_append_own w hgd s x 34 ho base 9 i _ 1 16 Try.underlying34 hi1 hz hsz hby rfl (by omega) v l.length (flatV txC l) hs hown ad 1 c (txC t) hx rfl hnews (txC_one t) (by simp only [maxLen]; omega) (by omega) hbase fun v' w' h1 h2 _ => h v' w' ?_ h2
  unfold TxOwn
  rw [flatV_append, flatV_one, List.length_append]
  exact h1
/-- The cell of a text in a new box. -/
theorem box_tx (w : World) (t : ByteArray) : ∀ j u, (txC t)[j]? = some u → (w.alloc (.cells (txC t).toArray 9)).cell? ((⟨w.heap.size, 0, none⟩ : Addr).add j) = some u := by
  intro j u hu
  have := rangeB (heap_alloc_new w (.cells (txC t).toArray 9)) j u hu
  rw [Go.WideShapes.add_plain]
  exact this
/-- The cell of one text of an owned list. -/
theorem TxOwn.elem {w : World} {base : Nat} {v : Value} {l : List ByteArray} (h : TxOwn w base v l) {i : Nat} (hi : i < l.length) :
    ∃ b cap, v = .slice (some ⟨b, 0, none⟩) l.length cap ∧ base ≤ b ∧ b < w.heap.size ∧ l.length ≤ cap ∧ cap ≤ maxLen ∧ w.cell? ⟨b, i, none⟩ = some (.string l[i]) ∧ ∀ j, w.frozen? ⟨b, j, none⟩ = false := by
  rcases h.2 with ⟨_, h0⟩ | ⟨g, cap, cur, rfl, h1, h2, h3, h4, h5, h6⟩
  · omega
  · have key : ∀ j, j < 1 → w.cell? ⟨g, i * 1 + j, none⟩ = (txC l[i])[j]? := fun j hj => by
      rw [cell_of_row w g (i * 1 + j) cur _ _ h2, ← Array.getElem?_toList, ← flatV_get txC_len l i hi j hj, ← h6, List.getElem?_take_of_lt (by omega)]
    have k0 := key 0 (by omega)
    rw [Nat.mul_one, Nat.add_zero] at k0
    exact ⟨g, cap, rfl, h1, block_lt h2, h3, h4, k0, fun j => block_frozen w g j _ _ h2⟩
end Go.Proofs.Ytfclgjdlkcmnfaa
namespace Go.Proofs.Ytfclgjdlkcmnfaa
open Go.RowKit
set_option linter.unusedVariables false
set_option maxRecDepth 100000

set_option maxHeartbeats 1000000 in
theorem refNames_dv (g : Nat) (fv : Value) (ms : List Fm) (d : Dv) (w : World) (h : RDx w g fv ms d) (hn : d.fs.length ≤ 1000) :
    Calls Try.prog 48 #[.pointer (some ⟨g, 0, none⟩)] w fun e w' => ∃ v, e = .returned v ∧ TxOwn w' w.heap.size v (namesD d) ∧ Below w.heap.size w w' := by
  obtain ⟨A, cap, rfl, hle, hcm⟩ := h.slice
  obtain ⟨n, hn2⟩ : ∃ n, d.fs.length = n := ⟨_, rfl⟩
  have HN := Lib.hid hn2
  have HM : Hid (ms.length = n) := Lib.hid (h.len.trans hn2)
  obtain ⟨NL, hNL⟩ : ∃ l, namesD d = l := ⟨_, rfl⟩
  have HNL : Hid (NL.length = n) := Lib.hid (by rw [← hNL]; unfold namesD; rw [List.length_map]; exact hn2)
  have HNE : Hid (∀ j (hj : j < ms.length) (hj2 : j < NL.length), ms[j].nm = NL[j]) := Lib.hid (fun j hj hj2 => by
    subst hNL
    have := (h.is j hj (by rw [← h.len]; exact hj)).nm
    rw [this]
    simp [namesD])
  rw [hn2] at hle hn
  rw [hNL]
  have H := Lib.hid h
  have hltg := block_lt h.box
  have c3 := h.c4.2.2.2.1
  rw [hn2] at c3
  clear h hn2 hNL
  go_enter Try.func48, Try.ntmps48
  go_wp2_with fail
  go_loopw [3, 4] (fun v i wr => ∃ j : Nat, j ≤ n ∧ i = .int .i64 j ∧ TxOwn wr w.heap.size v (NL.take j) ∧ Below w.heap.size w wr) (fun _ i _ => n - (intOf i).toNat)
  case atStart => exact ⟨0, by omega, rfl, by rw [List.take_zero]; exact TxOwn.nil _ _, Below.refl _ _⟩
  case round =>
    obtain ⟨j, hj, rfl, hown, hbel⟩ := hrel
    have H1 := Lib.hid (H.out.below hbel)
    have d3 := H1.out.c4.2.2.2.1
    rw [HN.out] at d3
    clear c3
    by_cases hlt : j < n
    · have hjl : j < ms.length := by rw [HM.out]; exact hlt
      have hjN : j < NL.length := by rw [HNL.out]; exact hlt
      have HS : Hid (NL.take (j + 1) = NL.take j ++ [NL[j]]) := Lib.hid (List.take_succ_eq_append_getElem hjN)
      obtain ⟨b, cap', e, _, _, _, _, e0, _, _, _⟩ := H1.out.own.elem hjl
      injection e with eA en ec
      subst eA ec
      have hl5 : Hid ((NL.take j).length ≤ 1000) := Lib.hid (by rw [List.length_take]; omega)
      have hsz := hbel.size
      rw [HNE.out j hjl hjN] at e0
      obtain ⟨s, hs⟩ : ∃ s, NL[j] = s := ⟨_, rfl⟩
      rw [hs] at e0 HS
      have hbx := box_tx wr s
      clear en hs
      go_wp2_with (at_builtin; refine wpList_append_tx _ rfl _ _ rfl w.heap.size _ (NL.take j) rfl (hown.alloc _) ⟨wr.heap.size, 0, none⟩ 1 s rfl hbx (by have := hl5.out; omega) (by simp; omega) ?_; intro v1 w1 hown1 hg1)
      have hbel1 : Below w.heap.size w w1 := (hbel.alloc hsz _).grown hg1 (by simp; omega) (fun q e => (hown.lt q e).1)
      rw [← HS.out] at hown1
      clear hbx hown hg1 hbel e0 d3 H1
      go_wp2
      go_roundw
      case rel => exact ⟨j + 1, by omega, by go_num, hown1, hbel1⟩
      case measure => simp [intOf]; omega
    · obtain rfl : j = n := by omega
      have HT : Hid (NL.take j = NL) := Lib.hid (List.take_of_length_le (by rw [HNL.out]; exact Nat.le_refl _))
      rw [HT.out] at hown
      obtain ⟨A2, c2, rfl, _, _, _⟩ := hown.row
      go_wp2
      go_ret
      exact ⟨_, rfl, hown, hbel⟩

/-- The document's New. -/
theorem refNew_no (r : Int) (w : World) (hr : r < 0 ∨ 16777216 < r) :
    Calls Try.prog 11 #[.int .i64 r] w fun e w' => e = .returned (.tuple #[.pointer none, .int .i64 3]) ∧ w = w' := by
  rcases hr with hr | hr
  · go_enter Try.func11, Try.ntmps11
    go_wp2
    go_ret2
    exact ⟨rfl, rfl⟩
  · have hr2 : ¬ r < 0 := by omega
    have hr3 : r > 16777216 := hr
    go_enter Try.func11, Try.ntmps11
    go_wp2
    go_ret2
    exact ⟨rfl, rfl⟩
theorem refNew_yes (r : Nat) (w : World) (hr : r ≤ 16777216) :
    Calls Try.prog 11 #[.int .i64 r] w fun e w' => e = .returned (.tuple #[.pointer (some ⟨w.heap.size, 0, none⟩), .int .i64 0]) ∧ RDx w' w.heap.size (.slice none 0 0) [] (newD r) ∧ Below w.heap.size w w' := by
  have hr2 : ¬ (r : Int) < 0 := by omega
  have hr3 : ¬ (r : Int) > 16777216 := by omega
  have HX := Lib.hid (heap_alloc_new w (.cells #[.int .i64 (r : Int), .int .i64 (-1), .bool false, .slice none 0 0] 65))
  go_enter Try.func11, Try.ntmps11
  go_wp2
  go_ret2
  refine ⟨rfl, ⟨HX.out, FmOwn.nil _ _, rfl, fun i h1 _ => absurd h1 (Nat.not_lt_zero _), fun e => (nomatch e), fun m hm => (nomatch hm)⟩, bel_alloc _ _⟩
end Go.Proofs.Ytfclgjdlkcmnfaa
