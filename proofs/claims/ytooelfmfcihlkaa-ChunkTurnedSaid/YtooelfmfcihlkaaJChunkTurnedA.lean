/-
  Texts of the proof of ChunkTurned, joined.
-/
import Derived.WalkKit
import Derived.WalkSpells
import Derived.WalkLawsBesides
import Derived.Outline
import Derived.Lib.Hide
import Derived.Deep.QuietTactic
import Derived.BigQuiet
import Derived.Deep.Draws
import Derived.ProofKit
import Derived.OpenShut
import Derived.ShutString
import Derived.ChangeOld
import Derived.SizedLaws
import Derived.Test.YtooelfmfcihlkaaRows
import Derived.Deep.AppendLies
import Derived.Test.YtooelfmfcihlkaaProg
import Derived.Lib.Bytes
import Derived.Lib.SlBytesConst
import Derived.Laws.AppendOwn
namespace Go.Proofs.Ytooelfmfcihlkaa
open Go.RowKit

/-- The i-th number of a list, behind a name that the walk's simp does not open. -/
def nth (l : List Int) (i : Nat) : Int := l.getD i 0
theorem nth_eq (l : List Int) (i : Nat) (h : i < l.length) : nth l i = l[i] := by simp [nth, List.getD_eq_getElem?_getD, List.getElem?_eq_getElem h]
theorem nth_mem (l : List Int) (i : Nat) (h : i < l.length) : nth l i ∈ l := by rw [nth_eq l i h]; exact List.getElem_mem h
theorem nth_left (l m : List Int) (i : Nat) (h : i < l.length) : nth (l ++ m) i = nth l i := by
  rw [nth_eq _ _ h, nth_eq _ _ (by simp; omega)]; exact List.getElem_append_left h
theorem nth_right (l m : List Int) (i : Nat) : nth (l ++ m) (l.length + i) = nth m i := by
  simp [nth, List.getD_eq_getElem?_getD, List.getElem?_append_right]
theorem nth_replicate (n i : Nat) (v : Int) (h : i < n) : nth (List.replicate n v) i = v := by rw [nth_eq _ _ (by simpa using h)]; simp
theorem ext_nth (a b : List Int) (hl : a.length = b.length) (h : ∀ i, i < a.length → nth a i = nth b i) : a = b := by
  refine List.ext_getElem hl fun i h1 h2 => ?_
  rw [← nth_eq a i h1, ← nth_eq b i h2]; exact h i h1

/-- The cells of a row of integers. -/
def blk (k : IntKind) (l : List Int) : Array Value := (l.map (Value.int k)).toArray

theorem blk_size (k : IntKind) (l : List Int) : (blk k l).size = l.length := by simp [blk]
theorem blk_get (k : IntKind) (l : List Int) (i : Nat) (h : i < l.length) : (blk k l)[i]? = some (.int k (nth l i)) := by
  simp [blk, List.getElem?_eq_getElem h, nth_eq l i h]
theorem blk_set (k : IntKind) (l : List Int) (i : Nat) (v : Int) : (blk k l).setIfInBounds i (.int k v) = blk k (l.set i v) := by
  simp [blk, List.map_set]

/-- A slice that reads as the list xs of integers of kind k, in blocks below B. -/
def Row (k : IntKind) (w : World) (B : Nat) (A : Option Addr) (xs : List Int) : Prop :=
  (∀ x ∈ xs, (Lit.int k x).wf = true) ∧ (0 < xs.length → ∃ b o, A = some ⟨b, o, none⟩ ∧ b < B ∧ ∀ i, i < xs.length → w.cell? ⟨b, o + i, none⟩ = some (.int k (nth xs i)))

theorem Row.keep {k : IntKind} {w w' : World} {B : Nat} {A : Option Addr} {xs : List Int} (h : Row k w B A xs) (hk : ∀ b o, b < B → w'.cell? ⟨b, o, none⟩ = w.cell? ⟨b, o, none⟩) : Row k w' B A xs := by
  refine ⟨h.1, fun hn => ?_⟩
  obtain ⟨b, o, e, hb, hc⟩ := h.2 hn
  exact ⟨b, o, e, hb, fun i hi => (hk _ _ hb).trans (hc i hi)⟩
theorem Row.more {k : IntKind} {w : World} {B B' : Nat} {A : Option Addr} {xs : List Int} (h : Row k w B A xs) (hB : B ≤ B') : Row k w B' A xs := by
  refine ⟨h.1, fun hn => ?_⟩
  obtain ⟨b, o, e, hb, hc⟩ := h.2 hn
  exact ⟨b, o, e, by omega, hc⟩
theorem Row.below {k : IntKind} {w w' : World} {B : Nat} {A : Option Addr} {xs : List Int} (h : Row k w B A xs) (hb : Below B w w') : Row k w' B A xs :=
  h.keep fun b o hlt => hb.cell (p := ⟨b, o, none⟩) hlt
theorem Row.alloc {k : IntKind} {w : World} {B : Nat} {A : Option Addr} {xs : List Int} (h : Row k w B A xs) (hB : B ≤ w.heap.size) (o : Obj) : Row k (w.alloc o) B A xs :=
  h.below ((Below.refl _ _).alloc hB o)
theorem Row.drewN {k : IntKind} {w : World} {B : Nat} {A : Option Addr} {xs : List Int} (h : Row k w B A xs) (n : Nat) : Row k (w.drewN n) B A xs := h
theorem Row.nil (k : IntKind) (w : World) (B : Nat) (A : Option Addr) : Row k w B A [] := ⟨by simp, by simp⟩
/-- A row that lies at the head of a new block. -/
theorem Row.new (k : IntKind) (w : World) (t : TypeId) (l xs : List Int) (hw : ∀ x ∈ xs, (Lit.int k x).wf = true) (hp : xs <+: l) :
    Row k (w.alloc (.cells (blk k l) t)) (w.heap.size + 1) (some ⟨w.heap.size, 0, none⟩) xs := by
  obtain ⟨ys, rfl⟩ := hp
  refine ⟨hw, fun _ => ⟨_, _, rfl, Nat.lt_succ_self _, fun i hi => ?_⟩⟩
  rw [World.cell?_alloc_at _ _ _ _ rfl, Nat.zero_add, blk_get _ _ _ (by simp; omega), nth_left _ _ _ hi]
/-- A row at the head of a block that is known whole, whatever of it is frozen. -/
theorem Row.of_block {k : IntKind} {w : World} {g : Nat} {t : TypeId} {fr : Nat × Nat} {l : List Int} (hg : w.heap[g]? = some (.cells (blk k l) t fr)) (xs : List Int) (hw : ∀ x ∈ xs, (Lit.int k x).wf = true) (hp : xs <+: l) :
    Row k w (g + 1) (some ⟨g, 0, none⟩) xs := by
  obtain ⟨ys, rfl⟩ := hp
  refine ⟨hw, fun _ => ⟨_, _, rfl, Nat.lt_succ_self _, fun i hi => ?_⟩⟩
  rw [Nat.zero_add, cell_of_row w g i _ _ _ hg, blk_get _ _ _ (by simp; omega), nth_left _ _ _ hi]
/-- One cell of a row, for the walk. -/
theorem Row.at_ {k : IntKind} {w : World} {B : Nat} {A : Option Addr} {xs : List Int} (h : Row k w B A xs) {i : Nat} (hi : i < xs.length) :
    ∃ b o, A = some ⟨b, o, none⟩ ∧ b < B ∧ w.cell? ⟨b, o + i, none⟩ = some (.int k (nth xs i)) := by
  obtain ⟨b, o, e, hb, hc⟩ := h.2 (by omega)
  exact ⟨b, o, e, hb, hc i hi⟩
theorem Row.wf_at {k : IntKind} {w : World} {B : Nat} {A : Option Addr} {xs : List Int} (h : Row k w B A xs) {i : Nat} (hi : i < xs.length) : (Lit.int k (nth xs i)).wf = true := h.1 _ (nth_mem _ _ hi)

theorem wf_u8 {n : Int} (h : (Lit.int .u8 n).wf = true) : 0 ≤ n ∧ n < 256 := by
  simp [Lit.wf, IntKind.min, IntKind.max, IntKind.signed, IntKind.bits] at h; omega
theorem wf_u16 {n : Int} (h : (Lit.int .u16 n).wf = true) : 0 ≤ n ∧ n < 65536 := by
  simp [Lit.wf, IntKind.min, IntKind.max, IntKind.signed, IntKind.bits] at h; omega
theorem wf_u64 {n : Int} (h : (Lit.int .u64 n).wf = true) : 0 ≤ n ∧ n < 18446744073709551616 := by
  simp [Lit.wf, IntKind.min, IntKind.max, IntKind.signed, IntKind.bits] at h; omega
theorem wf_i64 {n : Int} (h : (Lit.int .i64 n).wf = true) : -9223372036854775808 ≤ n ∧ n < 9223372036854775808 := by
  simp [Lit.wf, IntKind.min, IntKind.max, IntKind.signed, IntKind.bits] at h; omega

theorem wf_append {k : IntKind} {xs ys : List Int} (h : ∀ x ∈ xs, (Lit.int k x).wf = true) (h' : ∀ x ∈ ys, (Lit.int k x).wf = true) : ∀ x ∈ xs ++ ys, (Lit.int k x).wf = true := fun x hx => (List.mem_append.1 hx).elim (h x) (h' x)
theorem take_step (xs : List Int) (k : Nat) (h : k < xs.length) : xs.take (k + 1) = xs.take k ++ [nth xs k] := by
  rw [List.take_succ_eq_append_getElem h, nth_eq xs k h]
/-- The k-th place of what is filled up to k is written. -/
theorem set_step (l : List Int) (m k : Nat) (v x : Int) (h : l.length = k) : (l ++ List.replicate (m + 1) v).set k x = l ++ [x] ++ List.replicate m v := by
  rw [List.set_append_right _ _ (by omega)]
  simp [h, List.replicate_succ]
theorem fill_cell (k : IntKind) (l : List Int) (m i : Nat) (v : Int) (h : l.length = i) (hm : 0 < m) : (blk k (l ++ List.replicate m v))[i]? = some (.int k v) := by
  rw [blk_get _ _ _ (by simp; omega)]
  subst h
  have := nth_right l (List.replicate m v) 0
  rw [Nat.add_zero] at this
  rw [this, nth_replicate _ _ _ hm]
end Go.Proofs.Ytooelfmfcihlkaa
namespace Go.Proofs.Ytooelfmfcihlkaa
open Go.ChangeShapes Go.WideShapes Go.ChangeAt Go.RowKit

theorem row_in {H : Type} {enc : TypeId × Value → H} {P : Program} {W : World} {t e : TypeId} {k : IntKind} {a : Option Addr} {len cap : Nat} {d : DataW H} {p : List MemPlace}
    (ht : P.underlying t = some (.slice e)) (he : P.underlying e = some (.int k)) (hc : P.cellsOf e = 1)
    (h : DataW.Trod enc P W 0 (fun _ => true) true t (.slice a len cap) d p) (lt : ∀ x ∈ p, x.block < W.heap.size) :
    ∃ xs, Row k W W.heap.size a xs ∧ xs.length = len ∧ len ≤ cap ∧ (cap = 0 ∨ ∃ el sp, d = .slice el sp ∧ cap ≤ el.length + sp.length) := by
  obtain ⟨fuel, hf⟩ := h
  rcases open_ints ht he hc hf with ⟨hcs, _⟩ | ⟨x, l, c, zs, hcs, _, hl, hm, hz, hx, hcell, hwz⟩
  · simp [Value.cells] at hcs
    obtain ⟨rfl, rfl, rfl⟩ := hcs
    exact ⟨[], Row.nil _ _ _ _, rfl, Nat.le_refl _, .inl rfl⟩
  · simp [Value.cells] at hcs
    obtain ⟨rfl, rfl, rfl⟩ := hcs
    simp only [if_true] at hz
    simp only [Prod.mk.injEq] at hx
    obtain ⟨rfl, rfl⟩ := hx
    refine ⟨zs.take len, ⟨fun v hv => hwz v (List.mem_of_mem_take hv), fun hn => ?_⟩, by simp; omega, hl, .inr ⟨_, _, rfl, by simp [lits]; omega⟩⟩
    have hpos : 0 < zs.length := by simp at hn; omega
    have hb := lt (.cell x.block x.off) (MemPlace.mem_row.2 ⟨0, hpos, by simp⟩)
    obtain ⟨b, off, rfl, hc'⟩ := ints_at hcell hpos
    refine ⟨b, off, rfl, hb, fun i hi => ?_⟩
    have hi' : i < len ∧ i < zs.length := by simp at hi; omega
    rw [hc' i hi'.2, nth, List.getD_eq_getElem?_getD, List.getD_eq_getElem?_getD, List.getElem?_take_of_lt hi'.1]

theorem reach_in {H : Type} {P : Program} {ts : List TypeId} {ds : List (DataW H)} (hsz : (DataW.weightsEach P ts ds).all (· ≤ reachBytes) = true) (j : Nat) {t e : TypeId} {d : DataW H} {cap : Nat} (ht : ts[j]? = some t) (hd : ds[j]? = some d)
    (hu : P.underlying t = some (.slice e)) (hb : 0 < P.bytesOf e) (h : cap = 0 ∨ ∃ el sp, d = .slice el sp ∧ cap ≤ el.length + sp.length) : cap ≤ 140737488351232 := by
  rcases h with rfl | ⟨el, sp, rfl, hle⟩
  · omega
  · have := sized_slice hsz ht hd hu
    have h2 : el.length + sp.length ≤ (el.length + sp.length) * P.bytesOf e := Nat.le_mul_of_pos_right _ hb
    simp only [reachBytes] at this
    omega
end Go.Proofs.Ytooelfmfcihlkaa
namespace Go.Proofs.Ytooelfmfcihlkaa

/-- A register goes down by one bit. -/
def dn (p r : Nat) : Nat := if r % 2 = 1 then r / 2 ^^^ p else r / 2
/-- It goes down by k bits. -/
def dnN (p : Nat) : Nat → Nat → Nat
  | 0, r => r
  | k + 1, r => dn p (dnN p k r)
/-- It takes a byte. -/
def tk (p r v : Nat) : Nat := dnN p 8 (r ^^^ v)
/-- It takes all bytes of a list. -/
def tkAll (p r : Nat) (l : List Int) : Nat := l.foldl (fun r v => tk p r v.toNat) r

theorem tkAll_snoc (p r : Nat) (l : List Int) (v : Int) : tkAll p r (l ++ [v]) = tk p (tkAll p r l) v.toNat := by simp [tkAll]
theorem tkAll_append (p r : Nat) (l m : List Int) : tkAll p r (l ++ m) = tkAll p (tkAll p r l) m := by simp [tkAll]

theorem dn_lt {p b r : Nat} (hp : p < 2 ^ b) (hr : r < 2 ^ b) : dn p r < 2 ^ b := by
  unfold dn
  split
  · exact Nat.xor_lt_two_pow (by omega) hp
  · omega
theorem dnN_lt {p b r : Nat} (hp : p < 2 ^ b) (hr : r < 2 ^ b) (k : Nat) : dnN p k r < 2 ^ b := by
  induction k with
  | zero => exact hr
  | succ k ih => exact dn_lt hp ih
theorem tk_lt {p b r v : Nat} (hp : p < 2 ^ b) (hr : r < 2 ^ b) (hv : v < 2 ^ b) : tk p r v < 2 ^ b := dnN_lt hp (Nat.xor_lt_two_pow hr hv) 8
theorem tkAll_lt {p b r : Nat} (hp : p < 2 ^ b) (hr : r < 2 ^ b) (h8 : 256 ≤ 2 ^ b) (l : List Int) (hl : ∀ v ∈ l, v.toNat < 256) : tkAll p r l < 2 ^ b := by
  induction l generalizing r with
  | nil => exact hr
  | cons v l ih => exact ih (tk_lt hp hr (Nat.lt_of_lt_of_le (hl v (by simp)) h8)) fun x hx => hl x (by simp [hx])

/- Linearity: what is laid over goes through. -/
theorem xor_mod2 (a b : Nat) : (a ^^^ b) % 2 = (a % 2 + b % 2) % 2 := by
  have h := Nat.xor_mod_two_pow (a := a) (b := b) (n := 1)
  rw [Nat.pow_one] at h
  rw [h]
  have ha : a % 2 = 0 ∨ a % 2 = 1 := by omega
  have hb : b % 2 = 0 ∨ b % 2 = 1 := by omega
  rcases ha with ha | ha <;> rcases hb with hb | hb <;> simp [ha, hb]
theorem xor_div2 (a b : Nat) : (a ^^^ b) / 2 = a / 2 ^^^ b / 2 := by
  have := Nat.shiftRight_xor_distrib (a := a) (b := b) (i := 1)
  simpa [Nat.shiftRight_eq_div_pow] using this
theorem dn_xor (p a b : Nat) : dn p (a ^^^ b) = dn p a ^^^ dn p b := by
  unfold dn
  rw [xor_mod2, xor_div2]
  have ha : a % 2 = 0 ∨ a % 2 = 1 := by omega
  have hb : b % 2 = 0 ∨ b % 2 = 1 := by omega
  rcases ha with ha | ha <;> rcases hb with hb | hb <;> simp [ha, hb]
  · rw [Nat.xor_assoc]
  · rw [Nat.xor_assoc, Nat.xor_comm (b / 2) p, ← Nat.xor_assoc]
  · rw [Nat.xor_assoc, ← Nat.xor_assoc p, Nat.xor_comm p, Nat.xor_assoc, Nat.xor_self, Nat.xor_zero]
theorem dnN_xor (p k a b : Nat) : dnN p k (a ^^^ b) = dnN p k a ^^^ dnN p k b := by
  induction k with
  | zero => rfl
  | succ k ih => simp only [dnN, ih, dn_xor]
theorem dn_zero (p : Nat) : dn p 0 = 0 := by simp [dn]
theorem dnN_zero (p k : Nat) : dnN p k 0 = 0 := by
  induction k with
  | zero => rfl
  | succ k ih => simp only [dnN, ih, dn_zero]
theorem dnN_add (p k m r : Nat) : dnN p (k + m) r = dnN p k (dnN p m r) := by
  induction k with
  | zero => simp [dnN]
  | succ k ih => rw [Nat.succ_add]; simp only [dnN, ih]

/- No two registers go down to the same: the sum's own number has its highest bit. -/
theorem dn_inj0 {p b r : Nat} (hp1 : 2 ^ b ≤ p) (hr : r < 2 ^ (b + 1)) (h : dn p r = 0) : r = 0 := by
  unfold dn at h
  split at h
  · have h1 : r / 2 = p := by
      have := congrArg (· ^^^ p) h
      simpa [Nat.xor_assoc] using this
    have : 2 ^ (b + 1) = 2 * 2 ^ b := by rw [Nat.pow_succ]; omega
    omega
  · omega
theorem dnN_inj0 {p b : Nat} (hp1 : 2 ^ b ≤ p) (hp2 : p < 2 ^ (b + 1)) (k : Nat) {r : Nat} (hr : r < 2 ^ (b + 1)) (h : dnN p k r = 0) : r = 0 := by
  induction k with
  | zero => exact h
  | succ k ih => exact ih (dn_inj0 hp1 (dnN_lt hp2 hr k) h)
end Go.Proofs.Ytooelfmfcihlkaa
namespace Go.Proofs.Ytooelfmfcihlkaa
open Go.RowKit

theorem info_u8 : (Try.prog.info? 5).map (fun i => (i.zero, i.size, i.bytes)) = some (some (.int .u8 0), 1, 1) := by kernel_rfl

theorem made_zero (z : Int) (n : Nat) : madeCells (Value.int .u8 z).cells (n * 1) = blk .u8 (List.replicate n z) := by
  apply Array.toList_inj.1
  rw [show (Value.int .u8 z).cells = #[Value.int .u8 z] from rfl, toList_madeCells_one, Nat.mul_one]
  simp [blk]

theorem make_u8 (n : Nat) (hn : n ≤ 140737488355328) (W : World) :
    (Instr.makeSlice 22 (.int .i64 (n : Int)) (.int .i64 (n : Int))).run Try.prog W = .ok (.slice (some ⟨W.heap.size, 0, none⟩) n n) (W.alloc (.cells (blk .u8 (List.replicate n 0)) 5)) := by
  obtain ⟨i, hi, hz, hs, hb⟩ := info_parts info_u8
  have h := run_make (P := Try.prog) W 22 5 i (.int .u8 0) Try.underlying22 hi hz .i64 .i64 n n (by omega) (by omega) (by rw [hb]; omega) (by omega)
  rw [h, hs, Int.toNat_natCast, made_zero]

def marks5 : List Int := [165, 165, 165, 165, 165]

/-- LentBytes: the same list in a new block, five marks behind it. -/
theorem lent_u8 (A : Option Addr) (n c : Nat) (xs : List Int) (w : World) (hr : Row .u8 w w.heap.size A xs) (hn : xs.length = n) (hb : n ≤ 140737488351232) : 
    Calls Try.prog 10 #[.slice A n c] w fun e w' => e = .returned (.slice (some ⟨w.heap.size, 0, none⟩) n (n+5)) ∧ w' = w.alloc (.cells (blk .u8 (xs ++ marks5)) 5) := by
  have hmk := make_u8 (n + 5) (by omega)
  rw [show ((n + 5 : Nat) : Int) = (n : Int) + 5 by omega] at hmk
  go_enter Try.func10, Try.ntmps10
  go_wp2
  go_loopw [4] (fun i wr => ∃ k : Nat, k ≤ n ∧ i = .int .i64 k ∧ wr = w.alloc (.cells (blk .u8 (xs.take k ++ List.replicate (n + 5 - k) 0)) 5)) (fun i _ => n - (intOf i).toNat)
  case atStart => exact ⟨0, by omega, rfl, by simp⟩
  case round =>
    obtain ⟨k, hk, rfl, rfl⟩ := hrel
    by_cases hlt : k < n
    · obtain ⟨b, o, rfl, hb1, hc1⟩ := hr.at_ (i := k) (by omega)
      have hc2 := fill_cell .u8 (xs.take k) (n + 5 - k) k 0 (by simp; omega) (by omega)
      have HS := Lib.hid (set_step (xs.take k) (n + 5 - (k + 1)) k 0 (nth xs k) (by simp; omega))
      go_wp2
      go_roundw
      case rel => exact ⟨k + 1, by omega, by go_num, by rw [blk_set, show n + 5 - k = (n + 5 - (k + 1)) + 1 by omega, HS.out, take_step xs k (by omega)]⟩
      case measure => simp [intOf]; omega
    · obtain rfl : k = n := by omega
      have hx : xs.take k = xs := List.take_of_length_le (by omega)
      rw [hx, show k + 5 - k = 5 by omega]
      clear hx hlt hk
      go_wp2
      go_loopw [5] (fun i wr => ∃ (j : Nat) (L : List Int), j ≤ 5 ∧ i = .int .i64 (k + j : Nat) ∧ Hid (L = xs ++ List.replicate j 165 ++ List.replicate (5 - j) 0) ∧ wr = w.alloc (.cells (blk .u8 L) 5)) (fun i _ => k + 5 - (intOf i).toNat)
      case atStart => exact ⟨0, _, by omega, rfl, Lib.hid (by simp), rfl⟩
      case round =>
        obtain ⟨j, L, hj, rfl, hL, rfl⟩ := hrel
        by_cases hlt : j < 5
        · have hc2 := fill_cell .u8 (xs ++ List.replicate j 165) (5 - j) (k + j) 0 (by simp; omega) (by omega)
          rw [← hL.out] at hc2
          have HS := Lib.hid (set_step (xs ++ List.replicate j 165) (5 - (j + 1)) (k + j) 0 165 (by simp; omega))
          go_wp2
          go_roundw
          case rel => exact ⟨j + 1, L.set (k + j) 165, by omega, by go_num, Lib.hid (by rw [hL.out, show 5 - j = (5 - (j + 1)) + 1 by omega, HS.out, List.replicate_succ', List.append_assoc xs]), by rw [blk_set]⟩
          case measure => simp [intOf]; omega
        · obtain rfl : j = 5 := by omega
          go_wp2
          go_ret
          exact ⟨rfl, by rw [hL.out]; simp [marks5, List.replicate]⟩

/-- SameBytes, where the lists are the same. -/
theorem same_yes_u8 (A A' : Option Addr) (n c c' : Nat) (xs : List Int) (w : World) (B B' : Nat) (hr : Row .u8 w B A xs) (hr' : Row .u8 w B' A' xs) (hn : xs.length = n) (hb : n ≤ 140737488355328) :
    Calls Try.prog 17 #[.slice A n c, .slice A' n c'] w fun e w' => e = .returned (.bool true) ∧ ∃ m, w' = w.drewN m := by
  go_enter Try.func17, Try.ntmps17
  go_wp2
  go_loopw [5] (fun i wr => ∃ k nq : Nat, k ≤ n ∧ i = .int .i64 k ∧ wr = w.drewN nq) (fun i _ => n - (intOf i).toNat)
  case atStart => exact ⟨0, 0, by omega, rfl, rfl⟩
  case round =>
    obtain ⟨k, nq, hk, rfl, rfl⟩ := hrel
    by_cases hlt : k < n
    · obtain ⟨b, o, rfl, hb1, hc1⟩ := hr.at_ (i := k) (by omega)
      obtain ⟨b', o', rfl, hb1', hc1'⟩ := hr'.at_ (i := k) (by omega)
      have hlt' : (k : Int) < (n : Int) := by omega
      go_wp2
      go_quiet (fail)
      go_wp2
      go_roundw
      case rel => exact ⟨k + 1, _, by omega, by go_num, rfl⟩
      case measure => simp [intOf]; omega
    · go_wp2
      go_ret
      exact ⟨rfl, nq, rfl⟩

/-- KeptBytes, where the list is in memory of its own with its five marks behind it. -/
theorem kept_u8 (A : Option Addr) (n c g : Nat) (xs : List Int) (w : World) (B : Nat) (hr : Row .u8 w B A xs) (hn : xs.length = n) (hb : n ≤ 140737488351232)
    (hg : w.heap[g]? = some (.cells (blk .u8 (xs ++ marks5)) 5 (0, 0))) :
    Calls Try.prog 20 #[.slice (some ⟨g, 0, none⟩) n (n + 5), .slice A n c] w fun e w' => e = .returned (.bool true) ∧ ∃ m, w' = w.drewN m := by
  have hcell : ∀ i, w.cell? ⟨g, i, none⟩ = (blk .u8 (xs ++ marks5))[i]? := fun i => cell_of_row w g i _ _ _ hg
  have hrow : Row .u8 w (g + 1) (some ⟨g, 0, none⟩) xs := by
    refine ⟨hr.1, fun _ => ⟨_, _, rfl, Nat.lt_succ_self _, fun i hi => ?_⟩⟩
    rw [Nat.zero_add, hcell, blk_get _ _ _ (by simp; omega), nth_left _ _ _ hi]
  have hmark : ∀ j, j < 5 → w.cell? ⟨g, n + j, none⟩ = some (.int .u8 165) := by
    intro j hj
    rw [hcell, blk_get _ _ _ (by simp [marks5]; omega), ← hn, nth_right]
    rcases j with _ | _ | _ | _ | _ | j <;> first | rfl | omega
  have HM := Lib.hid hmark
  clear hcell hmark hg
  go_enter Try.func20, Try.ntmps20
  go_wp2_with (go_at_call 17; refine (same_yes_u8 _ _ _ _ _ xs _ _ _ hrow hr hn (by omega)).mono ?_; rintro e w' ⟨rfl, m, rfl⟩)
  go_loop [6] (fun i => ∃ j : Nat, j ≤ 5 ∧ i = .int .i64 (n + j : Nat)) (fun i => n + 5 - (intOf i).toNat)
  case atStart => exact ⟨0, by omega, rfl⟩
  case round =>
    obtain ⟨j, hj, rfl⟩ := hrel
    by_cases hlt : j < 5
    · have hc := HM.out j hlt
      go_wp2
      go_round
      case rel => exact ⟨j + 1, by omega, by go_num⟩
      case measure => simp [intOf]; omega
    · go_wp2
      go_ret
      exact ⟨rfl, m, rfl⟩
end Go.Proofs.Ytooelfmfcihlkaa
namespace Go.Proofs.Ytooelfmfcihlkaa
open Go.RowKit

theorem cast_inj {k : IntKind} {a b : Int} (h : a = b) : Ending.returned (.int k a) = .returned (.int k b) := by rw [h]
theorem toNat_u8 {xs : List Int} (h : ∀ x ∈ xs, (Lit.int .u8 x).wf = true) : ∀ x ∈ xs, x.toNat < 256 := fun x hx => by have := wf_u8 (h x hx); omega

theorem and1_16 (r : Nat) (hr : r < 65536) : bits .and .u16 (r : Int) 1 = ((r % 2 : Nat) : Int) := by
  have := u16_and_nat r 1 hr (by omega)
  rw [nat_mask1] at this
  exact this
theorem xor_16 (a b : Nat) (ha : a < 65536) (hb : b < 65536) : bits .xor .u16 (a : Int) (b : Int) = ((a ^^^ b : Nat) : Int) := u16_xor_nat a b ha hb

end Go.Proofs.Ytooelfmfcihlkaa
namespace Go.Proofs.Ytooelfmfcihlkaa
open Go.RowKit
theorem and1_32 (r : Nat) (hr : r < 4294967296) : bits .and .u32 (r : Int) 1 = ((r % 2 : Nat) : Int) := by
  have := u32_and_nat r 1 hr (by omega)
  rw [nat_mask1] at this
  exact this
theorem xor_32 (a b : Nat) (ha : a < 4294967296) (hb : b < 4294967296) : bits .xor .u32 (a : Int) (b : Int) = ((a ^^^ b : Nat) : Int) := u32_xor_nat a b ha hb

theorem down_32 (r o : Nat) (hr : r < 4294967296) (ho : o < 4294967296) (w : World) :
    Calls Try.prog 36 #[.int .u32 r, .int .u32 o] w fun e w' => e = .returned (.int .u32 (dn o r : Nat)) ∧ w = w' := by
  by_cases h : r % 2 = 1
  · have ht : (bits .and .u32 (r : Int) 1 == 1) = true := by rw [and1_32 r hr, h]; rfl
    have hx : Hid (bits .xor .u32 ((r : Int) / 2) o = ((dn o r : Nat) : Int)) := by
      have := xor_32 (r / 2) o (by omega) ho
      show _ = _
      rw [dn, if_pos h, ← this]; rfl
    clear h
    go_enter Try.func36, Try.ntmps36
    go_wp2
    go_ret
    exact ⟨cast_inj hx.out, rfl⟩
  · have ht : (bits .and .u32 (r : Int) 1 == 1) = false := by rw [and1_32 r hr, show r % 2 = 0 by omega]; rfl
    have hx : Hid ((r : Int) / 2 = ((dn o r : Nat) : Int)) := by
      show _ = _
      rw [dn, if_neg h]; rfl
    clear h
    go_enter Try.func36, Try.ntmps36
    go_wp2
    go_ret
    exact ⟨cast_inj hx.out, rfl⟩

theorem take_32 (r o : Nat) (v : Int) (hr : r < 4294967296) (ho : o < 4294967296) (hv : (Lit.int .u8 v).wf = true) (w : World) :
    Calls Try.prog 35 #[.int .u32 r, .int .u32 o, .int .u8 v] w fun e w' => e = .returned (.int .u32 (tk o r v.toNat : Nat)) ∧ w = w' := by
  have hv' := wf_u8 hv
  obtain ⟨v, rfl⟩ := Int.eq_ofNat_of_zero_le hv'.1
  have hv2 : v < 256 := by omega
  have hx := xor_32 r v hr (by omega)
  clear hv hv'
  go_enter Try.func35, Try.ntmps35
  go_wp2
  go_loop [0, 11] (fun t i => ∃ k : Nat, k ≤ 8 ∧ i = .int .i64 k ∧ t = .int .u32 (dnN o k (r ^^^ v) : Nat)) (fun _ i => 8 - (intOf i).toNat)
  case atStart => exact ⟨0, by omega, rfl, rfl⟩
  case round =>
    obtain ⟨k, hk, rfl, rfl⟩ := hrel
    by_cases hlt : k < 8
    · have hb : dnN o k (r ^^^ v) < 4294967296 := dnN_lt (b := 32) ho (Nat.xor_lt_two_pow hr (by omega)) k
      go_wp2_with (go_at_call 36; refine (down_32 _ _ hb ho _).mono ?_; rintro e w' ⟨rfl, rfl⟩)
      go_round
      case rel => exact ⟨k + 1, by omega, by go_num, rfl⟩
      case measure => simp [intOf]; omega
    · obtain rfl : k = 8 := by omega
      go_wp2
      go_ret
      exact ⟨rfl, rfl⟩

theorem takeAll_32 (r o : Nat) (A : Option Addr) (n c : Nat) (xs : List Int) (hr : r < 4294967296) (ho : o < 4294967296) (w : World) (B : Nat) (hx : Row .u8 w B A xs) (hn : xs.length = n) (hm : n ≤ 140737488355328) :
    Calls Try.prog 34 #[.int .u32 r, .int .u32 o, .slice A n c] w fun e w' => e = .returned (.int .u32 (tkAll o r xs : Nat)) ∧ w = w' := by
  go_enter Try.func34, Try.ntmps34
  go_wp2
  go_loop [0, 11] (fun t i => ∃ k : Nat, k ≤ n ∧ i = .int .i64 k ∧ t = .int .u32 (tkAll o r (xs.take k) : Nat)) (fun _ i => n - (intOf i).toNat)
  case atStart => exact ⟨0, by omega, rfl, rfl⟩
  case round =>
    obtain ⟨k, hk, rfl, rfl⟩ := hrel
    by_cases hlt : k < n
    · obtain ⟨b, of, rfl, hb1, hc1⟩ := hx.at_ (i := k) (by omega)
      have hwf := hx.wf_at (i := k) (by omega)
      have hb : tkAll o r (xs.take k) < 4294967296 := tkAll_lt (b := 32) ho hr (by decide) _ fun x hm => toNat_u8 hx.1 x (List.mem_of_mem_take hm)
      have HS := Lib.hid (tkAll_snoc o r (xs.take k) (nth xs k))
      rw [← take_step xs k (by omega)] at HS
      go_wp2_with (go_at_call 35; refine (take_32 _ _ _ hb ho hwf _).mono ?_; rintro e w' ⟨rfl, rfl⟩)
      go_round
      case rel => exact ⟨k + 1, by omega, by go_num, by rw [HS.out]⟩
      case measure => simp [intOf]; omega
    · have hl : Hid (xs.take k = xs) := List.take_of_length_le (by omega)
      go_wp2
      go_ret
      exact ⟨cast_inj (by rw [hl.out]), rfl⟩

theorem not_32 (r : Nat) (hr : r < 4294967296) : bits .xor .u32 IntKind.u32.max (r : Int) = ((4294967295 ^^^ r : Nat) : Int) := u32_xor_nat 4294967295 r (by omega) hr
theorem not_lt_32 {r : Nat} (hr : r < 4294967296) : 4294967295 ^^^ r < 4294967296 := Nat.xor_lt_two_pow (n := 32) (by omega) hr
/-- The sum of 32 bits that goes on: the register's bits are turned ahead and behind. -/
def more32 (r : Nat) (xs : List Int) : Nat := 4294967295 ^^^ tkAll 3988292384 (4294967295 ^^^ r) xs
theorem more32_lt (r : Nat) (xs : List Int) (hr : r < 4294967296) (h : ∀ x ∈ xs, (Lit.int .u8 x).wf = true) : more32 r xs < 4294967296 :=
  not_lt_32 (tkAll_lt (b := 32) (by decide) (not_lt_32 hr) (by decide) _ (toNat_u8 h))
theorem signed_32 : IntKind.u32.signed = false := rfl
theorem more_32 (r : Nat) (A : Option Addr) (n c : Nat) (xs : List Int) (hr : r < 4294967296) (w : World) (B : Nat) (hx : Row .u8 w B A xs) (hn : xs.length = n) (hm : n ≤ 140737488355328) :
    Calls Try.prog 32 #[.int .u32 r, .slice A n c] w fun e w' => e = .returned (.int .u32 (more32 r xs : Nat)) ∧ w = w' := by
  have hs := signed_32
  have h1 := not_32 r hr
  have h3 := not_lt_32 hr
  have h2 := not_32 _ (tkAll_lt (b := 32) (p := 3988292384) (r := 4294967295 ^^^ r) (by decide) h3 (by decide) xs (toNat_u8 hx.1))
  go_enter Try.func32, Try.ntmps32
  go_wp2_with (go_at_call 34; refine (takeAll_32 (4294967295 ^^^ r) 3988292384 _ _ _ xs h3 (by omega) _ B hx hn hm).mono ?_; rintro e w' ⟨rfl, rfl⟩)
  go_ret
  exact ⟨rfl, rfl⟩
theorem crc_32 (A : Option Addr) (n c : Nat) (xs : List Int) (w : World) (B : Nat) (hx : Row .u8 w B A xs) (hn : xs.length = n) (hm : n ≤ 140737488355328) :
    Calls Try.prog 33 #[.slice A n c] w fun e w' => e = .returned (.int .u32 (more32 0 xs : Nat)) ∧ w = w' := by
  go_enter Try.func33, Try.ntmps33
  go_wp2_with (go_at_call 32; refine (more_32 0 _ _ _ xs (by omega) _ B hx hn hm).mono ?_; rintro e w' ⟨rfl, rfl⟩)
  go_ret
  exact ⟨rfl, rfl⟩

theorem refMore_32 (r : Nat) (A : Option Addr) (n c : Nat) (xs : List Int) (hr : r < 4294967296) (w : World) (B : Nat) (hx : Row .u8 w B A xs) (hn : xs.length = n) (hm : n ≤ 140737488355328) :
    Calls Try.prog 26 #[.int .u32 r, .slice A n c] w fun e w' => e = .returned (.int .u32 (more32 r xs : Nat)) ∧ w = w' := by
  have hs := signed_32
  have h1 := not_32 r hr
  have hr2 := not_lt_32 hr
  have h2 := not_32 _ (tkAll_lt (b := 32) (p := 3988292384) (r := 4294967295 ^^^ r) (by decide) hr2 (by decide) xs (toNat_u8 hx.1))
  go_enter Try.func26, Try.ntmps26
  go_wp2
  go_loop [5, 6, 7, 8] (fun t i _ _ => ∃ k : Nat, k ≤ n ∧ i = .int .i64 k ∧ t = .int .u32 (tkAll 3988292384 (4294967295 ^^^ r) (xs.take k) : Nat)) (fun _ i _ _ => n - (intOf i).toNat)
  case atStart => exact ⟨0, by omega, rfl, rfl⟩
  case round =>
    obtain ⟨k, hk, rfl, rfl⟩ := hrel
    by_cases hlt : k < n
    · obtain ⟨b, of, rfl, hb1, hc1⟩ := hx.at_ (i := k) (by omega)
      have hwf := wf_u8 (hx.wf_at (i := k) (by omega))
      have hb : tkAll 3988292384 (4294967295 ^^^ r) (xs.take k) < 4294967296 := tkAll_lt (b := 32) (by decide) hr2 (by decide) _ fun x hm => toNat_u8 hx.1 x (List.mem_of_mem_take hm)
      have HS := Lib.hid (tkAll_snoc 3988292384 (4294967295 ^^^ r) (xs.take k) (nth xs k))
      rw [← take_step xs k (by omega)] at HS
      have hv : (nth xs k).toNat < 256 := by omega
      generalize tkAll 3988292384 (4294967295 ^^^ r) (xs.take k) = q at *
      have hxr := xor_32 q (nth xs k).toNat hb (by omega)
      rw [Int.toNat_of_nonneg hwf.1] at hxr
      go_wp2
      clear hxr
      go_loop [5, 7, 8] (fun t i _ => ∃ j : Nat, j ≤ 8 ∧ i = .int .i64 j ∧ t = .int .u32 (dnN 3988292384 j (q ^^^ (nth xs k).toNat) : Nat)) (fun _ i _ => 8 - (intOf i).toNat)
      case atStart => exact ⟨0, by omega, rfl, rfl⟩
      case round =>
        obtain ⟨j, hj, rfl, rfl⟩ := hrel
        by_cases hlj : j < 8
        · have hb2 : dnN 3988292384 j (q ^^^ (nth xs k).toNat) < 4294967296 := dnN_lt (b := 32) (by decide) (Nat.xor_lt_two_pow hb (by omega)) j
          have HD : Hid (dnN 3988292384 (j + 1) (q ^^^ (nth xs k).toNat) = dn 3988292384 (dnN 3988292384 j (q ^^^ (nth xs k).toNat))) := rfl
          generalize dnN 3988292384 j (q ^^^ (nth xs k).toNat) = y at *
          by_cases hy : y % 2 = 1
          · have ht : ((y : Int) % 2 == 1) = true := by simp; omega
            have hd : Hid (bits .xor .u32 ((y : Int) / 2) 3988292384 = ((dn 3988292384 y : Nat) : Int)) := by
              have := xor_32 (y / 2) 3988292384 (by omega) (by omega)
              show _ = _
              rw [dn, if_pos hy, ← this]; rfl
            clear hy
            go_wp2
            go_round
            case rel => exact ⟨j + 1, by omega, by go_num, by rw [hd.out, HD.out]⟩
            case measure => simp [intOf]; omega
          · have ht : ((y : Int) % 2 == 1) = false := by simp; omega
            have hd : Hid ((y : Int) / 2 = ((dn 3988292384 y : Nat) : Int)) := by
              show _ = _
              rw [dn, if_neg hy]; rfl
            clear hy
            go_wp2
            go_round
            case rel => exact ⟨j + 1, by omega, by go_num, by rw [hd.out, HD.out]⟩
            case measure => simp [intOf]; omega
        · obtain rfl : j = 8 := by omega
          go_wp2
          go_round
          case rel => exact ⟨k + 1, by omega, by go_num, by rw [HS.out]; rfl⟩
          case measure => simp [intOf]; omega
    · have hl : xs.take k = xs := List.take_of_length_le (by omega)
      rw [hl]
      clear hl
      go_wp2
      go_ret
      exact ⟨rfl, rfl⟩
theorem refCrc_32 (A : Option Addr) (n c : Nat) (xs : List Int) (w : World) (B : Nat) (hx : Row .u8 w B A xs) (hn : xs.length = n) (hm : n ≤ 140737488355328) :
    Calls Try.prog 27 #[.slice A n c] w fun e w' => e = .returned (.int .u32 (more32 0 xs : Nat)) ∧ w = w' := by
  go_enter Try.func27, Try.ntmps27
  go_wp2_with (go_at_call 26; refine (refMore_32 0 _ _ _ xs (by omega) _ B hx hn hm).mono ?_; rintro e w' ⟨rfl, rfl⟩)
  go_ret
  exact ⟨rfl, rfl⟩
end Go.Proofs.Ytooelfmfcihlkaa
namespace Go.Proofs.Ytooelfmfcihlkaa
open Go.RowKit

/-- The slice v owns a row, in a block from base on, that holds the integers xs. -/
def Own (k : IntKind) (e : TypeId) (w : World) (base : Nat) (v : Value) (xs : List Int) : Prop := w.ownsRow base e 1 v xs.length (xs.map (Value.int k))

theorem Own.nil (k : IntKind) (e : TypeId) (w : World) (base : Nat) : Own k e w base (.slice none 0 0) [] := ⟨by simp, .inl ⟨rfl, rfl⟩⟩
theorem Own.alloc {k : IntKind} {e : TypeId} {w : World} {base : Nat} {v : Value} {xs : List Int} (h : Own k e w base v xs) (o : Obj) : Own k e (w.alloc o) base v xs := World.ownsRow.alloc h o
theorem Own.drewN {k : IntKind} {e : TypeId} {w : World} {base : Nat} {v : Value} {xs : List Int} (h : Own k e w base v xs) (n : Nat) : Own k e (w.drewN n) base v xs := h
theorem Own.block {k : IntKind} {e : TypeId} {w : World} {base : Nat} {v : Value} {xs : List Int} (h : Own k e w base v xs) : ∀ g, v.ownBlock = some g → base ≤ g ∧ g < w.heap.size := World.ownsRow.lt h
theorem Own.kept {k : IntKind} {e : TypeId} {w w' : World} {base : Nat} {v : Value} {xs : List Int} {row : Option Nat} (h : Own k e w base v xs) (hg : w.grownBy w' row) (hne : v.ownBlock = none ∨ v.ownBlock ≠ row) : Own k e w' base v xs := World.ownsRow.kept h hg hne
theorem Own.below {k : IntKind} {e : TypeId} {w w' : World} {base B : Nat} {v : Value} {xs : List Int} (h : Own k e w base v xs) (hb : Below B w w') (hB : w.heap.size ≤ B) : Own k e w' base v xs := by
  refine h.kept (row := none) ⟨hb.os, hb.tape, hb.output, hb.size, fun i hi _ => hb.block i (by omega)⟩ ?_
  cases hv : v.ownBlock with
  | none => exact .inl rfl
  | some g => exact .inr (by simp)
theorem Own.mono {k : IntKind} {e : TypeId} {w : World} {base base' : Nat} {v : Value} {xs : List Int} (h : Own k e w base v xs) (hb : base' ≤ base) : Own k e w base' v xs := by
  refine ⟨h.1, ?_⟩
  rcases h.2 with h0 | ⟨g, cap, cur, hv, h1, r⟩
  · exact .inl h0
  · exact .inr ⟨g, cap, cur, hv, by omega, r⟩
/-- What is owned is a slice that reads as its list. -/
theorem Own.row {k : IntKind} {e : TypeId} {w : World} {base : Nat} {v : Value} {xs : List Int} (h : Own k e w base v xs) (hw : ∀ x ∈ xs, (Lit.int k x).wf = true) :
    ∃ A c, v = .slice A xs.length c ∧ Row k w w.heap.size A xs ∧ xs.length ≤ c ∧ c ≤ maxLen := by
  rcases h.2 with ⟨rfl, h0⟩ | ⟨g, cap, cur, rfl, hb, hg, h1, h2, h3, h4⟩
  · have : xs = [] := List.eq_nil_of_length_eq_zero h0
    subst this
    exact ⟨none, 0, rfl, Row.nil _ _ _ _, by simp, by simp⟩
  · refine ⟨_, _, rfl, ⟨hw, fun _ => ⟨g, 0, rfl, ?_, fun i hi => ?_⟩⟩, h1, h2⟩
    · exact (Own.block (k := k) (e := e) (w := w) (base := base) (xs := xs) ⟨by simp, .inr ⟨g, cap, cur, rfl, hb, hg, h1, h2, h3, h4⟩⟩ g rfl).2
    · rw [Nat.zero_add, cell_of_row w g i cur e (0, 0) hg]
      have : (cur.toList.take (xs.length * 1))[i]? = (xs.map (Value.int k))[i]? := by rw [h4]
      rw [List.getElem?_take_of_lt (by omega)] at this
      rw [← Array.getElem?_toList, this, List.getElem?_map, List.getElem?_eq_getElem hi, nth_eq xs i hi]
      rfl

section
variable {P : Program}
theorem run_append_none (w : World) (t ty e : TypeId) (i : TypeInfo) (ht : P.underlying t = some (.slice e)) (hi : P.info? e = some i)
    (base : Nat) (v : Value) (n : Nat) (xs : List Value) (hown : w.ownsRow base e 1 v n xs) (c : Nat) : (Builtin.append_ #[t, t] ty #[v, .slice none 0 c]).run P w = .ok v w := by
  rcases hown.2 with ⟨rfl, rfl⟩ | ⟨g, cap, cur, rfl, _, _, hnc, _⟩
  · simp [Builtin.append_, run_underlying ht, sizeOf, typeInfo, hi, Builtin.lenOf, Builtin.firstCells]
  · simp [Builtin.append_, run_underlying ht, sizeOf, typeInfo, hi, Builtin.lenOf, Builtin.firstCells, hnc, storeCells]

/-- 'append(v, src...)': v owned, src whatever row of integers. -/
theorem wpList_append_row {ops : Array Oper} {rest : List Oper} {o : Oper} {a : Act} {Q : Exit → Act → World → Prop} (w : World) (hgd : o.guard = none) (s x : Operand) (t : TypeId)
    (ho : o.op = .call { callee := .builtin .append, args := #[s, x], argTypes := #[t, t] })
    (base : Nat) (k : IntKind) (e : TypeId) (bytes : Nat) (ht : P.underlying t = some (.slice e)) (hi : (P.info? e).map (fun i => (i.zero, i.size, i.bytes)) = some (some (.int k 0), 1, bytes))
    (v : Value) (xs : List Int) (hs : a.eval s = v) (hown : Own k e w base v xs)
    (B : Nat) (A : Option Addr) (m c : Nat) (ys : List Int) (hx : a.eval x = .slice A m c) (hr : Row k w B A ys) (hm : ys.length = m)
    (hbytes : (xs.length + m) * bytes ≤ 140737488355328) (h63 : xs.length + m ≤ maxLen) (hbase : base ≤ w.heap.size)
    (h : ∀ v' w', Own k e w' base v' (xs ++ ys) → w.grownBy w' v.ownBlock → wpList P ops Q rest (a.put o.dst v') w') : wpList P ops Q (o :: rest) a w := by
  obtain ⟨i, hi1, hz, hsz, hby⟩ := info_parts hi
  rcases Nat.eq_zero_or_pos m with h0 | h0
  · subst h0
    have hy : ys = [] := List.eq_nil_of_length_eq_zero hm
    subst hy
    cases A with
    | none =>
      refine wpList_plain hgd fun K hK => ?_
      have hrun := run_append_none (P := P) w t o.type e i ht hi1 base v _ _ hown c
      unfold Oper.wp
      simp [execOp, ho, resolve, invoke, builtin, hs, hx, hrun, Result.andThen]
      exact hK _ _ (h v w (by simpa using hown) (World.grownBy.refl _ _))
    | some ad =>
      refine wpList_append_own w hgd s x t ho base e i (.int k 0) 1 bytes ht hi1 hz hsz hby rfl (by omega) v _ _ hs hown ad 0 c [] hx (by simp) (by simp) (by simp) h63 hbytes hbase fun v' w' h1 h2 _ => h v' w' (by simpa [Own] using h1) h2
  · obtain ⟨b, of, rfl, _, hc⟩ := hr.2 (by omega)
    refine wpList_append_own w hgd s x t ho base e i (.int k 0) 1 bytes ht hi1 hz hsz hby rfl (by omega) v _ _ hs hown ⟨b, of, none⟩ m c (ys.map (Value.int k)) hx (by simp [hm]) ?_ (ints_oneCell k ys) h63 hbytes hbase fun v' w' h1 h2 _ => h v' w' (by simpa [Own, hm] using h1) h2
    intro j u hu
    rw [List.getElem?_map] at hu
    by_cases hj : j < ys.length
    · rw [List.getElem?_eq_getElem hj] at hu
      rw [Go.WideShapes.add_plain, hc j hj, nth_eq ys j hj]
      exact hu
    · rw [List.getElem?_eq_none (by omega)] at hu
      cases hu

/-- 'append(v, src...)' within the capacity: v owned, src whatever row of integers; the block stays. -/
theorem wpList_append_row_fits {ops : Array Oper} {rest : List Oper} {o : Oper} {a : Act} {Q : Exit → Act → World → Prop} (w : World) (hgd : o.guard = none) (s x : Operand) (t : TypeId)
    (ho : o.op = .call { callee := .builtin .append, args := #[s, x], argTypes := #[t, t] })
    (base : Nat) (k : IntKind) (e : TypeId) (bytes : Nat) (ht : P.underlying t = some (.slice e)) (hi : (P.info? e).map (fun i => (i.zero, i.size, i.bytes)) = some (some (.int k 0), 1, bytes))
    (g n cap : Nat) (xs : List Int) (hs : a.eval s = .slice (some ⟨g, 0, none⟩) n cap) (hn : xs.length = n) (hown : Own k e w base (.slice (some ⟨g, 0, none⟩) n cap) xs)
    (B : Nat) (A : Option Addr) (m c : Nat) (ys : List Int) (hx : a.eval x = .slice A m c) (hr : Row k w B A ys) (hm : ys.length = m) (hfit : n + m ≤ cap)
    (h : ∀ w', Own k e w' base (.slice (some ⟨g, 0, none⟩) (n + m) cap) (xs ++ ys) → w.grownBy w' (some g) → wpList P ops Q rest (a.put o.dst (.slice (some ⟨g, 0, none⟩) (n + m) cap)) w') : wpList P ops Q (o :: rest) a w := by
  obtain ⟨i, hi1, hz, hsz, hby⟩ := info_parts hi
  subst hn
  rcases Nat.eq_zero_or_pos m with h0 | h0
  · subst h0
    have hy : ys = [] := List.eq_nil_of_length_eq_zero hm
    subst hy
    cases A with
    | none =>
      refine wpList_plain hgd fun K hK => ?_
      have hrun := run_append_none (P := P) w t o.type e i ht hi1 base _ _ _ hown c
      unfold Oper.wp
      simp [execOp, ho, resolve, invoke, builtin, hs, hx, hrun, Result.andThen]
      exact hK _ _ (h w (by simpa using hown) (World.grownBy.refl _ _))
    | some ad =>
      refine wpList_append_fits w hgd s x t ho base e i 1 ht hi1 hsz g xs.length cap _ hs hown ad 0 c [] hx (by simp) (by simp) (by simp) hfit fun w' h1 h2 => h w' (by simpa [Own] using h1) h2
  · obtain ⟨b, of, rfl, _, hc⟩ := hr.2 (by omega)
    refine wpList_append_fits w hgd s x t ho base e i 1 ht hi1 hsz g xs.length cap _ hs hown ⟨b, of, none⟩ m c (ys.map (Value.int k)) hx (by simp [hm]) ?_ (ints_oneCell k ys) hfit fun w' h1 h2 => h w' (by simpa [Own, hm] using h1) h2
    intro j u hu
    rw [List.getElem?_map] at hu
    by_cases hj : j < ys.length
    · rw [List.getElem?_eq_getElem hj] at hu
      rw [Go.WideShapes.add_plain, hc j hj, nth_eq ys j hj]
      exact hu
    · rw [List.getElem?_eq_none (by omega)] at hu
      cases hu
end

/-- What 'make' of a length 0 lays is owned. -/
theorem Own.made (k : IntKind) (e : TypeId) (w : World) (l : List Int) (hm : l.length ≤ maxLen) : Own k e (w.alloc (.cells (blk k l) e)) w.heap.size (.slice (some ⟨w.heap.size, 0, none⟩) 0 l.length) [] :=
  ⟨rfl, .inr ⟨_, _, _, rfl, Nat.le_refl _, heap_alloc_new w _, by simp, hm, by simp [blk_size], by simp⟩⟩
/-- A row that fills its capacity is its block, whole. -/
theorem Own.full {k : IntKind} {e : TypeId} {w : World} {base g n : Nat} {xs : List Int} (h : Own k e w base (.slice (some ⟨g, 0, none⟩) n n) xs) : w.heap[g]? = some (.cells (blk k xs) e (0, 0)) := by
  rcases h.2 with ⟨h0, _⟩ | ⟨g', cap, cur, hv, hb, hg, h1, h2, h3, h4⟩
  · cases h0
  · injection hv with ha hn hc
    injection ha with ha
    injection ha with ha
    subst ha hn hc
    rw [hg]
    congr 2
    apply Array.toList_inj.1
    rw [List.take_of_length_le (by simp [h3])] at h4
    rw [h4]
    simp [blk]

theorem Below.own {k : IntKind} {e : TypeId} {w0 w w' : World} {base : Nat} {v : Value} {xs : List Int} (hb : Below base w0 w) (hB : base ≤ w.heap.size) (h : Own k e w base v xs) (hg : w.grownBy w' v.ownBlock) : Below base w0 w' :=
  hb.grown hg hB fun g e => (h.block g e).1
/-- One element's box, then the append that takes it. -/
theorem Below.own1 {k : IntKind} {e : TypeId} {w0 w w' : World} {base : Nat} {v : Value} {xs : List Int} {o : Obj} (hb : Below base w0 w) (hB : base ≤ w.heap.size) (h : Own k e w base v xs) (hg : (w.alloc o).grownBy w' v.ownBlock) : Below base w0 w' :=
  Below.own (hb.alloc hB o) (by simp; omega) (h.alloc o) hg
theorem Row.one (k : IntKind) (w : World) (t : TypeId) (x : Int) (h : (Lit.int k x).wf = true) : Row k (w.alloc (.cells #[.int k x] t)) (w.heap.size + 1) (some ⟨w.heap.size, 0, none⟩) [x] :=
  Row.new k w t [x] [x] (by simpa using h) (List.prefix_refl _)
end Go.Proofs.Ytooelfmfcihlkaa
namespace Go.Proofs.Ytooelfmfcihlkaa
open Go.RowKit
set_option linter.unusedVariables false

theorem block_setCell (w : World) (g i : Nat) (k : IntKind) (t : TypeId) (l : List Int) (v : Int) (h : w.heap[g]? = some (.cells (blk k l) t (0, 0))) :
    (w.setCell ⟨g, i, none⟩ (.int k v)).heap[g]? = some (.cells (blk k (l.set i v)) t (0, 0)) := by
  simp [World.setCell, Array.getElem?_modify, h, blk_set]
theorem block_frozen (w : World) (g i : Nat) (cs : Array Value) (t : TypeId) (h : w.heap[g]? = some (.cells cs t (0, 0))) : w.frozen? ⟨g, i, none⟩ = false := by simp [World.frozen?, h]
theorem grown_setCell {a w : World} {g : Nat} (h : a.grownBy w (some g)) (i : Nat) (u : Value) : a.grownBy (w.setCell ⟨g, i, none⟩ u) (some g) :=
  ⟨h.os, h.tape, h.output, by simpa [World.setCell] using h.size, fun k hk hne => (Below.heap_setCell w ⟨g, i, none⟩ u k (fun e => hne (by rw [e]))).trans (h.block k hk hne)⟩
theorem block_lt {w : World} {g : Nat} {o : Obj} (h : w.heap[g]? = some o) : g < w.heap.size := by
  rcases Nat.lt_or_ge g w.heap.size with hlt | hge
  · exact hlt
  · rw [Array.getElem?_eq_none hge] at h; cases h

end Go.Proofs.Ytooelfmfcihlkaa
namespace Go.Proofs.Ytooelfmfcihlkaa
open Go.RowKit
set_option linter.unusedVariables false


theorem wf_byte (n : Nat) (h : n < 256) : (Lit.int .u8 (n : Int)).wf = true := by
  simp [Lit.wf, IntKind.min, IntKind.max, IntKind.signed, IntKind.bits]; omega

theorem wrap_u8_nat (n : Nat) : IntKind.u8.wrap (n : Int) = ((n % 256 : Nat) : Int) := by rw [IntKind.wrap_u8]; omega
theorem bel_alloc (w : World) (o : Obj) : Below w.heap.size w (w.alloc o) := (Below.refl _ _).alloc (Nat.le_refl _) o


theorem nth_drop (xs : List Int) (i j : Nat) : nth (xs.drop i) j = nth xs (i + j) := by simp [nth, List.getD_eq_getElem?_getD]
theorem Row.drop {k : IntKind} {w : World} {B b o : Nat} {xs : List Int} (h : Row k w B (some ⟨b, o, none⟩) xs) (i : Nat) : Row k w B (some ⟨b, o + i, none⟩) (xs.drop i) := by
  refine ⟨fun x hx => h.1 x (List.mem_of_mem_drop hx), fun hn => ?_⟩
  have hl : i < xs.length := by rw [List.length_drop] at hn; omega
  obtain ⟨b', o', e, hb, hc⟩ := h.2 (by omega)
  injection e with e
  injection e with e1 e2
  subst e1 e2
  refine ⟨b, o + i, rfl, hb, fun j hj => ?_⟩
  rw [List.length_drop] at hj
  rw [Nat.add_assoc, hc (i + j) (by omega), nth_drop]


/-- A row of the call's own that is not empty: its block, its cells, and what a store makes of it. -/
theorem Own.cells {k : IntKind} {e : TypeId} {w : World} {base : Nat} {v : Value} {xs : List Int} (h : Own k e w base v xs) (hp : 0 < xs.length) :
    ∃ g cap, v = .slice (some ⟨g, 0, none⟩) xs.length cap ∧ base ≤ g ∧ g < w.heap.size ∧ xs.length ≤ cap ∧ (∀ i, i < xs.length → w.cell? ⟨g, i, none⟩ = some (.int k (nth xs i))) ∧ (∀ i, w.frozen? ⟨g, i, none⟩ = false)
      ∧ ∀ (w' : World) i x, w'.heap = w.heap → i < xs.length → Own k e (w'.setCell ⟨g, i, none⟩ (.int k x)) base v (xs.set i x) := by
  rcases h.2 with ⟨rfl, h0⟩ | ⟨g, cap, cur, rfl, hb, hg, h1, h2, h3, h4⟩
  · omega
  · refine ⟨g, cap, rfl, hb, block_lt hg, h1, fun i hi => ?_, fun i => block_frozen w g i _ _ hg, fun w' i x hw hi => ?_⟩
    · rw [cell_of_row w g i cur e (0, 0) hg]
      have : (cur.toList.take (xs.length * 1))[i]? = (xs.map (Value.int k))[i]? := by rw [h4]
      rw [List.getElem?_take_of_lt (by omega)] at this
      rw [← Array.getElem?_toList, this, List.getElem?_map, List.getElem?_eq_getElem hi, nth_eq xs i hi]
      rfl
    · unfold Own
      rw [List.length_set]
      refine ⟨by simp, .inr ⟨g, cap, cur.setIfInBounds i (.int k x), rfl, hb, ?_, h1, h2, by simpa using h3, ?_⟩⟩
      · simp [World.setCell, Array.getElem?_modify, hw, hg]
      · rw [Array.toList_setIfInBounds, List.take_set, h4, List.map_set]
theorem Own.laid {k : IntKind} {t : TypeId} {w : World} {base g : Nat} {l : List Int} {n : Nat} (hg : w.heap[g]? = some (.cells (blk k l) t (0, 0))) (hb : base ≤ g) (hl : l.length = n) (hm : n ≤ maxLen) : Own k t w base (.slice (some ⟨g, 0, none⟩) n n) l := by
  subst hl
  exact ⟨by simp, .inr ⟨g, _, _, rfl, hb, hg, Nat.le_refl _, hm, by simp [blk_size], by rw [Nat.mul_one, List.take_of_length_le (by simp [blk])]; simp [blk]⟩⟩
/-- A beginning of a row. -/
theorem Row.front {k : IntKind} {w : World} {B : Nat} {A : Option Addr} {xs : List Int} (h : Row k w B A xs) (m : Nat) : Row k w B A (xs.take m) := by
  refine ⟨fun x hx => h.1 x (List.mem_of_mem_take hx), fun hn => ?_⟩
  rw [List.length_take] at hn
  obtain ⟨b, o, e, hb, hc⟩ := h.2 (by omega)
  refine ⟨b, o, e, hb, fun i hi => ?_⟩
  rw [List.length_take] at hi
  rw [hc i (by omega), nth_eq _ _ (by omega), nth_eq _ _ (by rw [List.length_take]; omega), List.getElem_take]
end Go.Proofs.Ytooelfmfcihlkaa
namespace Go.Proofs.Ytooelfmfcihlkaa
open Go.RowKit
set_option linter.unusedVariables false
set_option maxRecDepth 100000

/-- The length, the sum's bytes, the chunk. -/
def ckH (n : Nat) : List Int := [((n / 256 : Nat) : Int), ((n % 256 : Nat) : Int)]
def be4 (s : Nat) : List Int := [((s / 16777216 % 256 : Nat) : Int), ((s / 65536 % 256 : Nat) : Int), ((s / 256 % 256 : Nat) : Int), ((s % 256 : Nat) : Int)]
def ckS (p : List Int) : Nat := more32 (more32 0 (ckH p.length)) p
def ckL (p : List Int) : List Int := ckH p.length ++ (be4 (ckS p) ++ p)
def ckPE (p : List Int) : Int := if 1024 < p.length then 2 else 0
def ckPut (p : List Int) : List Int := if 1024 < p.length then [] else ckL p
/-- What bytes say. -/
def ckN (b : List Int) : Nat := (nth b 0).toNat * 256 + (nth b 1).toNat
def ckP (b : List Int) : List Int := (b.drop 6).take (ckN b)
def ckE (b : List Int) : Int := if b.length < 6 then 1 else if 1024 < ckN b then 2 else if b.length < 6 + ckN b then 1 else if (b.drop 2).take 4 = be4 (ckS (ckP b)) then 0 else 5
def ckG (b : List Int) : List Int := if ckE b = 0 then ckP b else []
def ckM (b : List Int) : Nat := if ckE b = 0 then 6 + ckN b else 0
/-- What is scanned. -/
def ckSc : Nat → List Int → List (List Int) × Nat
  | 0, _ => ([], 0)
  | f + 1, b => if ckE b = 0 then (ckP b :: (ckSc f (b.drop (6 + ckN b))).1, 6 + ckN b + (ckSc f (b.drop (6 + ckN b))).2) else ([], 0)
theorem ckL_len (p : List Int) : (ckL p).length = 6 + p.length := by simp [ckL, ckH, be4]; omega
theorem be4_wf (s : Nat) : ∀ x ∈ be4 s, (Lit.int .u8 x).wf = true := by
  intro x hx
  simp only [be4, List.mem_cons, List.not_mem_nil, or_false] at hx
  rcases hx with rfl | rfl | rfl | rfl <;> exact wf_byte _ (Nat.mod_lt _ (by omega))
theorem ckH_wf {n : Nat} (h : n < 65536) : ∀ x ∈ ckH n, (Lit.int .u8 x).wf = true := by
  intro x hx
  simp only [ckH, List.mem_cons, List.not_mem_nil, or_false] at hx
  rcases hx with rfl | rfl
  · exact wf_byte _ (by omega)
  · exact wf_byte _ (Nat.mod_lt _ (by omega))
theorem ckL_wf {p : List Int} (h : p.length < 65536) (hp : ∀ x ∈ p, (Lit.int .u8 x).wf = true) : ∀ x ∈ ckL p, (Lit.int .u8 x).wf = true := fun x hx => (List.mem_append.1 hx).elim (ckH_wf h x) (fun hx => (List.mem_append.1 hx).elim (be4_wf _ x) (hp x))
theorem ckE_zero {b : List Int} : ckE b = 0 ↔ 6 ≤ b.length ∧ ckN b ≤ 1024 ∧ 6 + ckN b ≤ b.length ∧ (b.drop 2).take 4 = be4 (ckS (ckP b)) := by
  unfold ckE
  constructor
  · intro h
    split at h
    · exact absurd h (by decide)
    split at h
    · exact absurd h (by decide)
    split at h
    · exact absurd h (by decide)
    split at h
    · exact ⟨by omega, by omega, by omega, by assumption⟩
    · exact absurd h (by decide)
  · rintro ⟨h1, h2, h3, h4⟩
    rw [if_neg (by omega), if_neg (by omega), if_neg (by omega), if_pos h4]
theorem ckN_put {p more : List Int} : ckN (ckL p ++ more) = p.length := by
  have e0 : nth (ckL p ++ more) 0 = ((p.length / 256 : Nat) : Int) := rfl
  have e1 : nth (ckL p ++ more) 1 = ((p.length % 256 : Nat) : Int) := rfl
  unfold ckN
  rw [e0, e1, Int.toNat_natCast, Int.toNat_natCast]
  omega
theorem ckP_put {p more : List Int} : ckP (ckL p ++ more) = p := by
  unfold ckP
  rw [ckN_put]
  show List.take p.length (p ++ more) = p
  simp
/-- What is laid is read as it was, whatever stands behind it. -/
theorem ck_back {p : List Int} (hp : p.length ≤ 1024) (more : List Int) : ckE (ckL p ++ more) = 0 ∧ ckG (ckL p ++ more) = p ∧ ckM (ckL p ++ more) = 6 + p.length := by
  have h : ckE (ckL p ++ more) = 0 := by
    rw [ckE_zero, ckN_put, ckP_put]
    refine ⟨?_, hp, ?_, rfl⟩
    · rw [List.length_append, ckL_len]; omega
    · rw [List.length_append, ckL_len]; omega
  unfold ckG ckM
  rw [if_pos h, if_pos h, ckN_put, ckP_put]
  exact ⟨h, rfl, rfl⟩
theorem ckP_len {b : List Int} (h : ckE b = 0) : (ckP b).length = ckN b := by
  obtain ⟨_, _, h3, _⟩ := ckE_zero.1 h
  unfold ckP
  rw [List.length_take, List.length_drop]
  omega
/-- What is read was laid so. -/
theorem ck_only {b : List Int} (h : ckE b = 0) (hb : ∀ x ∈ b, (Lit.int .u8 x).wf = true) : b = ckL (ckP b) ++ b.drop (6 + ckN b) := by
  have hl := ckP_len h
  obtain ⟨h1, h2, h3, h4⟩ := ckE_zero.1 h
  have hp : ckP b ++ b.drop (6 + ckN b) = b.drop 6 := by
    unfold ckP
    rw [← List.drop_drop, List.take_append_drop]
  unfold ckL
  rw [hl, ← h4]
  match b, h1, hb with
  | b0 :: b1 :: t, h1, hb =>
    have w0 := wf_u8 (hb b0 (by simp))
    have w1 := wf_u8 (hb b1 (by simp))
    have hn : ckN (b0 :: b1 :: t) = b0.toNat * 256 + b1.toNat := rfl
    have e0 : (((b0.toNat * 256 + b1.toNat) / 256 : Nat) : Int) = b0 := by omega
    have e1 : (((b0.toNat * 256 + b1.toNat) % 256 : Nat) : Int) = b1 := by omega
    have hH : ckH (ckN (b0 :: b1 :: t)) = [b0, b1] := by rw [hn]; unfold ckH; rw [e0, e1]
    rw [hH, List.append_assoc, List.append_assoc, hp]
    show b0 :: b1 :: t = b0 :: b1 :: (List.take 4 t ++ List.drop 4 t)
    rw [List.take_append_drop]
/-- Chunks one behind the other. -/
def ckAll (l : List (List Int)) : List Int := l.flatMap ckL
theorem ckSc_len (f : Nat) (b : List Int) : (ckSc f b).2 ≤ b.length := by
  induction f generalizing b with
  | zero => exact Nat.zero_le _
  | succ f ih =>
    unfold ckSc
    split
    · rename_i h
      obtain ⟨_, _, h3, _⟩ := ckE_zero.1 h
      have := ih (b.drop (6 + ckN b))
      rw [List.length_drop] at this
      simp only
      omega
    · exact Nat.zero_le _
/-- What is scanned is just the bytes that went by. -/
theorem ckSc_all (f : Nat) (b : List Int) (hb : ∀ x ∈ b, (Lit.int .u8 x).wf = true) : ckAll (ckSc f b).1 = b.take (ckSc f b).2 := by
  induction f generalizing b with
  | zero => simp [ckSc, ckAll]
  | succ f ih =>
    unfold ckSc
    split
    · rename_i h
      have hd : ∀ x ∈ b.drop (6 + ckN b), (Lit.int .u8 x).wf = true := fun x hx => hb x (List.mem_of_mem_drop hx)
      have := ih _ hd
      have ho := ck_only h hb
      have hl := ckP_len h
      simp only
      unfold ckAll at this ⊢
      rw [List.flatMap_cons, this]
      generalize (ckSc f (b.drop (6 + ckN b))).2 = m
      have key : List.take (6 + ckN b + m) (ckL (ckP b) ++ b.drop (6 + ckN b)) = ckL (ckP b) ++ List.take m (b.drop (6 + ckN b)) := by
        rw [List.take_append, List.take_of_length_le (by rw [ckL_len, hl]; omega), ckL_len, hl]
        congr 2
        omega
      rw [← key]
      exact congrArg (List.take _) ho.symm
    · simp [ckAll]
/-- Scanned far enough, what is left begins with no chunk. -/
theorem ckSc_end (f : Nat) (b : List Int) (hf : b.length ≤ 6 * f + 5) : ckE (b.drop (ckSc f b).2) ≠ 0 := by
  induction f generalizing b with
  | zero =>
    intro h
    obtain ⟨h1, _⟩ := ckE_zero.1 h
    rw [List.length_drop] at h1
    omega
  | succ f ih =>
    unfold ckSc
    split
    · rename_i h
      obtain ⟨_, _, h3, _⟩ := ckE_zero.1 h
      simp only
      rw [← List.drop_drop]
      exact ih _ (by rw [List.length_drop]; omega)
    · rename_i h
      simpa using h
/-- Scanned: chunks one behind the other, and bytes that begin with no chunk. -/
theorem ckSc_back (l : List (List Int)) (hl : ∀ p ∈ l, p.length ≤ 1024) (t : List Int) (ht : ckE t ≠ 0) (f : Nat) (hf : l.length < f) : ckSc f (ckAll l ++ t) = (l, (ckAll l).length) := by
  induction l generalizing f with
  | nil =>
    obtain ⟨f, rfl⟩ := Nat.exists_eq_succ_of_ne_zero (show f ≠ 0 by omega)
    show ckSc (f + 1) t = _
    unfold ckSc
    rw [if_neg ht]
    rfl
  | cons p l ih =>
    obtain ⟨f, rfl⟩ := Nat.exists_eq_succ_of_ne_zero (show f ≠ 0 by omega)
    have e : ckAll (p :: l) ++ t = ckL p ++ (ckAll l ++ t) := by unfold ckAll; rw [List.flatMap_cons, List.append_assoc]
    obtain ⟨h1, _, _⟩ := ck_back (hl p (by simp)) (ckAll l ++ t)
    have hd : (ckL p ++ (ckAll l ++ t)).drop (6 + p.length) = ckAll l ++ t := by
      rw [← ckL_len p, List.drop_left]
    rw [e]
    show ckSc (f + 1) _ = _
    unfold ckSc
    rw [if_pos h1, ckP_put, ckN_put, hd, ih (fun q hq => hl q (by simp [hq])) f (by simp at hf; omega)]
    have : (ckAll (p :: l)).length = 6 + p.length + (ckAll l).length := by unfold ckAll; rw [List.flatMap_cons, List.length_append, ckL_len]
    rw [this]
/-- A chunk cut off is none. -/
theorem ckE_cut {p : List Int} {m : Nat} (hm : m < 6 + p.length) : ckE ((ckL p).take m) ≠ 0 := by
  intro h
  obtain ⟨h1, _, h3, _⟩ := ckE_zero.1 h
  rw [List.length_take, ckL_len] at h1 h3
  have hn : ckN ((ckL p).take m) = p.length := by
    have : (ckL p).take m = ((p.length / 256 : Nat) : Int) :: ((p.length % 256 : Nat) : Int) :: (be4 (ckS p) ++ p).take (m - 2) := by
      obtain ⟨j, rfl⟩ : ∃ j, m = j + 2 := ⟨m - 2, by omega⟩
      rfl
    rw [this]
    unfold ckN
    show ((p.length / 256 : Nat) : Int).toNat * 256 + ((p.length % 256 : Nat) : Int).toNat = _
    rw [Int.toNat_natCast, Int.toNat_natCast]
    omega
  rw [hn] at h3
  omega
theorem ckAll_app (l m : List (List Int)) : ckAll (l ++ m) = ckAll l ++ ckAll m := by unfold ckAll; rw [List.flatMap_append]
theorem ckE_nil : ckE [] ≠ 0 := by decide
/-- Of chunks one behind the other, cut off anywhere, the whole ones stand, and behind them what begins with none. -/
theorem ck_cut (l : List (List Int)) (n cut : Nat) (hn : n ≤ l.length) (h1 : (ckAll (l.take n)).length ≤ cut) (h2 : n < l.length → cut < (ckAll (l.take (n + 1))).length) : ∃ t, (ckAll l).take cut = ckAll (l.take n) ++ t ∧ ckE t ≠ 0 := by
  have e : ckAll l = ckAll (l.take n) ++ ckAll (l.drop n) := by rw [← ckAll_app, List.take_append_drop]
  refine ⟨(ckAll (l.drop n)).take (cut - (ckAll (l.take n)).length), ?_, ?_⟩
  · conv => lhs; rw [e]
    rw [List.take_append, List.take_of_length_le h1]
  · by_cases hlt : n < l.length
    · have hd : l.drop n = l[n] :: l.drop (n + 1) := List.drop_eq_getElem_cons hlt
      have ht : ckAll (l.take (n + 1)) = ckAll (l.take n) ++ ckL l[n] := by
        rw [List.take_succ_eq_append_getElem hlt, ckAll_app]
        congr 1
        simp [ckAll]
      have hc := h2 hlt
      rw [ht, List.length_append, ckL_len] at hc
      have hd2 : ckAll (l.drop n) = ckL l[n] ++ ckAll (l.drop (n + 1)) := by rw [hd]; unfold ckAll; rw [List.flatMap_cons]
      rw [hd2, List.take_append_of_le_length (by rw [ckL_len]; omega)]
      exact ckE_cut (by omega)
    · rw [List.drop_of_length_le (by omega)]
      simp only [ckAll, List.flatMap_nil, List.take_nil]
      exact ckE_nil
/-- What is scanned of chunks that were cut off. -/
theorem ckSc_cut (l : List (List Int)) (hl : ∀ p ∈ l, p.length ≤ 1024) (n cut : Nat) (hn : n ≤ l.length) (h1 : (ckAll (l.take n)).length ≤ cut) (h2 : n < l.length → cut < (ckAll (l.take (n + 1))).length) (f : Nat) (hf : n < f) : ckSc f ((ckAll l).take cut) = (l.take n, (ckAll (l.take n)).length) := by
  obtain ⟨t, e, ht⟩ := ck_cut l n cut hn h1 h2
  rw [e]
  exact ckSc_back (l.take n) (fun p hp => hl p (List.mem_of_mem_take hp)) t ht f (by rw [List.length_take]; omega)
end Go.Proofs.Ytooelfmfcihlkaa
namespace Go.Proofs.Ytooelfmfcihlkaa
open Go.RowKit

/-- A call returns a new slice, its own, that holds xs; nothing that was there has turned. -/
def Makes (k : IntKind) (t : TypeId) (w : World) (xs : List Int) (e : Ending) (w' : World) : Prop := ∃ v, e = .returned v ∧ Own k t w' w.heap.size v xs ∧ Below w.heap.size w w'

/-- A call returns a slice that fills a new block, the first new one, with xs; nothing that was there has turned. -/
def Lays (k : IntKind) (t : TypeId) (w : World) (xs : List Int) (m : Nat) (e : Ending) (w' : World) : Prop :=
  e = .returned (.slice (some ⟨w.heap.size, 0, none⟩) m m) ∧ w'.heap[w.heap.size]? = some (.cells (blk k xs) t (0, 0)) ∧ Below w.heap.size w w'

set_option maxHeartbeats 400000 in
theorem copy_u8 (A : Option Addr) (n c : Nat) (xs : List Int) (w : World) (hr : Row .u8 w w.heap.size A xs) (hn : xs.length = n) (hb : n ≤ 140737488355328) : 
    Calls Try.prog 22 #[.slice A n c] w (Makes .u8 5 w xs) := by
  go_enter Try.func22, Try.ntmps22
  go_wp2
  go_loopw [3, 4] (fun v i wr => ∃ k : Nat, k ≤ n ∧ i = .int .i64 k ∧ Own .u8 5 wr w.heap.size v (xs.take k) ∧ Below w.heap.size w wr) (fun _ i _ => n - (intOf i).toNat)
  case atStart => exact ⟨0, by omega, rfl, Own.nil _ _ _ _, Below.refl _ _⟩
  case round =>
    obtain ⟨k, hk, rfl, hown, hbel⟩ := hrel
    by_cases hlt : k < n
    · obtain ⟨b, o, rfl, hb1, hc1⟩ := (hr.below hbel).at_ (i := k) (by omega)
      have hl : Hid ((xs.take k).length = k) := by show _ = _; simp; omega
      have hone := Row.one .u8 wr 5 (nth xs k) (hr.wf_at (by omega))
      have hsz := hbel.size
      have HT := Lib.hid (take_step xs k (by omega))
      go_wp2_with (at_builtin; refine wpList_append_row _ rfl _ _ 22 rfl w.heap.size .u8 5 1 Try.underlying22 info_u8 _ (xs.take k) rfl (hown.alloc _) _ _ 1 1 [nth xs k] rfl hone rfl (by rw [hl.out]; omega) (by rw [hl.out]; simp only [maxLen]; omega) (by simp; omega) ?_; intro v1 w1 hown1 hg1)
      have hbel1 := Below.own1 hbel hsz hown hg1
      rw [← HT.out] at hown1
      clear hone hc1 hg1 hown
      go_wp2
      go_roundw
      case rel => exact ⟨k + 1, by omega, by go_num, hown1, hbel1⟩
      case measure => simp [intOf]; omega
    · have hx : xs.take k = xs := List.take_of_length_le (by omega)
      rw [hx] at hown
      clear hx
      go_wp2
      go_ret
      exact ⟨_, rfl, hown, hbel⟩
end Go.Proofs.Ytooelfmfcihlkaa
namespace Go.Proofs.Ytooelfmfcihlkaa
open Go.RowKit
set_option linter.unusedVariables false

/-- The n lowest bytes of a number, the lowest first. -/
def le (n s : Nat) : List Int := (List.range n).map fun i => ((s / 256 ^ i % 256 : Nat) : Int)
theorem le_length (n s : Nat) : (le n s).length = n := by simp [le]
theorem le_succ (n s : Nat) : le (n + 1) s = le n s ++ [((s / 256 ^ n % 256 : Nat) : Int)] := by simp [le, List.range_succ]
theorem le_wf (n s : Nat) : ∀ x ∈ le n s, (Lit.int .u8 x).wf = true := by
  intro x hx
  simp only [le, List.mem_map] at hx
  obtain ⟨i, _, rfl⟩ := hx
  exact wf_byte _ (Nat.mod_lt _ (by omega))
theorem div_step1 (s j : Nat) : s / 256 ^ j / 256 = s / 256 ^ (j + 1) := by rw [Nat.div_div_eq_div_mul, Nat.pow_succ]
theorem make0_u8 (n : Nat) (hn : n ≤ 140737488355328) (W : World) :
    (Instr.makeSlice 22 (.int .i64 0) (.int .i64 (n : Int))).run Try.prog W = .ok (.slice (some ⟨W.heap.size, 0, none⟩) 0 n) (W.alloc (.cells (blk .u8 (List.replicate n 0)) 5)) := by
  obtain ⟨i, hi, hz, hs, hb⟩ := info_parts info_u8
  have h := run_make (P := Try.prog) W 22 5 i (.int .u8 0) Try.underlying22 hi hz .i64 .i64 0 n (by omega) (by omega) (by rw [hb]; omega) (by omega)
  rw [h, hs, Int.toNat_natCast, made_zero]
  rfl

end Go.Proofs.Ytooelfmfcihlkaa
namespace Go.Proofs.Ytooelfmfcihlkaa
set_option linter.unusedVariables false

/-- The bytes as one number, the lowest byte first. -/
def num : List Int → Nat
  | [] => 0
  | x :: l => 2 ^ 8 * num l + x.toNat

theorem num_bit_cons (x : Int) (l : List Int) (hx : x.toNat < 2 ^ 8) (t : Nat) : (num (x :: l)).testBit t = if t < 8 then x.toNat.testBit t else (num l).testBit (t - 8) := by
  rw [num, Nat.testBit_two_pow_mul_add _ hx]
theorem num_cons_xor (x : Int) (l : List Int) (hx : x.toNat < 2 ^ 8) : num (x :: l) = x.toNat ^^^ (2 ^ 8 * num l) := by
  apply Nat.eq_of_testBit_eq
  intro t
  rw [num_bit_cons x l hx, Nat.testBit_xor, Nat.testBit_two_pow_mul]
  by_cases h : t < 8
  · simp [h, show ¬ 8 ≤ t by omega]
  · have : x.toNat.testBit t = false := Nat.testBit_lt_two_pow (Nat.lt_of_lt_of_le hx (Nat.pow_le_pow_right (by omega) (by omega)))
    simp [h, this, show 8 ≤ t by omega]
theorem num_lt (l : List Int) (h : ∀ x ∈ l, x.toNat < 2 ^ 8) : num l < 2 ^ (8 * l.length) := by
  induction l with
  | nil => simp [num]
  | cons x l ih =>
    have h1 := h x (by simp)
    have h2 := ih fun y hy => h y (by simp [hy])
    rw [num, List.length_cons, show 8 * (l.length + 1) = 8 + 8 * l.length by omega, Nat.pow_add]
    have : 2 ^ 8 * num l + x.toNat < 2 ^ 8 * (num l + 1) := by omega
    exact Nat.lt_of_lt_of_le this (Nat.mul_le_mul_left _ h2)
theorem num_inj (l m : List Int) (hl : ∀ x ∈ l, (Lit.int .u8 x).wf = true) (hm : ∀ x ∈ m, (Lit.int .u8 x).wf = true) (h : l.length = m.length) (e : num l = num m) : l = m := by
  induction l generalizing m with
  | nil => cases m with | nil => rfl | cons _ _ => simp at h
  | cons x l ih =>
    cases m with
    | nil => simp at h
    | cons y m =>
      have h1 := wf_u8 (hl x (by simp))
      have h2 := wf_u8 (hm y (by simp))
      simp only [num] at e
      have e1 : x.toNat = y.toNat := by omega
      have e2 : num l = num m := by omega
      rw [show x = y by omega, ih m (fun z hz => hl z (by simp [hz])) (fun z hz => hm z (by simp [hz])) (by simpa using h) e2]

theorem dn_even (p M : Nat) : dn p (2 * M) = M := by unfold dn; rw [if_neg (by omega)]; omega
theorem dnN_pow (p k M : Nat) : dnN p k (2 ^ k * M) = M := by
  induction k generalizing M with
  | zero => simp [dnN]
  | succ k ih =>
    show dn p (dnN p k (2 ^ (k + 1) * M)) = M
    rw [Nat.pow_succ, Nat.mul_assoc, ih, dn_even]

theorem tkAll_num (p r : Nat) (l : List Int) (h : ∀ x ∈ l, x.toNat < 2 ^ 8) : tkAll p r l = dnN p (8 * l.length) (r ^^^ num l) := by
  induction l generalizing r with
  | nil => simp [tkAll, dnN, num]
  | cons x l ih =>
    show tkAll p (tk p r x.toNat) l = _
    rw [ih _ fun y hy => h y (by simp [hy]), List.length_cons, show 8 * (l.length + 1) = 8 * l.length + 8 by omega, dnN_add, num_cons_xor x l (h x (by simp)), ← Nat.xor_assoc, dnN_xor p 8, dnN_pow]
    rfl

/-- The bits that are turned: of the mask's first j, laid at a place, those within N. -/
def dl (at_ mask N j : Nat) : Nat := ((mask % 2 ^ j) <<< at_) % 2 ^ N
theorem dl_bit (at_ mask N j t : Nat) : (dl at_ mask N j).testBit t = (decide (t < N) && (decide (at_ ≤ t) && (decide (t - at_ < j) && mask.testBit (t - at_)))) := by
  rw [dl, Nat.testBit_mod_two_pow, Nat.testBit_shiftLeft, Nat.testBit_mod_two_pow]
theorem dl_zero (at_ mask N : Nat) : dl at_ mask N 0 = 0 := by simp [dl, Nat.mod_one]
theorem dl_yes (at_ mask N j : Nat) (h1 : mask.testBit j = true) (h2 : at_ + j < N) : dl at_ mask N (j + 1) = dl at_ mask N j ^^^ 2 ^ (at_ + j) := by
  apply Nat.eq_of_testBit_eq
  intro t
  rw [Nat.testBit_xor, dl_bit, dl_bit, Nat.testBit_two_pow]
  by_cases e : at_ + j = t
  · subst e
    simp [h1, h2]
  · by_cases h3 : at_ ≤ t
    · by_cases h4 : t - at_ < j
      · simp [h3, h4, e, show t - at_ < j + 1 by omega]
      · simp [h3, h4, e, show ¬ t - at_ < j + 1 by omega]
    · simp [h3, e]
theorem dl_no (at_ mask N j : Nat) (h : ¬ (mask.testBit j = true ∧ at_ + j < N)) : dl at_ mask N (j + 1) = dl at_ mask N j := by
  apply Nat.eq_of_testBit_eq
  intro t
  rw [dl_bit, dl_bit]
  by_cases h3 : at_ ≤ t
  · by_cases e : t - at_ = j
    · have e' : t = at_ + j := by omega
      subst e'
      by_cases h2 : at_ + j < N
      · have h1 : mask.testBit j = false := by
          cases hb : mask.testBit j
          · rfl
          · exact absurd ⟨hb, h2⟩ h
        simp [h1]
      · simp [h2]
    · by_cases h4 : t - at_ < j
      · simp [h3, h4, show t - at_ < j + 1 by omega]
      · simp [h3, h4, show ¬ t - at_ < j + 1 by omega]
  · simp [h3]
theorem dl_yes_ne (at_ mask N j : Nat) (h1 : mask.testBit j = true) (h2 : at_ + j < N) : dl at_ mask N (j + 1) ≠ 0 := by
  intro h
  have := congrArg (Nat.testBit · (at_ + j)) h
  simp only [dl_bit, Nat.zero_testBit] at this
  simp [h1, h2] at this

/-- What a register comes to by turned bits alone is nought only if none is turned. -/
theorem dnN_dl {p b : Nat} (hp1 : 2 ^ b ≤ p) (hp2 : p < 2 ^ (b + 1)) (at_ mask N j : Nat) (hm : mask % 2 ^ j < 2 ^ (b + 1)) (h : dnN p N (dl at_ mask N j) = 0) : dl at_ mask N j = 0 := by
  by_cases ha : at_ ≤ N
  · have e : dl at_ mask N j = 2 ^ at_ * (mask % 2 ^ j % 2 ^ (N - at_)) := by
      rw [dl, Nat.shiftLeft_eq, Nat.mul_comm]
      conv => lhs; rw [show N = at_ + (N - at_) by omega, Nat.pow_add]
      exact Nat.mul_mod_mul_left _ _ _
    rw [e, show N = (N - at_) + at_ by omega, dnN_add, dnN_pow] at h
    rw [show N - at_ + at_ - at_ = N - at_ by omega] at h
    have h0 := dnN_inj0 hp1 hp2 _ (Nat.lt_of_le_of_lt (Nat.mod_le _ _) hm) h
    rw [e, h0, Nat.mul_zero]
  · apply Nat.eq_of_testBit_eq
    intro t
    rw [dl_bit, Nat.zero_testBit]
    by_cases h1 : t < N
    · simp [show ¬ at_ ≤ t by omega]
    · simp [h1]

theorem num_set_bit (l : List Int) (q t : Nat) (y : Int) (hl : ∀ x ∈ l, x.toNat < 2 ^ 8) (hy : y.toNat < 2 ^ 8) (hq : q < l.length) : (num (l.set q y)).testBit t = if t / 8 = q then y.toNat.testBit (t % 8) else (num l).testBit t := by
  induction l generalizing q t with
  | nil => simp at hq
  | cons x l ih =>
    have hx := hl x (by simp)
    cases q with
    | zero =>
      rw [List.set_cons_zero, num_bit_cons _ _ hy, num_bit_cons _ _ hx]
      by_cases h : t < 8
      · rw [if_pos h, if_pos (by omega), Nat.mod_eq_of_lt h]
      · rw [if_neg h, if_neg (by omega), if_neg h]
    | succ q =>
      rw [List.set_cons_succ, num_bit_cons _ _ hx, num_bit_cons _ _ hx]
      by_cases h : t < 8
      · rw [if_pos h, if_neg (by omega), if_pos h]
      · rw [if_neg h, if_neg h, ih q (t - 8) (fun z hz => hl z (by simp [hz])) (by simpa using hq)]
        by_cases e : t / 8 = q + 1
        · rw [if_pos e, if_pos (by omega), show (t - 8) % 8 = t % 8 by omega]
        · rw [if_neg e, if_neg (by omega)]
theorem num_bit (l : List Int) (t : Nat) (hl : ∀ x ∈ l, x.toNat < 2 ^ 8) (h : t / 8 < l.length) : (num l).testBit t = (nth l (t / 8)).toNat.testBit (t % 8) := by
  have := num_set_bit l (t / 8) t (nth l (t / 8)) hl (hl _ (nth_mem l _ h)) h
  rw [if_pos rfl] at this
  rw [← this]
  congr 2
  rw [nth_eq l _ h, List.set_getElem_self]
/-- One bit is turned. -/
theorem num_turn (l : List Int) (k : Nat) (hl : ∀ x ∈ l, (Lit.int .u8 x).wf = true) (hk : k / 8 < l.length) (y : Int) (hy : y = ((nth l (k / 8)).toNat ^^^ 2 ^ (k % 8) : Nat)) : num (l.set (k / 8) y) = num l ^^^ 2 ^ k := by
  have hl8 : ∀ x ∈ l, x.toNat < 2 ^ 8 := fun x hx => by have := wf_u8 (hl x hx); omega
  have hlt := hl8 _ (nth_mem l _ hk)
  have hk8 : 2 ^ (k % 8) < 2 ^ 8 := Nat.pow_lt_pow_right (by omega) (by omega)
  have hy8 : y.toNat < 2 ^ 8 := by rw [hy, Int.toNat_natCast]; exact Nat.xor_lt_two_pow hlt hk8
  apply Nat.eq_of_testBit_eq
  intro t
  rw [num_set_bit l _ t y hl8 hy8 hk, Nat.testBit_xor, Nat.testBit_two_pow]
  by_cases e : t / 8 = k / 8
  · rw [if_pos e, hy, Int.toNat_natCast, Nat.testBit_xor, Nat.testBit_two_pow, num_bit l t hl8 (by omega), e]
    congr 2
    exact propext ⟨fun h => by omega, fun h => by rw [h]⟩
  · rw [if_neg e]
    simp [show ¬ k = t from fun h => e (by rw [h])]
end Go.Proofs.Ytooelfmfcihlkaa
namespace Go.Proofs.Ytooelfmfcihlkaa
open Go.RowKit
set_option linter.unusedVariables false


/-- What 'string(b)' of a row of bytes is. -/
theorem conv_row (w : World) (B : Nat) (A : Option Addr) (n c : Nat) (xs : List Int) (h : Row .u8 w B A xs) (hn : xs.length = n) : (convert 22 9 (.slice A n c)).run Try.prog w = .ok (.string (strOfNums xs)) w := by
  rcases Nat.eq_zero_or_pos n with h0 | h0
  · subst h0
    have hx : xs = [] := List.eq_nil_of_length_eq_zero hn
    subst hx
    rw [run_convert_bytes_string w _ _ _ _ 0 c Try.underlying22 Try.underlying5 Try.underlying9]
    cases A <;> simp [Conv.bytesToString, loadCells]
    all_goals rfl
  · obtain ⟨b, o, rfl, _, hc⟩ := h.2 (by omega)
    exact run_convert_bytes_arg (P := Try.prog) w _ _ Try.underlying22 Try.underlying5 b o n c xs hn (fun i hi => hc i (by omega)) _ Try.underlying9

theorem strs_eq (xs ys : List Int) (hx : ∀ x ∈ xs, (Lit.int .u8 x).wf = true) (hy : ∀ x ∈ ys, (Lit.int .u8 x).wf = true) (h : (strOfNums xs).toList = (strOfNums ys).toList) : xs = ys := by
  have inj : ∀ a b : Int, (Lit.int .u8 a).wf = true → (Lit.int .u8 b).wf = true → UInt8.ofNat a.toNat = UInt8.ofNat b.toNat → a = b := by
    intro a b ha hb e
    have ha := wf_u8 ha
    have hb := wf_u8 hb
    have := congrArg UInt8.toNat e
    simp at this
    omega
  rw [Lib.strOfNums_toList, Lib.strOfNums_toList] at h
  unfold Lib.bytesOf at h
  revert ys
  induction xs with
  | nil => intro ys _ h; cases ys with | nil => rfl | cons _ _ => simp at h
  | cons a xs ih =>
    intro ys hy h
    cases ys with
    | nil => simp at h
    | cons b ys =>
      simp only [List.map_cons, List.cons.injEq] at h
      rw [inj a b (hx a (by simp)) (hy b (by simp)) h.1, ih (fun x hm => hx x (by simp [hm])) ys (fun x hm => hy x (by simp [hm])) h.2]

theorem equal_yes (A A' : Option Addr) (n n' c c' : Nat) (xs : List Int) (w : World) (B B' : Nat) (hr : Row .u8 w B A xs) (hr' : Row .u8 w B' A' xs) (hn : xs.length = n) (hn' : xs.length = n') :
    Calls Try.prog 28 #[.slice A n c, .slice A' n' c'] w fun e w' => e = .returned (.bool true) ∧ w = w' := by
  have h1 := conv_row w B A n c xs hr hn
  have h2 := conv_row w B' A' n' c' xs hr' hn'
  clear hr hr' hn hn'
  generalize strOfNums xs = s at *
  have h3 : (s.toList == s.toList) = true := by simp
  go_enter Try.func28, Try.ntmps28
  go_wp2
  go_ret
  exact ⟨rfl, rfl⟩
theorem equal_no (A A' : Option Addr) (n n' c c' : Nat) (xs ys : List Int) (w : World) (B B' : Nat) (hr : Row .u8 w B A xs) (hr' : Row .u8 w B' A' ys) (hn : xs.length = n) (hn' : ys.length = n') (hne : xs ≠ ys) :
    Calls Try.prog 28 #[.slice A n c, .slice A' n' c'] w fun e w' => e = .returned (.bool false) ∧ w = w' := by
  have h1 := conv_row w B A n c xs hr hn
  have h2 := conv_row w B' A' n' c' ys hr' hn'
  have h3 : ((strOfNums xs).toList == (strOfNums ys).toList) = false := by
    rw [beq_eq_false_iff_ne]
    exact fun h => hne (strs_eq xs ys hr.1 hr'.1 h)
  clear hr hr' hn hn' hne
  generalize strOfNums xs = s at *
  generalize strOfNums ys = t at *
  go_enter Try.func28, Try.ntmps28
  go_wp2
  go_ret
  exact ⟨rfl, rfl⟩

end Go.Proofs.Ytooelfmfcihlkaa
namespace Go.Proofs.Ytooelfmfcihlkaa
open Go.RowKit
set_option linter.unusedVariables false
/-- What is sealed. -/
def sealed16 (xs : List Int) : List Int := xs ++ le 2 (tkAll 40961 65535 xs)
theorem sealed16_wf {xs : List Int} (h : ∀ x ∈ xs, (Lit.int .u8 x).wf = true) : ∀ x ∈ sealed16 xs, (Lit.int .u8 x).wf = true := wf_append h (le_wf _ _)
theorem sealed16_length (xs : List Int) : (sealed16 xs).length = xs.length + 2 := by rw [sealed16, List.length_append, le_length]

end Go.Proofs.Ytooelfmfcihlkaa
namespace Go.Proofs.Ytooelfmfcihlkaa
open Go.RowKit
set_option linter.unusedVariables false

theorem Row.take {k : IntKind} {w : World} {B : Nat} {A : Option Addr} {xs : List Int} (h : Row k w B A xs) (m : Nat) : Row k w B A (xs.take m) := by
  refine ⟨fun x hx => h.1 x (List.mem_of_mem_take hx), fun hn => ?_⟩
  have hl : 0 < xs.length := by simp at hn; omega
  obtain ⟨b, o, e, hb, hc⟩ := h.2 hl
  refine ⟨b, o, e, hb, fun i hi => ?_⟩
  have hi' : i < m ∧ i < xs.length := by simp at hi; omega
  rw [hc i hi'.2, nth, nth, List.getD_eq_getElem?_getD, List.getD_eq_getElem?_getD, List.getElem?_take_of_lt hi'.1]
/-- A call returns a pair: no list, and an error. -/
def SErrs (n : Int) (w : World) (e : Ending) (w' : World) : Prop := e = .returned (.tuple #[.slice none 0 0, .int .i64 n]) ∧ Below w.heap.size w w'
/-- A call returns a pair: a list that is a beginning of a new block, and no error. -/
def SOpens (w : World) (l : List Int) (m : Nat) (e : Ending) (w' : World) : Prop :=
  e = .returned (.tuple #[.slice (some ⟨w.heap.size, 0, none⟩) m m, .int .i64 0]) ∧ w'.heap[w.heap.size]? = some (.cells (blk .u8 l) 5 (0, 0)) ∧ Below w.heap.size w w'
/-- A call returns a pair: a list of its own, and no error. -/
def SMakes2 (w : World) (xs : List Int) (e : Ending) (w' : World) : Prop := ∃ v, e = .returned (.tuple #[v, .int .i64 0]) ∧ Own .u8 5 w' w.heap.size v xs ∧ Below w.heap.size w w'
theorem take_lenS (xs : List Int) (n m : Nat) (hn : xs.length = n) : (xs.take (n - m)).length = n - m := by simp; omega

/-- The row is what was sealed: of what is ahead of its last bytes. -/
def right16 (xs : List Int) : Prop := xs = sealed16 (xs.take (xs.length - 2))
/-- The error of opening, and what is opened. -/
def err16 (xs : List Int) : Int := if xs.length < 2 then 1 else if xs = sealed16 (xs.take (xs.length - 2)) then 0 else 5
def opened16 (xs : List Int) : List Int := if xs.length < 2 then [] else if xs = sealed16 (xs.take (xs.length - 2)) then xs.take (xs.length - 2) else []
theorem opened16_wf {xs : List Int} (h : ∀ x ∈ xs, (Lit.int .u8 x).wf = true) : ∀ x ∈ opened16 xs, (Lit.int .u8 x).wf = true := by
  unfold opened16
  split
  · simp
  · split
    · exact fun x hx => h x (List.mem_of_mem_take hx)
    · simp
def OpensAny16 (w : World) (xs : List Int) (e : Ending) (w' : World) : Prop :=
  ∃ A m r, e = .returned (.tuple #[.slice A m m, .int .i64 (err16 xs)]) ∧ (opened16 xs).length = m ∧ (A = none ∧ m = 0 ∨ A = some ⟨w.heap.size, 0, none⟩ ∧ w'.heap[w.heap.size]? = some (.cells (blk .u8 (opened16 xs ++ r)) 5 (0, 0))) ∧ Below w.heap.size w w'
def MakesAny16 (w : World) (xs : List Int) (e : Ending) (w' : World) : Prop := ∃ v, e = .returned (.tuple #[v, .int .i64 (err16 xs)]) ∧ Own .u8 5 w' w.heap.size v (opened16 xs) ∧ Below w.heap.size w w'
end Go.Proofs.Ytooelfmfcihlkaa
namespace Go.Proofs.Ytooelfmfcihlkaa
set_option linter.unusedVariables false

theorem nat8 {xs : List Int} (h : ∀ x ∈ xs, (Lit.int .u8 x).wf = true) : ∀ x ∈ xs, x.toNat < 2 ^ 8 := fun x hx => by have := wf_u8 (h x hx); omega
theorem num_le (n s : Nat) (h : s < 2 ^ (8 * n)) : num (le n s) = s := by
  have h8 : ∀ x ∈ le n s, x.toNat < 2 ^ 8 := nat8 (le_wf n s)
  apply Nat.eq_of_testBit_eq
  intro t
  by_cases ht : t / 8 < n
  · rw [num_bit _ t h8 (by rw [le_length]; exact ht)]
    have e : nth (le n s) (t / 8) = ((s / 256 ^ (t / 8) % 256 : Nat) : Int) := by
      rw [nth_eq _ _ (by rw [le_length]; exact ht)]
      simp [le]
    rw [e, Int.toNat_natCast, show (256 : Nat) = 2 ^ 8 from rfl, Nat.testBit_mod_two_pow, ← Nat.pow_mul, Nat.testBit_div_two_pow]
    simp [show t % 8 < 8 by omega, show t % 8 + 8 * (t / 8) = t by omega]
  · have h1 : num (le n s) < 2 ^ t := Nat.lt_of_lt_of_le (num_lt _ h8) (Nat.pow_le_pow_right (by omega) (by rw [le_length]; omega))
    have h2 : s < 2 ^ t := Nat.lt_of_lt_of_le h (Nat.pow_le_pow_right (by omega) (by omega))
    rw [Nat.testBit_lt_two_pow h1, Nat.testBit_lt_two_pow h2]

theorem xor_self_iff (a b : Nat) : a ^^^ b = 0 ↔ a = b := by
  constructor
  · intro h
    have := congrArg (· ^^^ b) h
    simpa [Nat.xor_assoc] using this
  · rintro rfl; exact Nat.xor_self _

/-- A row of 16: what is ahead and the last two bytes. -/
theorem right16_iff (s : List Int) (hs : ∀ x ∈ s, (Lit.int .u8 x).wf = true) (h2 : 2 ≤ s.length) : right16 s ↔ tkAll 40961 65535 s = 0 := by
  have hf : ∀ x ∈ s.take (s.length - 2), (Lit.int .u8 x).wf = true := fun x hx => hs x (List.mem_of_mem_take hx)
  have hg : ∀ x ∈ s.drop (s.length - 2), (Lit.int .u8 x).wf = true := fun x hx => hs x (List.mem_of_mem_drop hx)
  have hgl : (s.drop (s.length - 2)).length = 2 := by simp; omega
  have e : s = s.take (s.length - 2) ++ s.drop (s.length - 2) := (List.take_append_drop _ _).symm
  have hr : tkAll 40961 65535 (s.take (s.length - 2)) < 65536 := tkAll_lt (b := 16) (by decide) (by decide) (by decide) _ (nat8 hf)
  have hn : num (s.drop (s.length - 2)) < 65536 := by have := num_lt _ (nat8 hg); rw [hgl] at this; exact this
  have key : tkAll 40961 65535 s = dnN 40961 16 (tkAll 40961 65535 (s.take (s.length - 2)) ^^^ num (s.drop (s.length - 2))) := by
    conv => lhs; rw [e]
    rw [tkAll_append, tkAll_num 40961 _ (s.drop (s.length - 2)) (nat8 hg), hgl]
  rw [key]
  have hz : dnN 40961 16 (tkAll 40961 65535 (s.take (s.length - 2)) ^^^ num (s.drop (s.length - 2))) = 0 ↔ tkAll 40961 65535 (s.take (s.length - 2)) = num (s.drop (s.length - 2)) := by
    generalize tkAll 40961 65535 (s.take (s.length - 2)) = a at *
    generalize num (s.drop (s.length - 2)) = b at *
    constructor
    · intro h
      have h3 := dnN_inj0 (b := 15) (by decide) (by decide) 16 (Nat.xor_lt_two_pow (n := 16) hr hn) h
      exact (xor_self_iff _ _).1 h3
    · intro h
      rw [(xor_self_iff _ _).2 h, dnN_zero]
  rw [hz, right16, sealed16]
  constructor
  · intro h
    have h' : s.drop (s.length - 2) = le 2 (tkAll 40961 65535 (s.take (s.length - 2))) := by
      have h3 := h
      conv at h3 => lhs; rw [e]
      exact List.append_cancel_left h3
    rw [h', num_le 2 _ hr]
  · intro h
    conv => lhs; rw [e]
    congr 1
    refine num_inj _ _ hg (le_wf _ _) (by rw [hgl, le_length]) ?_
    rw [num_le 2 _ hr, h]

/-- What is turned: a row of the same length whose number is the other's with so many bits turned. -/
structure Turned (xs ys : List Int) (at_ mask j n : Nat) : Prop where
  len : ys.length = xs.length
  wf : ∀ x ∈ ys, (Lit.int .u8 x).wf = true
  num_eq : num ys = num xs ^^^ dl at_ mask (8 * xs.length) j
  none_iff : n = 0 ↔ dl at_ mask (8 * xs.length) j = 0
theorem Turned.tk {xs ys : List Int} {at_ mask j n : Nat} (h : Turned xs ys at_ mask j n) (hx : ∀ x ∈ xs, (Lit.int .u8 x).wf = true) (p r : Nat) :
    tkAll p r ys = tkAll p r xs ^^^ dnN p (8 * xs.length) (dl at_ mask (8 * xs.length) j) := by
  rw [tkAll_num p r ys (nat8 h.wf), tkAll_num p r xs (nat8 hx), h.len, h.num_eq, ← Nat.xor_assoc, dnN_xor]
theorem Turned.same {xs ys : List Int} {at_ mask j n : Nat} (h : Turned xs ys at_ mask j n) (hx : ∀ x ∈ xs, (Lit.int .u8 x).wf = true) (hn : n = 0) : ys = xs := by
  refine num_inj ys xs h.wf hx h.len ?_
  rw [h.num_eq, h.none_iff.1 hn, Nat.xor_zero]
theorem Turned.seen {xs ys : List Int} {at_ mask j n b : Nat} (h : Turned xs ys at_ mask j n) (hx : ∀ x ∈ xs, (Lit.int .u8 x).wf = true) (hn : n ≠ 0) (p r : Nat) (hp1 : 2 ^ b ≤ p) (hp2 : p < 2 ^ (b + 1)) (hm : mask % 2 ^ j < 2 ^ (b + 1)) : tkAll p r ys ≠ tkAll p r xs := by
  rw [h.tk hx]
  intro e
  have h0 : dnN p (8 * xs.length) (dl at_ mask (8 * xs.length) j) = 0 := by
    have := congrArg (tkAll p r xs ^^^ ·) e
    simpa [← Nat.xor_assoc] using this
  exact hn (h.none_iff.2 (dnN_dl hp1 hp2 _ _ _ _ hm h0))
theorem Turned.seen16 {xs ys : List Int} {at_ mask n : Nat} (h : Turned xs ys at_ mask 32 n) (hx : ∀ x ∈ xs, (Lit.int .u8 x).wf = true) (hn : n ≠ 0) (hm : mask < 65536) : tkAll 40961 65535 ys ≠ tkAll 40961 65535 xs :=
  h.seen (b := 15) hx hn _ _ (by decide) (by decide) (Nat.lt_of_le_of_lt (Nat.mod_le _ _) hm)
theorem sealed16_right (xs : List Int) (hx : ∀ x ∈ xs, (Lit.int .u8 x).wf = true) : right16 (sealed16 xs) := by
  unfold right16
  rw [sealed16_length]
  simp only [Nat.add_sub_cancel]
  rw [show (sealed16 xs).take xs.length = xs by rw [sealed16]; simp]
theorem Turned.refused16 {xs ys : List Int} {at_ mask n : Nat} (h : Turned (sealed16 xs) ys at_ mask 32 n) (hx : ∀ x ∈ xs, (Lit.int .u8 x).wf = true) (hn : n ≠ 0) (hm : mask < 65536) : ¬ right16 ys := by
  have hw := sealed16_wf hx
  have hl := sealed16_length xs
  intro hr
  rw [right16_iff ys h.wf (by rw [h.len]; omega)] at hr
  have h0 := (right16_iff _ hw (by omega)).1 (sealed16_right xs hx)
  exact h.seen16 hw hn hm (by rw [hr, h0])
/-- One step of turning. -/
theorem Turned.zero (xs : List Int) (at_ mask : Nat) (hx : ∀ x ∈ xs, (Lit.int .u8 x).wf = true) : Turned xs xs at_ mask 0 0 :=
  ⟨rfl, hx, by rw [dl_zero, Nat.xor_zero], by rw [dl_zero]⟩
theorem Turned.no {xs ys : List Int} {at_ mask j n : Nat} (h : Turned xs ys at_ mask j n) (hno : ¬ (mask.testBit j = true ∧ at_ + j < 8 * xs.length)) : Turned xs ys at_ mask (j + 1) n :=
  ⟨h.len, h.wf, by rw [dl_no _ _ _ _ hno]; exact h.num_eq, by rw [dl_no _ _ _ _ hno]; exact h.none_iff⟩
theorem Turned.yes {xs ys : List Int} {at_ mask j n : Nat} (h : Turned xs ys at_ mask j n) (h1 : mask.testBit j = true) (h2 : at_ + j < 8 * xs.length) (y : Int) (hy : y = ((nth ys ((at_ + j) / 8)).toNat ^^^ 2 ^ ((at_ + j) % 8) : Nat)) :
    Turned xs (ys.set ((at_ + j) / 8) y) at_ mask (j + 1) (n + 1) := by
  have hk : (at_ + j) / 8 < ys.length := by rw [h.len]; omega
  refine ⟨by rw [List.length_set]; exact h.len, fun x hx => ?_, ?_, ⟨fun h => by omega, fun h0 => absurd h0 (dl_yes_ne _ _ _ _ h1 h2)⟩⟩
  · rcases List.mem_or_eq_of_mem_set hx with hx | hx
    · exact h.wf x hx
    · subst hx hy
      have h3 := wf_u8 (h.wf _ (nth_mem ys _ hk))
      have h4 : 2 ^ ((at_ + j) % 8) < 2 ^ 8 := Nat.pow_lt_pow_right (by omega) (by omega)
      exact wf_byte _ (Nat.xor_lt_two_pow (n := 8) (by omega) h4)
  · rw [num_turn ys (at_ + j) h.wf hk y hy, h.num_eq, dl_yes _ _ _ _ h1 h2, Nat.xor_assoc]
end Go.Proofs.Ytooelfmfcihlkaa
namespace Go.Proofs.Ytooelfmfcihlkaa
open Go.RowKit

def digits9 : List Int := [49, 50, 51, 52, 53, 54, 55, 56, 57]
theorem digits16 : tkAll 40961 65535 digits9 = 19255 := by decide +kernel
theorem digits32 : more32 0 digits9 = 3421780262 := by decide +kernel
theorem digits_wf : ∀ x ∈ digits9, (Lit.int .u8 x).wf = true := by decide
theorem digits_row (w : World) (fr : Nat × Nat) : Row .u8 (w.alloc (.cells #[.int .u8 49, .int .u8 50, .int .u8 51, .int .u8 52, .int .u8 53, .int .u8 54, .int .u8 55, .int .u8 56, .int .u8 57] 5 fr)) (w.heap.size + 1) (some ⟨w.heap.size, 0, none⟩) digits9 :=
  Row.of_block (l := digits9) (heap_alloc_new w _) digits9 digits_wf (List.prefix_refl _)

theorem digits_32 (w : World) (B : Nat) (A : Option Addr) (c : Nat) (h : Row .u8 w B A digits9) : Calls Try.prog 33 #[.slice A 9 c] w fun e w' => e = .returned (.int .u32 3421780262) ∧ w = w' :=
  (crc_32 A 9 c digits9 w B h rfl (by omega)).mono fun _ _ ⟨he, hw⟩ => ⟨by rw [he, digits32]; rfl, hw⟩

end Go.Proofs.Ytooelfmfcihlkaa
namespace Go.Proofs.Ytooelfmfcihlkaa
open Go.RowKit
set_option linter.unusedVariables false

end Go.Proofs.Ytooelfmfcihlkaa
namespace Go.Proofs.Ytooelfmfcihlkaa
open Go.RowKit
set_option linter.unusedVariables false
/-- What is sealed. -/
def sealed32 (xs : List Int) : List Int := xs ++ le 4 (more32 0 xs)
theorem sealed32_wf {xs : List Int} (h : ∀ x ∈ xs, (Lit.int .u8 x).wf = true) : ∀ x ∈ sealed32 xs, (Lit.int .u8 x).wf = true := wf_append h (le_wf _ _)
theorem sealed32_length (xs : List Int) : (sealed32 xs).length = xs.length + 4 := by rw [sealed32, List.length_append, le_length]
end Go.Proofs.Ytooelfmfcihlkaa
namespace Go.Proofs.Ytooelfmfcihlkaa
open Go.RowKit
set_option linter.unusedVariables false
/-- The row is what was sealed: of what is ahead of its last bytes. -/
def right32 (xs : List Int) : Prop := xs = sealed32 (xs.take (xs.length - 4))
/-- The error of opening, and what is opened. -/
def err32 (xs : List Int) : Int := if xs.length < 4 then 1 else if xs = sealed32 (xs.take (xs.length - 4)) then 0 else 5
def opened32 (xs : List Int) : List Int := if xs.length < 4 then [] else if xs = sealed32 (xs.take (xs.length - 4)) then xs.take (xs.length - 4) else []
theorem opened32_wf {xs : List Int} (h : ∀ x ∈ xs, (Lit.int .u8 x).wf = true) : ∀ x ∈ opened32 xs, (Lit.int .u8 x).wf = true := by
  unfold opened32
  split
  · simp
  · split
    · exact fun x hx => h x (List.mem_of_mem_take hx)
    · simp
def OpensAny32 (w : World) (xs : List Int) (e : Ending) (w' : World) : Prop :=
  ∃ A m r, e = .returned (.tuple #[.slice A m m, .int .i64 (err32 xs)]) ∧ (opened32 xs).length = m ∧ (A = none ∧ m = 0 ∨ A = some ⟨w.heap.size, 0, none⟩ ∧ w'.heap[w.heap.size]? = some (.cells (blk .u8 (opened32 xs ++ r)) 5 (0, 0))) ∧ Below w.heap.size w w'
def MakesAny32 (w : World) (xs : List Int) (e : Ending) (w' : World) : Prop := ∃ v, e = .returned (.tuple #[v, .int .i64 (err32 xs)]) ∧ Own .u8 5 w' w.heap.size v (opened32 xs) ∧ Below w.heap.size w w'
end Go.Proofs.Ytooelfmfcihlkaa
namespace Go.Proofs.Ytooelfmfcihlkaa
set_option linter.unusedVariables false
/-- A row of 32: what is ahead and the last four bytes. -/
theorem right32_iff (s : List Int) (hs : ∀ x ∈ s, (Lit.int .u8 x).wf = true) (h2 : 4 ≤ s.length) : right32 s ↔ tkAll 3988292384 4294967295 s = dnN 3988292384 32 4294967295 := by
  have hf : ∀ x ∈ s.take (s.length - 4), (Lit.int .u8 x).wf = true := fun x hx => hs x (List.mem_of_mem_take hx)
  have hg : ∀ x ∈ s.drop (s.length - 4), (Lit.int .u8 x).wf = true := fun x hx => hs x (List.mem_of_mem_drop hx)
  have hgl : (s.drop (s.length - 4)).length = 4 := by simp; omega
  have e : s = s.take (s.length - 4) ++ s.drop (s.length - 4) := (List.take_append_drop _ _).symm
  have hr : tkAll 3988292384 4294967295 (s.take (s.length - 4)) < 4294967296 := tkAll_lt (b := 32) (by decide) (by decide) (by decide) _ (nat8 hf)
  have hc : more32 0 (s.take (s.length - 4)) < 4294967296 := more32_lt 0 _ (by decide) hf
  have hn : num (s.drop (s.length - 4)) < 4294967296 := by have := num_lt _ (nat8 hg); rw [hgl] at this; exact this
  have key : tkAll 3988292384 4294967295 s = dnN 3988292384 32 (tkAll 3988292384 4294967295 (s.take (s.length - 4)) ^^^ num (s.drop (s.length - 4))) := by
    conv => lhs; rw [e]
    rw [tkAll_append, tkAll_num 3988292384 _ (s.drop (s.length - 4)) (nat8 hg), hgl]
  rw [key]
  have hm : more32 0 (s.take (s.length - 4)) = 4294967295 ^^^ tkAll 3988292384 4294967295 (s.take (s.length - 4)) := rfl
  have hz : dnN 3988292384 32 (tkAll 3988292384 4294967295 (s.take (s.length - 4)) ^^^ num (s.drop (s.length - 4))) = dnN 3988292384 32 4294967295 ↔ num (s.drop (s.length - 4)) = more32 0 (s.take (s.length - 4)) := by
    rw [hm]
    generalize tkAll 3988292384 4294967295 (s.take (s.length - 4)) = a at *
    generalize num (s.drop (s.length - 4)) = b at *
    constructor
    · intro h
      have h1 := (xor_self_iff _ _).2 h
      rw [← dnN_xor] at h1
      have h3 := dnN_inj0 (b := 31) (by decide) (by decide) 32 (Nat.xor_lt_two_pow (n := 32) (Nat.xor_lt_two_pow (n := 32) hr hn) (by decide)) h1
      rw [xor_self_iff] at h3
      rw [← h3, Nat.xor_comm a b, Nat.xor_assoc, Nat.xor_self, Nat.xor_zero]
    · rintro rfl
      rw [← Nat.xor_assoc, Nat.xor_comm a, Nat.xor_assoc, Nat.xor_self, Nat.xor_zero]
  rw [hz, right32, sealed32]
  constructor
  · intro h
    have h' : s.drop (s.length - 4) = le 4 (more32 0 (s.take (s.length - 4))) := by
      have h3 := h
      conv at h3 => lhs; rw [e]
      exact List.append_cancel_left h3
    rw [h', num_le 4 _ hc]
  · intro h
    conv => lhs; rw [e]
    congr 1
    refine num_inj _ _ hg (le_wf _ _) (by rw [hgl, le_length]) ?_
    rw [num_le 4 _ hc, h]

theorem Turned.seen32 {xs ys : List Int} {at_ mask n : Nat} (h : Turned xs ys at_ mask 32 n) (hx : ∀ x ∈ xs, (Lit.int .u8 x).wf = true) (hn : n ≠ 0) (hm : mask < 4294967296) : tkAll 3988292384 4294967295 ys ≠ tkAll 3988292384 4294967295 xs :=
  h.seen (b := 31) hx hn _ _ (by decide) (by decide) (Nat.lt_of_le_of_lt (Nat.mod_le _ _) hm)
theorem Turned.seenMore {xs ys : List Int} {at_ mask n : Nat} (h : Turned xs ys at_ mask 32 n) (hx : ∀ x ∈ xs, (Lit.int .u8 x).wf = true) (hn : n ≠ 0) (hm : mask < 4294967296) : more32 0 ys ≠ more32 0 xs := by
  intro e
  refine h.seen32 hx hn hm ?_
  have := congrArg (4294967295 ^^^ ·) e
  simpa [more32, ← Nat.xor_assoc] using this

theorem sealed32_right (xs : List Int) (hx : ∀ x ∈ xs, (Lit.int .u8 x).wf = true) : right32 (sealed32 xs) := by
  unfold right32
  rw [sealed32_length]
  simp only [Nat.add_sub_cancel]
  rw [show (sealed32 xs).take xs.length = xs by rw [sealed32]; simp]
theorem Turned.refused32 {xs ys : List Int} {at_ mask n : Nat} (h : Turned (sealed32 xs) ys at_ mask 32 n) (hx : ∀ x ∈ xs, (Lit.int .u8 x).wf = true) (hn : n ≠ 0) (hm : mask < 4294967296) : ¬ right32 ys := by
  have hw := sealed32_wf hx
  have hl := sealed32_length xs
  intro hr
  rw [right32_iff ys h.wf (by rw [h.len]; omega)] at hr
  have h0 := (right32_iff _ hw (by omega)).1 (sealed32_right xs hx)
  exact h.seen32 hw hn hm (by rw [hr, h0])

end Go.Proofs.Ytooelfmfcihlkaa
namespace Go.Proofs.Ytooelfmfcihlkaa
open Go.RowKit
set_option linter.unusedVariables false
set_option maxRecDepth 100000

theorem ckS_lt {p : List Int} (hl : p.length < 65536) (hp : ∀ x ∈ p, (Lit.int .u8 x).wf = true) : ckS p < 4294967296 := more32_lt _ p (more32_lt 0 _ (by decide) (ckH_wf hl)) hp
theorem be4_inj {s t : Nat} (hs : s < 4294967296) (ht : t < 4294967296) (h : be4 s = be4 t) : s = t := by
  unfold be4 at h
  injection h with h0 h
  injection h with h1 h
  injection h with h2 h
  injection h with h3 h
  omega
/-- What bytes say whose length is right. -/
theorem ckE_row {n : Nat} {z ys more : List Int} (hn : n ≤ 1024) (hz : z.length = 4) (hy : ys.length = n) : ckE (ckH n ++ (z ++ (ys ++ more))) = if z = be4 (ckS ys) then 0 else 5 := by
  have hN : ckN (ckH n ++ (z ++ (ys ++ more))) = n := by
    unfold ckN
    show ((n / 256 : Nat) : Int).toNat * 256 + ((n % 256 : Nat) : Int).toNat = n
    rw [Int.toNat_natCast, Int.toNat_natCast]
    omega
  have hd2 : (ckH n ++ (z ++ (ys ++ more))).drop 2 = z ++ (ys ++ more) := rfl
  have hd6 : (ckH n ++ (z ++ (ys ++ more))).drop 6 = ys ++ more := by
    rw [show (6 : Nat) = 2 + 4 from rfl, ← List.drop_drop, hd2, ← hz, List.drop_left]
  have hP : ckP (ckH n ++ (z ++ (ys ++ more))) = ys := by
    unfold ckP
    rw [hN, hd6, ← hy, List.take_left]
  have hL : (ckH n ++ (z ++ (ys ++ more))).length = 6 + n + more.length := by simp only [List.length_append, ckH, hz, hy, List.length_cons, List.length_nil]; omega
  unfold ckE
  rw [hN, hP, hL, hd2, if_neg (by omega), if_neg (by omega), if_neg (by omega), show (z ++ (ys ++ more)).take 4 = z by rw [← hz, List.take_left]]
theorem Turned.seenChunk {p ys : List Int} {at_ mask n : Nat} (h : Turned p ys at_ mask 32 n) (hx : ∀ x ∈ p, (Lit.int .u8 x).wf = true) (hn : n ≠ 0) (hm : mask < 4294967296) : ckS ys ≠ ckS p := by
  unfold ckS
  rw [h.len]
  intro e
  refine h.seen (b := 31) hx hn 3988292384 (4294967295 ^^^ more32 0 (ckH p.length)) (by decide) (by decide) (Nat.lt_of_le_of_lt (Nat.mod_le _ _) hm) ?_
  have := congrArg (4294967295 ^^^ ·) e
  simpa [more32, ← Nat.xor_assoc] using this
/-- Bits of the payload. -/
theorem ck_turned {p ys : List Int} {at_ mask n : Nat} (hl : p.length ≤ 1024) (h : Turned p ys at_ mask 32 n) (hx : ∀ x ∈ p, (Lit.int .u8 x).wf = true) (hn : n ≠ 0) (hm : mask < 4294967296) : ckE (ckH p.length ++ (be4 (ckS p) ++ (ys ++ []))) = 5 := by
  rw [ckE_row hl rfl h.len, if_neg]
  intro e
  exact h.seenChunk hx hn hm (be4_inj (ckS_lt (by omega) hx) (ckS_lt (by rw [h.len]; omega) h.wf) e).symm
/-- Bits of the sum. -/
theorem ck_turnedS {p ys : List Int} {at_ mask n : Nat} (hl : p.length ≤ 1024) (h : Turned (be4 (ckS p)) ys at_ mask 32 n) (hx : ∀ x ∈ p, (Lit.int .u8 x).wf = true) (hn : n ≠ 0) (hm : mask < 4294967296) : ckE (ckH p.length ++ (ys ++ (p ++ []))) = 5 := by
  rw [ckE_row hl h.len rfl, if_neg]
  intro e
  exact h.seenMore (be4_wf _) hn hm (by rw [e])
end Go.Proofs.Ytooelfmfcihlkaa
namespace Go.Proofs.Ytooelfmfcihlkaa
open Go.RowKit
set_option linter.unusedVariables false

/-- The slice v is nil and xs empty, or v begins a block of the call's own, whose cells are the integers xs, and others behind them. -/
def KOwn (k : IntKind) (e : TypeId) (w : World) (base : Nat) (v : Value) (xs : List Int) : Prop :=
  (v = .slice none 0 0 ∧ xs = []) ∨
  ∃ (g n cap : Nat) (r : List Int), v = .slice (some ⟨g, 0, none⟩) n cap ∧ base ≤ g ∧ xs.length = n ∧ w.heap[g]? = some (.cells (blk k (xs ++ r)) e (0, 0)) ∧ n ≤ cap ∧ cap ≤ maxLen ∧ xs.length + r.length = cap ∧ (∀ x ∈ r, (Lit.int k x).wf = true)
theorem KOwn.nil (k : IntKind) (e : TypeId) (w : World) (base : Nat) : KOwn k e w base (.slice none 0 0) [] := .inl ⟨rfl, rfl⟩
theorem KOwn.below {k : IntKind} {e : TypeId} {w w' : World} {base B : Nat} {v : Value} {xs : List Int} (h : KOwn k e w base v xs) (hb : Below B w w') (hB : w.heap.size ≤ B) : KOwn k e w' base v xs := by
  rcases h with h | ⟨g, n, cap, r, h1, h2, h3, h4, h5⟩
  · exact .inl h
  · exact .inr ⟨g, n, cap, r, h1, h2, h3, (hb.block g (by have := block_lt h4; omega)).trans h4, h5⟩
theorem KOwn.drewN {k : IntKind} {e : TypeId} {w : World} {base : Nat} {v : Value} {xs : List Int} (h : KOwn k e w base v xs) (n : Nat) : KOwn k e (w.drewN n) base v xs := h
theorem KOwn.mono {k : IntKind} {e : TypeId} {w : World} {base base' : Nat} {v : Value} {xs : List Int} (h : KOwn k e w base v xs) (hb : base' ≤ base) : KOwn k e w base' v xs := by
  rcases h with h | ⟨g, n, cap, r, h1, h2, h3⟩
  · exact .inl h
  · exact .inr ⟨g, n, cap, r, h1, by omega, h3⟩
theorem KOwn.block {k : IntKind} {e : TypeId} {w : World} {base : Nat} {v : Value} {xs : List Int} (h : KOwn k e w base v xs) : ∀ g, v.ownBlock = some g → base ≤ g ∧ g < w.heap.size := by
  intro g hg
  rcases h with ⟨rfl, _⟩ | ⟨g', n, cap, r, rfl, h2, h3, h4, h5⟩
  · cases hg
  · injection hg with hg
    subst hg
    exact ⟨h2, block_lt h4⟩
theorem KOwn.own {k : IntKind} {e : TypeId} {w : World} {base : Nat} {v : Value} {xs : List Int} (h : KOwn k e w base v xs) : Own k e w base v xs := by
  rcases h with ⟨rfl, rfl⟩ | ⟨g, n, cap, r, rfl, h2, h3, h4, h5, h6, h7, _⟩
  · exact Own.nil _ _ _ _
  · subst h3
    refine ⟨by simp, .inr ⟨g, cap, _, rfl, h2, h4, h5, h6, by rw [blk_size, List.length_append]; omega, ?_⟩⟩
    rw [Nat.mul_one]
    simp only [blk, List.map_append]
    rw [List.take_left' (by simp)]
theorem KOwn.row {k : IntKind} {e : TypeId} {w : World} {base : Nat} {v : Value} {xs : List Int} (h : KOwn k e w base v xs) (hw : ∀ x ∈ xs, (Lit.int k x).wf = true) :
    ∃ A c, v = .slice A xs.length c ∧ Row k w w.heap.size A xs ∧ xs.length ≤ c ∧ c ≤ maxLen := h.own.row hw
theorem KOwn.kept {k : IntKind} {e : TypeId} {w w' : World} {base : Nat} {v : Value} {xs : List Int} {row : Option Nat} (h : KOwn k e w base v xs) (hg : w.grownBy w' row) (hne : v.ownBlock = none ∨ v.ownBlock ≠ row) : KOwn k e w' base v xs := by
  rcases h with h | ⟨g, n, cap, r, rfl, h2, h3, h4, h5⟩
  · exact .inl h
  · refine .inr ⟨g, n, cap, r, rfl, h2, h3, (hg.block g (block_lt h4) ?_).trans h4, h5⟩
    rcases hne with h | h
    · cases h
    · exact h

section
variable {P : Program}
theorem zero_one (k : IntKind) (m : Nat) : Builtin.zeroCells (Value.int k 0).cells m = blk k (List.replicate m 0) := by
  have h := toList_madeCells_one (Value.int k 0) m
  apply Array.toList_inj.1
  show (madeCells (Value.int k 0).cells (m * 1)).toList = _
  rw [Nat.mul_one, show (Value.int k 0).cells = #[Value.int k 0] from rfl, h]
  simp [blk]
theorem run_append_full (w : World) (t : TypeId) (k : IntKind) (e : TypeId) (bytes : Nat) (ht : P.underlying t = some (.slice e)) (hi : (P.info? e).map (fun i => (i.zero, i.size, i.bytes)) = some (some (.int k 0), 1, bytes))
    (g n : Nat) (xs : List Int) (hg : w.heap[g]? = some (.cells (blk k xs) e (0, 0))) (hn : xs.length = n) (B : Nat) (A : Option Addr) (m c : Nat) (ys : List Int) (hr : Row k w B A ys) (hm : ys.length = m) (h1 : 1 ≤ m)
    (hb : (n + m) * bytes ≤ 140737488355328) (h63 : n + m ≤ maxLen) :
    ∃ cap, (∀ ty, (Builtin.append_ #[t, t] ty #[.slice (some ⟨g, 0, none⟩) n n, .slice A m c]).run P w = .ok (.slice (some ⟨w.heap.size, 0, none⟩) (n + m) cap) (w.drew.alloc (.cells (blk k (xs ++ ys ++ List.replicate (cap - (n + m)) 0)) e))) ∧ n + m ≤ cap ∧ cap ≤ maxLen := by
  obtain ⟨i, hi1, hz, hsz, hby⟩ := info_parts hi
  have h64 := h63
  simp only [maxLen] at h64
  obtain ⟨b, o, rfl, _, hc⟩ := hr.2 (by omega)
  have holds : ∀ j u, (xs.map (Value.int k))[j]? = some u → w.cell? ((⟨g, 0, none⟩ : Addr).add j) = some u := by
    intro j u hu
    rw [Go.WideShapes.add_plain, Nat.zero_add, cell_of_row w g j _ _ _ hg]
    simpa [blk] using hu
  have hnews : ∀ j u, (ys.map (Value.int k))[j]? = some u → w.cell? ((⟨b, o, none⟩ : Addr).add j) = some u := by
    intro j u hu
    rw [List.getElem?_map] at hu
    by_cases hj : j < ys.length
    · rw [List.getElem?_eq_getElem hj] at hu
      rw [Go.WideShapes.add_plain, hc j hj, nth_eq ys j hj]
      exact hu
    · rw [List.getElem?_eq_none (by omega)] at hu
      cases hu
  have hr := fun ty => run_append_grow (P := P) w t ty e i _ ht hi1 hz ⟨g, 0, none⟩ n n (xs.map (Value.int k)) (by rw [hsz]; simp; omega) holds ⟨b, o, none⟩ m c (ys.map (Value.int k)) (by rw [hsz]; simp; omega) hnews (by omega) (by omega) (growslice_fits (by omega) (by rw [hby]; omega))
  have hge := grownCap_ge w (n + m) n e
  refine ⟨grownCap w (n + m) n e, fun ty => ?_, hge, grownCap_le_maxLen w (n + m) n e h63⟩
  rw [hr ty, zero_one]
  congr 3
  apply Array.toList_inj.1
  simp [blk]
/-- An append whose outcome is known. -/
theorem wpList_append_run {ops : Array Oper} {rest : List Oper} {o : Oper} {a : Act} {Q : Exit → Act → World → Prop} (w : World) (hgd : o.guard = none) (s x : Operand) (t : TypeId)
    (ho : o.op = .call { callee := .builtin .append, args := #[s, x], argTypes := #[t, t] }) (v u v' : Value) (w' : World) (hs : a.eval s = v) (hx : a.eval x = u)
    (hrun : ∀ ty, (Builtin.append_ #[t, t] ty #[v, u]).run P w = .ok v' w') (h : wpList P ops Q rest (a.put o.dst v') w') : wpList P ops Q (o :: rest) a w := by
  refine wpList_plain hgd fun K hK => ?_
  unfold Oper.wp
  simp [execOp, ho, resolve, invoke, builtin, hs, hx, hrun, Result.andThen]
  exact hK _ _ h
theorem step_append_run {ops : Array Oper} {o : Oper} {a : Act} {K : Act → World → Prop} {Q : Exit → Act → World → Prop} {E : Prop} (w : World) (hgd : o.guard = none) (s x : Operand) (t : TypeId)
    (ho : o.op = .call { callee := .builtin .append, args := #[s, x], argTypes := #[t, t] }) (v u v' : Value) (w' : World) (hs : a.eval s = v) (hx : a.eval x = u)
    (hrun : ∀ ty, (Builtin.append_ #[t, t] ty #[v, u]).run P w = .ok v' w') (h : K (a.put o.dst v') w') :
    if Region.wanted o (yielded ops a.tmps) = true then Oper.wp P o a w K Q else E := by
  have hw : Region.wanted o (yielded ops a.tmps) = true := by simp [Region.wanted, hgd]
  rw [if_pos hw]
  unfold Oper.wp execOp
  simp only [ho, resolve, invoke, builtin, Sem.run_bind, Sem.run_pure, Result.andThen_ok, List.map_toArray, List.map_cons, List.map_nil, hs, hx, hrun]
  exact h
end
end Go.Proofs.Ytooelfmfcihlkaa
namespace Go.Proofs.Ytooelfmfcihlkaa
open Go.RowKit
set_option linter.unusedVariables false

theorem below_drewN {B : Nat} {a w : World} (h : Below B a w) (n : Nat) : Below B a (w.drewN n) := ⟨h.os, h.tape, h.output, h.size, h.block⟩
/-- Block g is just the row l. (A name: so the walk does not rewrite by it.) -/
def Bk (w : World) (g : Nat) (l : List Int) : Prop := w.heap[g]? = some (.cells (blk .u8 l) 5 (0, 0))
theorem Bk.below {w w' : World} {g : Nat} {l : List Int} (h : Bk w g l) (hb : Below w.heap.size w w') : Bk w' g l := (hb.block g (block_lt h)).trans h
theorem Bk.lt {w : World} {g : Nat} {l : List Int} (h : Bk w g l) : g < w.heap.size := block_lt h
theorem Bk.drewN {w : World} {g : Nat} {l : List Int} (h : Bk w g l) (n : Nat) : Bk (w.drewN n) g l := h
theorem Bk.row {w : World} {g : Nat} {l : List Int} (h : Bk w g l) (xs : List Int) (hw : ∀ x ∈ xs, (Lit.int .u8 x).wf = true) (hp : xs <+: l) : Row .u8 w w.heap.size (some ⟨g, 0, none⟩) xs :=
  (Row.of_block h xs hw hp).more h.lt
/-- A slice that is nil, or the beginning of block g. -/
def Li (w : World) (A : Option Addr) (m g : Nat) (l r : List Int) : Prop := A = none ∧ m = 0 ∨ A = some ⟨g, 0, none⟩ ∧ Bk w g (l ++ r)
theorem Li.below {w w' : World} {A : Option Addr} {m g : Nat} {l r : List Int} (h : Li w A m g l r) (hb : Below w.heap.size w w') : Li w' A m g l r := by
  rcases h with h | ⟨h1, h2⟩
  · exact .inl h
  · exact .inr ⟨h1, h2.below hb⟩
theorem Li.row {w : World} {A : Option Addr} {m g : Nat} {l r : List Int} (h : Li w A m g l r) (hm : l.length = m) (hw : ∀ x ∈ l, (Lit.int .u8 x).wf = true) : Row .u8 w w.heap.size A l := by
  rcases h with ⟨h1, h2⟩ | ⟨h1, h2⟩
  · have : l = [] := List.eq_nil_of_length_eq_zero (by omega)
    subst this
    exact Row.nil _ _ _ _
  · subst h1
    exact h2.row l hw (List.prefix_append _ _)
theorem bel_drewN (w : World) (n : Nat) : Below w.heap.size w (w.drewN n) := ⟨rfl, rfl, rfl, Nat.le_refl _, fun _ _ => rfl⟩

/-- A call returns a pair: a list that is nil or fills the first new block, and a number. -/
def Gives (w : World) (l : List Int) (err : Int) (e : Ending) (w' : World) : Prop :=
  ∃ A m, e = .returned (.tuple #[.slice A m m, .int .i64 err]) ∧ l.length = m ∧ Li w' A m w.heap.size l [] ∧ Below w.heap.size w w'
/-- A call returns a pair: a list of its own, and a number. -/
def GivesOwn (w : World) (l : List Int) (err : Int) (e : Ending) (w' : World) : Prop :=
  ∃ v, e = .returned (.tuple #[v, .int .i64 err]) ∧ Own .u8 5 w' w.heap.size v l ∧ Below w.heap.size w w'
theorem Li.lt {w : World} {A : Option Addr} {m g : Nat} {l r : List Int} (h : Li w A m g l r) : A = none ∨ g < w.heap.size := by
  rcases h with ⟨h1, _⟩ | ⟨_, h2⟩
  · exact .inl h1
  · exact .inr h2.lt
end Go.Proofs.Ytooelfmfcihlkaa
namespace Go.Proofs.Ytooelfmfcihlkaa
open Go.RowKit
set_option linter.unusedVariables false

theorem below_drew {B : Nat} {a w : World} (h : Below B a w) : Below B a w.drew := ⟨h.os, h.tape, h.output, h.size, h.block⟩
/-- The cells of a block that is known whole, and what a store makes of it. -/
theorem box_set {w : World} {g : Nat} {cs : Array Value} {t : TypeId} (h : w.heap[g]? = some (.cells cs t (0, 0))) (i : Nat) (v : Value) : (w.setCell ⟨g, i, none⟩ v).heap[g]? = some (.cells (cs.setIfInBounds i v) t (0, 0)) := by
  simp [World.setCell, Array.getElem?_modify, h]
theorem below_setCell {B : Nat} {a w : World} {g : Nat} (h : Below B a w) (hg : B ≤ g) (i : Nat) (v : Value) : Below B a (w.setCell ⟨g, i, none⟩ v) :=
  ⟨h.os, h.tape, h.output, by simpa [World.setCell] using h.size, fun k hk => (Below.heap_setCell w ⟨g, i, none⟩ v k (by simp; omega)).trans (h.block k hk)⟩


theorem heap_alloc_two (w : World) (o o' : Obj) : ((w.alloc o).alloc o').heap[w.heap.size + 1]? = some o' := by
  have h := heap_alloc_new (w.alloc o) o'
  rw [show (w.alloc o).heap.size = w.heap.size + 1 by simp] at h
  exact h

/-- Block g is known whole, and what lies below it is as it was. -/
def Bx (w0 : World) (g : Nat) (o : Obj) (w : World) : Prop := w.heap[g]? = some o ∧ Below g w0 w
theorem Bx.new (w : World) (o : Obj) : Bx w w.heap.size o (w.alloc o) := ⟨heap_alloc_new w o, bel_alloc w o⟩
theorem Bx.lt {w0 w : World} {g : Nat} {o : Obj} (h : Bx w0 g o w) : g < w.heap.size := block_lt h.1
theorem Bx.below {w0 w w' : World} {g : Nat} {o : Obj} (h : Bx w0 g o w) (hb : Below w.heap.size w w') : Bx w0 g o w' :=
  ⟨(hb.block g h.lt).trans h.1, h.2.trans (hb.mono (Nat.le_of_lt h.lt))⟩
theorem Bx.below2 {w0 w w' : World} {g B : Nat} {o : Obj} (h : Bx w0 g o w) (hb : Below B w w') (hB : g < B) : Bx w0 g o w' :=
  ⟨(hb.block g hB).trans h.1, h.2.trans (hb.mono (Nat.le_of_lt hB))⟩
theorem Bx.drewN {w0 w : World} {g : Nat} {o : Obj} (h : Bx w0 g o w) (n : Nat) : Bx w0 g o (w.drewN n) := h.below (bel_drewN w n)
theorem Bx.drew {w0 w : World} {g : Nat} {o : Obj} (h : Bx w0 g o w) : Bx w0 g o w.drew := h.below ⟨rfl, rfl, rfl, Nat.le_refl _, fun _ _ => rfl⟩
theorem Bx.alloc {w0 w : World} {g : Nat} {o : Obj} (h : Bx w0 g o w) (o' : Obj) : Bx w0 g o (w.alloc o') := h.below (bel_alloc w o')
theorem Bx.grown {w0 w w' : World} {g : Nat} {o : Obj} {row : Option Nat} (h : Bx w0 g o w) (hg : w.grownBy w' row) (hr : ∀ k, row = some k → g < k) : Bx w0 g o w' :=
  ⟨(hg.block g h.lt (fun e => by have := hr g e.symm; omega)).trans h.1, h.2.grown hg (Nat.le_of_lt h.lt) (fun k e => by have := hr k e; omega)⟩
theorem Bx.six {w0 w : World} {g : Nat} {t : TypeId} {v0 v1 v2 v3 v4 v5 : Value} (h : Bx w0 g (.cells #[v0, v1, v2, v3, v4, v5] t (0, 0)) w) :
    w.cell? ⟨g, 0, none⟩ = some v0 ∧ w.cell? ⟨g, 1, none⟩ = some v1 ∧ w.cell? ⟨g, 2, none⟩ = some v2 ∧ w.cell? ⟨g, 3, none⟩ = some v3 ∧ w.cell? ⟨g, 4, none⟩ = some v4 ∧ w.cell? ⟨g, 5, none⟩ = some v5 :=
  ⟨cell_of_row _ _ 0 _ _ _ h.1, cell_of_row _ _ 1 _ _ _ h.1, cell_of_row _ _ 2 _ _ _ h.1, cell_of_row _ _ 3 _ _ _ h.1, cell_of_row _ _ 4 _ _ _ h.1, cell_of_row _ _ 5 _ _ _ h.1⟩
end Go.Proofs.Ytooelfmfcihlkaa
