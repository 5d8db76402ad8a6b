/-
  Texts of the proof of ChunkLaysUpto, joined.
-/
import Derived.WalkKit
import Derived.WalkSpells
import Derived.WalkLawsBesides
import Derived.Outline
import Derived.Lib.Hide
import Derived.Deep.QuietTactic
import Derived.BigQuiet
import Derived.Deep.Draws
import Derived.ProofKit
import Derived.OpenShut
import Derived.ShutString
import Derived.ChangeOld
import Derived.SizedLaws
import Derived.Test.YtooelfmfcihlkaaRows
import Derived.Deep.AppendLies
import Derived.Laws.AppendOwn
import Derived.Laws.CopyOwn
import Derived.Maps.AppendAt
import Derived.Deep.RegionHeld3
import Derived.Test.YtooelfmfcihlkaaProg
import Derived.Lib.Bytes
namespace Go.Proofs.Ytooelfmfcihlkaa
open Go.RowKit

/-- The i-th number of a list, behind a name that the walk's simp does not open. -/
def nth (l : List Int) (i : Nat) : Int := l.getD i 0
theorem nth_eq (l : List Int) (i : Nat) (h : i < l.length) : nth l i = l[i] := by simp [nth, List.getD_eq_getElem?_getD, List.getElem?_eq_getElem h]
theorem nth_mem (l : List Int) (i : Nat) (h : i < l.length) : nth l i ∈ l := by rw [nth_eq l i h]; exact List.getElem_mem h
theorem nth_left (l m : List Int) (i : Nat) (h : i < l.length) : nth (l ++ m) i = nth l i := by
  rw [nth_eq _ _ h, nth_eq _ _ (by simp; omega)]; exact List.getElem_append_left h
theorem nth_right (l m : List Int) (i : Nat) : nth (l ++ m) (l.length + i) = nth m i := by
  simp [nth, List.getD_eq_getElem?_getD, List.getElem?_append_right]
theorem nth_replicate (n i : Nat) (v : Int) (h : i < n) : nth (List.replicate n v) i = v := by rw [nth_eq _ _ (by simpa using h)]; simp
theorem ext_nth (a b : List Int) (hl : a.length = b.length) (h : ∀ i, i < a.length → nth a i = nth b i) : a = b := by
  refine List.ext_getElem hl fun i h1 h2 => ?_
  rw [← nth_eq a i h1, ← nth_eq b i h2]; exact h i h1

/-- The cells of a row of integers. -/
def blk (k : IntKind) (l : List Int) : Array Value := (l.map (Value.int k)).toArray

theorem blk_size (k : IntKind) (l : List Int) : (blk k l).size = l.length := by simp [blk]
theorem blk_get (k : IntKind) (l : List Int) (i : Nat) (h : i < l.length) : (blk k l)[i]? = some (.int k (nth l i)) := by
  simp [blk, List.getElem?_eq_getElem h, nth_eq l i h]
theorem blk_set (k : IntKind) (l : List Int) (i : Nat) (v : Int) : (blk k l).setIfInBounds i (.int k v) = blk k (l.set i v) := by
  simp [blk, List.map_set]

/-- A slice that reads as the list xs of integers of kind k, in blocks below B. -/
def Row (k : IntKind) (w : World) (B : Nat) (A : Option Addr) (xs : List Int) : Prop :=
  (∀ x ∈ xs, (Lit.int k x).wf = true) ∧ (0 < xs.length → ∃ b o, A = some ⟨b, o, none⟩ ∧ b < B ∧ ∀ i, i < xs.length → w.cell? ⟨b, o + i, none⟩ = some (.int k (nth xs i)))

theorem Row.keep {k : IntKind} {w w' : World} {B : Nat} {A : Option Addr} {xs : List Int} (h : Row k w B A xs) (hk : ∀ b o, b < B → w'.cell? ⟨b, o, none⟩ = w.cell? ⟨b, o, none⟩) : Row k w' B A xs := by
  refine ⟨h.1, fun hn => ?_⟩
  obtain ⟨b, o, e, hb, hc⟩ := h.2 hn
  exact ⟨b, o, e, hb, fun i hi => (hk _ _ hb).trans (hc i hi)⟩
theorem Row.more {k : IntKind} {w : World} {B B' : Nat} {A : Option Addr} {xs : List Int} (h : Row k w B A xs) (hB : B ≤ B') : Row k w B' A xs := by
  refine ⟨h.1, fun hn => ?_⟩
  obtain ⟨b, o, e, hb, hc⟩ := h.2 hn
  exact ⟨b, o, e, by omega, hc⟩
theorem Row.below {k : IntKind} {w w' : World} {B : Nat} {A : Option Addr} {xs : List Int} (h : Row k w B A xs) (hb : Below B w w') : Row k w' B A xs :=
  h.keep fun b o hlt => hb.cell (p := ⟨b, o, none⟩) hlt
theorem Row.alloc {k : IntKind} {w : World} {B : Nat} {A : Option Addr} {xs : List Int} (h : Row k w B A xs) (hB : B ≤ w.heap.size) (o : Obj) : Row k (w.alloc o) B A xs :=
  h.below ((Below.refl _ _).alloc hB o)
theorem Row.drewN {k : IntKind} {w : World} {B : Nat} {A : Option Addr} {xs : List Int} (h : Row k w B A xs) (n : Nat) : Row k (w.drewN n) B A xs := h
theorem Row.nil (k : IntKind) (w : World) (B : Nat) (A : Option Addr) : Row k w B A [] := ⟨by simp, by simp⟩
/-- A row that lies at the head of a new block. -/
theorem Row.new (k : IntKind) (w : World) (t : TypeId) (l xs : List Int) (hw : ∀ x ∈ xs, (Lit.int k x).wf = true) (hp : xs <+: l) :
    Row k (w.alloc (.cells (blk k l) t)) (w.heap.size + 1) (some ⟨w.heap.size, 0, none⟩) xs := by
  obtain ⟨ys, rfl⟩ := hp
  refine ⟨hw, fun _ => ⟨_, _, rfl, Nat.lt_succ_self _, fun i hi => ?_⟩⟩
  rw [World.cell?_alloc_at _ _ _ _ rfl, Nat.zero_add, blk_get _ _ _ (by simp; omega), nth_left _ _ _ hi]
/-- A row at the head of a block that is known whole, whatever of it is frozen. -/
theorem Row.of_block {k : IntKind} {w : World} {g : Nat} {t : TypeId} {fr : Nat × Nat} {l : List Int} (hg : w.heap[g]? = some (.cells (blk k l) t fr)) (xs : List Int) (hw : ∀ x ∈ xs, (Lit.int k x).wf = true) (hp : xs <+: l) :
    Row k w (g + 1) (some ⟨g, 0, none⟩) xs := by
  obtain ⟨ys, rfl⟩ := hp
  refine ⟨hw, fun _ => ⟨_, _, rfl, Nat.lt_succ_self _, fun i hi => ?_⟩⟩
  rw [Nat.zero_add, cell_of_row w g i _ _ _ hg, blk_get _ _ _ (by simp; omega), nth_left _ _ _ hi]
/-- One cell of a row, for the walk. -/
theorem Row.at_ {k : IntKind} {w : World} {B : Nat} {A : Option Addr} {xs : List Int} (h : Row k w B A xs) {i : Nat} (hi : i < xs.length) :
    ∃ b o, A = some ⟨b, o, none⟩ ∧ b < B ∧ w.cell? ⟨b, o + i, none⟩ = some (.int k (nth xs i)) := by
  obtain ⟨b, o, e, hb, hc⟩ := h.2 (by omega)
  exact ⟨b, o, e, hb, hc i hi⟩
theorem Row.wf_at {k : IntKind} {w : World} {B : Nat} {A : Option Addr} {xs : List Int} (h : Row k w B A xs) {i : Nat} (hi : i < xs.length) : (Lit.int k (nth xs i)).wf = true := h.1 _ (nth_mem _ _ hi)

theorem wf_u8 {n : Int} (h : (Lit.int .u8 n).wf = true) : 0 ≤ n ∧ n < 256 := by
  simp [Lit.wf, IntKind.min, IntKind.max, IntKind.signed, IntKind.bits] at h; omega
theorem wf_u16 {n : Int} (h : (Lit.int .u16 n).wf = true) : 0 ≤ n ∧ n < 65536 := by
  simp [Lit.wf, IntKind.min, IntKind.max, IntKind.signed, IntKind.bits] at h; omega
theorem wf_u64 {n : Int} (h : (Lit.int .u64 n).wf = true) : 0 ≤ n ∧ n < 18446744073709551616 := by
  simp [Lit.wf, IntKind.min, IntKind.max, IntKind.signed, IntKind.bits] at h; omega
theorem wf_i64 {n : Int} (h : (Lit.int .i64 n).wf = true) : -9223372036854775808 ≤ n ∧ n < 9223372036854775808 := by
  simp [Lit.wf, IntKind.min, IntKind.max, IntKind.signed, IntKind.bits] at h; omega

theorem wf_append {k : IntKind} {xs ys : List Int} (h : ∀ x ∈ xs, (Lit.int k x).wf = true) (h' : ∀ x ∈ ys, (Lit.int k x).wf = true) : ∀ x ∈ xs ++ ys, (Lit.int k x).wf = true := fun x hx => (List.mem_append.1 hx).elim (h x) (h' x)
theorem take_step (xs : List Int) (k : Nat) (h : k < xs.length) : xs.take (k + 1) = xs.take k ++ [nth xs k] := by
  rw [List.take_succ_eq_append_getElem h, nth_eq xs k h]
/-- The k-th place of what is filled up to k is written. -/
theorem set_step (l : List Int) (m k : Nat) (v x : Int) (h : l.length = k) : (l ++ List.replicate (m + 1) v).set k x = l ++ [x] ++ List.replicate m v := by
  rw [List.set_append_right _ _ (by omega)]
  simp [h, List.replicate_succ]
theorem fill_cell (k : IntKind) (l : List Int) (m i : Nat) (v : Int) (h : l.length = i) (hm : 0 < m) : (blk k (l ++ List.replicate m v))[i]? = some (.int k v) := by
  rw [blk_get _ _ _ (by simp; omega)]
  subst h
  have := nth_right l (List.replicate m v) 0
  rw [Nat.add_zero] at this
  rw [this, nth_replicate _ _ _ hm]
end Go.Proofs.Ytooelfmfcihlkaa
namespace Go.Proofs.Ytooelfmfcihlkaa
open Go.ChangeShapes Go.WideShapes Go.ChangeAt Go.RowKit

theorem row_in {H : Type} {enc : TypeId × Value → H} {P : Program} {W : World} {t e : TypeId} {k : IntKind} {a : Option Addr} {len cap : Nat} {d : DataW H} {p : List MemPlace}
    (ht : P.underlying t = some (.slice e)) (he : P.underlying e = some (.int k)) (hc : P.cellsOf e = 1)
    (h : DataW.Trod enc P W 0 (fun _ => true) true t (.slice a len cap) d p) (lt : ∀ x ∈ p, x.block < W.heap.size) :
    ∃ xs, Row k W W.heap.size a xs ∧ xs.length = len ∧ len ≤ cap ∧ (cap = 0 ∨ ∃ el sp, d = .slice el sp ∧ cap ≤ el.length + sp.length) := by
  obtain ⟨fuel, hf⟩ := h
  rcases open_ints ht he hc hf with ⟨hcs, _⟩ | ⟨x, l, c, zs, hcs, _, hl, hm, hz, hx, hcell, hwz⟩
  · simp [Value.cells] at hcs
    obtain ⟨rfl, rfl, rfl⟩ := hcs
    exact ⟨[], Row.nil _ _ _ _, rfl, Nat.le_refl _, .inl rfl⟩
  · simp [Value.cells] at hcs
    obtain ⟨rfl, rfl, rfl⟩ := hcs
    simp only [if_true] at hz
    simp only [Prod.mk.injEq] at hx
    obtain ⟨rfl, rfl⟩ := hx
    refine ⟨zs.take len, ⟨fun v hv => hwz v (List.mem_of_mem_take hv), fun hn => ?_⟩, by simp; omega, hl, .inr ⟨_, _, rfl, by simp [lits]; omega⟩⟩
    have hpos : 0 < zs.length := by simp at hn; omega
    have hb := lt (.cell x.block x.off) (MemPlace.mem_row.2 ⟨0, hpos, by simp⟩)
    obtain ⟨b, off, rfl, hc'⟩ := ints_at hcell hpos
    refine ⟨b, off, rfl, hb, fun i hi => ?_⟩
    have hi' : i < len ∧ i < zs.length := by simp at hi; omega
    rw [hc' i hi'.2, nth, List.getD_eq_getElem?_getD, List.getD_eq_getElem?_getD, List.getElem?_take_of_lt hi'.1]

theorem reach_in {H : Type} {P : Program} {ts : List TypeId} {ds : List (DataW H)} (hsz : (DataW.weightsEach P ts ds).all (· ≤ reachBytes) = true) (j : Nat) {t e : TypeId} {d : DataW H} {cap : Nat} (ht : ts[j]? = some t) (hd : ds[j]? = some d)
    (hu : P.underlying t = some (.slice e)) (hb : 0 < P.bytesOf e) (h : cap = 0 ∨ ∃ el sp, d = .slice el sp ∧ cap ≤ el.length + sp.length) : cap ≤ 140737488351232 := by
  rcases h with rfl | ⟨el, sp, rfl, hle⟩
  · omega
  · have := sized_slice hsz ht hd hu
    have h2 : el.length + sp.length ≤ (el.length + sp.length) * P.bytesOf e := Nat.le_mul_of_pos_right _ hb
    simp only [reachBytes] at this
    omega
end Go.Proofs.Ytooelfmfcihlkaa
namespace Go.Proofs.Ytooelfmfcihlkaa

/-- A register goes down by one bit. -/
def dn (p r : Nat) : Nat := if r % 2 = 1 then r / 2 ^^^ p else r / 2
/-- It goes down by k bits. -/
def dnN (p : Nat) : Nat → Nat → Nat
  | 0, r => r
  | k + 1, r => dn p (dnN p k r)
/-- It takes a byte. -/
def tk (p r v : Nat) : Nat := dnN p 8 (r ^^^ v)
/-- It takes all bytes of a list. -/
def tkAll (p r : Nat) (l : List Int) : Nat := l.foldl (fun r v => tk p r v.toNat) r

theorem tkAll_snoc (p r : Nat) (l : List Int) (v : Int) : tkAll p r (l ++ [v]) = tk p (tkAll p r l) v.toNat := by simp [tkAll]
theorem tkAll_append (p r : Nat) (l m : List Int) : tkAll p r (l ++ m) = tkAll p (tkAll p r l) m := by simp [tkAll]

theorem dn_lt {p b r : Nat} (hp : p < 2 ^ b) (hr : r < 2 ^ b) : dn p r < 2 ^ b := by
  unfold dn
  split
  · exact Nat.xor_lt_two_pow (by omega) hp
  · omega
theorem dnN_lt {p b r : Nat} (hp : p < 2 ^ b) (hr : r < 2 ^ b) (k : Nat) : dnN p k r < 2 ^ b := by
  induction k with
  | zero => exact hr
  | succ k ih => exact dn_lt hp ih
theorem tk_lt {p b r v : Nat} (hp : p < 2 ^ b) (hr : r < 2 ^ b) (hv : v < 2 ^ b) : tk p r v < 2 ^ b := dnN_lt hp (Nat.xor_lt_two_pow hr hv) 8
theorem tkAll_lt {p b r : Nat} (hp : p < 2 ^ b) (hr : r < 2 ^ b) (h8 : 256 ≤ 2 ^ b) (l : List Int) (hl : ∀ v ∈ l, v.toNat < 256) : tkAll p r l < 2 ^ b := by
  induction l generalizing r with
  | nil => exact hr
  | cons v l ih => exact ih (tk_lt hp hr (Nat.lt_of_lt_of_le (hl v (by simp)) h8)) fun x hx => hl x (by simp [hx])

/- Linearity: what is laid over goes through. -/
theorem xor_mod2 (a b : Nat) : (a ^^^ b) % 2 = (a % 2 + b % 2) % 2 := by
  have h := Nat.xor_mod_two_pow (a := a) (b := b) (n := 1)
  rw [Nat.pow_one] at h
  rw [h]
  have ha : a % 2 = 0 ∨ a % 2 = 1 := by omega
  have hb : b % 2 = 0 ∨ b % 2 = 1 := by omega
  rcases ha with ha | ha <;> rcases hb with hb | hb <;> simp [ha, hb]
theorem xor_div2 (a b : Nat) : (a ^^^ b) / 2 = a / 2 ^^^ b / 2 := by
  have := Nat.shiftRight_xor_distrib (a := a) (b := b) (i := 1)
  simpa [Nat.shiftRight_eq_div_pow] using this
theorem dn_xor (p a b : Nat) : dn p (a ^^^ b) = dn p a ^^^ dn p b := by
  unfold dn
  rw [xor_mod2, xor_div2]
  have ha : a % 2 = 0 ∨ a % 2 = 1 := by omega
  have hb : b % 2 = 0 ∨ b % 2 = 1 := by omega
  rcases ha with ha | ha <;> rcases hb with hb | hb <;> simp [ha, hb]
  · rw [Nat.xor_assoc]
  · rw [Nat.xor_assoc, Nat.xor_comm (b / 2) p, ← Nat.xor_assoc]
  · rw [Nat.xor_assoc, ← Nat.xor_assoc p, Nat.xor_comm p, Nat.xor_assoc, Nat.xor_self, Nat.xor_zero]
theorem dnN_xor (p k a b : Nat) : dnN p k (a ^^^ b) = dnN p k a ^^^ dnN p k b := by
  induction k with
  | zero => rfl
  | succ k ih => simp only [dnN, ih, dn_xor]
theorem dn_zero (p : Nat) : dn p 0 = 0 := by simp [dn]
theorem dnN_zero (p k : Nat) : dnN p k 0 = 0 := by
  induction k with
  | zero => rfl
  | succ k ih => simp only [dnN, ih, dn_zero]
theorem dnN_add (p k m r : Nat) : dnN p (k + m) r = dnN p k (dnN p m r) := by
  induction k with
  | zero => simp [dnN]
  | succ k ih => rw [Nat.succ_add]; simp only [dnN, ih]

/- No two registers go down to the same: the sum's own number has its highest bit. -/
theorem dn_inj0 {p b r : Nat} (hp1 : 2 ^ b ≤ p) (hr : r < 2 ^ (b + 1)) (h : dn p r = 0) : r = 0 := by
  unfold dn at h
  split at h
  · have h1 : r / 2 = p := by
      have := congrArg (· ^^^ p) h
      simpa [Nat.xor_assoc] using this
    have : 2 ^ (b + 1) = 2 * 2 ^ b := by rw [Nat.pow_succ]; omega
    omega
  · omega
theorem dnN_inj0 {p b : Nat} (hp1 : 2 ^ b ≤ p) (hp2 : p < 2 ^ (b + 1)) (k : Nat) {r : Nat} (hr : r < 2 ^ (b + 1)) (h : dnN p k r = 0) : r = 0 := by
  induction k with
  | zero => exact h
  | succ k ih => exact ih (dn_inj0 hp1 (dnN_lt hp2 hr k) h)
end Go.Proofs.Ytooelfmfcihlkaa
namespace Go.Proofs.Ytooelfmfcihlkaa
open Go.RowKit

theorem info_u8 : (Try.prog.info? 5).map (fun i => (i.zero, i.size, i.bytes)) = some (some (.int .u8 0), 1, 1) := by kernel_rfl

theorem made_zero (z : Int) (n : Nat) : madeCells (Value.int .u8 z).cells (n * 1) = blk .u8 (List.replicate n z) := by
  apply Array.toList_inj.1
  rw [show (Value.int .u8 z).cells = #[Value.int .u8 z] from rfl, toList_madeCells_one, Nat.mul_one]
  simp [blk]

theorem make_u8 (n : Nat) (hn : n ≤ 140737488355328) (W : World) :
    (Instr.makeSlice 22 (.int .i64 (n : Int)) (.int .i64 (n : Int))).run Try.prog W = .ok (.slice (some ⟨W.heap.size, 0, none⟩) n n) (W.alloc (.cells (blk .u8 (List.replicate n 0)) 5)) := by
  obtain ⟨i, hi, hz, hs, hb⟩ := info_parts info_u8
  have h := run_make (P := Try.prog) W 22 5 i (.int .u8 0) Try.underlying22 hi hz .i64 .i64 n n (by omega) (by omega) (by rw [hb]; omega) (by omega)
  rw [h, hs, Int.toNat_natCast, made_zero]

def marks5 : List Int := [165, 165, 165, 165, 165]

/-- LentBytes: the same list in a new block, five marks behind it. -/
theorem lent_u8 (A : Option Addr) (n c : Nat) (xs : List Int) (w : World) (hr : Row .u8 w w.heap.size A xs) (hn : xs.length = n) (hb : n ≤ 140737488351232) : 
    Calls Try.prog 10 #[.slice A n c] w fun e w' => e = .returned (.slice (some ⟨w.heap.size, 0, none⟩) n (n+5)) ∧ w' = w.alloc (.cells (blk .u8 (xs ++ marks5)) 5) := by
  have hmk := make_u8 (n + 5) (by omega)
  rw [show ((n + 5 : Nat) : Int) = (n : Int) + 5 by omega] at hmk
  go_enter Try.func10, Try.ntmps10
  go_wp2
  go_loopw [4] (fun i wr => ∃ k : Nat, k ≤ n ∧ i = .int .i64 k ∧ wr = w.alloc (.cells (blk .u8 (xs.take k ++ List.replicate (n + 5 - k) 0)) 5)) (fun i _ => n - (intOf i).toNat)
  case atStart => exact ⟨0, by omega, rfl, by simp⟩
  case round =>
    obtain ⟨k, hk, rfl, rfl⟩ := hrel
    by_cases hlt : k < n
    · obtain ⟨b, o, rfl, hb1, hc1⟩ := hr.at_ (i := k) (by omega)
      have hc2 := fill_cell .u8 (xs.take k) (n + 5 - k) k 0 (by simp; omega) (by omega)
      have HS := Lib.hid (set_step (xs.take k) (n + 5 - (k + 1)) k 0 (nth xs k) (by simp; omega))
      go_wp2
      go_roundw
      case rel => exact ⟨k + 1, by omega, by go_num, by rw [blk_set, show n + 5 - k = (n + 5 - (k + 1)) + 1 by omega, HS.out, take_step xs k (by omega)]⟩
      case measure => simp [intOf]; omega
    · obtain rfl : k = n := by omega
      have hx : xs.take k = xs := List.take_of_length_le (by omega)
      rw [hx, show k + 5 - k = 5 by omega]
      clear hx hlt hk
      go_wp2
      go_loopw [5] (fun i wr => ∃ (j : Nat) (L : List Int), j ≤ 5 ∧ i = .int .i64 (k + j : Nat) ∧ Hid (L = xs ++ List.replicate j 165 ++ List.replicate (5 - j) 0) ∧ wr = w.alloc (.cells (blk .u8 L) 5)) (fun i _ => k + 5 - (intOf i).toNat)
      case atStart => exact ⟨0, _, by omega, rfl, Lib.hid (by simp), rfl⟩
      case round =>
        obtain ⟨j, L, hj, rfl, hL, rfl⟩ := hrel
        by_cases hlt : j < 5
        · have hc2 := fill_cell .u8 (xs ++ List.replicate j 165) (5 - j) (k + j) 0 (by simp; omega) (by omega)
          rw [← hL.out] at hc2
          have HS := Lib.hid (set_step (xs ++ List.replicate j 165) (5 - (j + 1)) (k + j) 0 165 (by simp; omega))
          go_wp2
          go_roundw
          case rel => exact ⟨j + 1, L.set (k + j) 165, by omega, by go_num, Lib.hid (by rw [hL.out, show 5 - j = (5 - (j + 1)) + 1 by omega, HS.out, List.replicate_succ', List.append_assoc xs]), by rw [blk_set]⟩
          case measure => simp [intOf]; omega
        · obtain rfl : j = 5 := by omega
          go_wp2
          go_ret
          exact ⟨rfl, by rw [hL.out]; simp [marks5, List.replicate]⟩

/-- SameBytes, where the lists are the same. -/
theorem same_yes_u8 (A A' : Option Addr) (n c c' : Nat) (xs : List Int) (w : World) (B B' : Nat) (hr : Row .u8 w B A xs) (hr' : Row .u8 w B' A' xs) (hn : xs.length = n) (hb : n ≤ 140737488355328) :
    Calls Try.prog 17 #[.slice A n c, .slice A' n c'] w fun e w' => e = .returned (.bool true) ∧ ∃ m, w' = w.drewN m := by
  go_enter Try.func17, Try.ntmps17
  go_wp2
  go_loopw [5] (fun i wr => ∃ k nq : Nat, k ≤ n ∧ i = .int .i64 k ∧ wr = w.drewN nq) (fun i _ => n - (intOf i).toNat)
  case atStart => exact ⟨0, 0, by omega, rfl, rfl⟩
  case round =>
    obtain ⟨k, nq, hk, rfl, rfl⟩ := hrel
    by_cases hlt : k < n
    · obtain ⟨b, o, rfl, hb1, hc1⟩ := hr.at_ (i := k) (by omega)
      obtain ⟨b', o', rfl, hb1', hc1'⟩ := hr'.at_ (i := k) (by omega)
      have hlt' : (k : Int) < (n : Int) := by omega
      go_wp2
      go_quiet (fail)
      go_wp2
      go_roundw
      case rel => exact ⟨k + 1, _, by omega, by go_num, rfl⟩
      case measure => simp [intOf]; omega
    · go_wp2
      go_ret
      exact ⟨rfl, nq, rfl⟩

/-- KeptBytes, where the list is in memory of its own with its five marks behind it. -/
theorem kept_u8 (A : Option Addr) (n c g : Nat) (xs : List Int) (w : World) (B : Nat) (hr : Row .u8 w B A xs) (hn : xs.length = n) (hb : n ≤ 140737488351232)
    (hg : w.heap[g]? = some (.cells (blk .u8 (xs ++ marks5)) 5 (0, 0))) :
    Calls Try.prog 20 #[.slice (some ⟨g, 0, none⟩) n (n + 5), .slice A n c] w fun e w' => e = .returned (.bool true) ∧ ∃ m, w' = w.drewN m := by
  have hcell : ∀ i, w.cell? ⟨g, i, none⟩ = (blk .u8 (xs ++ marks5))[i]? := fun i => cell_of_row w g i _ _ _ hg
  have hrow : Row .u8 w (g + 1) (some ⟨g, 0, none⟩) xs := by
    refine ⟨hr.1, fun _ => ⟨_, _, rfl, Nat.lt_succ_self _, fun i hi => ?_⟩⟩
    rw [Nat.zero_add, hcell, blk_get _ _ _ (by simp; omega), nth_left _ _ _ hi]
  have hmark : ∀ j, j < 5 → w.cell? ⟨g, n + j, none⟩ = some (.int .u8 165) := by
    intro j hj
    rw [hcell, blk_get _ _ _ (by simp [marks5]; omega), ← hn, nth_right]
    rcases j with _ | _ | _ | _ | _ | j <;> first | rfl | omega
  have HM := Lib.hid hmark
  clear hcell hmark hg
  go_enter Try.func20, Try.ntmps20
  go_wp2_with (go_at_call 17; refine (same_yes_u8 _ _ _ _ _ xs _ _ _ hrow hr hn (by omega)).mono ?_; rintro e w' ⟨rfl, m, rfl⟩)
  go_loop [6] (fun i => ∃ j : Nat, j ≤ 5 ∧ i = .int .i64 (n + j : Nat)) (fun i => n + 5 - (intOf i).toNat)
  case atStart => exact ⟨0, by omega, rfl⟩
  case round =>
    obtain ⟨j, hj, rfl⟩ := hrel
    by_cases hlt : j < 5
    · have hc := HM.out j hlt
      go_wp2
      go_round
      case rel => exact ⟨j + 1, by omega, by go_num⟩
      case measure => simp [intOf]; omega
    · go_wp2
      go_ret
      exact ⟨rfl, m, rfl⟩
end Go.Proofs.Ytooelfmfcihlkaa
namespace Go.Proofs.Ytooelfmfcihlkaa
open Go.RowKit

theorem cast_inj {k : IntKind} {a b : Int} (h : a = b) : Ending.returned (.int k a) = .returned (.int k b) := by rw [h]
theorem toNat_u8 {xs : List Int} (h : ∀ x ∈ xs, (Lit.int .u8 x).wf = true) : ∀ x ∈ xs, x.toNat < 256 := fun x hx => by have := wf_u8 (h x hx); omega

theorem and1_16 (r : Nat) (hr : r < 65536) : bits .and .u16 (r : Int) 1 = ((r % 2 : Nat) : Int) := by
  have := u16_and_nat r 1 hr (by omega)
  rw [nat_mask1] at this
  exact this
theorem xor_16 (a b : Nat) (ha : a < 65536) (hb : b < 65536) : bits .xor .u16 (a : Int) (b : Int) = ((a ^^^ b : Nat) : Int) := u16_xor_nat a b ha hb

end Go.Proofs.Ytooelfmfcihlkaa
namespace Go.Proofs.Ytooelfmfcihlkaa
open Go.RowKit
theorem and1_32 (r : Nat) (hr : r < 4294967296) : bits .and .u32 (r : Int) 1 = ((r % 2 : Nat) : Int) := by
  have := u32_and_nat r 1 hr (by omega)
  rw [nat_mask1] at this
  exact this
theorem xor_32 (a b : Nat) (ha : a < 4294967296) (hb : b < 4294967296) : bits .xor .u32 (a : Int) (b : Int) = ((a ^^^ b : Nat) : Int) := u32_xor_nat a b ha hb

theorem down_32 (r o : Nat) (hr : r < 4294967296) (ho : o < 4294967296) (w : World) :
    Calls Try.prog 36 #[.int .u32 r, .int .u32 o] w fun e w' => e = .returned (.int .u32 (dn o r : Nat)) ∧ w = w' := by
  by_cases h : r % 2 = 1
  · have ht : (bits .and .u32 (r : Int) 1 == 1) = true := by rw [and1_32 r hr, h]; rfl
    have hx : Hid (bits .xor .u32 ((r : Int) / 2) o = ((dn o r : Nat) : Int)) := by
      have := xor_32 (r / 2) o (by omega) ho
      show _ = _
      rw [dn, if_pos h, ← this]; rfl
    clear h
    go_enter Try.func36, Try.ntmps36
    go_wp2
    go_ret
    exact ⟨cast_inj hx.out, rfl⟩
  · have ht : (bits .and .u32 (r : Int) 1 == 1) = false := by rw [and1_32 r hr, show r % 2 = 0 by omega]; rfl
    have hx : Hid ((r : Int) / 2 = ((dn o r : Nat) : Int)) := by
      show _ = _
      rw [dn, if_neg h]; rfl
    clear h
    go_enter Try.func36, Try.ntmps36
    go_wp2
    go_ret
    exact ⟨cast_inj hx.out, rfl⟩

theorem take_32 (r o : Nat) (v : Int) (hr : r < 4294967296) (ho : o < 4294967296) (hv : (Lit.int .u8 v).wf = true) (w : World) :
    Calls Try.prog 35 #[.int .u32 r, .int .u32 o, .int .u8 v] w fun e w' => e = .returned (.int .u32 (tk o r v.toNat : Nat)) ∧ w = w' := by
  have hv' := wf_u8 hv
  obtain ⟨v, rfl⟩ := Int.eq_ofNat_of_zero_le hv'.1
  have hv2 : v < 256 := by omega
  have hx := xor_32 r v hr (by omega)
  clear hv hv'
  go_enter Try.func35, Try.ntmps35
  go_wp2
  go_loop [0, 11] (fun t i => ∃ k : Nat, k ≤ 8 ∧ i = .int .i64 k ∧ t = .int .u32 (dnN o k (r ^^^ v) : Nat)) (fun _ i => 8 - (intOf i).toNat)
  case atStart => exact ⟨0, by omega, rfl, rfl⟩
  case round =>
    obtain ⟨k, hk, rfl, rfl⟩ := hrel
    by_cases hlt : k < 8
    · have hb : dnN o k (r ^^^ v) < 4294967296 := dnN_lt (b := 32) ho (Nat.xor_lt_two_pow hr (by omega)) k
      go_wp2_with (go_at_call 36; refine (down_32 _ _ hb ho _).mono ?_; rintro e w' ⟨rfl, rfl⟩)
      go_round
      case rel => exact ⟨k + 1, by omega, by go_num, rfl⟩
      case measure => simp [intOf]; omega
    · obtain rfl : k = 8 := by omega
      go_wp2
      go_ret
      exact ⟨rfl, rfl⟩

theorem takeAll_32 (r o : Nat) (A : Option Addr) (n c : Nat) (xs : List Int) (hr : r < 4294967296) (ho : o < 4294967296) (w : World) (B : Nat) (hx : Row .u8 w B A xs) (hn : xs.length = n) (hm : n ≤ 140737488355328) :
    Calls Try.prog 34 #[.int .u32 r, .int .u32 o, .slice A n c] w fun e w' => e = .returned (.int .u32 (tkAll o r xs : Nat)) ∧ w = w' := by
  go_enter Try.func34, Try.ntmps34
  go_wp2
  go_loop [0, 11] (fun t i => ∃ k : Nat, k ≤ n ∧ i = .int .i64 k ∧ t = .int .u32 (tkAll o r (xs.take k) : Nat)) (fun _ i => n - (intOf i).toNat)
  case atStart => exact ⟨0, by omega, rfl, rfl⟩
  case round =>
    obtain ⟨k, hk, rfl, rfl⟩ := hrel
    by_cases hlt : k < n
    · obtain ⟨b, of, rfl, hb1, hc1⟩ := hx.at_ (i := k) (by omega)
      have hwf := hx.wf_at (i := k) (by omega)
      have hb : tkAll o r (xs.take k) < 4294967296 := tkAll_lt (b := 32) ho hr (by decide) _ fun x hm => toNat_u8 hx.1 x (List.mem_of_mem_take hm)
      have HS := Lib.hid (tkAll_snoc o r (xs.take k) (nth xs k))
      rw [← take_step xs k (by omega)] at HS
      go_wp2_with (go_at_call 35; refine (take_32 _ _ _ hb ho hwf _).mono ?_; rintro e w' ⟨rfl, rfl⟩)
      go_round
      case rel => exact ⟨k + 1, by omega, by go_num, by rw [HS.out]⟩
      case measure => simp [intOf]; omega
    · have hl : Hid (xs.take k = xs) := List.take_of_length_le (by omega)
      go_wp2
      go_ret
      exact ⟨cast_inj (by rw [hl.out]), rfl⟩

theorem not_32 (r : Nat) (hr : r < 4294967296) : bits .xor .u32 IntKind.u32.max (r : Int) = ((4294967295 ^^^ r : Nat) : Int) := u32_xor_nat 4294967295 r (by omega) hr
theorem not_lt_32 {r : Nat} (hr : r < 4294967296) : 4294967295 ^^^ r < 4294967296 := Nat.xor_lt_two_pow (n := 32) (by omega) hr
/-- The sum of 32 bits that goes on: the register's bits are turned ahead and behind. -/
def more32 (r : Nat) (xs : List Int) : Nat := 4294967295 ^^^ tkAll 3988292384 (4294967295 ^^^ r) xs
theorem more32_lt (r : Nat) (xs : List Int) (hr : r < 4294967296) (h : ∀ x ∈ xs, (Lit.int .u8 x).wf = true) : more32 r xs < 4294967296 :=
  not_lt_32 (tkAll_lt (b := 32) (by decide) (not_lt_32 hr) (by decide) _ (toNat_u8 h))
theorem signed_32 : IntKind.u32.signed = false := rfl
theorem more_32 (r : Nat) (A : Option Addr) (n c : Nat) (xs : List Int) (hr : r < 4294967296) (w : World) (B : Nat) (hx : Row .u8 w B A xs) (hn : xs.length = n) (hm : n ≤ 140737488355328) :
    Calls Try.prog 32 #[.int .u32 r, .slice A n c] w fun e w' => e = .returned (.int .u32 (more32 r xs : Nat)) ∧ w = w' := by
  have hs := signed_32
  have h1 := not_32 r hr
  have h3 := not_lt_32 hr
  have h2 := not_32 _ (tkAll_lt (b := 32) (p := 3988292384) (r := 4294967295 ^^^ r) (by decide) h3 (by decide) xs (toNat_u8 hx.1))
  go_enter Try.func32, Try.ntmps32
  go_wp2_with (go_at_call 34; refine (takeAll_32 (4294967295 ^^^ r) 3988292384 _ _ _ xs h3 (by omega) _ B hx hn hm).mono ?_; rintro e w' ⟨rfl, rfl⟩)
  go_ret
  exact ⟨rfl, rfl⟩
theorem crc_32 (A : Option Addr) (n c : Nat) (xs : List Int) (w : World) (B : Nat) (hx : Row .u8 w B A xs) (hn : xs.length = n) (hm : n ≤ 140737488355328) :
    Calls Try.prog 33 #[.slice A n c] w fun e w' => e = .returned (.int .u32 (more32 0 xs : Nat)) ∧ w = w' := by
  go_enter Try.func33, Try.ntmps33
  go_wp2_with (go_at_call 32; refine (more_32 0 _ _ _ xs (by omega) _ B hx hn hm).mono ?_; rintro e w' ⟨rfl, rfl⟩)
  go_ret
  exact ⟨rfl, rfl⟩

theorem refMore_32 (r : Nat) (A : Option Addr) (n c : Nat) (xs : List Int) (hr : r < 4294967296) (w : World) (B : Nat) (hx : Row .u8 w B A xs) (hn : xs.length = n) (hm : n ≤ 140737488355328) :
    Calls Try.prog 26 #[.int .u32 r, .slice A n c] w fun e w' => e = .returned (.int .u32 (more32 r xs : Nat)) ∧ w = w' := by
  have hs := signed_32
  have h1 := not_32 r hr
  have hr2 := not_lt_32 hr
  have h2 := not_32 _ (tkAll_lt (b := 32) (p := 3988292384) (r := 4294967295 ^^^ r) (by decide) hr2 (by decide) xs (toNat_u8 hx.1))
  go_enter Try.func26, Try.ntmps26
  go_wp2
  go_loop [5, 6, 7, 8] (fun t i _ _ => ∃ k : Nat, k ≤ n ∧ i = .int .i64 k ∧ t = .int .u32 (tkAll 3988292384 (4294967295 ^^^ r) (xs.take k) : Nat)) (fun _ i _ _ => n - (intOf i).toNat)
  case atStart => exact ⟨0, by omega, rfl, rfl⟩
  case round =>
    obtain ⟨k, hk, rfl, rfl⟩ := hrel
    by_cases hlt : k < n
    · obtain ⟨b, of, rfl, hb1, hc1⟩ := hx.at_ (i := k) (by omega)
      have hwf := wf_u8 (hx.wf_at (i := k) (by omega))
      have hb : tkAll 3988292384 (4294967295 ^^^ r) (xs.take k) < 4294967296 := tkAll_lt (b := 32) (by decide) hr2 (by decide) _ fun x hm => toNat_u8 hx.1 x (List.mem_of_mem_take hm)
      have HS := Lib.hid (tkAll_snoc 3988292384 (4294967295 ^^^ r) (xs.take k) (nth xs k))
      rw [← take_step xs k (by omega)] at HS
      have hv : (nth xs k).toNat < 256 := by omega
      generalize tkAll 3988292384 (4294967295 ^^^ r) (xs.take k) = q at *
      have hxr := xor_32 q (nth xs k).toNat hb (by omega)
      rw [Int.toNat_of_nonneg hwf.1] at hxr
      go_wp2
      clear hxr
      go_loop [5, 7, 8] (fun t i _ => ∃ j : Nat, j ≤ 8 ∧ i = .int .i64 j ∧ t = .int .u32 (dnN 3988292384 j (q ^^^ (nth xs k).toNat) : Nat)) (fun _ i _ => 8 - (intOf i).toNat)
      case atStart => exact ⟨0, by omega, rfl, rfl⟩
      case round =>
        obtain ⟨j, hj, rfl, rfl⟩ := hrel
        by_cases hlj : j < 8
        · have hb2 : dnN 3988292384 j (q ^^^ (nth xs k).toNat) < 4294967296 := dnN_lt (b := 32) (by decide) (Nat.xor_lt_two_pow hb (by omega)) j
          have HD : Hid (dnN 3988292384 (j + 1) (q ^^^ (nth xs k).toNat) = dn 3988292384 (dnN 3988292384 j (q ^^^ (nth xs k).toNat))) := rfl
          generalize dnN 3988292384 j (q ^^^ (nth xs k).toNat) = y at *
          by_cases hy : y % 2 = 1
          · have ht : ((y : Int) % 2 == 1) = true := by simp; omega
            have hd : Hid (bits .xor .u32 ((y : Int) / 2) 3988292384 = ((dn 3988292384 y : Nat) : Int)) := by
              have := xor_32 (y / 2) 3988292384 (by omega) (by omega)
              show _ = _
              rw [dn, if_pos hy, ← this]; rfl
            clear hy
            go_wp2
            go_round
            case rel => exact ⟨j + 1, by omega, by go_num, by rw [hd.out, HD.out]⟩
            case measure => simp [intOf]; omega
          · have ht : ((y : Int) % 2 == 1) = false := by simp; omega
            have hd : Hid ((y : Int) / 2 = ((dn 3988292384 y : Nat) : Int)) := by
              show _ = _
              rw [dn, if_neg hy]; rfl
            clear hy
            go_wp2
            go_round
            case rel => exact ⟨j + 1, by omega, by go_num, by rw [hd.out, HD.out]⟩
            case measure => simp [intOf]; omega
        · obtain rfl : j = 8 := by omega
          go_wp2
          go_round
          case rel => exact ⟨k + 1, by omega, by go_num, by rw [HS.out]; rfl⟩
          case measure => simp [intOf]; omega
    · have hl : xs.take k = xs := List.take_of_length_le (by omega)
      rw [hl]
      clear hl
      go_wp2
      go_ret
      exact ⟨rfl, rfl⟩
theorem refCrc_32 (A : Option Addr) (n c : Nat) (xs : List Int) (w : World) (B : Nat) (hx : Row .u8 w B A xs) (hn : xs.length = n) (hm : n ≤ 140737488355328) :
    Calls Try.prog 27 #[.slice A n c] w fun e w' => e = .returned (.int .u32 (more32 0 xs : Nat)) ∧ w = w' := by
  go_enter Try.func27, Try.ntmps27
  go_wp2_with (go_at_call 26; refine (refMore_32 0 _ _ _ xs (by omega) _ B hx hn hm).mono ?_; rintro e w' ⟨rfl, rfl⟩)
  go_ret
  exact ⟨rfl, rfl⟩
end Go.Proofs.Ytooelfmfcihlkaa
namespace Go.Proofs.Ytooelfmfcihlkaa
open Go.RowKit

/-- The slice v owns a row, in a block from base on, that holds the integers xs. -/
def Own (k : IntKind) (e : TypeId) (w : World) (base : Nat) (v : Value) (xs : List Int) : Prop := w.ownsRow base e 1 v xs.length (xs.map (Value.int k))

theorem Own.nil (k : IntKind) (e : TypeId) (w : World) (base : Nat) : Own k e w base (.slice none 0 0) [] := ⟨by simp, .inl ⟨rfl, rfl⟩⟩
theorem Own.alloc {k : IntKind} {e : TypeId} {w : World} {base : Nat} {v : Value} {xs : List Int} (h : Own k e w base v xs) (o : Obj) : Own k e (w.alloc o) base v xs := World.ownsRow.alloc h o
theorem Own.drewN {k : IntKind} {e : TypeId} {w : World} {base : Nat} {v : Value} {xs : List Int} (h : Own k e w base v xs) (n : Nat) : Own k e (w.drewN n) base v xs := h
theorem Own.block {k : IntKind} {e : TypeId} {w : World} {base : Nat} {v : Value} {xs : List Int} (h : Own k e w base v xs) : ∀ g, v.ownBlock = some g → base ≤ g ∧ g < w.heap.size := World.ownsRow.lt h
theorem Own.kept {k : IntKind} {e : TypeId} {w w' : World} {base : Nat} {v : Value} {xs : List Int} {row : Option Nat} (h : Own k e w base v xs) (hg : w.grownBy w' row) (hne : v.ownBlock = none ∨ v.ownBlock ≠ row) : Own k e w' base v xs := World.ownsRow.kept h hg hne
theorem Own.below {k : IntKind} {e : TypeId} {w w' : World} {base B : Nat} {v : Value} {xs : List Int} (h : Own k e w base v xs) (hb : Below B w w') (hB : w.heap.size ≤ B) : Own k e w' base v xs := by
  refine h.kept (row := none) ⟨hb.os, hb.tape, hb.output, hb.size, fun i hi _ => hb.block i (by omega)⟩ ?_
  cases hv : v.ownBlock with
  | none => exact .inl rfl
  | some g => exact .inr (by simp)
theorem Own.mono {k : IntKind} {e : TypeId} {w : World} {base base' : Nat} {v : Value} {xs : List Int} (h : Own k e w base v xs) (hb : base' ≤ base) : Own k e w base' v xs := by
  refine ⟨h.1, ?_⟩
  rcases h.2 with h0 | ⟨g, cap, cur, hv, h1, r⟩
  · exact .inl h0
  · exact .inr ⟨g, cap, cur, hv, by omega, r⟩
/-- What is owned is a slice that reads as its list. -/
theorem Own.row {k : IntKind} {e : TypeId} {w : World} {base : Nat} {v : Value} {xs : List Int} (h : Own k e w base v xs) (hw : ∀ x ∈ xs, (Lit.int k x).wf = true) :
    ∃ A c, v = .slice A xs.length c ∧ Row k w w.heap.size A xs ∧ xs.length ≤ c ∧ c ≤ maxLen := by
  rcases h.2 with ⟨rfl, h0⟩ | ⟨g, cap, cur, rfl, hb, hg, h1, h2, h3, h4⟩
  · have : xs = [] := List.eq_nil_of_length_eq_zero h0
    subst this
    exact ⟨none, 0, rfl, Row.nil _ _ _ _, by simp, by simp⟩
  · refine ⟨_, _, rfl, ⟨hw, fun _ => ⟨g, 0, rfl, ?_, fun i hi => ?_⟩⟩, h1, h2⟩
    · exact (Own.block (k := k) (e := e) (w := w) (base := base) (xs := xs) ⟨by simp, .inr ⟨g, cap, cur, rfl, hb, hg, h1, h2, h3, h4⟩⟩ g rfl).2
    · rw [Nat.zero_add, cell_of_row w g i cur e (0, 0) hg]
      have : (cur.toList.take (xs.length * 1))[i]? = (xs.map (Value.int k))[i]? := by rw [h4]
      rw [List.getElem?_take_of_lt (by omega)] at this
      rw [← Array.getElem?_toList, this, List.getElem?_map, List.getElem?_eq_getElem hi, nth_eq xs i hi]
      rfl

section
variable {P : Program}
theorem run_append_none (w : World) (t ty e : TypeId) (i : TypeInfo) (ht : P.underlying t = some (.slice e)) (hi : P.info? e = some i)
    (base : Nat) (v : Value) (n : Nat) (xs : List Value) (hown : w.ownsRow base e 1 v n xs) (c : Nat) : (Builtin.append_ #[t, t] ty #[v, .slice none 0 c]).run P w = .ok v w := by
  rcases hown.2 with ⟨rfl, rfl⟩ | ⟨g, cap, cur, rfl, _, _, hnc, _⟩
  · simp [Builtin.append_, run_underlying ht, sizeOf, typeInfo, hi, Builtin.lenOf, Builtin.firstCells]
  · simp [Builtin.append_, run_underlying ht, sizeOf, typeInfo, hi, Builtin.lenOf, Builtin.firstCells, hnc, storeCells]

/-- 'append(v, src...)': v owned, src whatever row of integers. -/
theorem wpList_append_row {ops : Array Oper} {rest : List Oper} {o : Oper} {a : Act} {Q : Exit → Act → World → Prop} (w : World) (hgd : o.guard = none) (s x : Operand) (t : TypeId)
    (ho : o.op = .call { callee := .builtin .append, args := #[s, x], argTypes := #[t, t] })
    (base : Nat) (k : IntKind) (e : TypeId) (bytes : Nat) (ht : P.underlying t = some (.slice e)) (hi : (P.info? e).map (fun i => (i.zero, i.size, i.bytes)) = some (some (.int k 0), 1, bytes))
    (v : Value) (xs : List Int) (hs : a.eval s = v) (hown : Own k e w base v xs)
    (B : Nat) (A : Option Addr) (m c : Nat) (ys : List Int) (hx : a.eval x = .slice A m c) (hr : Row k w B A ys) (hm : ys.length = m)
    (hbytes : (xs.length + m) * bytes ≤ 140737488355328) (h63 : xs.length + m ≤ maxLen) (hbase : base ≤ w.heap.size)
    (h : ∀ v' w', Own k e w' base v' (xs ++ ys) → w.grownBy w' v.ownBlock → wpList P ops Q rest (a.put o.dst v') w') : wpList P ops Q (o :: rest) a w := by
  obtain ⟨i, hi1, hz, hsz, hby⟩ := info_parts hi
  rcases Nat.eq_zero_or_pos m with h0 | h0
  · subst h0
    have hy : ys = [] := List.eq_nil_of_length_eq_zero hm
    subst hy
    cases A with
    | none =>
      refine wpList_plain hgd fun K hK => ?_
      have hrun := run_append_none (P := P) w t o.type e i ht hi1 base v _ _ hown c
      unfold Oper.wp
      simp [execOp, ho, resolve, invoke, builtin, hs, hx, hrun, Result.andThen]
      exact hK _ _ (h v w (by simpa using hown) (World.grownBy.refl _ _))
    | some ad =>
      refine wpList_append_own w hgd s x t ho base e i (.int k 0) 1 bytes ht hi1 hz hsz hby rfl (by omega) v _ _ hs hown ad 0 c [] hx (by simp) (by simp) (by simp) h63 hbytes hbase fun v' w' h1 h2 _ => h v' w' (by simpa [Own] using h1) h2
  · obtain ⟨b, of, rfl, _, hc⟩ := hr.2 (by omega)
    refine wpList_append_own w hgd s x t ho base e i (.int k 0) 1 bytes ht hi1 hz hsz hby rfl (by omega) v _ _ hs hown ⟨b, of, none⟩ m c (ys.map (Value.int k)) hx (by simp [hm]) ?_ (ints_oneCell k ys) h63 hbytes hbase fun v' w' h1 h2 _ => h v' w' (by simpa [Own, hm] using h1) h2
    intro j u hu
    rw [List.getElem?_map] at hu
    by_cases hj : j < ys.length
    · rw [List.getElem?_eq_getElem hj] at hu
      rw [Go.WideShapes.add_plain, hc j hj, nth_eq ys j hj]
      exact hu
    · rw [List.getElem?_eq_none (by omega)] at hu
      cases hu

/-- 'append(v, src...)' within the capacity: v owned, src whatever row of integers; the block stays. -/
theorem wpList_append_row_fits {ops : Array Oper} {rest : List Oper} {o : Oper} {a : Act} {Q : Exit → Act → World → Prop} (w : World) (hgd : o.guard = none) (s x : Operand) (t : TypeId)
    (ho : o.op = .call { callee := .builtin .append, args := #[s, x], argTypes := #[t, t] })
    (base : Nat) (k : IntKind) (e : TypeId) (bytes : Nat) (ht : P.underlying t = some (.slice e)) (hi : (P.info? e).map (fun i => (i.zero, i.size, i.bytes)) = some (some (.int k 0), 1, bytes))
    (g n cap : Nat) (xs : List Int) (hs : a.eval s = .slice (some ⟨g, 0, none⟩) n cap) (hn : xs.length = n) (hown : Own k e w base (.slice (some ⟨g, 0, none⟩) n cap) xs)
    (B : Nat) (A : Option Addr) (m c : Nat) (ys : List Int) (hx : a.eval x = .slice A m c) (hr : Row k w B A ys) (hm : ys.length = m) (hfit : n + m ≤ cap)
    (h : ∀ w', Own k e w' base (.slice (some ⟨g, 0, none⟩) (n + m) cap) (xs ++ ys) → w.grownBy w' (some g) → wpList P ops Q rest (a.put o.dst (.slice (some ⟨g, 0, none⟩) (n + m) cap)) w') : wpList P ops Q (o :: rest) a w := by
  obtain ⟨i, hi1, hz, hsz, hby⟩ := info_parts hi
  subst hn
  rcases Nat.eq_zero_or_pos m with h0 | h0
  · subst h0
    have hy : ys = [] := List.eq_nil_of_length_eq_zero hm
    subst hy
    cases A with
    | none =>
      refine wpList_plain hgd fun K hK => ?_
      have hrun := run_append_none (P := P) w t o.type e i ht hi1 base _ _ _ hown c
      unfold Oper.wp
      simp [execOp, ho, resolve, invoke, builtin, hs, hx, hrun, Result.andThen]
      exact hK _ _ (h w (by simpa using hown) (World.grownBy.refl _ _))
    | some ad =>
      refine wpList_append_fits w hgd s x t ho base e i 1 ht hi1 hsz g xs.length cap _ hs hown ad 0 c [] hx (by simp) (by simp) (by simp) hfit fun w' h1 h2 => h w' (by simpa [Own] using h1) h2
  · obtain ⟨b, of, rfl, _, hc⟩ := hr.2 (by omega)
    refine wpList_append_fits w hgd s x t ho base e i 1 ht hi1 hsz g xs.length cap _ hs hown ⟨b, of, none⟩ m c (ys.map (Value.int k)) hx (by simp [hm]) ?_ (ints_oneCell k ys) hfit fun w' h1 h2 => h w' (by simpa [Own, hm] using h1) h2
    intro j u hu
    rw [List.getElem?_map] at hu
    by_cases hj : j < ys.length
    · rw [List.getElem?_eq_getElem hj] at hu
      rw [Go.WideShapes.add_plain, hc j hj, nth_eq ys j hj]
      exact hu
    · rw [List.getElem?_eq_none (by omega)] at hu
      cases hu
end

/-- What 'make' of a length 0 lays is owned. -/
theorem Own.made (k : IntKind) (e : TypeId) (w : World) (l : List Int) (hm : l.length ≤ maxLen) : Own k e (w.alloc (.cells (blk k l) e)) w.heap.size (.slice (some ⟨w.heap.size, 0, none⟩) 0 l.length) [] :=
  ⟨rfl, .inr ⟨_, _, _, rfl, Nat.le_refl _, heap_alloc_new w _, by simp, hm, by simp [blk_size], by simp⟩⟩
/-- A row that fills its capacity is its block, whole. -/
theorem Own.full {k : IntKind} {e : TypeId} {w : World} {base g n : Nat} {xs : List Int} (h : Own k e w base (.slice (some ⟨g, 0, none⟩) n n) xs) : w.heap[g]? = some (.cells (blk k xs) e (0, 0)) := by
  rcases h.2 with ⟨h0, _⟩ | ⟨g', cap, cur, hv, hb, hg, h1, h2, h3, h4⟩
  · cases h0
  · injection hv with ha hn hc
    injection ha with ha
    injection ha with ha
    subst ha hn hc
    rw [hg]
    congr 2
    apply Array.toList_inj.1
    rw [List.take_of_length_le (by simp [h3])] at h4
    rw [h4]
    simp [blk]

theorem Below.own {k : IntKind} {e : TypeId} {w0 w w' : World} {base : Nat} {v : Value} {xs : List Int} (hb : Below base w0 w) (hB : base ≤ w.heap.size) (h : Own k e w base v xs) (hg : w.grownBy w' v.ownBlock) : Below base w0 w' :=
  hb.grown hg hB fun g e => (h.block g e).1
/-- One element's box, then the append that takes it. -/
theorem Below.own1 {k : IntKind} {e : TypeId} {w0 w w' : World} {base : Nat} {v : Value} {xs : List Int} {o : Obj} (hb : Below base w0 w) (hB : base ≤ w.heap.size) (h : Own k e w base v xs) (hg : (w.alloc o).grownBy w' v.ownBlock) : Below base w0 w' :=
  Below.own (hb.alloc hB o) (by simp; omega) (h.alloc o) hg
theorem Row.one (k : IntKind) (w : World) (t : TypeId) (x : Int) (h : (Lit.int k x).wf = true) : Row k (w.alloc (.cells #[.int k x] t)) (w.heap.size + 1) (some ⟨w.heap.size, 0, none⟩) [x] :=
  Row.new k w t [x] [x] (by simpa using h) (List.prefix_refl _)
end Go.Proofs.Ytooelfmfcihlkaa
namespace Go.Proofs.Ytooelfmfcihlkaa
open Go.RowKit
set_option linter.unusedVariables false

theorem block_setCell (w : World) (g i : Nat) (k : IntKind) (t : TypeId) (l : List Int) (v : Int) (h : w.heap[g]? = some (.cells (blk k l) t (0, 0))) :
    (w.setCell ⟨g, i, none⟩ (.int k v)).heap[g]? = some (.cells (blk k (l.set i v)) t (0, 0)) := by
  simp [World.setCell, Array.getElem?_modify, h, blk_set]
theorem block_frozen (w : World) (g i : Nat) (cs : Array Value) (t : TypeId) (h : w.heap[g]? = some (.cells cs t (0, 0))) : w.frozen? ⟨g, i, none⟩ = false := by simp [World.frozen?, h]
theorem grown_setCell {a w : World} {g : Nat} (h : a.grownBy w (some g)) (i : Nat) (u : Value) : a.grownBy (w.setCell ⟨g, i, none⟩ u) (some g) :=
  ⟨h.os, h.tape, h.output, by simpa [World.setCell] using h.size, fun k hk hne => (Below.heap_setCell w ⟨g, i, none⟩ u k (fun e => hne (by rw [e]))).trans (h.block k hk hne)⟩
theorem block_lt {w : World} {g : Nat} {o : Obj} (h : w.heap[g]? = some o) : g < w.heap.size := by
  rcases Nat.lt_or_ge g w.heap.size with hlt | hge
  · exact hlt
  · rw [Array.getElem?_eq_none hge] at h; cases h

end Go.Proofs.Ytooelfmfcihlkaa
namespace Go.Proofs.Ytooelfmfcihlkaa
open Go.RowKit
set_option linter.unusedVariables false


theorem wf_byte (n : Nat) (h : n < 256) : (Lit.int .u8 (n : Int)).wf = true := by
  simp [Lit.wf, IntKind.min, IntKind.max, IntKind.signed, IntKind.bits]; omega

theorem wrap_u8_nat (n : Nat) : IntKind.u8.wrap (n : Int) = ((n % 256 : Nat) : Int) := by rw [IntKind.wrap_u8]; omega
theorem bel_alloc (w : World) (o : Obj) : Below w.heap.size w (w.alloc o) := (Below.refl _ _).alloc (Nat.le_refl _) o


theorem nth_drop (xs : List Int) (i j : Nat) : nth (xs.drop i) j = nth xs (i + j) := by simp [nth, List.getD_eq_getElem?_getD]
theorem Row.drop {k : IntKind} {w : World} {B b o : Nat} {xs : List Int} (h : Row k w B (some ⟨b, o, none⟩) xs) (i : Nat) : Row k w B (some ⟨b, o + i, none⟩) (xs.drop i) := by
  refine ⟨fun x hx => h.1 x (List.mem_of_mem_drop hx), fun hn => ?_⟩
  have hl : i < xs.length := by rw [List.length_drop] at hn; omega
  obtain ⟨b', o', e, hb, hc⟩ := h.2 (by omega)
  injection e with e
  injection e with e1 e2
  subst e1 e2
  refine ⟨b, o + i, rfl, hb, fun j hj => ?_⟩
  rw [List.length_drop] at hj
  rw [Nat.add_assoc, hc (i + j) (by omega), nth_drop]


/-- A row of the call's own that is not empty: its block, its cells, and what a store makes of it. -/
theorem Own.cells {k : IntKind} {e : TypeId} {w : World} {base : Nat} {v : Value} {xs : List Int} (h : Own k e w base v xs) (hp : 0 < xs.length) :
    ∃ g cap, v = .slice (some ⟨g, 0, none⟩) xs.length cap ∧ base ≤ g ∧ g < w.heap.size ∧ xs.length ≤ cap ∧ (∀ i, i < xs.length → w.cell? ⟨g, i, none⟩ = some (.int k (nth xs i))) ∧ (∀ i, w.frozen? ⟨g, i, none⟩ = false)
      ∧ ∀ (w' : World) i x, w'.heap = w.heap → i < xs.length → Own k e (w'.setCell ⟨g, i, none⟩ (.int k x)) base v (xs.set i x) := by
  rcases h.2 with ⟨rfl, h0⟩ | ⟨g, cap, cur, rfl, hb, hg, h1, h2, h3, h4⟩
  · omega
  · refine ⟨g, cap, rfl, hb, block_lt hg, h1, fun i hi => ?_, fun i => block_frozen w g i _ _ hg, fun w' i x hw hi => ?_⟩
    · rw [cell_of_row w g i cur e (0, 0) hg]
      have : (cur.toList.take (xs.length * 1))[i]? = (xs.map (Value.int k))[i]? := by rw [h4]
      rw [List.getElem?_take_of_lt (by omega)] at this
      rw [← Array.getElem?_toList, this, List.getElem?_map, List.getElem?_eq_getElem hi, nth_eq xs i hi]
      rfl
    · unfold Own
      rw [List.length_set]
      refine ⟨by simp, .inr ⟨g, cap, cur.setIfInBounds i (.int k x), rfl, hb, ?_, h1, h2, by simpa using h3, ?_⟩⟩
      · simp [World.setCell, Array.getElem?_modify, hw, hg]
      · rw [Array.toList_setIfInBounds, List.take_set, h4, List.map_set]
theorem Own.laid {k : IntKind} {t : TypeId} {w : World} {base g : Nat} {l : List Int} {n : Nat} (hg : w.heap[g]? = some (.cells (blk k l) t (0, 0))) (hb : base ≤ g) (hl : l.length = n) (hm : n ≤ maxLen) : Own k t w base (.slice (some ⟨g, 0, none⟩) n n) l := by
  subst hl
  exact ⟨by simp, .inr ⟨g, _, _, rfl, hb, hg, Nat.le_refl _, hm, by simp [blk_size], by rw [Nat.mul_one, List.take_of_length_le (by simp [blk])]; simp [blk]⟩⟩
/-- A beginning of a row. -/
theorem Row.front {k : IntKind} {w : World} {B : Nat} {A : Option Addr} {xs : List Int} (h : Row k w B A xs) (m : Nat) : Row k w B A (xs.take m) := by
  refine ⟨fun x hx => h.1 x (List.mem_of_mem_take hx), fun hn => ?_⟩
  rw [List.length_take] at hn
  obtain ⟨b, o, e, hb, hc⟩ := h.2 (by omega)
  refine ⟨b, o, e, hb, fun i hi => ?_⟩
  rw [List.length_take] at hi
  rw [hc i (by omega), nth_eq _ _ (by omega), nth_eq _ _ (by rw [List.length_take]; omega), List.getElem_take]
end Go.Proofs.Ytooelfmfcihlkaa
namespace Go.Proofs.Ytooelfmfcihlkaa
open Go.RowKit
set_option linter.unusedVariables false
set_option maxRecDepth 100000

/-- The length, the sum's bytes, the chunk. -/
def ckH (n : Nat) : List Int := [((n / 256 : Nat) : Int), ((n % 256 : Nat) : Int)]
def be4 (s : Nat) : List Int := [((s / 16777216 % 256 : Nat) : Int), ((s / 65536 % 256 : Nat) : Int), ((s / 256 % 256 : Nat) : Int), ((s % 256 : Nat) : Int)]
def ckS (p : List Int) : Nat := more32 (more32 0 (ckH p.length)) p
def ckL (p : List Int) : List Int := ckH p.length ++ (be4 (ckS p) ++ p)
def ckPE (p : List Int) : Int := if 1024 < p.length then 2 else 0
def ckPut (p : List Int) : List Int := if 1024 < p.length then [] else ckL p
/-- What bytes say. -/
def ckN (b : List Int) : Nat := (nth b 0).toNat * 256 + (nth b 1).toNat
def ckP (b : List Int) : List Int := (b.drop 6).take (ckN b)
def ckE (b : List Int) : Int := if b.length < 6 then 1 else if 1024 < ckN b then 2 else if b.length < 6 + ckN b then 1 else if (b.drop 2).take 4 = be4 (ckS (ckP b)) then 0 else 5
def ckG (b : List Int) : List Int := if ckE b = 0 then ckP b else []
def ckM (b : List Int) : Nat := if ckE b = 0 then 6 + ckN b else 0
/-- What is scanned. -/
def ckSc : Nat → List Int → List (List Int) × Nat
  | 0, _ => ([], 0)
  | f + 1, b => if ckE b = 0 then (ckP b :: (ckSc f (b.drop (6 + ckN b))).1, 6 + ckN b + (ckSc f (b.drop (6 + ckN b))).2) else ([], 0)
theorem ckL_len (p : List Int) : (ckL p).length = 6 + p.length := by simp [ckL, ckH, be4]; omega
theorem be4_wf (s : Nat) : ∀ x ∈ be4 s, (Lit.int .u8 x).wf = true := by
  intro x hx
  simp only [be4, List.mem_cons, List.not_mem_nil, or_false] at hx
  rcases hx with rfl | rfl | rfl | rfl <;> exact wf_byte _ (Nat.mod_lt _ (by omega))
theorem ckH_wf {n : Nat} (h : n < 65536) : ∀ x ∈ ckH n, (Lit.int .u8 x).wf = true := by
  intro x hx
  simp only [ckH, List.mem_cons, List.not_mem_nil, or_false] at hx
  rcases hx with rfl | rfl
  · exact wf_byte _ (by omega)
  · exact wf_byte _ (Nat.mod_lt _ (by omega))
theorem ckL_wf {p : List Int} (h : p.length < 65536) (hp : ∀ x ∈ p, (Lit.int .u8 x).wf = true) : ∀ x ∈ ckL p, (Lit.int .u8 x).wf = true := fun x hx => (List.mem_append.1 hx).elim (ckH_wf h x) (fun hx => (List.mem_append.1 hx).elim (be4_wf _ x) (hp x))
theorem ckE_zero {b : List Int} : ckE b = 0 ↔ 6 ≤ b.length ∧ ckN b ≤ 1024 ∧ 6 + ckN b ≤ b.length ∧ (b.drop 2).take 4 = be4 (ckS (ckP b)) := by
  unfold ckE
  constructor
  · intro h
    split at h
    · exact absurd h (by decide)
    split at h
    · exact absurd h (by decide)
    split at h
    · exact absurd h (by decide)
    split at h
    · exact ⟨by omega, by omega, by omega, by assumption⟩
    · exact absurd h (by decide)
  · rintro ⟨h1, h2, h3, h4⟩
    rw [if_neg (by omega), if_neg (by omega), if_neg (by omega), if_pos h4]
theorem ckN_put {p more : List Int} : ckN (ckL p ++ more) = p.length := by
  have e0 : nth (ckL p ++ more) 0 = ((p.length / 256 : Nat) : Int) := rfl
  have e1 : nth (ckL p ++ more) 1 = ((p.length % 256 : Nat) : Int) := rfl
  unfold ckN
  rw [e0, e1, Int.toNat_natCast, Int.toNat_natCast]
  omega
theorem ckP_put {p more : List Int} : ckP (ckL p ++ more) = p := by
  unfold ckP
  rw [ckN_put]
  show List.take p.length (p ++ more) = p
  simp
/-- What is laid is read as it was, whatever stands behind it. -/
theorem ck_back {p : List Int} (hp : p.length ≤ 1024) (more : List Int) : ckE (ckL p ++ more) = 0 ∧ ckG (ckL p ++ more) = p ∧ ckM (ckL p ++ more) = 6 + p.length := by
  have h : ckE (ckL p ++ more) = 0 := by
    rw [ckE_zero, ckN_put, ckP_put]
    refine ⟨?_, hp, ?_, rfl⟩
    · rw [List.length_append, ckL_len]; omega
    · rw [List.length_append, ckL_len]; omega
  unfold ckG ckM
  rw [if_pos h, if_pos h, ckN_put, ckP_put]
  exact ⟨h, rfl, rfl⟩
theorem ckP_len {b : List Int} (h : ckE b = 0) : (ckP b).length = ckN b := by
  obtain ⟨_, _, h3, _⟩ := ckE_zero.1 h
  unfold ckP
  rw [List.length_take, List.length_drop]
  omega
/-- What is read was laid so. -/
theorem ck_only {b : List Int} (h : ckE b = 0) (hb : ∀ x ∈ b, (Lit.int .u8 x).wf = true) : b = ckL (ckP b) ++ b.drop (6 + ckN b) := by
  have hl := ckP_len h
  obtain ⟨h1, h2, h3, h4⟩ := ckE_zero.1 h
  have hp : ckP b ++ b.drop (6 + ckN b) = b.drop 6 := by
    unfold ckP
    rw [← List.drop_drop, List.take_append_drop]
  unfold ckL
  rw [hl, ← h4]
  match b, h1, hb with
  | b0 :: b1 :: t, h1, hb =>
    have w0 := wf_u8 (hb b0 (by simp))
    have w1 := wf_u8 (hb b1 (by simp))
    have hn : ckN (b0 :: b1 :: t) = b0.toNat * 256 + b1.toNat := rfl
    have e0 : (((b0.toNat * 256 + b1.toNat) / 256 : Nat) : Int) = b0 := by omega
    have e1 : (((b0.toNat * 256 + b1.toNat) % 256 : Nat) : Int) = b1 := by omega
    have hH : ckH (ckN (b0 :: b1 :: t)) = [b0, b1] := by rw [hn]; unfold ckH; rw [e0, e1]
    rw [hH, List.append_assoc, List.append_assoc, hp]
    show b0 :: b1 :: t = b0 :: b1 :: (List.take 4 t ++ List.drop 4 t)
    rw [List.take_append_drop]
/-- Chunks one behind the other. -/
def ckAll (l : List (List Int)) : List Int := l.flatMap ckL
theorem ckSc_len (f : Nat) (b : List Int) : (ckSc f b).2 ≤ b.length := by
  induction f generalizing b with
  | zero => exact Nat.zero_le _
  | succ f ih =>
    unfold ckSc
    split
    · rename_i h
      obtain ⟨_, _, h3, _⟩ := ckE_zero.1 h
      have := ih (b.drop (6 + ckN b))
      rw [List.length_drop] at this
      simp only
      omega
    · exact Nat.zero_le _
/-- What is scanned is just the bytes that went by. -/
theorem ckSc_all (f : Nat) (b : List Int) (hb : ∀ x ∈ b, (Lit.int .u8 x).wf = true) : ckAll (ckSc f b).1 = b.take (ckSc f b).2 := by
  induction f generalizing b with
  | zero => simp [ckSc, ckAll]
  | succ f ih =>
    unfold ckSc
    split
    · rename_i h
      have hd : ∀ x ∈ b.drop (6 + ckN b), (Lit.int .u8 x).wf = true := fun x hx => hb x (List.mem_of_mem_drop hx)
      have := ih _ hd
      have ho := ck_only h hb
      have hl := ckP_len h
      simp only
      unfold ckAll at this ⊢
      rw [List.flatMap_cons, this]
      generalize (ckSc f (b.drop (6 + ckN b))).2 = m
      have key : List.take (6 + ckN b + m) (ckL (ckP b) ++ b.drop (6 + ckN b)) = ckL (ckP b) ++ List.take m (b.drop (6 + ckN b)) := by
        rw [List.take_append, List.take_of_length_le (by rw [ckL_len, hl]; omega), ckL_len, hl]
        congr 2
        omega
      rw [← key]
      exact congrArg (List.take _) ho.symm
    · simp [ckAll]
/-- Scanned far enough, what is left begins with no chunk. -/
theorem ckSc_end (f : Nat) (b : List Int) (hf : b.length ≤ 6 * f + 5) : ckE (b.drop (ckSc f b).2) ≠ 0 := by
  induction f generalizing b with
  | zero =>
    intro h
    obtain ⟨h1, _⟩ := ckE_zero.1 h
    rw [List.length_drop] at h1
    omega
  | succ f ih =>
    unfold ckSc
    split
    · rename_i h
      obtain ⟨_, _, h3, _⟩ := ckE_zero.1 h
      simp only
      rw [← List.drop_drop]
      exact ih _ (by rw [List.length_drop]; omega)
    · rename_i h
      simpa using h
/-- Scanned: chunks one behind the other, and bytes that begin with no chunk. -/
theorem ckSc_back (l : List (List Int)) (hl : ∀ p ∈ l, p.length ≤ 1024) (t : List Int) (ht : ckE t ≠ 0) (f : Nat) (hf : l.length < f) : ckSc f (ckAll l ++ t) = (l, (ckAll l).length) := by
  induction l generalizing f with
  | nil =>
    obtain ⟨f, rfl⟩ := Nat.exists_eq_succ_of_ne_zero (show f ≠ 0 by omega)
    show ckSc (f + 1) t = _
    unfold ckSc
    rw [if_neg ht]
    rfl
  | cons p l ih =>
    obtain ⟨f, rfl⟩ := Nat.exists_eq_succ_of_ne_zero (show f ≠ 0 by omega)
    have e : ckAll (p :: l) ++ t = ckL p ++ (ckAll l ++ t) := by unfold ckAll; rw [List.flatMap_cons, List.append_assoc]
    obtain ⟨h1, _, _⟩ := ck_back (hl p (by simp)) (ckAll l ++ t)
    have hd : (ckL p ++ (ckAll l ++ t)).drop (6 + p.length) = ckAll l ++ t := by
      rw [← ckL_len p, List.drop_left]
    rw [e]
    show ckSc (f + 1) _ = _
    unfold ckSc
    rw [if_pos h1, ckP_put, ckN_put, hd, ih (fun q hq => hl q (by simp [hq])) f (by simp at hf; omega)]
    have : (ckAll (p :: l)).length = 6 + p.length + (ckAll l).length := by unfold ckAll; rw [List.flatMap_cons, List.length_append, ckL_len]
    rw [this]
/-- A chunk cut off is none. -/
theorem ckE_cut {p : List Int} {m : Nat} (hm : m < 6 + p.length) : ckE ((ckL p).take m) ≠ 0 := by
  intro h
  obtain ⟨h1, _, h3, _⟩ := ckE_zero.1 h
  rw [List.length_take, ckL_len] at h1 h3
  have hn : ckN ((ckL p).take m) = p.length := by
    have : (ckL p).take m = ((p.length / 256 : Nat) : Int) :: ((p.length % 256 : Nat) : Int) :: (be4 (ckS p) ++ p).take (m - 2) := by
      obtain ⟨j, rfl⟩ : ∃ j, m = j + 2 := ⟨m - 2, by omega⟩
      rfl
    rw [this]
    unfold ckN
    show ((p.length / 256 : Nat) : Int).toNat * 256 + ((p.length % 256 : Nat) : Int).toNat = _
    rw [Int.toNat_natCast, Int.toNat_natCast]
    omega
  rw [hn] at h3
  omega
theorem ckAll_app (l m : List (List Int)) : ckAll (l ++ m) = ckAll l ++ ckAll m := by unfold ckAll; rw [List.flatMap_append]
theorem ckE_nil : ckE [] ≠ 0 := by decide
/-- Of chunks one behind the other, cut off anywhere, the whole ones stand, and behind them what begins with none. -/
theorem ck_cut (l : List (List Int)) (n cut : Nat) (hn : n ≤ l.length) (h1 : (ckAll (l.take n)).length ≤ cut) (h2 : n < l.length → cut < (ckAll (l.take (n + 1))).length) : ∃ t, (ckAll l).take cut = ckAll (l.take n) ++ t ∧ ckE t ≠ 0 := by
  have e : ckAll l = ckAll (l.take n) ++ ckAll (l.drop n) := by rw [← ckAll_app, List.take_append_drop]
  refine ⟨(ckAll (l.drop n)).take (cut - (ckAll (l.take n)).length), ?_, ?_⟩
  · conv => lhs; rw [e]
    rw [List.take_append, List.take_of_length_le h1]
  · by_cases hlt : n < l.length
    · have hd : l.drop n = l[n] :: l.drop (n + 1) := List.drop_eq_getElem_cons hlt
      have ht : ckAll (l.take (n + 1)) = ckAll (l.take n) ++ ckL l[n] := by
        rw [List.take_succ_eq_append_getElem hlt, ckAll_app]
        congr 1
        simp [ckAll]
      have hc := h2 hlt
      rw [ht, List.length_append, ckL_len] at hc
      have hd2 : ckAll (l.drop n) = ckL l[n] ++ ckAll (l.drop (n + 1)) := by rw [hd]; unfold ckAll; rw [List.flatMap_cons]
      rw [hd2, List.take_append_of_le_length (by rw [ckL_len]; omega)]
      exact ckE_cut (by omega)
    · rw [List.drop_of_length_le (by omega)]
      simp only [ckAll, List.flatMap_nil, List.take_nil]
      exact ckE_nil
/-- What is scanned of chunks that were cut off. -/
theorem ckSc_cut (l : List (List Int)) (hl : ∀ p ∈ l, p.length ≤ 1024) (n cut : Nat) (hn : n ≤ l.length) (h1 : (ckAll (l.take n)).length ≤ cut) (h2 : n < l.length → cut < (ckAll (l.take (n + 1))).length) (f : Nat) (hf : n < f) : ckSc f ((ckAll l).take cut) = (l.take n, (ckAll (l.take n)).length) := by
  obtain ⟨t, e, ht⟩ := ck_cut l n cut hn h1 h2
  rw [e]
  exact ckSc_back (l.take n) (fun p hp => hl p (List.mem_of_mem_take hp)) t ht f (by rw [List.length_take]; omega)
end Go.Proofs.Ytooelfmfcihlkaa
namespace Go.Proofs.Ytooelfmfcihlkaa
open Go.RowKit
set_option linter.unusedVariables false

/-- The slice v is nil and xs empty, or v begins a block of the call's own, whose cells are the integers xs, and others behind them. -/
def KOwn (k : IntKind) (e : TypeId) (w : World) (base : Nat) (v : Value) (xs : List Int) : Prop :=
  (v = .slice none 0 0 ∧ xs = []) ∨
  ∃ (g n cap : Nat) (r : List Int), v = .slice (some ⟨g, 0, none⟩) n cap ∧ base ≤ g ∧ xs.length = n ∧ w.heap[g]? = some (.cells (blk k (xs ++ r)) e (0, 0)) ∧ n ≤ cap ∧ cap ≤ maxLen ∧ xs.length + r.length = cap ∧ (∀ x ∈ r, (Lit.int k x).wf = true)
theorem KOwn.nil (k : IntKind) (e : TypeId) (w : World) (base : Nat) : KOwn k e w base (.slice none 0 0) [] := .inl ⟨rfl, rfl⟩
theorem KOwn.below {k : IntKind} {e : TypeId} {w w' : World} {base B : Nat} {v : Value} {xs : List Int} (h : KOwn k e w base v xs) (hb : Below B w w') (hB : w.heap.size ≤ B) : KOwn k e w' base v xs := by
  rcases h with h | ⟨g, n, cap, r, h1, h2, h3, h4, h5⟩
  · exact .inl h
  · exact .inr ⟨g, n, cap, r, h1, h2, h3, (hb.block g (by have := block_lt h4; omega)).trans h4, h5⟩
theorem KOwn.drewN {k : IntKind} {e : TypeId} {w : World} {base : Nat} {v : Value} {xs : List Int} (h : KOwn k e w base v xs) (n : Nat) : KOwn k e (w.drewN n) base v xs := h
theorem KOwn.mono {k : IntKind} {e : TypeId} {w : World} {base base' : Nat} {v : Value} {xs : List Int} (h : KOwn k e w base v xs) (hb : base' ≤ base) : KOwn k e w base' v xs := by
  rcases h with h | ⟨g, n, cap, r, h1, h2, h3⟩
  · exact .inl h
  · exact .inr ⟨g, n, cap, r, h1, by omega, h3⟩
theorem KOwn.block {k : IntKind} {e : TypeId} {w : World} {base : Nat} {v : Value} {xs : List Int} (h : KOwn k e w base v xs) : ∀ g, v.ownBlock = some g → base ≤ g ∧ g < w.heap.size := by
  intro g hg
  rcases h with ⟨rfl, _⟩ | ⟨g', n, cap, r, rfl, h2, h3, h4, h5⟩
  · cases hg
  · injection hg with hg
    subst hg
    exact ⟨h2, block_lt h4⟩
theorem KOwn.own {k : IntKind} {e : TypeId} {w : World} {base : Nat} {v : Value} {xs : List Int} (h : KOwn k e w base v xs) : Own k e w base v xs := by
  rcases h with ⟨rfl, rfl⟩ | ⟨g, n, cap, r, rfl, h2, h3, h4, h5, h6, h7, _⟩
  · exact Own.nil _ _ _ _
  · subst h3
    refine ⟨by simp, .inr ⟨g, cap, _, rfl, h2, h4, h5, h6, by rw [blk_size, List.length_append]; omega, ?_⟩⟩
    rw [Nat.mul_one]
    simp only [blk, List.map_append]
    rw [List.take_left' (by simp)]
theorem KOwn.row {k : IntKind} {e : TypeId} {w : World} {base : Nat} {v : Value} {xs : List Int} (h : KOwn k e w base v xs) (hw : ∀ x ∈ xs, (Lit.int k x).wf = true) :
    ∃ A c, v = .slice A xs.length c ∧ Row k w w.heap.size A xs ∧ xs.length ≤ c ∧ c ≤ maxLen := h.own.row hw
theorem KOwn.kept {k : IntKind} {e : TypeId} {w w' : World} {base : Nat} {v : Value} {xs : List Int} {row : Option Nat} (h : KOwn k e w base v xs) (hg : w.grownBy w' row) (hne : v.ownBlock = none ∨ v.ownBlock ≠ row) : KOwn k e w' base v xs := by
  rcases h with h | ⟨g, n, cap, r, rfl, h2, h3, h4, h5⟩
  · exact .inl h
  · refine .inr ⟨g, n, cap, r, rfl, h2, h3, (hg.block g (block_lt h4) ?_).trans h4, h5⟩
    rcases hne with h | h
    · cases h
    · exact h

section
variable {P : Program}
theorem zero_one (k : IntKind) (m : Nat) : Builtin.zeroCells (Value.int k 0).cells m = blk k (List.replicate m 0) := by
  have h := toList_madeCells_one (Value.int k 0) m
  apply Array.toList_inj.1
  show (madeCells (Value.int k 0).cells (m * 1)).toList = _
  rw [Nat.mul_one, show (Value.int k 0).cells = #[Value.int k 0] from rfl, h]
  simp [blk]
theorem run_append_full (w : World) (t : TypeId) (k : IntKind) (e : TypeId) (bytes : Nat) (ht : P.underlying t = some (.slice e)) (hi : (P.info? e).map (fun i => (i.zero, i.size, i.bytes)) = some (some (.int k 0), 1, bytes))
    (g n : Nat) (xs : List Int) (hg : w.heap[g]? = some (.cells (blk k xs) e (0, 0))) (hn : xs.length = n) (B : Nat) (A : Option Addr) (m c : Nat) (ys : List Int) (hr : Row k w B A ys) (hm : ys.length = m) (h1 : 1 ≤ m)
    (hb : (n + m) * bytes ≤ 140737488355328) (h63 : n + m ≤ maxLen) :
    ∃ cap, (∀ ty, (Builtin.append_ #[t, t] ty #[.slice (some ⟨g, 0, none⟩) n n, .slice A m c]).run P w = .ok (.slice (some ⟨w.heap.size, 0, none⟩) (n + m) cap) (w.drew.alloc (.cells (blk k (xs ++ ys ++ List.replicate (cap - (n + m)) 0)) e))) ∧ n + m ≤ cap ∧ cap ≤ maxLen := by
  obtain ⟨i, hi1, hz, hsz, hby⟩ := info_parts hi
  have h64 := h63
  simp only [maxLen] at h64
  obtain ⟨b, o, rfl, _, hc⟩ := hr.2 (by omega)
  have holds : ∀ j u, (xs.map (Value.int k))[j]? = some u → w.cell? ((⟨g, 0, none⟩ : Addr).add j) = some u := by
    intro j u hu
    rw [Go.WideShapes.add_plain, Nat.zero_add, cell_of_row w g j _ _ _ hg]
    simpa [blk] using hu
  have hnews : ∀ j u, (ys.map (Value.int k))[j]? = some u → w.cell? ((⟨b, o, none⟩ : Addr).add j) = some u := by
    intro j u hu
    rw [List.getElem?_map] at hu
    by_cases hj : j < ys.length
    · rw [List.getElem?_eq_getElem hj] at hu
      rw [Go.WideShapes.add_plain, hc j hj, nth_eq ys j hj]
      exact hu
    · rw [List.getElem?_eq_none (by omega)] at hu
      cases hu
  have hr := fun ty => run_append_grow (P := P) w t ty e i _ ht hi1 hz ⟨g, 0, none⟩ n n (xs.map (Value.int k)) (by rw [hsz]; simp; omega) holds ⟨b, o, none⟩ m c (ys.map (Value.int k)) (by rw [hsz]; simp; omega) hnews (by omega) (by omega) (growslice_fits (by omega) (by rw [hby]; omega))
  have hge := grownCap_ge w (n + m) n e
  refine ⟨grownCap w (n + m) n e, fun ty => ?_, hge, grownCap_le_maxLen w (n + m) n e h63⟩
  rw [hr ty, zero_one]
  congr 3
  apply Array.toList_inj.1
  simp [blk]
/-- An append whose outcome is known. -/
theorem wpList_append_run {ops : Array Oper} {rest : List Oper} {o : Oper} {a : Act} {Q : Exit → Act → World → Prop} (w : World) (hgd : o.guard = none) (s x : Operand) (t : TypeId)
    (ho : o.op = .call { callee := .builtin .append, args := #[s, x], argTypes := #[t, t] }) (v u v' : Value) (w' : World) (hs : a.eval s = v) (hx : a.eval x = u)
    (hrun : ∀ ty, (Builtin.append_ #[t, t] ty #[v, u]).run P w = .ok v' w') (h : wpList P ops Q rest (a.put o.dst v') w') : wpList P ops Q (o :: rest) a w := by
  refine wpList_plain hgd fun K hK => ?_
  unfold Oper.wp
  simp [execOp, ho, resolve, invoke, builtin, hs, hx, hrun, Result.andThen]
  exact hK _ _ h
theorem step_append_run {ops : Array Oper} {o : Oper} {a : Act} {K : Act → World → Prop} {Q : Exit → Act → World → Prop} {E : Prop} (w : World) (hgd : o.guard = none) (s x : Operand) (t : TypeId)
    (ho : o.op = .call { callee := .builtin .append, args := #[s, x], argTypes := #[t, t] }) (v u v' : Value) (w' : World) (hs : a.eval s = v) (hx : a.eval x = u)
    (hrun : ∀ ty, (Builtin.append_ #[t, t] ty #[v, u]).run P w = .ok v' w') (h : K (a.put o.dst v') w') :
    if Region.wanted o (yielded ops a.tmps) = true then Oper.wp P o a w K Q else E := by
  have hw : Region.wanted o (yielded ops a.tmps) = true := by simp [Region.wanted, hgd]
  rw [if_pos hw]
  unfold Oper.wp execOp
  simp only [ho, resolve, invoke, builtin, Sem.run_bind, Sem.run_pure, Result.andThen_ok, List.map_toArray, List.map_cons, List.map_nil, hs, hx, hrun]
  exact h
end
end Go.Proofs.Ytooelfmfcihlkaa
namespace Go.Proofs.Ytooelfmfcihlkaa
open Go.RowKit

/-- A call returns a new slice, its own, that holds xs; nothing that was there has turned. -/
def Makes (k : IntKind) (t : TypeId) (w : World) (xs : List Int) (e : Ending) (w' : World) : Prop := ∃ v, e = .returned v ∧ Own k t w' w.heap.size v xs ∧ Below w.heap.size w w'

/-- A call returns a slice that fills a new block, the first new one, with xs; nothing that was there has turned. -/
def Lays (k : IntKind) (t : TypeId) (w : World) (xs : List Int) (m : Nat) (e : Ending) (w' : World) : Prop :=
  e = .returned (.slice (some ⟨w.heap.size, 0, none⟩) m m) ∧ w'.heap[w.heap.size]? = some (.cells (blk k xs) t (0, 0)) ∧ Below w.heap.size w w'

set_option maxHeartbeats 400000 in
theorem copy_u8 (A : Option Addr) (n c : Nat) (xs : List Int) (w : World) (hr : Row .u8 w w.heap.size A xs) (hn : xs.length = n) (hb : n ≤ 140737488355328) : 
    Calls Try.prog 22 #[.slice A n c] w (Makes .u8 5 w xs) := by
  go_enter Try.func22, Try.ntmps22
  go_wp2
  go_loopw [3, 4] (fun v i wr => ∃ k : Nat, k ≤ n ∧ i = .int .i64 k ∧ Own .u8 5 wr w.heap.size v (xs.take k) ∧ Below w.heap.size w wr) (fun _ i _ => n - (intOf i).toNat)
  case atStart => exact ⟨0, by omega, rfl, Own.nil _ _ _ _, Below.refl _ _⟩
  case round =>
    obtain ⟨k, hk, rfl, hown, hbel⟩ := hrel
    by_cases hlt : k < n
    · obtain ⟨b, o, rfl, hb1, hc1⟩ := (hr.below hbel).at_ (i := k) (by omega)
      have hl : Hid ((xs.take k).length = k) := by show _ = _; simp; omega
      have hone := Row.one .u8 wr 5 (nth xs k) (hr.wf_at (by omega))
      have hsz := hbel.size
      have HT := Lib.hid (take_step xs k (by omega))
      go_wp2_with (at_builtin; refine wpList_append_row _ rfl _ _ 22 rfl w.heap.size .u8 5 1 Try.underlying22 info_u8 _ (xs.take k) rfl (hown.alloc _) _ _ 1 1 [nth xs k] rfl hone rfl (by rw [hl.out]; omega) (by rw [hl.out]; simp only [maxLen]; omega) (by simp; omega) ?_; intro v1 w1 hown1 hg1)
      have hbel1 := Below.own1 hbel hsz hown hg1
      rw [← HT.out] at hown1
      clear hone hc1 hg1 hown
      go_wp2
      go_roundw
      case rel => exact ⟨k + 1, by omega, by go_num, hown1, hbel1⟩
      case measure => simp [intOf]; omega
    · have hx : xs.take k = xs := List.take_of_length_le (by omega)
      rw [hx] at hown
      clear hx
      go_wp2
      go_ret
      exact ⟨_, rfl, hown, hbel⟩
end Go.Proofs.Ytooelfmfcihlkaa
namespace Go.Proofs.Ytooelfmfcihlkaa
open Go.RowKit
set_option linter.unusedVariables false

theorem below_drewN {B : Nat} {a w : World} (h : Below B a w) (n : Nat) : Below B a (w.drewN n) := ⟨h.os, h.tape, h.output, h.size, h.block⟩
/-- Block g is just the row l. (A name: so the walk does not rewrite by it.) -/
def Bk (w : World) (g : Nat) (l : List Int) : Prop := w.heap[g]? = some (.cells (blk .u8 l) 5 (0, 0))
theorem Bk.below {w w' : World} {g : Nat} {l : List Int} (h : Bk w g l) (hb : Below w.heap.size w w') : Bk w' g l := (hb.block g (block_lt h)).trans h
theorem Bk.lt {w : World} {g : Nat} {l : List Int} (h : Bk w g l) : g < w.heap.size := block_lt h
theorem Bk.drewN {w : World} {g : Nat} {l : List Int} (h : Bk w g l) (n : Nat) : Bk (w.drewN n) g l := h
theorem Bk.row {w : World} {g : Nat} {l : List Int} (h : Bk w g l) (xs : List Int) (hw : ∀ x ∈ xs, (Lit.int .u8 x).wf = true) (hp : xs <+: l) : Row .u8 w w.heap.size (some ⟨g, 0, none⟩) xs :=
  (Row.of_block h xs hw hp).more h.lt
/-- A slice that is nil, or the beginning of block g. -/
def Li (w : World) (A : Option Addr) (m g : Nat) (l r : List Int) : Prop := A = none ∧ m = 0 ∨ A = some ⟨g, 0, none⟩ ∧ Bk w g (l ++ r)
theorem Li.below {w w' : World} {A : Option Addr} {m g : Nat} {l r : List Int} (h : Li w A m g l r) (hb : Below w.heap.size w w') : Li w' A m g l r := by
  rcases h with h | ⟨h1, h2⟩
  · exact .inl h
  · exact .inr ⟨h1, h2.below hb⟩
theorem Li.row {w : World} {A : Option Addr} {m g : Nat} {l r : List Int} (h : Li w A m g l r) (hm : l.length = m) (hw : ∀ x ∈ l, (Lit.int .u8 x).wf = true) : Row .u8 w w.heap.size A l := by
  rcases h with ⟨h1, h2⟩ | ⟨h1, h2⟩
  · have : l = [] := List.eq_nil_of_length_eq_zero (by omega)
    subst this
    exact Row.nil _ _ _ _
  · subst h1
    exact h2.row l hw (List.prefix_append _ _)
theorem bel_drewN (w : World) (n : Nat) : Below w.heap.size w (w.drewN n) := ⟨rfl, rfl, rfl, Nat.le_refl _, fun _ _ => rfl⟩

/-- A call returns a pair: a list that is nil or fills the first new block, and a number. -/
def Gives (w : World) (l : List Int) (err : Int) (e : Ending) (w' : World) : Prop :=
  ∃ A m, e = .returned (.tuple #[.slice A m m, .int .i64 err]) ∧ l.length = m ∧ Li w' A m w.heap.size l [] ∧ Below w.heap.size w w'
/-- A call returns a pair: a list of its own, and a number. -/
def GivesOwn (w : World) (l : List Int) (err : Int) (e : Ending) (w' : World) : Prop :=
  ∃ v, e = .returned (.tuple #[v, .int .i64 err]) ∧ Own .u8 5 w' w.heap.size v l ∧ Below w.heap.size w w'
theorem Li.lt {w : World} {A : Option Addr} {m g : Nat} {l r : List Int} (h : Li w A m g l r) : A = none ∨ g < w.heap.size := by
  rcases h with ⟨h1, _⟩ | ⟨_, h2⟩
  · exact .inl h1
  · exact .inr h2.lt
end Go.Proofs.Ytooelfmfcihlkaa
namespace Go.Proofs.Ytooelfmfcihlkaa
open Go.RowKit
set_option linter.unusedVariables false

theorem below_drew {B : Nat} {a w : World} (h : Below B a w) : Below B a w.drew := ⟨h.os, h.tape, h.output, h.size, h.block⟩
/-- The cells of a block that is known whole, and what a store makes of it. -/
theorem box_set {w : World} {g : Nat} {cs : Array Value} {t : TypeId} (h : w.heap[g]? = some (.cells cs t (0, 0))) (i : Nat) (v : Value) : (w.setCell ⟨g, i, none⟩ v).heap[g]? = some (.cells (cs.setIfInBounds i v) t (0, 0)) := by
  simp [World.setCell, Array.getElem?_modify, h]
theorem below_setCell {B : Nat} {a w : World} {g : Nat} (h : Below B a w) (hg : B ≤ g) (i : Nat) (v : Value) : Below B a (w.setCell ⟨g, i, none⟩ v) :=
  ⟨h.os, h.tape, h.output, by simpa [World.setCell] using h.size, fun k hk => (Below.heap_setCell w ⟨g, i, none⟩ v k (by simp; omega)).trans (h.block k hk)⟩


theorem heap_alloc_two (w : World) (o o' : Obj) : ((w.alloc o).alloc o').heap[w.heap.size + 1]? = some o' := by
  have h := heap_alloc_new (w.alloc o) o'
  rw [show (w.alloc o).heap.size = w.heap.size + 1 by simp] at h
  exact h

/-- Block g is known whole, and what lies below it is as it was. -/
def Bx (w0 : World) (g : Nat) (o : Obj) (w : World) : Prop := w.heap[g]? = some o ∧ Below g w0 w
theorem Bx.new (w : World) (o : Obj) : Bx w w.heap.size o (w.alloc o) := ⟨heap_alloc_new w o, bel_alloc w o⟩
theorem Bx.lt {w0 w : World} {g : Nat} {o : Obj} (h : Bx w0 g o w) : g < w.heap.size := block_lt h.1
theorem Bx.below {w0 w w' : World} {g : Nat} {o : Obj} (h : Bx w0 g o w) (hb : Below w.heap.size w w') : Bx w0 g o w' :=
  ⟨(hb.block g h.lt).trans h.1, h.2.trans (hb.mono (Nat.le_of_lt h.lt))⟩
theorem Bx.below2 {w0 w w' : World} {g B : Nat} {o : Obj} (h : Bx w0 g o w) (hb : Below B w w') (hB : g < B) : Bx w0 g o w' :=
  ⟨(hb.block g hB).trans h.1, h.2.trans (hb.mono (Nat.le_of_lt hB))⟩
theorem Bx.drewN {w0 w : World} {g : Nat} {o : Obj} (h : Bx w0 g o w) (n : Nat) : Bx w0 g o (w.drewN n) := h.below (bel_drewN w n)
theorem Bx.drew {w0 w : World} {g : Nat} {o : Obj} (h : Bx w0 g o w) : Bx w0 g o w.drew := h.below ⟨rfl, rfl, rfl, Nat.le_refl _, fun _ _ => rfl⟩
theorem Bx.alloc {w0 w : World} {g : Nat} {o : Obj} (h : Bx w0 g o w) (o' : Obj) : Bx w0 g o (w.alloc o') := h.below (bel_alloc w o')
theorem Bx.grown {w0 w w' : World} {g : Nat} {o : Obj} {row : Option Nat} (h : Bx w0 g o w) (hg : w.grownBy w' row) (hr : ∀ k, row = some k → g < k) : Bx w0 g o w' :=
  ⟨(hg.block g h.lt (fun e => by have := hr g e.symm; omega)).trans h.1, h.2.grown hg (Nat.le_of_lt h.lt) (fun k e => by have := hr k e; omega)⟩
theorem Bx.six {w0 w : World} {g : Nat} {t : TypeId} {v0 v1 v2 v3 v4 v5 : Value} (h : Bx w0 g (.cells #[v0, v1, v2, v3, v4, v5] t (0, 0)) w) :
    w.cell? ⟨g, 0, none⟩ = some v0 ∧ w.cell? ⟨g, 1, none⟩ = some v1 ∧ w.cell? ⟨g, 2, none⟩ = some v2 ∧ w.cell? ⟨g, 3, none⟩ = some v3 ∧ w.cell? ⟨g, 4, none⟩ = some v4 ∧ w.cell? ⟨g, 5, none⟩ = some v5 :=
  ⟨cell_of_row _ _ 0 _ _ _ h.1, cell_of_row _ _ 1 _ _ _ h.1, cell_of_row _ _ 2 _ _ _ h.1, cell_of_row _ _ 3 _ _ _ h.1, cell_of_row _ _ 4 _ _ _ h.1, cell_of_row _ _ 5 _ _ _ h.1⟩
end Go.Proofs.Ytooelfmfcihlkaa
namespace Go.Proofs.Ytooelfmfcihlkaa
open Go.RowKit
set_option linter.unusedVariables false
set_option maxRecDepth 100000

/-- The last so many bytes of a number, the highest first. -/
def lo : Nat → Nat → List Int
  | 0, _ => []
  | i + 1, v => ((v / 256 ^ i % 256 : Nat) : Int) :: lo i v
theorem lo_len (i v : Nat) : (lo i v).length = i := by
  induction i with
  | zero => rfl
  | succ i ih => simp [lo, ih]
theorem lo_wf (i v : Nat) : ∀ x ∈ lo i v, (Lit.int .u8 x).wf = true := by
  induction i with
  | zero => intro x hx; cases hx
  | succ i ih =>
    intro x hx
    rcases List.mem_cons.1 hx with rfl | hx
    · exact wf_byte _ (Nat.mod_lt _ (by omega))
    · exact ih x hx
theorem lo_two (n : Nat) (h : n < 65536) : lo 2 n = ckH n := by
  simp [lo, ckH]; omega
theorem lo_four (s : Nat) : lo 4 s = be4 s := by
  simp [lo, be4]
theorem lo_step (n j v : Nat) (x : Int) (h : j < n) : (List.replicate (n - j) (0 : Int) ++ lo j v).set (n - j - 1) x = List.replicate (n - (j + 1)) 0 ++ (x :: lo j v) := by
  obtain ⟨q, hq⟩ : ∃ q, n - j = q + 1 := ⟨n - j - 1, by omega⟩
  rw [hq, show n - (j + 1) = q by omega, show q + 1 - 1 = q by omega, List.replicate_succ']
  rw [List.append_assoc, List.set_append_right _ _ (by simp)]
  simp
theorem div_step8 (v j : Nat) : v / 256 ^ (j + 1) = v / 256 ^ j / 256 := by rw [Nat.pow_succ, Nat.div_div_eq_div_mul]

theorem highFirst_any (v n : Nat) (hv : v < 4294967296) (hn : n ≤ 4) (w : World) :
    Calls Try.prog 31 #[.int .u32 v, .int .i64 n] w fun e w' => e = .returned (.slice (some ⟨w.heap.size, 0, none⟩) n n) ∧ w' = w.alloc (.cells (blk .u8 (lo n v)) 5) := by
  have hmk := make_u8 n (by omega)
  go_enter Try.func31, Try.ntmps31
  go_wp2
  go_loopw [0, 6, 11] (fun t _ i wr => ∃ j : Nat, j ≤ n ∧ i = .int .i64 j ∧ t = .int .u32 (v / 256 ^ j : Nat) ∧ wr = w.alloc (.cells (blk .u8 (List.replicate (n - j) 0 ++ lo j v)) 5)) (fun _ _ i _ => n - (intOf i).toNat)
  case atStart => exact ⟨0, by omega, rfl, by simp, by simp [lo]⟩
  case round =>
    obtain ⟨j, hj, rfl, rfl, rfl⟩ := hrel
    by_cases hlt : j < n
    · have hb : v / 256 ^ j < 4294967296 := Nat.lt_of_le_of_lt (Nat.div_le_self _ _) hv
      have hq := Lib.hid (div_step8 v j)
      have HS := Lib.hid (lo_step n j v (((v / 256 ^ j : Nat) : Int) % 256) hlt)
      have HL : Hid (lo (j + 1) v = (((v / 256 ^ j : Nat) : Int) % 256) :: lo j v) := Lib.hid (by rw [lo]; congr 1)
      obtain ⟨L, hL⟩ : ∃ L, Hid (List.replicate (n - j) (0 : Int) ++ lo j v = L) := ⟨_, Lib.hid rfl⟩
      have hLl : L.length = n := by rw [← hL.out, List.length_append, List.length_replicate, lo_len]; omega
      obtain ⟨q, hqq⟩ : ∃ q, Hid (v / 256 ^ j = q) := ⟨_, Lib.hid rfl⟩
      rw [hqq.out] at hb hq HS HL ⊢
      rw [hL.out] at HS ⊢
      have hc : (blk .u8 L)[n - j - 1]? = some (.int .u8 (nth L (n - j - 1))) := blk_get _ _ _ (by omega)
      have hwr : IntKind.u8.wrap (q : Int) = (q : Int) % 256 := by rw [IntKind.wrap_u8]
      have hi1 : IntKind.i64.wrap (IntKind.i64.wrap ((n : Int) - 1) - (j : Int)) = ((n - j - 1 : Nat) : Int) := by
        rw [IntKind.wrap_i64, IntKind.wrap_i64]; omega
      have hi2 : (n : Int) - 1 - (j : Int) = ((n - j - 1 : Nat) : Int) := by omega
      go_wp2
      go_roundw
      case rel => exact ⟨j + 1, by omega, by go_num, by rw [hq.out]; rfl, by rw [blk_set, HS.out, ← HL.out]⟩
      case measure => simp [intOf]; omega
    · obtain rfl : j = n := by omega
      have hx : List.replicate (j - j) (0 : Int) ++ lo j v = lo j v := by simp
      rw [hx]
      go_wp2
      go_ret
      exact ⟨rfl, rfl⟩
/-- 'copy' of a row into a block known whole. -/
theorem copy_cells {w : World} {g off n : Nat} {e : TypeId} {l xs : List Int} (hg : w.heap[g]? = some (.cells (blk .u8 l) e (0, 0))) (hl : off + xs.length = n) (hn : n ≤ l.length) :
    w.setRow g ((blk .u8 l).toList.take off ++ (xs.map (Value.int .u8) ++ (blk .u8 l).toList.drop (off + (xs.map (Value.int .u8)).length))).toArray = w.setRow g (blk .u8 (l.take off ++ (xs ++ l.drop n))) := by
  congr 1
  simp only [blk, List.map_append, List.map_take, List.map_drop, List.length_map, hl]
theorem setRow_block {w : World} {g : Nat} {e : TypeId} {l : List Int} (hg : w.heap[g]? = some (.cells (blk .u8 l) e (0, 0))) (m : List Int) : (w.setRow g (blk .u8 m)).heap[g]? = some (.cells (blk .u8 m) e (0, 0)) := setRow_heap w g _ _ e _ hg
theorem cells_src {w : World} {g : Nat} {e : TypeId} {xs : List Int} (hg : w.heap[g]? = some (.cells (blk .u8 xs) e (0, 0))) : ∀ j v, (xs.map (Value.int .u8))[j]? = some v → w.cell? ((⟨g, 0, none⟩ : Addr).add j) = some v := by
  intro j v hj
  rw [Go.WideShapes.add_plain, Nat.zero_add, cell_of_row w g j _ _ _ hg]
  simpa [blk] using hj
/-- A call returns a head: six bytes that fill a new block. -/
def Heads (w : World) (xs : List Int) (e : Ending) (w' : World) : Prop :=
  e = .returned (.slice (some ⟨w.heap.size, 0, none⟩) 6 6) ∧ w'.heap[w.heap.size]? = some (.cells (blk .u8 (ckH xs.length ++ be4 (ckS xs))) 5 (0, 0)) ∧ Below w.heap.size w w'
theorem info_one8 : (Try.prog.info? 5).map (·.size) = some 1 := by kernel_rfl
set_option maxHeartbeats 1000000 in
theorem head_any (A : Option Addr) (n c : Nat) (xs : List Int) (w : World) (hr : Row .u8 w w.heap.size A xs) (hn : xs.length = n) (hm : n ≤ 1024) :
    Calls Try.prog 25 #[.slice A n c] w (Heads w xs) := by
  have hmk : ∀ W : World, (Instr.makeSlice 22 (.int .i64 6) (.int .i64 6)).run Try.prog W = .ok (.slice (some ⟨W.heap.size, 0, none⟩) 6 6) (W.alloc (.cells (blk .u8 [0, 0, 0, 0, 0, 0]) 5)) := make_u8 6 (by omega)
  have HR := Lib.hid hr
  have HN := Lib.hid hn
  obtain ⟨H, hH⟩ : ∃ H, Hid (lo 2 n = H) := ⟨_, Lib.hid rfl⟩
  have hHc : Hid (H = ckH n) := Lib.hid (by rw [← hH.out, lo_two n (by omega)])
  have hHl : Hid (H.length = 2) := Lib.hid (by rw [← hH.out, lo_len])
  have hHw : Hid (∀ x ∈ H, (Lit.int .u8 x).wf = true) := Lib.hid (by rw [← hH.out]; exact lo_wf _ _)
  have hsl : Hid (ckS xs < 4294967296) := Lib.hid (by unfold ckS; exact more32_lt _ _ (more32_lt _ _ (by omega) (ckH_wf (by omega))) hr.1)
  have hsm : Hid (more32 (more32 0 H) xs = ckS xs) := Lib.hid (by rw [hHc.out]; unfold ckS; rw [HN.out])
  have hcr : Hid (more32 0 H < 4294967296) := Lib.hid (more32_lt _ _ (by omega) hHw.out)
  obtain ⟨s, hs⟩ : ∃ s, Hid (ckS xs = s) := ⟨_, Lib.hid rfl⟩
  rw [hs.out] at hsl hsm
  have HF : Hid (∀ W : World, Calls Try.prog 31 #[.int .u32 (n : Int), .int .i64 2] W fun e w' => e = .returned (.slice (some ⟨W.heap.size, 0, none⟩) 2 2) ∧ w' = W.alloc (.cells (blk .u8 H) 5)) := Lib.hid (fun W => by rw [← hH.out]; exact highFirst_any n 2 (by omega) (by omega) W)
  obtain ⟨W1, hW1⟩ : ∃ W1 : World, Hid ((w.alloc (.cells (blk .u8 [0, 0, 0, 0, 0, 0]) 5)).alloc (.cells (blk .u8 H) 5) = W1) := ⟨_, Lib.hid rfl⟩
  have hz1 : Hid (W1.heap.size = w.heap.size + 2) := Lib.hid (by rw [← hW1.out]; simp)
  have ha1 : Hid (W1.heap[w.heap.size]? = some (.cells (blk .u8 [0, 0, 0, 0, 0, 0]) 5 (0, 0))) := Lib.hid (by rw [← hW1.out]; exact (heap_alloc_old _ _ (by simp)).trans (heap_alloc_new w _))
  have hb1 : Hid (W1.heap[w.heap.size + 1]? = some (.cells (blk .u8 H) 5 (0, 0))) := Lib.hid (by rw [← hW1.out]; exact heap_alloc_two _ _ _)
  have hB1 : Hid (Below w.heap.size w W1) := Lib.hid (by rw [← hW1.out]; exact (bel_alloc w _).alloc (by simp) _)
  obtain ⟨W2, hW2⟩ : ∃ W2 : World, Hid (W1.setRow w.heap.size (blk .u8 (H ++ [0, 0, 0, 0])) = W2) := ⟨_, Lib.hid rfl⟩
  have ha2 : Hid (W2.heap[w.heap.size]? = some (.cells (blk .u8 (H ++ [0, 0, 0, 0])) 5 (0, 0))) := Lib.hid (by rw [← hW2.out]; exact setRow_block ha1.out _)
  have hB2 : Hid (Below w.heap.size w W2) := Lib.hid (by rw [← hW2.out]; exact below_setRow hB1.out (Nat.le_refl _) _)
  have hR2 : Hid (Row .u8 W2 w.heap.size A xs) := Lib.hid (HR.out.below hB2.out)
  have hL2 : Hid (Row .u8 W2 (w.heap.size + 1) (some ⟨w.heap.size, 0, none⟩) H) := Lib.hid (Row.of_block ha2.out _ hHw.out (List.prefix_append _ _))
  have hz2 : Hid (W2.heap.size = w.heap.size + 2) := Lib.hid (by rw [← hW2.out]; simp [World.setRow, hz1.out])
  have HF4 : Hid (∀ W : World, (∃ q, W = W2.drewN q) → Calls Try.prog 31 #[.int .u32 (s : Int), .int .i64 4] W fun e w' => e = .returned (.slice (some ⟨w.heap.size + 2, 0, none⟩) 4 4) ∧ ∃ w3, Hid (w3.heap[w.heap.size]? = some (.cells (blk .u8 (H ++ be4 s)) 5 (0, 0)) ∧ Below w.heap.size w w3) ∧ ∀ ty, (Builtin.copy_ #[22, 22] ty #[.slice (some ⟨w.heap.size, 2, none⟩) 4 4, .slice (some ⟨w.heap.size + 2, 0, none⟩) 4 4]).run Try.prog w' = .ok (.int .i64 4) w3) := Lib.hid (fun W ⟨q, hq⟩ => by
    subst hq
    have hzq : (W2.drewN q).heap.size = w.heap.size + 2 := hz2.out
    refine (highFirst_any s 4 hsl.out (by omega) _).mono fun e w1 ⟨he, hw1⟩ => ?_
    rw [hzq] at he
    have ha3 : w1.heap[w.heap.size]? = some (.cells (blk .u8 (H ++ [0, 0, 0, 0])) 5 (0, 0)) := by
      rw [hw1]
      exact (heap_alloc_old _ _ (show w.heap.size < W2.heap.size by have := hz2.out; omega)).trans ha2.out
    have hb3 : w1.heap[w.heap.size + 2]? = some (.cells (blk .u8 (lo 4 s)) 5 (0, 0)) := by
      rw [hw1, ← hzq]
      exact heap_alloc_new _ _
    have hB3 : Below w.heap.size w w1 := by
      rw [hw1]
      have h0 : Below w.heap.size w (W2.drewN q) := hB2.out.trans ⟨rfl, rfl, rfl, Nat.le_refl _, fun _ _ => rfl⟩
      exact h0.alloc (by rw [hzq]; omega) _
    refine ⟨he, w1.setRow w.heap.size (blk .u8 (H ++ be4 s)), Lib.hid ⟨setRow_block ha3 _, below_setRow hB3 (Nat.le_refl _) _⟩, fun ty => ?_⟩
    have := run_copy_row (P := Try.prog) w1 22 22 ty 5 w.heap.size 2 4 4 ⟨w.heap.size + 2, 0, none⟩ 4 4 (blk .u8 (H ++ [0, 0, 0, 0])) 5 ((lo 4 s).map (Value.int .u8)) Try.underlying22 info_one8 ha3 (by rw [List.length_map, lo_len]; rfl) (cells_src hb3) (by rw [List.length_map, lo_len, blk_size, List.length_append, hHl.out]; decide) (ints_oneCell _ _)
    rw [this, List.length_map, lo_len, List.append_assoc]
    have hcc := copy_cells (w := w1) (off := 2) (n := 6) (xs := lo 4 s) ha3 (by rw [lo_len]) (by rw [List.length_append, hHl.out]; decide)
    rw [List.length_map, lo_len] at hcc
    rw [hcc, List.take_left' hHl.out, List.drop_of_length_le (by rw [List.length_append, hHl.out]; decide), List.append_nil, lo_four]
    rfl)
  clear hr hn
  go_enter Try.func25, Try.ntmps25
  go_wp2_with (first
    | (go_at_call 31; refine (HF.out _).mono ?_; rintro e w1 ⟨rfl, rfl⟩; rw [hW1.out])
    | (refine wpList_copy_own rfl (.tmp 9) (.tmp 13) 22 22 rfl 5 Try.underlying22 info_one8 w.heap.size 0 2 6 ⟨w.heap.size + 1, 0, none⟩ 2 2 rfl rfl (blk .u8 [0, 0, 0, 0, 0, 0]) 5 ha1.out (H.map (Value.int .u8)) (by rw [List.length_map, hHl.out]; rfl) (cells_src hb1.out) (by rw [List.length_map, hHl.out]; decide) (ints_oneCell _ _) ?_; rw [copy_cells (n := 2) ha1.out (by rw [hHl.out]) (by decide)]; simp only [List.take_zero, List.nil_append, List.drop_succ_cons, List.drop_zero]; rw [hW2.out])
    | (go_at_call 33; refine (crc_32 _ 2 _ H _ _ hL2.out hHl.out (by omega)).mono ?_; rintro e w1 ⟨rfl, rfl⟩)
    | (go_at_call 32; refine (more_32 _ _ _ _ xs hcr.out _ _ hR2.out HN.out (by omega)).mono ?_; rintro e w1 ⟨rfl, rfl⟩; rw [hsm.out]))
  clear HF hz1 ha1 hb1 hB1 hL2 hR2 ha2 hB2 hcr hsm hsl
  go_region_with (go_at_call 31; refine (HF4.out _ ⟨_, rfl⟩).mono ?_; rintro e w1 ⟨rfl, w3, HW3, hcp⟩)
  all_goals go_wp2
  all_goals go_ret
  all_goals exact ⟨rfl, by rw [HN.out, ← hHc.out, hs.out]; exact HW3.out.1, HW3.out.2⟩
end Go.Proofs.Ytooelfmfcihlkaa
namespace Go.Proofs.Ytooelfmfcihlkaa
open Go.RowKit

section
variable {P : Program}
theorem run_append_row (w : World) (base : Nat) (t ty : TypeId) (k : IntKind) (e : TypeId) (bytes : Nat) (ht : P.underlying t = some (.slice e)) (hi : (P.info? e).map (fun i => (i.zero, i.size, i.bytes)) = some (some (.int k 0), 1, bytes))
    (v : Value) (xs : List Int) (hown : Own k e w base v xs) (B : Nat) (A : Option Addr) (m c : Nat) (ys : List Int) (hr : Row k w B A ys) (hm : ys.length = m)
    (hbytes : (xs.length + m) * bytes ≤ 140737488355328) (h63 : xs.length + m ≤ maxLen) (hbase : base ≤ w.heap.size) :
    ∃ v' w', (Builtin.append_ #[t, t] ty #[v, .slice A m c]).run P w = .ok v' w' ∧ Own k e w' base v' (xs ++ ys) ∧ w.grownBy w' v.ownBlock := by
  obtain ⟨i, hi1, hz, hsz, hby⟩ := info_parts hi
  cases A with
  | none =>
    have hm0 : m = 0 := by
      rcases Nat.eq_zero_or_pos m with h0 | h0
      · exact h0
      · obtain ⟨b, o, h, _⟩ := hr.2 (by omega); cases h
    subst hm0
    have hy : ys = [] := List.eq_nil_of_length_eq_zero hm
    subst hy
    exact ⟨v, w, run_append_none (P := P) w t ty e i ht hi1 base v _ _ hown c, by simpa using hown, World.grownBy.refl _ _⟩
  | some ad =>
    have hcells : ∀ j u, (ys.map (Value.int k))[j]? = some u → w.cell? (ad.add j) = some u := by
      intro j u hu
      rw [List.getElem?_map] at hu
      by_cases hj : j < ys.length
      · obtain ⟨b, o, e1, _, hc⟩ := hr.2 (by omega)
        injection e1 with e1
        subst e1
        rw [List.getElem?_eq_getElem hj] at hu
        rw [Go.WideShapes.add_plain, hc j hj, nth_eq ys j hj]
        exact hu
      · rw [List.getElem?_eq_none (by omega)] at hu
        cases hu
    obtain ⟨v', w', hrun, h2, h3, _, _⟩ := run_append_own_at (P := P) w base t ty e i (.int k 0) 1 bytes ht hi1 hz hsz hby rfl (by omega) v _ _ hown ad m c (ys.map (Value.int k)) (by simp [hm]) hcells (ints_oneCell k ys) h63 hbytes hbase
    exact ⟨v', w', hrun, by simpa [Own, hm] using h2, h3⟩

theorem run_append_row2 (w : World) (base : Nat) (t ty : TypeId) (k : IntKind) (e : TypeId) (bytes : Nat) (ht : P.underlying t = some (.slice e)) (hi : (P.info? e).map (fun i => (i.zero, i.size, i.bytes)) = some (some (.int k 0), 1, bytes))
    (v : Value) (xs : List Int) (hown : Own k e w base v xs) (B : Nat) (A : Option Addr) (m c : Nat) (ys : List Int) (hr : Row k w B A ys) (hm : ys.length = m)
    (hbytes : (xs.length + m) * bytes ≤ 140737488355328) (h63 : xs.length + m ≤ maxLen) (hbase : base ≤ w.heap.size) :
    ∃ v' w', (Builtin.append_ #[t, t] ty #[v, .slice A m c]).run P w = .ok v' w' ∧ Own k e w' base v' (xs ++ ys) ∧ w.grownBy w' v.ownBlock ∧ (v'.ownBlock = v.ownBlock ∨ v'.ownBlock = some w.heap.size) := by
  obtain ⟨i, hi1, hz, hsz, hby⟩ := info_parts hi
  cases A with
  | none =>
    have hm0 : m = 0 := by
      rcases Nat.eq_zero_or_pos m with h0 | h0
      · exact h0
      · obtain ⟨b, o, h, _⟩ := hr.2 (by omega); cases h
    subst hm0
    have hy : ys = [] := List.eq_nil_of_length_eq_zero hm
    subst hy
    exact ⟨v, w, run_append_none (P := P) w t ty e i ht hi1 base v _ _ hown c, by simpa using hown, World.grownBy.refl _ _, .inl rfl⟩
  | some ad =>
    have hcells : ∀ j u, (ys.map (Value.int k))[j]? = some u → w.cell? (ad.add j) = some u := by
      intro j u hu
      rw [List.getElem?_map] at hu
      by_cases hj : j < ys.length
      · obtain ⟨b, o, e1, _, hc⟩ := hr.2 (by omega)
        injection e1 with e1
        subst e1
        rw [List.getElem?_eq_getElem hj] at hu
        rw [Go.WideShapes.add_plain, hc j hj, nth_eq ys j hj]
        exact hu
      · rw [List.getElem?_eq_none (by omega)] at hu
        cases hu
    obtain ⟨v', w', hrun, h2, h3, _, h5⟩ := run_append_own_at (P := P) w base t ty e i (.int k 0) 1 bytes ht hi1 hz hsz hby rfl (by omega) v _ _ hown ad m c (ys.map (Value.int k)) (by simp [hm]) hcells (ints_oneCell k ys) h63 hbytes hbase
    exact ⟨v', w', hrun, by simpa [Own, hm] using h2, h3, h5⟩

/-- 'append(v, src...)': v owned, src whatever row of integers; where the new row lies. -/
theorem wpList_append_row2 {ops : Array Oper} {rest : List Oper} {o : Oper} {a : Act} {Q : Exit → Act → World → Prop} (w : World) (hgd : o.guard = none) (s x : Operand) (t : TypeId)
    (ho : o.op = .call { callee := .builtin .append, args := #[s, x], argTypes := #[t, t] })
    (base : Nat) (k : IntKind) (e : TypeId) (bytes : Nat) (ht : P.underlying t = some (.slice e)) (hi : (P.info? e).map (fun i => (i.zero, i.size, i.bytes)) = some (some (.int k 0), 1, bytes))
    (v : Value) (xs : List Int) (hs : a.eval s = v) (hown : Own k e w base v xs) (B : Nat) (A : Option Addr) (m c : Nat) (ys : List Int) (hx : a.eval x = .slice A m c) (hr : Row k w B A ys) (hm : ys.length = m)
    (hbytes : (xs.length + m) * bytes ≤ 140737488355328) (h63 : xs.length + m ≤ maxLen) (hbase : base ≤ w.heap.size)
    (h : ∀ v' w', Own k e w' base v' (xs ++ ys) → w.grownBy w' v.ownBlock → (v'.ownBlock = v.ownBlock ∨ v'.ownBlock = some w.heap.size) → wpList P ops Q rest (a.put o.dst v') w') : wpList P ops Q (o :: rest) a w := by
  obtain ⟨v', w', hrun, h1, h2, h3⟩ := run_append_row2 (P := P) w base t o.type k e bytes ht hi v xs hown B A m c ys hr hm hbytes h63 hbase
  refine wpList_plain hgd fun K hK => ?_
  unfold Oper.wp
  simp [execOp, ho, resolve, invoke, builtin, hs, hx, hrun, Result.andThen]
  exact hK _ _ (h v' w' h1 h2 h3)

theorem step_append_row {ops : Array Oper} {o : Oper} {a : Act} {K : Act → World → Prop} {Q : Exit → Act → World → Prop} {E : Prop} (w : World) (hgd : o.guard = none) (s x : Operand) (t : TypeId)
    (ho : o.op = .call { callee := .builtin .append, args := #[s, x], argTypes := #[t, t] })
    (base : Nat) (k : IntKind) (e : TypeId) (bytes : Nat) (ht : P.underlying t = some (.slice e)) (hi : (P.info? e).map (fun i => (i.zero, i.size, i.bytes)) = some (some (.int k 0), 1, bytes))
    (v : Value) (xs : List Int) (hs : a.eval s = v) (hown : Own k e w base v xs) (B : Nat) (A : Option Addr) (m c : Nat) (ys : List Int) (hx : a.eval x = .slice A m c) (hr : Row k w B A ys) (hm : ys.length = m)
    (hbytes : (xs.length + m) * bytes ≤ 140737488355328) (h63 : xs.length + m ≤ maxLen) (hbase : base ≤ w.heap.size)
    (h : ∀ v' w', Own k e w' base v' (xs ++ ys) → w.grownBy w' v.ownBlock → K (a.put o.dst v') w') :
    if Region.wanted o (yielded ops a.tmps) = true then Oper.wp P o a w K Q else E := by
  have hw : Region.wanted o (yielded ops a.tmps) = true := by simp [Region.wanted, hgd]
  rw [if_pos hw]
  obtain ⟨v', w', hrun, h1, h2⟩ := run_append_row (P := P) w base t o.type k e bytes ht hi v xs hown B A m c ys hr hm hbytes h63 hbase
  unfold Oper.wp execOp
  simp only [ho, resolve, invoke, builtin, Sem.run_bind, Sem.run_pure, Result.andThen_ok, List.map_toArray, List.map_cons, List.map_nil, hs, hx, hrun]
  exact h v' w' h1 h2
end
end Go.Proofs.Ytooelfmfcihlkaa
namespace Go.Proofs.Ytooelfmfcihlkaa
open Go.RowKit
set_option linter.unusedVariables false

theorem zeros_wfK (k : IntKind) (m : Nat) : ∀ x ∈ List.replicate m (0 : Int), (Lit.int k x).wf = true := fun x hx => by
  rw [List.eq_of_mem_replicate hx]; cases k <;> decide
section
variable {P : Program}
theorem run_append_K (w : World) (base : Nat) (t : TypeId) (k : IntKind) (e : TypeId) (bytes : Nat) (ht : P.underlying t = some (.slice e)) (hi : (P.info? e).map (fun i => (i.zero, i.size, i.bytes)) = some (some (.int k 0), 1, bytes))
    (v : Value) (xs : List Int) (hown : KOwn k e w base v xs) (B : Nat) (A : Option Addr) (m c : Nat) (ys : List Int) (hr : Row k w B A ys) (hm : ys.length = m) (h1 : 1 ≤ m)
    (hbytes : (xs.length + m) * bytes ≤ 140737488355328) (h63 : xs.length + m ≤ maxLen) (hbase : base ≤ w.heap.size) :
    ∃ v' w', (∀ ty, (Builtin.append_ #[t, t] ty #[v, .slice A m c]).run P w = .ok v' w') ∧ KOwn k e w' base v' (xs ++ ys) ∧ w.grownBy w' v.ownBlock ∧ (v'.ownBlock = some w.heap.size ∨ (v'.ownBlock = v.ownBlock ∧ v.ownBlock ≠ none)) ∧ ∃ A' n' c', v' = .slice A' n' c' := by
  obtain ⟨i, hi1, hz, hsz, hby⟩ := info_parts hi
  have h64 := h63
  simp only [maxLen] at h64
  obtain ⟨b, o, rfl, _, hc⟩ := hr.2 (by omega)
  have hnews : ∀ j u, (ys.map (Value.int k))[j]? = some u → w.cell? ((⟨b, o, none⟩ : Addr).add j) = some u := by
    intro j u hu
    rw [List.getElem?_map] at hu
    by_cases hj : j < ys.length
    · rw [List.getElem?_eq_getElem hj] at hu
      rw [Go.WideShapes.add_plain, hc j hj, nth_eq ys j hj]
      exact hu
    · rw [List.getElem?_eq_none (by omega)] at hu
      cases hu
  have hnl : (ys.map (Value.int k)).length = m * i.size := by rw [List.length_map, hsz, hm, Nat.mul_one]
  rcases hown with ⟨rfl, rfl⟩ | ⟨g, n, cap, r, rfl, h2, h3, h4, h5, h6, h7, h8⟩
  · simp only [List.length_nil, Nat.zero_add] at hbytes h63 h64
    have hrun := fun ty => run_append_nil (P := P) w t ty e i _ ht hi1 hz ⟨b, o, none⟩ m c (ys.map (Value.int k)) hnl hnews (by omega) (by omega) (by rw [hby]; omega)
    have hge := grownCap_ge w m 0 e
    refine ⟨_, _, hrun, .inr ⟨w.heap.size, m, grownCap w m 0 e, List.replicate (grownCap w m 0 e - m) 0, rfl, hbase, by simpa using hm, ?_, hge, grownCap_le_maxLen w m 0 e h63, by simp; omega, zeros_wfK _ _⟩, ⟨rfl, rfl, rfl, by simp, fun q hq _ => heap_alloc_old w.drew _ hq⟩, .inl rfl, _, _, _, rfl⟩
    rw [zero_one, show ((ys.map (Value.int k)).toArray ++ blk k (List.replicate (grownCap w m 0 e - m) 0)) = blk k ([] ++ ys ++ List.replicate (grownCap w m 0 e - m) 0) by simp [blk]]
    exact heap_alloc_new w.drew _
  · by_cases hroom : n + m ≤ cap
    · have hsz4 : (blk k (xs ++ r)).size = cap := by rw [blk_size, List.length_append]; exact h7
      have hrun := fun ty => run_append_room (P := P) w t ty e i ht hi1 g n cap (blk k (xs ++ r)) h4 ⟨b, o, none⟩ m c (ys.map (Value.int k)) hnl hnews (ints_oneCell k ys) hroom (by rw [hsz4, hsz, Nat.mul_one, List.length_map]; omega)
      refine ⟨_, _, hrun, .inr ⟨g, n + m, cap, r.drop m, rfl, h2, by rw [List.length_append]; omega, ?_, hroom, h6, by rw [List.length_append, List.length_drop]; omega, fun x hx => h8 x (List.mem_of_mem_drop hx)⟩, ⟨rfl, rfl, rfl, by simp, fun q _ hq => setRow_other w g q _ (fun e => hq (by simp [Value.ownBlock, e]))⟩, .inr ⟨rfl, by simp [Value.ownBlock]⟩, _, _, _, rfl⟩
      have hcells : ((blk k (xs ++ r)).toList.take (n * i.size) ++ ys.map (Value.int k) ++ (blk k (xs ++ r)).toList.drop (n * i.size + (ys.map (Value.int k)).length)).toArray = blk k (xs ++ ys ++ r.drop m) := by
        rw [hsz, Nat.mul_one, List.length_map, hm]
        simp only [blk, List.map_append, ← h3]
        congr 1
        rw [List.take_left' (by simp), ← List.drop_drop, List.drop_left' (by simp), List.map_drop]
      rw [hcells]
      exact setRow_heap w g _ _ e _ h4
    · have holds : ∀ j u, (xs.map (Value.int k))[j]? = some u → w.cell? ((⟨g, 0, none⟩ : Addr).add j) = some u := by
        intro j u hu
        have hj : j < xs.length := by have := (List.getElem?_eq_some_iff.1 hu).1; simpa using this
        rw [Go.WideShapes.add_plain, Nat.zero_add, cell_of_row w g j _ _ _ h4, blk_get _ _ _ (by rw [List.length_append]; omega), nth_left _ _ _ hj]
        rw [List.getElem?_map, List.getElem?_eq_getElem hj] at hu
        rw [nth_eq _ _ hj]
        exact hu
      have hrun := fun ty => run_append_grow (P := P) w t ty e i _ ht hi1 hz ⟨g, 0, none⟩ n cap (xs.map (Value.int k)) (by rw [hsz]; simp; omega) holds ⟨b, o, none⟩ m c (ys.map (Value.int k)) hnl hnews (by omega) (by omega) (growslice_fits (by omega) (by rw [hby, ← h3]; exact hbytes))
      have hge := grownCap_ge w (n + m) cap e
      refine ⟨_, _, hrun, .inr ⟨w.heap.size, n + m, grownCap w (n + m) cap e, List.replicate (grownCap w (n + m) cap e - (n + m)) 0, rfl, hbase, by rw [List.length_append]; omega, ?_, hge, grownCap_le_maxLen w (n + m) cap e (by omega), by rw [List.length_append, List.length_replicate]; omega, zeros_wfK _ _⟩, ⟨rfl, rfl, rfl, by simp, fun q hq _ => heap_alloc_old w.drew _ hq⟩, .inl rfl, _, _, _, rfl⟩
      rw [zero_one, show ((xs.map (Value.int k)).toArray ++ (ys.map (Value.int k)).toArray ++ blk k (List.replicate (grownCap w (n + m) cap e - (n + m)) 0)) = blk k (xs ++ ys ++ List.replicate (grownCap w (n + m) cap e - (n + m)) 0) by simp [blk]]
      exact heap_alloc_new w.drew _
theorem step_append_K {ops : Array Oper} {o : Oper} {a : Act} {K : Act → World → Prop} {Q : Exit → Act → World → Prop} {E : Prop} (w : World) (hgd : o.guard = none) (s x : Operand) (t : TypeId)
    (ho : o.op = .call { callee := .builtin .append, args := #[s, x], argTypes := #[t, t] })
    (base : Nat) (k : IntKind) (e : TypeId) (bytes : Nat) (ht : P.underlying t = some (.slice e)) (hi : (P.info? e).map (fun i => (i.zero, i.size, i.bytes)) = some (some (.int k 0), 1, bytes))
    (v : Value) (xs : List Int) (hs : a.eval s = v) (hown : KOwn k e w base v xs) (B : Nat) (A : Option Addr) (m c : Nat) (ys : List Int) (hx : a.eval x = .slice A m c) (hr : Row k w B A ys) (hm : ys.length = m) (h1 : 1 ≤ m)
    (hbytes : (xs.length + m) * bytes ≤ 140737488355328) (h63 : xs.length + m ≤ maxLen) (hbase : base ≤ w.heap.size)
    (h : ∀ v' w', KOwn k e w' base v' (xs ++ ys) → w.grownBy w' v.ownBlock → (v'.ownBlock = some w.heap.size ∨ (v'.ownBlock = v.ownBlock ∧ v.ownBlock ≠ none)) → (∃ A' n' c', v' = .slice A' n' c') → K (a.put o.dst v') w') :
    if Region.wanted o (yielded ops a.tmps) = true then Oper.wp P o a w K Q else E := by
  have hw : Region.wanted o (yielded ops a.tmps) = true := by simp [Region.wanted, hgd]
  rw [if_pos hw]
  obtain ⟨v', w', hrun, g1, g2, g3, g4⟩ := run_append_K (P := P) w base t k e bytes ht hi v xs hown B A m c ys hr hm h1 hbytes h63 hbase
  unfold Oper.wp execOp
  simp only [ho, resolve, invoke, builtin, Sem.run_bind, Sem.run_pure, Result.andThen_ok, List.map_toArray, List.map_cons, List.map_nil, hs, hx, hrun]
  exact h v' w' g1 g2 g3 g4
theorem wpList_append_K {ops : Array Oper} {rest : List Oper} {o : Oper} {a : Act} {Q : Exit → Act → World → Prop} (w : World) (hgd : o.guard = none) (s x : Operand) (t : TypeId)
    (ho : o.op = .call { callee := .builtin .append, args := #[s, x], argTypes := #[t, t] })
    (base : Nat) (k : IntKind) (e : TypeId) (bytes : Nat) (ht : P.underlying t = some (.slice e)) (hi : (P.info? e).map (fun i => (i.zero, i.size, i.bytes)) = some (some (.int k 0), 1, bytes))
    (v : Value) (xs : List Int) (hs : a.eval s = v) (hown : KOwn k e w base v xs)
    (B : Nat) (A : Option Addr) (m c : Nat) (ys : List Int) (hx : a.eval x = .slice A m c) (hr : Row k w B A ys) (hm : ys.length = m) (h1 : 1 ≤ m)
    (hbytes : (xs.length + m) * bytes ≤ 140737488355328) (h63 : xs.length + m ≤ maxLen) (hbase : base ≤ w.heap.size)
    (h : ∀ v' w', KOwn k e w' base v' (xs ++ ys) → w.grownBy w' v.ownBlock → (v'.ownBlock = some w.heap.size ∨ (v'.ownBlock = v.ownBlock ∧ v.ownBlock ≠ none)) → (∃ A' n' c', v' = .slice A' n' c') → wpList P ops Q rest (a.put o.dst v') w') : wpList P ops Q (o :: rest) a w := by
  obtain ⟨v', w', hrun, g1, g2, g3, g4⟩ := run_append_K (P := P) w base t k e bytes ht hi v xs hown B A m c ys hr hm h1 hbytes h63 hbase
  exact wpList_append_run w hgd s x t ho v (.slice A m c) v' w' hs hx hrun (h v' w' g1 g2 g3 g4)
end
end Go.Proofs.Ytooelfmfcihlkaa
namespace Go.Proofs.Ytooelfmfcihlkaa
open Go.RowKit
set_option linter.unusedVariables false
set_option maxRecDepth 100000

theorem KOwn.form {k : IntKind} {e : TypeId} {w : World} {base : Nat} {v : Value} {xs : List Int} (h : KOwn k e w base v xs) : ∃ A c, v = .slice A xs.length c ∧ xs.length ≤ c ∧ c ≤ maxLen := by
  rcases h with ⟨rfl, rfl⟩ | ⟨g, n, cap, r, rfl, _, h3, _, h5, h6, _⟩
  · exact ⟨none, 0, rfl, Nat.le_refl _, Nat.zero_le _⟩
  · subst h3
    exact ⟨_, cap, rfl, h5, h6⟩
theorem run_append0 {w : World} {base : Nat} {v : Value} {xs : List Int} (h : KOwn .u8 5 w base v xs) (A : Option Addr) (c : Nat) (ty : TypeId) : (Builtin.append_ #[22, 22] ty #[v, .slice A 0 c]).run Try.prog w = .ok v w := by
  obtain ⟨i, hi1, hz, hsz, hby⟩ := info_parts info_u8
  rcases h with ⟨rfl, rfl⟩ | ⟨g, n, cap, r, rfl, h2, h3, h4, h5, h6⟩
  · cases A with
    | none => simp [Builtin.append_, run_underlying Try.underlying22, sizeOf, typeInfo, hi1, Builtin.lenOf, Builtin.firstCells]
    | some a => simp [Builtin.append_, run_underlying Try.underlying22, sizeOf, typeInfo, hi1, Builtin.lenOf, Builtin.firstCells, loadCells, loadCellsFrom]
  · cases A with
    | none => simp [Builtin.append_, run_underlying Try.underlying22, sizeOf, typeInfo, hi1, Builtin.lenOf, Builtin.firstCells, h5, storeCells]
    | some a => simp [Builtin.append_, run_underlying Try.underlying22, sizeOf, typeInfo, hi1, Builtin.lenOf, Builtin.firstCells, h5, storeCells, loadCells, loadCellsFrom]
/-- 'append(v, src...)', v a list of the call's own whose block is known whole, src of any length. -/
theorem run_append8 (w0 w : World) (base : Nat) (v : Value) (xs : List Int) (h : KOwn .u8 5 w base v xs) (B : Nat) (A : Option Addr) (m c : Nat) (ys : List Int) (hr : Row .u8 w B A ys) (hm : ys.length = m) (hb : xs.length + m ≤ 140737488355328) (hbase : base ≤ w.heap.size) (hbel : Below base w0 w) :
    ∃ v' w', (∀ ty, (Builtin.append_ #[22, 22] ty #[v, .slice A m c]).run Try.prog w = .ok v' w') ∧ KOwn .u8 5 w' base v' (xs ++ ys) ∧ w.grownBy w' v.ownBlock ∧ Below base w0 w' := by
  by_cases h1 : 1 ≤ m
  · obtain ⟨v', w', r1, r2, r3, _⟩ := run_append_K w base 22 .u8 5 1 Try.underlying22 info_u8 v xs h B A m c ys hr hm h1 (by omega) (by unfold maxLen; omega) hbase
    exact ⟨v', w', r1, r2, r3, hbel.grown r3 hbase fun g e => (h.block g e).1⟩
  · obtain rfl : m = 0 := by omega
    obtain rfl : ys = [] := List.eq_nil_of_length_eq_zero hm
    exact ⟨v, w, run_append0 h A c, by rw [List.append_nil]; exact h, World.grownBy.refl _ _, hbel⟩
/-- A call returns a list of its own, known whole, and an error. -/
def ChMakes (w : World) (xs : List Int) (E : Int) (e : Ending) (w' : World) : Prop := ∃ v, e = .returned (.tuple #[v, .int .i64 E]) ∧ KOwn .u8 5 w' w.heap.size v xs ∧ Below w.heap.size w w'
theorem ckPE_big {xs : List Int} (h : 1024 < xs.length) : ckPE xs = 2 := if_pos h
theorem ckPE_ok {xs : List Int} (h : xs.length ≤ 1024) : ckPE xs = 0 := if_neg (by omega)
theorem ckPut_big {xs : List Int} (h : 1024 < xs.length) : ckPut xs = [] := if_pos h
theorem ckPut_ok {xs : List Int} (h : xs.length ≤ 1024) : ckPut xs = ckL xs := if_neg (by omega)
theorem ckPut_len (xs : List Int) : (ckPut xs).length ≤ 1030 := by
  by_cases h : xs.length ≤ 1024
  · rw [ckPut_ok h, ckL_len]; omega
  · rw [ckPut_big (by omega)]; simp
theorem ckPut_wf {xs : List Int} (h : ∀ x ∈ xs, (Lit.int .u8 x).wf = true) : ∀ x ∈ ckPut xs, (Lit.int .u8 x).wf = true := by
  by_cases h1 : xs.length ≤ 1024
  · rw [ckPut_ok h1]; exact ckL_wf (by omega) h
  · rw [ckPut_big (by omega)]; intro x hx; cases hx

theorem chPut_any (A : Option Addr) (n c : Nat) (xs : List Int) (w : World) (hr : Row .u8 w w.heap.size A xs) (hn : xs.length = n) (hm : n ≤ 140737488355328) :
    Calls Try.prog 11 #[.slice A n c] w (ChMakes w (ckPut xs) (ckPE xs)) := by
  by_cases hlt : 1024 < n
  · rw [ckPut_big (by omega), ckPE_big (by omega)]
    have i1 : (n : Int) > 1024 := by omega
    clear hr hn
    go_enter Try.func11, Try.ntmps11
    go_wp2
    go_ret2
    exact ⟨_, rfl, KOwn.nil _ _ _ _, Below.refl _ _⟩
  · rw [ckPut_ok (by omega), ckPE_ok (by omega)]
    have HC : Hid (∀ w1 : World, w1.heap[w.heap.size]? = some (.cells (blk .u8 (ckH xs.length ++ be4 (ckS xs))) 5 (0, 0)) → Below w.heap.size w w1 → ∃ v' w', (∀ ty, (Builtin.append_ #[22, 22] ty #[.slice (some ⟨w.heap.size, 0, none⟩) 6 6, .slice A n c]).run Try.prog w1 = .ok v' w') ∧ KOwn .u8 5 w' w.heap.size v' (ckL xs) ∧ Below w.heap.size w w') := Lib.hid (fun w1 hg hb => by
      have hl : (ckH xs.length ++ be4 (ckS xs)).length = 6 := by simp [ckH, be4]
      have hk : KOwn .u8 5 w1 w.heap.size (.slice (some ⟨w.heap.size, 0, none⟩) 6 6) (ckH xs.length ++ be4 (ckS xs)) := .inr ⟨w.heap.size, 6, 6, [], rfl, Nat.le_refl _, hl, by rw [List.append_nil]; exact hg, Nat.le_refl _, by unfold maxLen; omega, by rw [hl]; rfl, by simp⟩
      obtain ⟨v', w', r1, r2, _, r4⟩ := run_append8 w w1 w.heap.size _ _ hk _ A n c xs (hr.below hb) hn (by omega) hb.size hb
      exact ⟨v', w', r1, by rw [ckL, ← List.append_assoc]; exact r2, r4⟩)
    have i1 : ¬ (n : Int) > 1024 := by omega
    go_enter Try.func11, Try.ntmps11
    go_wp2_with (first
      | (go_at_call 25; refine (head_any A n c xs _ hr hn (by omega)).mono ?_; rintro e w1 ⟨rfl, hg, hb⟩; obtain ⟨v', w', r1, r2, r3⟩ := HC.out w1 hg hb; have R2 := Lib.hid r2; have R1 := Lib.hid r1; clear hg r2 r1)
      | (at_builtin; refine wpList_append_run _ rfl (.tmp 8) (.tmp 9) 22 rfl (.slice (some ⟨w.heap.size, 0, none⟩) 6 6) (.slice A n c) v' w' rfl rfl R1.out ?_))
    go_ret2
    exact ⟨_, rfl, R2.out, r3⟩
end Go.Proofs.Ytooelfmfcihlkaa
namespace Go.Proofs.Ytooelfmfcihlkaa
open Go.RowKit
set_option linter.unusedVariables false


/-- What 'string(b)' of a row of bytes is. -/
theorem conv_row (w : World) (B : Nat) (A : Option Addr) (n c : Nat) (xs : List Int) (h : Row .u8 w B A xs) (hn : xs.length = n) : (convert 22 9 (.slice A n c)).run Try.prog w = .ok (.string (strOfNums xs)) w := by
  rcases Nat.eq_zero_or_pos n with h0 | h0
  · subst h0
    have hx : xs = [] := List.eq_nil_of_length_eq_zero hn
    subst hx
    rw [run_convert_bytes_string w _ _ _ _ 0 c Try.underlying22 Try.underlying5 Try.underlying9]
    cases A <;> simp [Conv.bytesToString, loadCells]
    all_goals rfl
  · obtain ⟨b, o, rfl, _, hc⟩ := h.2 (by omega)
    exact run_convert_bytes_arg (P := Try.prog) w _ _ Try.underlying22 Try.underlying5 b o n c xs hn (fun i hi => hc i (by omega)) _ Try.underlying9

theorem strs_eq (xs ys : List Int) (hx : ∀ x ∈ xs, (Lit.int .u8 x).wf = true) (hy : ∀ x ∈ ys, (Lit.int .u8 x).wf = true) (h : (strOfNums xs).toList = (strOfNums ys).toList) : xs = ys := by
  have inj : ∀ a b : Int, (Lit.int .u8 a).wf = true → (Lit.int .u8 b).wf = true → UInt8.ofNat a.toNat = UInt8.ofNat b.toNat → a = b := by
    intro a b ha hb e
    have ha := wf_u8 ha
    have hb := wf_u8 hb
    have := congrArg UInt8.toNat e
    simp at this
    omega
  rw [Lib.strOfNums_toList, Lib.strOfNums_toList] at h
  unfold Lib.bytesOf at h
  revert ys
  induction xs with
  | nil => intro ys _ h; cases ys with | nil => rfl | cons _ _ => simp at h
  | cons a xs ih =>
    intro ys hy h
    cases ys with
    | nil => simp at h
    | cons b ys =>
      simp only [List.map_cons, List.cons.injEq] at h
      rw [inj a b (hx a (by simp)) (hy b (by simp)) h.1, ih (fun x hm => hx x (by simp [hm])) ys (fun x hm => hy x (by simp [hm])) h.2]

theorem equal_yes (A A' : Option Addr) (n n' c c' : Nat) (xs : List Int) (w : World) (B B' : Nat) (hr : Row .u8 w B A xs) (hr' : Row .u8 w B' A' xs) (hn : xs.length = n) (hn' : xs.length = n') :
    Calls Try.prog 28 #[.slice A n c, .slice A' n' c'] w fun e w' => e = .returned (.bool true) ∧ w = w' := by
  have h1 := conv_row w B A n c xs hr hn
  have h2 := conv_row w B' A' n' c' xs hr' hn'
  clear hr hr' hn hn'
  generalize strOfNums xs = s at *
  have h3 : (s.toList == s.toList) = true := by simp
  go_enter Try.func28, Try.ntmps28
  go_wp2
  go_ret
  exact ⟨rfl, rfl⟩
theorem equal_no (A A' : Option Addr) (n n' c c' : Nat) (xs ys : List Int) (w : World) (B B' : Nat) (hr : Row .u8 w B A xs) (hr' : Row .u8 w B' A' ys) (hn : xs.length = n) (hn' : ys.length = n') (hne : xs ≠ ys) :
    Calls Try.prog 28 #[.slice A n c, .slice A' n' c'] w fun e w' => e = .returned (.bool false) ∧ w = w' := by
  have h1 := conv_row w B A n c xs hr hn
  have h2 := conv_row w B' A' n' c' ys hr' hn'
  have h3 : ((strOfNums xs).toList == (strOfNums ys).toList) = false := by
    rw [beq_eq_false_iff_ne]
    exact fun h => hne (strs_eq xs ys hr.1 hr'.1 h)
  clear hr hr' hn hn' hne
  generalize strOfNums xs = s at *
  generalize strOfNums ys = t at *
  go_enter Try.func28, Try.ntmps28
  go_wp2
  go_ret
  exact ⟨rfl, rfl⟩

end Go.Proofs.Ytooelfmfcihlkaa
namespace Go.Proofs.Ytooelfmfcihlkaa
open Go.RowKit
set_option linter.unusedVariables false

/-- A call returns a new slice, its own, that holds xs; its block is known whole. -/
def MakesCl (w : World) (xs : List Int) (e : Ending) (w' : World) : Prop := ∃ v, e = .returned v ∧ KOwn .u8 5 w' w.heap.size v xs ∧ Below w.heap.size w w'
theorem info_cl : (Try.prog.info? 5).map (fun i => (i.zero, i.size, i.bytes)) = some (some (.int .u8 0), 1, 1) := by kernel_rfl
theorem zeros_cl (m : Nat) : ∀ x ∈ List.replicate m (0 : Int), (Lit.int .u8 x).wf = true := fun x hx => by rw [List.eq_of_mem_replicate hx]; decide
/-- 'append([]byte{}, ..)' of a row that is not empty. -/
theorem append_cl (A : Option Addr) (n c : Nat) (xs : List Int) (w : World) (hr : Row .u8 w w.heap.size A xs) (hn : xs.length = n) (h1 : 1 ≤ n) (hb : n ≤ 140737488351232) :
    ∃ cap w', (∀ ty, (Builtin.append_ #[22, 22] ty #[.slice (some ⟨w.heap.size, 0, none⟩) 0 0, .slice A n c]).run Try.prog (w.alloc (.cells #[] 5)) = .ok (.slice (some ⟨w.heap.size + 1, 0, none⟩) n cap) w') ∧ KOwn .u8 5 w' w.heap.size (.slice (some ⟨w.heap.size + 1, 0, none⟩) n cap) xs ∧ Below w.heap.size w w' := by
  have h := run_append_full (P := Try.prog) (w.alloc (.cells #[] 5)) 22 .u8 5 1 Try.underlying22 info_cl w.heap.size 0 [] (heap_alloc_new w _) rfl _ _ n c xs (hr.alloc (Nat.le_refl _) _) hn h1 (by omega) (by simp only [maxLen]; omega)
  obtain ⟨cap, h2, h3, h4⟩ := h
  have hz : (w.alloc (.cells #[] 5)).heap.size = w.heap.size + 1 := by simp
  simp only [Nat.zero_add, List.nil_append, hz] at h2
  refine ⟨cap, _, h2, ?_, ?_⟩
  · refine .inr ⟨_, n, cap, List.replicate (cap - n) 0, rfl, by omega, hn, ?_, by omega, h4, by rw [List.length_replicate]; omega, zeros_cl _⟩
    have := heap_alloc_new ((w.alloc (.cells #[] 5)).drew) (.cells (blk .u8 (xs ++ List.replicate (cap - n) 0)) 5)
    rw [show ((w.alloc (.cells #[] 5)).drew).heap.size = w.heap.size + 1 from hz] at this
    exact this
  · exact (below_drew (bel_alloc w _)).alloc (by show _ ≤ (w.alloc _).heap.size; omega) _
set_option maxRecDepth 100000 in
theorem clone_any (A : Option Addr) (n c : Nat) (xs : List Int) (w : World) (hr : Row .u8 w w.heap.size A xs) (hn : xs.length = n) (hb : n ≤ 140737488351232) :
    Calls Try.prog 29 #[.slice A n c] w (MakesCl w xs) := by
  by_cases h1 : 1 ≤ n
  · obtain ⟨b, o, rfl, _⟩ := hr.2 (by omega)
    obtain ⟨cap, w1, hap, hk, hbel⟩ := append_cl (some ⟨b, o, none⟩) n c xs w hr hn h1 hb
    have HK := Lib.hid hk
    clear hr hn hk
    have he : ∀ W : World, (binOp .eql 22 (.slice (some ⟨b, o, none⟩) n c) (.slice none 0 0)).run Try.prog W = .ok (.bool false) W := fun _ => rfl
    go_enter Try.func29, Try.ntmps29
    go_wp2_with (at_builtin; refine wpList_append_run _ rfl (.tmp 5) (.tmp 6) 22 rfl (.slice (some ⟨w.heap.size, 0, none⟩) 0 0) (.slice (some ⟨b, o, none⟩) n c) (.slice (some ⟨w.heap.size + 1, 0, none⟩) n cap) w1 rfl rfl hap ?_)
    go_ret
    exact ⟨_, rfl, HK.out, hbel⟩
  obtain rfl : n = 0 := by omega
  obtain rfl : xs = [] := List.eq_nil_of_length_eq_zero hn
  clear hn hb hr
  cases A with
  | none =>
    have he : ∀ W : World, (binOp .eql 22 (.slice none 0 c) (.slice none 0 0)).run Try.prog W = .ok (.bool true) W := fun _ => rfl
    go_enter Try.func29, Try.ntmps29
    go_wp2
    go_ret
    exact ⟨_, rfl, KOwn.nil _ _ _ _, Below.refl _ _⟩
  | some a =>
    have he : ∀ W : World, (binOp .eql 22 (.slice (some a) 0 c) (.slice none 0 0)).run Try.prog W = .ok (.bool false) W := fun _ => rfl
    go_enter Try.func29, Try.ntmps29
    go_wp2
    go_ret
    refine ⟨_, rfl, .inr ⟨w.heap.size, 0, 0, [], rfl, Nat.le_refl _, rfl, ?_, Nat.le_refl _, by unfold maxLen; omega, rfl, by simp⟩, bel_alloc w _⟩
    exact heap_alloc_new w _
end Go.Proofs.Ytooelfmfcihlkaa
