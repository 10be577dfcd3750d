/- The specification's drawer, pick: some number within its bounds; the drawer goes on by one place at each pick. -/
import Derived.Test.YtfiiopchfmcjdaaIn
import Derived.Test.YtfiiopchfmcjdaaMath2
import Derived.Test.YtfiiopchfmcjdaaKeeps
import Derived.Deep.QuietTactic
import Derived.BigQuiet
namespace Go.Proofs.Ytfiiopchfmcjdaa
open Go.RowKit

/-- a slice value that reads as bytes, in blocks below B. -/
def Code (w : World) (B : Nat) (a : Option Addr) (len : Nat) : Prop :=
  len ≤ maxLen ∧ (len = 0 ∨ ∃ x : Addr, a = some x ∧ x.block < B ∧ ∀ i, i < len → ∃ b : UInt8, w.cell? (x.add i) = some (.int .u8 (b.toNat : Int)))
theorem Code.keeps {w w' : World} {B B' R : Nat} {a : Option Addr} {len : Nat} (h : Code w B a len) (hk : Keeps B' R w w') (h1 : B ≤ B') (h2 : B ≤ R) : Code w' B a len := by
  refine ⟨h.1, h.2.imp id ?_⟩
  rintro ⟨x, rfl, hx, hc⟩
  refine ⟨x, rfl, hx, fun i hi => ?_⟩
  obtain ⟨b, hb⟩ := hc i hi
  exact ⟨b, (keeps_cell hk (x.add i) (by rw [addr_block]; omega) (by rw [addr_block]; omega)).trans hb⟩
theorem Code.mono {w : World} {B B' : Nat} {a : Option Addr} {len : Nat} (h : Code w B a len) (h1 : B ≤ B') : Code w B' a len :=
  ⟨h.1, h.2.imp id fun ⟨x, e, hx, hc⟩ => ⟨x, e, Nat.lt_of_lt_of_le hx h1, hc⟩⟩
/-- the drawer in block R: at most at place n. -/
def Rd (w : World) (R n : Nat) : Prop :=
  ∃ (a : Option Addr) (len cap p : Nat), p ≤ n ∧ w.heap[R]? = some (.cells #[.slice a len cap, .int .i64 (p : Int)] 69 (0, 0)) ∧ Code w R a len
theorem Rd.lt {w : World} {R n : Nat} (h : Rd w R n) : R < w.heap.size := by obtain ⟨_, _, _, _, _, hb, _⟩ := h; exact row_lt hb
theorem Rd.mono {w : World} {R n m : Nat} (h : Rd w R n) (h1 : n ≤ m) : Rd w R m := by obtain ⟨a, l, c, p, hp, r⟩ := h; exact ⟨a, l, c, p, by omega, r⟩
theorem Rd.below {w w' : World} {R n : Nat} (h : Rd w R n) (hb : Below w.heap.size w w') : Rd w' R n := by
  have hlt := h.lt
  obtain ⟨a, l, c, p, hp, hr, hc⟩ := h
  exact ⟨a, l, c, p, hp, (hb.block R hlt).trans hr, hc.keeps (R := w.heap.size) (Keeps.of_below hb) (by omega) (by omega)⟩
/-- what a pick leaves. -/
def Picked (w : World) (R n : Nat) (w' : World) : Prop := Rd w' R n ∧ Keeps w.heap.size R w w'
def Pick (k : Int) (R n : Nat) (w : World) (e : Ending) (w' : World) : Prop := ∃ v : Int, (0 ≤ v ∧ (v < k ∨ v = 0)) ∧ e = .returned (.int .i64 v) ∧ Picked w R (n + 1) w'
theorem xor_i64 (a b : Nat) (ha : a < 9223372036854775808) (hb : b < 9223372036854775808) : bits .xor .i64 (a : Int) (b : Int) = ((a ^^^ b : Nat) : Int) := by
  have hx : a ^^^ b < 2 ^ 63 := Nat.xor_lt_two_pow (by omega) (by omega)
  show IntKind.i64.wrap ((BitVec.ofInt 64 (a : Int) ^^^ BitVec.ofInt 64 (b : Int)).toNat : Int) = _
  rw [BitVec.toNat_xor, ofInt_i64' a ha, ofInt_i64' b hb, IntKind.wrap_i64]
  omega
theorem xor_bd (a b : Int) (ha : 0 ≤ a) (hb : 0 ≤ b) (ha1 : a < 9223372036854775808) (hb1 : b < 9223372036854775808) : 0 ≤ bits .xor .i64 a b := by
  obtain ⟨a, rfl⟩ := Int.eq_ofNat_of_zero_le ha
  obtain ⟨b, rfl⟩ := Int.eq_ofNat_of_zero_le hb
  rw [xor_i64 a b (by omega) (by omega)]
  omega
theorem picked_set {w : World} {R n p len cap : Nat} {a : Option Addr} (hp : p ≤ n) (hb : w.heap[R]? = some (.cells #[.slice a len cap, .int .i64 (p : Int)] 69 (0, 0))) (hc : Code w R a len) :
    Picked w R (n + 1) (w.setCell ⟨R, 1, none⟩ (.int .i64 ((p : Int) + 1))) := by
  have hk := set_keeps w.heap.size R w 1 (.int .i64 ((p : Int) + 1))
  refine ⟨⟨a, len, cap, p + 1, by omega, ?_, hc.keeps hk (Nat.le_of_lt (row_lt hb)) (Nat.le_refl _)⟩, hk⟩
  exact pair_set1 hb
theorem Picked.drewN {w w' : World} {R n : Nat} (h : Picked w R n w') (k : Nat) : Picked w R n (w'.drewN k) := by
  obtain ⟨⟨a, l, c, p, hp, hr, hc⟩, hk⟩ := h
  exact ⟨⟨a, l, c, p, hp, hr, hc⟩, hk.drewN k⟩

set_option maxHeartbeats 1000000 in
theorem pick_any (R n : Nat) (k : Int) (w : World) (h : Rd w R n) (hn : n ≤ 1000000) :
    Calls Try.prog 45 #[.pointer (some ⟨R, 0, none⟩), .int .i64 k] w (Pick k R n w) := by
  obtain ⟨a, len, cap, p, hp, hb, hc⟩ := h
  have hfin := picked_set hp hb hc
  have HF := Lib.hid hfin
  obtain ⟨hc0, hc1⟩ := cell_pair hb
  have hfz := row_free hb 1
  have hlen := hc.1
  unfold maxLen at hlen
  clear hfin
  by_cases h1 : k < 1
  · go_enter Try.func45, Try.ntmps45
    go_wp2
    go_ret
    exact ⟨0, ⟨by omega, .inr rfl⟩, rfl, HF.out⟩
  have h1' : 1 ≤ k := by omega
  by_cases h2 : len = 0
  · subst h2
    go_enter Try.func45, Try.ntmps45
    go_wp2
    go_ret
    exact ⟨0, ⟨by omega, .inr rfl⟩, rfl, HF.out⟩
  have hl0 : ((len : Int) == 0) = false := by simp; omega
  obtain ⟨x, rfl, hx, hcl⟩ := hc.2.resolve_left h2
  have hcl2 : ∀ i, i < len → ∃ b : UInt8, (w.setCell ⟨R, 1, none⟩ (.int .i64 ((p : Int) + 1))).cell? (x.add i) = some (.int .u8 (b.toNat : Int)) := fun i hi => by
    obtain ⟨b, hb'⟩ := hcl i hi
    refine ⟨b, (keeps_cell (set_keeps w.heap.size R w 1 _) (x.add i) ?_ ?_).trans hb'⟩
    · have := row_lt hb; rw [addr_block]; omega
    · rw [addr_block]; omega
  clear hcl
  by_cases h3 : p < len
  · obtain ⟨b, hbp⟩ := hcl2 p h3
    have hb256 := b.toNat_lt
    have hm : (b.toNat : Int) % k < k := Int.emod_lt_of_pos _ (by omega)
    have hm0 : 0 ≤ (b.toNat : Int) % k := Int.emod_nonneg _ (by omega)
    clear hcl2
    have HH := Lib.hid hb
    have HC := Lib.hid hc
    clear hb hc
    go_enter Try.func45, Try.ntmps45
    go_wp2
    go_ret
    exact ⟨_, ⟨hm0, .inl hm⟩, rfl, HF.out⟩
  · have hpl : 0 < len := by omega
    obtain ⟨b1, hb1⟩ := hcl2 (p % len) (Nat.mod_lt _ hpl)
    obtain ⟨b2, hb2⟩ := hcl2 ((p * 7 + 3) % len) (Nat.mod_lt _ hpl)
    have hb1l := b1.toNat_lt
    have hb2l := b2.toNat_lt
    have i1 : ((p : Int) % (len : Int)).toNat = p % len := by rw [← Int.natCast_emod]; rfl
    have i2 : (((p : Int) * 7 + 3) % (len : Int)).toNat = (p * 7 + 3) % len := by rw [show (p : Int) * 7 + 3 = ((p * 7 + 3 : Nat) : Int) by omega, ← Int.natCast_emod]; rfl
    have j1 : (p : Int) % (len : Int) < len := Int.emod_lt_of_pos _ (by omega)
    have j2 : ((p : Int) * 7 + 3) % (len : Int) < len := Int.emod_lt_of_pos _ (by omega)
    have j3 : 0 ≤ (p : Int) % (len : Int) := Int.emod_nonneg _ (by omega)
    have j4 : 0 ≤ ((p : Int) * 7 + 3) % (len : Int) := Int.emod_nonneg _ (by omega)
    have hq : 0 ≤ (p : Int) / (len : Int) := Int.ediv_nonneg (by omega) (by omega)
    have hq1 : (p : Int) / (len : Int) ≤ 1000000 := Int.le_trans (Int.ediv_le_self _ (by omega)) (by omega)
    clear hcl2
    have HH := Lib.hid hb
    have HC := Lib.hid hc
    clear hb hc
    go_enter Try.func45, Try.ntmps45
    go_wp2
    go_quiet (fail)
    have hv0 : 0 ≤ (b1.toNat : Int) * 131 + (b2.toNat : Int) * 1117 + (p : Int) * 29 + (p : Int) / (len : Int) * 53 := by omega
    have hv1 : (b1.toNat : Int) * 131 + (b2.toNat : Int) * 1117 + (p : Int) * 29 + (p : Int) / (len : Int) * 53 < 1000000000000 := by omega
    clear i1 i2 j1 j2 j3 j4
    generalize (b1.toNat : Int) * 131 + (b2.toNat : Int) * 1117 + (p : Int) * 29 + (p : Int) / (len : Int) * 53 = v at hv0 hv1 ⊢
    have hx0 : 0 ≤ bits .xor .i64 v (v / 64) := xor_bd v (v / 64) hv0 (by omega) (by omega) (by omega)
    have hm : bits .xor .i64 v (v / 64) % k < k := Int.emod_lt_of_pos _ (by omega)
    have hm0 : 0 ≤ bits .xor .i64 v (v / 64) % k := Int.emod_nonneg _ (by omega)
    go_wp2
    go_ret
    exact ⟨_, ⟨hm0, .inl hm⟩, rfl, HF.out.drewN _⟩
end Go.Proofs.Ytfiiopchfmcjdaa
