/- The parts of a pointer's word as numbers. -/
import Derived.Test.YtliiffpegfkpbabDoorMath2
namespace Go.Proofs.YtliiffpegfkpbabDoor
open Go.RowKit
theorem nat_low (a n : Nat) : a &&& (2 ^ n - 1) = a % 2 ^ n := Nat.and_two_pow_sub_one_eq_mod a n
theorem nat_four (a : Nat) : a &&& 4 = 4 * (a / 4 % 2) := by
  have h : a &&& 4 = (a % 8) &&& 4 := by
    rw [show a % 8 = a &&& 7 from (nat_low a 3).symm, Nat.and_assoc]
    rfl
  have h8 : ∀ r : Nat, r < 8 → r &&& 4 = 4 * (r / 4 % 2) := by decide
  rw [h, h8 _ (Nat.mod_lt _ (by decide))]
  omega
theorem ofInt_32 (a : Nat) (ha : a < 4294967296) : (BitVec.ofInt 32 (a : Int)).toNat = a := by
  rw [BitVec.toNat_ofInt]
  omega
theorem and_u32 (a b : Nat) (ha : a < 4294967296) (hb : b < 4294967296) : bits .and .u32 (a : Int) (b : Int) = ((a &&& b : Nat) : Int) := by
  have hx : a &&& b < 2 ^ 32 := Nat.and_lt_two_pow _ (by omega)
  show IntKind.u32.wrap ((BitVec.ofInt 32 (a : Int) &&& BitVec.ofInt 32 (b : Int)).toNat : Int) = _
  rw [BitVec.toNat_and, ofInt_32 a ha, ofInt_32 b hb, IntKind.wrap_u32]
  omega
theorem and3_64 (a : Nat) (h : a < 4294967296) : bits .and .i64 (a : Int) 3 = ((a % 4 : Nat) : Int) := by
  rw [show (3 : Int) = ((3 : Nat) : Int) from rfl, and_i64 _ _ (by omega) (by omega), nat_low a 2]
theorem and7_64 (a : Nat) (h : a < 4294967296) : bits .and .i64 (a : Int) 7 = ((a % 8 : Nat) : Int) := by
  rw [show (7 : Int) = ((7 : Nat) : Int) from rfl, and_i64 _ _ (by omega) (by omega), nat_low a 3]
theorem andw_64 (a : Nat) (h : a < 4294967296) : bits .and .i64 (a : Int) 65535 = ((a % 65536 : Nat) : Int) := by
  rw [show (65535 : Int) = ((65535 : Nat) : Int) from rfl, and_i64 _ _ (by omega) (by omega), nat_low a 16]
theorem and4_64 (a : Nat) (h : a < 4294967296) : bits .and .i64 (a : Int) 4 = ((4 * (a / 4 % 2) : Nat) : Int) := by
  rw [show (4 : Int) = ((4 : Nat) : Int) from rfl, and_i64 _ _ (by omega) (by omega), nat_four]
theorem and3_32 (a : Nat) (h : a < 4294967296) : bits .and .u32 (a : Int) 3 = ((a % 4 : Nat) : Int) := by
  rw [show (3 : Int) = ((3 : Nat) : Int) from rfl, and_u32 _ _ (by omega) (by omega), nat_low a 2]
theorem and7_32 (a : Nat) (h : a < 4294967296) : bits .and .u32 (a : Int) 7 = ((a % 8 : Nat) : Int) := by
  rw [show (7 : Int) = ((7 : Nat) : Int) from rfl, and_u32 _ _ (by omega) (by omega), nat_low a 3]
theorem andw_32 (a : Nat) (h : a < 4294967296) : bits .and .u32 (a : Int) 65535 = ((a % 65536 : Nat) : Int) := by
  rw [show (65535 : Int) = ((65535 : Nat) : Int) from rfl, and_u32 _ _ (by omega) (by omega), nat_low a 16]
theorem and4_32 (a : Nat) (h : a < 4294967296) : bits .and .u32 (a : Int) 4 = ((4 * (a / 4 % 2) : Nat) : Int) := by
  rw [show (4 : Int) = ((4 : Nat) : Int) from rfl, and_u32 _ _ (by omega) (by omega), nat_four]
/-- thirty bits as a number that may be below 0. -/
def sgn (lo : Nat) : Int := if lo < 2147483648 then ((lo / 4 : Nat) : Int) else ((lo / 4 : Nat) : Int) - 1073741824
/-- the pointer that two halves of a word say. -/
def getP (lo hi : Nat) : Int × Int × Int × Int × Int × Int × Int × Bool :=
  if lo = 0 ∧ hi = 0 then (0, 0, 0, 0, 0, 0, 0, false) else if lo % 4 = 0 then (1, sgn lo, ((hi % 65536 : Nat) : Int), ((hi / 65536 : Nat) : Int), 0, 0, 0, false)
  else if lo % 4 = 1 then (2, sgn lo, 0, 0, ((hi % 8 : Nat) : Int), ((hi / 8 : Nat) : Int), 0, false) else if lo % 4 = 2 then (3, ((lo / 8 : Nat) : Int), 0, 0, 0, 0, (hi : Int), decide (lo / 4 % 2 = 1)) else (4, 0, 0, 0, 0, 0, 0, false)
theorem four_bytes (l : List UInt8) (a : Nat) : leN l a 4 = 0 ↔ l[a]?.getD 0 = 0 ∧ l[a + 1]?.getD 0 = 0 ∧ l[a + 2]?.getD 0 = 0 ∧ l[a + 3]?.getD 0 = 0 := by
  have h : leN l a 4 = (l[a]?.getD 0).toNat + 256 * ((l[a + 1]?.getD 0).toNat + 256 * ((l[a + 2]?.getD 0).toNat + 256 * ((l[a + 3]?.getD 0).toNat + 256 * 0))) := rfl
  rw [h, ← UInt8.toNat_inj, ← UInt8.toNat_inj, ← UInt8.toNat_inj, ← UInt8.toNat_inj]
  simp only [UInt8.toNat_zero]
  omega
end Go.Proofs.YtliiffpegfkpbabDoor
