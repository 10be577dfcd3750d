/- impl's pointers: bits, the word of each kind as a number. -/
import Derived.Test.YtialmfolgendlabL2Put
namespace Go.Proofs.Ytialmfolgendlab
open Go.RowKit
theorem or_u64 (k : Nat) (x b : Int) (hx0 : 0 ≤ x) (hx1 : x < 18446744073709551616) (hb0 : 0 ≤ b) (hb1 : b < 18446744073709551616) (hx : x < 2 ^ k) (hm : b % 2 ^ k = 0) : bits .or .u64 x b = x + b := by
  obtain ⟨x, rfl⟩ := Int.eq_ofNat_of_zero_le hx0
  obtain ⟨b, rfl⟩ := Int.eq_ofNat_of_zero_le hb0
  have e : ((2 : Int) ^ k) = ((2 ^ k : Nat) : Int) := by rw [Int.natCast_pow]; rfl
  rw [e] at hx hm
  rw [u64_or_nat x b (by omega) (by omega), Nat.or_comm, nat_join k b x (by omega) (by omega)]
  omega
set_option maxHeartbeats 400000 in
theorem offBits_any (o : Int) (w : World) (_h0 : -536870912 ≤ o) (_h1 : o ≤ 536870911) :
    Calls Try.prog 93 #[.int .i64 o] w fun e w' => e = .returned (.int .u64 (offN o)) ∧ w = w' := by
  go_enter Try.func93, Try.ntmps93
  go_wp2
  go_ret
  exact ⟨ret_int (by unfold offN; omega), rfl⟩
theorem below_dN {B : Nat} {a w : World} (h : Below B a w) (n : Nat) : Below B a (w.drewN n) := ⟨h.os, h.tape, h.output, h.size, h.block⟩
theorem offBits_q (o : Int) (w : World) (h0 : -536870912 ≤ o) (h1 : o ≤ 536870911) :
    Calls Try.prog 93 #[.int .i64 o] w fun e w' => e = .returned (.int .u64 (offN o)) ∧ w' = w := (offBits_any o w h0 h1).mono fun _ _ h => ⟨h.1, h.2.symm⟩
set_option maxHeartbeats 1000000 in
theorem bits_str (o d p : Int) (w : World) (h0 : -536870912 ≤ o) (h1 : o ≤ 536870911) (hd0 : 0 ≤ d) (hd1 : d < 65536) (hp0 : 0 ≤ p) (hp1 : p < 65536) :
    Calls Try.prog 91 #[.agg #[.int .i64 o, .int .i64 d, .int .i64 p]] w fun e w' => e = .returned (.int .u64 (offN o + 4294967296 * (d + 65536 * p))) ∧ Below w.heap.size w w' := by
  have hb := offN_bd o
  have e1 : IntKind.u64.wrap d = d := by rw [IntKind.wrap_u64]; omega
  have e2 : IntKind.u64.wrap p = p := by rw [IntKind.wrap_u64]; omega
  have e3 : IntKind.u64.wrap (d * 4294967296) = d * 4294967296 := by rw [IntKind.wrap_u64]; omega
  have e4 : IntKind.u64.wrap (p * 281474976710656) = p * 281474976710656 := by rw [IntKind.wrap_u64]; omega
  have q1 : bits .or .u64 (offN o) (d * 4294967296) = offN o + d * 4294967296 := or_u64 32 _ _ (by omega) (by omega) (by omega) (by omega) (by simp only [Int.reducePow]; omega) (by simp only [Int.reducePow]; omega)
  have q2 : bits .or .u64 (offN o + d * 4294967296) (p * 281474976710656) = offN o + d * 4294967296 + p * 281474976710656 := or_u64 48 _ _ (by omega) (by omega) (by omega) (by omega) (by simp only [Int.reducePow]; omega) (by simp only [Int.reducePow]; omega)
  go_enter Try.func91, Try.ntmps91
  go_wp2_with fail
  go_quiet ((go_at_call 93; exact Calls.quiet_of_same (offBits_q o _ h0 h1)))
  go_wp2
  go_ret
  exact ⟨ret_int (by omega), below_dN ((Below.refl _ _).alloc (Nat.le_refl _) _) _⟩
set_option maxHeartbeats 1000000 in
theorem bits_lis (o z c : Int) (w : World) (h0 : -536870912 ≤ o) (h1 : o ≤ 536870911) (hz0 : 0 ≤ z) (hz1 : z < 8) (hc0 : 0 ≤ c) (hc1 : c < 536870912) :
    Calls Try.prog 95 #[.agg #[.int .i64 o, .int .i64 z, .int .i64 c]] w fun e w' => e = .returned (.int .u64 (offN o + 1 + 4294967296 * (c * 8 + z))) ∧ Below w.heap.size w w' := by
  have hb := offN_bd o
  have e1 : IntKind.u64.wrap z = z := by rw [IntKind.wrap_u64]; omega
  have e2 : IntKind.u64.wrap c = c := by rw [IntKind.wrap_u64]; omega
  have e3 : IntKind.u64.wrap (z * 4294967296) = z * 4294967296 := by rw [IntKind.wrap_u64]; omega
  have e4 : IntKind.u64.wrap (c * 34359738368) = c * 34359738368 := by rw [IntKind.wrap_u64]; omega
  have q0 : bits .or .u64 1 (offN o) = 1 + offN o := or_u64 2 _ _ (by omega) (by omega) (by omega) (by omega) (by simp only [Int.reducePow]; omega) (by simp only [Int.reducePow]; unfold offN; omega)
  have q1 : bits .or .u64 (1 + offN o) (z * 4294967296) = 1 + offN o + z * 4294967296 := or_u64 32 _ _ (by omega) (by omega) (by omega) (by omega) (by simp only [Int.reducePow]; unfold offN; omega) (by simp only [Int.reducePow]; omega)
  have q2 : bits .or .u64 (1 + offN o + z * 4294967296) (c * 34359738368) = 1 + offN o + z * 4294967296 + c * 34359738368 := or_u64 35 _ _ (by omega) (by omega) (by omega) (by omega) (by simp only [Int.reducePow]; unfold offN; omega) (by simp only [Int.reducePow]; omega)
  go_enter Try.func95, Try.ntmps95
  go_wp2_with fail
  go_quiet ((go_at_call 93; exact Calls.quiet_of_same (offBits_q o _ h0 h1)))
  go_wp2
  go_ret
  exact ⟨ret_int (by omega), below_dN ((Below.refl _ _).alloc (Nat.le_refl _) _) _⟩
theorem or_four (a : Int) (h0 : 0 ≤ a) (h1 : a < 18446744073709551610) (hm : a % 8 = 0) : bits .or .u64 (a + 2) 4 = a + 6 := by
  obtain ⟨n, rfl⟩ := Int.eq_ofNat_of_zero_le h0
  have e1 : (n : Int) + 2 = ((n ||| 2 : Nat) : Int) := by rw [nat_join 3 n 2 (by omega) (by omega)]; omega
  have e2 : (n ||| 2) ||| 4 = n + 6 := by rw [Nat.or_assoc, show (2 ||| 4 : Nat) = 6 from rfl, nat_join 3 n 6 (by omega) (by omega)]
  rw [e1, show (4 : Int) = ((4 : Nat) : Int) from rfl, u64_or_nat _ 4 (by rw [nat_join 3 n 2 (by omega) (by omega)]; omega) (by omega), e2]
  omega
set_option maxHeartbeats 1000000 in
theorem bits_far0 (o g : Int) (w : World) (h0 : 0 ≤ o) (h1 : o ≤ 536870911) (hg0 : 0 ≤ g) (hg1 : g < 4294967296) :
    Calls Try.prog 97 #[.agg #[.int .i64 o, .int .i64 g, .bool false]] w fun e w' => e = .returned (.int .u64 (o * 8 + 2 + 4294967296 * g)) ∧ Below w.heap.size w w' := by
  have e1 : IntKind.u64.wrap o = o := by rw [IntKind.wrap_u64]; omega
  have e2 : IntKind.u64.wrap g = g := by rw [IntKind.wrap_u64]; omega
  have e3 : IntKind.u64.wrap (o * 8) = o * 8 := by rw [IntKind.wrap_u64]; omega
  have e4 : IntKind.u64.wrap (g * 4294967296) = g * 4294967296 := by rw [IntKind.wrap_u64]; omega
  have q0 : bits .or .u64 2 (o * 8) = 2 + o * 8 := or_u64 3 _ _ (by omega) (by omega) (by omega) (by omega) (by simp only [Int.reducePow]; omega) (by simp only [Int.reducePow]; omega)
  have q1 : bits .or .u64 (2 + o * 8) (g * 4294967296) = 2 + o * 8 + g * 4294967296 := or_u64 32 _ _ (by omega) (by omega) (by omega) (by omega) (by simp only [Int.reducePow]; omega) (by simp only [Int.reducePow]; omega)
  go_enter Try.func97, Try.ntmps97
  go_wp2
  go_ret
  exact ⟨ret_int (by omega), (Below.refl _ _).alloc (Nat.le_refl _) _⟩
set_option maxHeartbeats 1000000 in
theorem bits_far1 (o g : Int) (w : World) (h0 : 0 ≤ o) (h1 : o ≤ 536870911) (hg0 : 0 ≤ g) (hg1 : g < 4294967296) :
    Calls Try.prog 97 #[.agg #[.int .i64 o, .int .i64 g, .bool true]] w fun e w' => e = .returned (.int .u64 (o * 8 + 6 + 4294967296 * g)) ∧ Below w.heap.size w w' := by
  have e1 : IntKind.u64.wrap o = o := by rw [IntKind.wrap_u64]; omega
  have e2 : IntKind.u64.wrap g = g := by rw [IntKind.wrap_u64]; omega
  have e3 : IntKind.u64.wrap (o * 8) = o * 8 := by rw [IntKind.wrap_u64]; omega
  have e4 : IntKind.u64.wrap (g * 4294967296) = g * 4294967296 := by rw [IntKind.wrap_u64]; omega
  have q0 : bits .or .u64 2 (o * 8) = 2 + o * 8 := or_u64 3 _ _ (by omega) (by omega) (by omega) (by omega) (by simp only [Int.reducePow]; omega) (by simp only [Int.reducePow]; omega)
  have q1 : bits .or .u64 (2 + o * 8) (g * 4294967296) = 2 + o * 8 + g * 4294967296 := or_u64 32 _ _ (by omega) (by omega) (by omega) (by omega) (by simp only [Int.reducePow]; omega) (by simp only [Int.reducePow]; omega)
  have q2 : bits .or .u64 (2 + o * 8 + g * 4294967296) 4 = o * 8 + 6 + 4294967296 * g := by
    have := or_four (o * 8 + 4294967296 * g) (by omega) (by omega) (by omega)
    rw [show 2 + o * 8 + g * 4294967296 = o * 8 + 4294967296 * g + 2 by omega, this]; omega
  go_enter Try.func97, Try.ntmps97
  go_wp2
  go_ret
  exact ⟨rfl, (Below.refl _ _).alloc (Nat.le_refl _) _⟩
set_option maxHeartbeats 1000000 in
theorem bits_non (w : World) : Calls Try.prog 89 #[.agg #[]] w fun e w' => e = .returned (.int .u64 0) ∧ Below w.heap.size w w' := by
  go_enter Try.func89, Try.ntmps89
  go_wp2
  go_ret
  exact ⟨rfl, by repeat (first | exact Below.refl _ _ | refine Below.alloc ?_ (by simp; try omega) _)⟩
end Go.Proofs.Ytialmfolgendlab
