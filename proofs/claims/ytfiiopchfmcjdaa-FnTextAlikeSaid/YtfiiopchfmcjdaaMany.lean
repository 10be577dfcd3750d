/- the specification's l1Many: a text n times. -/
import Derived.Test.YtfiiopchfmcjdaaIn
import Derived.Test.YtfiiopchfmcjdaaMath2
namespace Go.Proofs.Ytfiiopchfmcjdaa
open Go.RowKit
def repL (l : List UInt8) : Nat → List UInt8
  | 0 => []
  | k + 1 => l ++ repL l k
theorem repL_length (l : List UInt8) : ∀ k, (repL l k).length = l.length * k
  | 0 => rfl
  | k + 1 => by rw [repL, List.length_append, repL_length l k, Nat.mul_succ]; omega
theorem repL_two (l : List UInt8) : ∀ k, repL (l ++ l) k = repL l (2 * k)
  | 0 => rfl
  | k + 1 => by rw [repL, repL_two l k, show 2 * (k + 1) = 2 * k + 1 + 1 by omega, repL, repL, List.append_assoc]
theorem repL_even (v u s : List UInt8) (m N : Nat) (h : v ++ repL u m = repL s N) (he : m % 2 = 0) : v ++ repL (u ++ u) (m / 2) = repL s N := by
  rw [repL_two, show 2 * (m / 2) = m by omega, h]
theorem repL_odd (v u s : List UInt8) (m N : Nat) (h : v ++ repL u m = repL s N) (he : ¬ m % 2 = 0) : (v ++ u) ++ repL (u ++ u) (m / 2) = repL s N := by
  rw [repL_two, List.append_assoc, ← h]
  have e : repL u m = repL u (2 * (m / 2) + 1) := by rw [show 2 * (m / 2) + 1 = m by omega]
  rw [e, repL]
theorem rep_size (v u s : ByteArray) (m N : Nat) (h : v.data.toList ++ repL u.data.toList m = repL s.data.toList N) (hm : 1 ≤ m) : v.size + u.size ≤ s.size * N := by
  have h1 := congrArg List.length h
  rw [List.length_append, repL_length, repL_length] at h1
  simp only [Array.length_toList, ByteArray.size_data] at h1
  have h2 : u.size * 1 ≤ u.size * m := Nat.mul_le_mul_left _ hm
  omega
theorem ba_size (s : ByteArray) : s.data.toList.length = s.size := by simp
theorem mk_size (l : List UInt8) : (⟨l.toArray⟩ : ByteArray).size = l.length := by simp [ByteArray.size]
theorem app_ba (a b : ByteArray) : (a ++ b).data.toList = a.data.toList ++ b.data.toList := by simp
theorem ret_s {a b : ByteArray} (h : a.data.toList = b.data.toList) : Ending.returned (.string a) = .returned (.string b) := by rw [ext_ba h]
set_option maxHeartbeats 1000000 in
theorem l1Many_any (s : ByteArray) (n : Int) (w : World) (h0 : 0 ≤ n) (hn : n ≤ 10000000) (hs : s.size ≤ 10000000) (hsn : s.size * n.toNat ≤ 10000000) :
    Calls Try.prog 41 #[.string s, .int .i64 n] w fun e w' => e = .returned (.string ⟨(repL s.data.toList n.toNat).toArray⟩) ∧ w = w' := by
  obtain ⟨N, rfl⟩ := Int.eq_ofNat_of_zero_le h0
  rw [Int.toNat_natCast] at hsn ⊢
  go_enter Try.func41, Try.ntmps41
  go_wp2
  go_loop [0, 1, 5] (fun t k o => ∃ (m : Nat) (u v : ByteArray), t = .string u ∧ k = .int .i64 m ∧ o = .string v ∧ m ≤ N ∧ u.size ≤ 20000000 ∧ Hid (v.data.toList ++ repL u.data.toList m = repL s.data.toList N)) (fun _ k _ => (intOf k).toNat)
  case atStart => exact ⟨N, s, ByteArray.empty, rfl, rfl, rfl, by omega, by omega, by exact List.nil_append _⟩
  case round =>
    obtain ⟨m, u, v, rfl, rfl, rfl, hm, hu, HE⟩ := hrel
    by_cases hm0 : m = 0
    · subst hm0
      go_wp2
      go_ret
      refine ⟨ret_s ?_, rfl⟩
      rw [← HE.out, repL, List.append_nil]
    · have hm1 : 1 ≤ m := by omega
      have hsz := rep_size v u s m N HE.out hm1
      have f1 : ¬ 9223372036854775807 < v.size + u.size := by omega
      have f2 : ¬ 9223372036854775807 < u.size + u.size := by omega
      have hu2 : (u ++ u).size ≤ 20000000 := by simp; omega
      by_cases ho : m % 2 = 0
      · have hb : ((m : Int) % 2 == 1) = false := by simp; omega
        have hE2 : v.data.toList ++ repL (u ++ u).data.toList (m / 2) = repL s.data.toList N := by rw [app_ba]; exact repL_even _ _ _ _ _ HE.out ho
        have HE2 := Lib.hid hE2
        clear hE2 ho
        go_wp2
        go_round
        case rel => exact ⟨m / 2, _, _, rfl, by go_num, rfl, by omega, hu2, HE2⟩
        case measure => simp [intOf]; omega
      · have hb : ((m : Int) % 2 == 1) = true := by simp; omega
        have hE2 : (v ++ u).data.toList ++ repL (u ++ u).data.toList (m / 2) = repL s.data.toList N := by rw [app_ba, app_ba]; exact repL_odd _ _ _ _ _ HE.out ho
        have HE2 := Lib.hid hE2
        clear hE2 ho
        go_wp2
        go_round
        case rel => exact ⟨m / 2, _, _, rfl, by go_num, rfl, by omega, hu2, HE2⟩
        case measure => simp [intOf]; omega
end Go.Proofs.Ytfiiopchfmcjdaa
