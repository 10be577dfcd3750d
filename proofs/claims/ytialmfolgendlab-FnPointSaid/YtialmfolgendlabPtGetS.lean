/- spec's reading of a pointer. -/
import Derived.Test.YtialmfolgendlabL1Get
import Derived.Test.YtialmfolgendlabPtMath
import Derived.Test.YtialmfolgendlabPoint
import Derived.Deep.RegionLaw
import Derived.Deep.RegionWith
import Derived.Deep.DeepMust
namespace Go.Proofs.Ytialmfolgendlab
open Go.RowKit
def sg (n : Int) : Int := if n < 536870912 then n else n - 1073741824
set_option maxHeartbeats 400000 in
theorem l2Signed_any (n : Int) (w : World) (h : 0 ≤ n ∧ n < 1073741824) :
    Calls Try.prog 65 #[.int .i64 n] w fun e w' => e = .returned (.int .i64 (sg n)) ∧ w = w' := by
  obtain ⟨h0, h1⟩ := h
  by_cases hn : 536870912 ≤ n
  · go_enter Try.func65, Try.ntmps65
    go_wp2
    go_ret
    have hs : sg n = n - 1073741824 := if_neg (by omega)
    refine ⟨ret_int ?_, rfl⟩
    rw [hs]
    try (unfold wrap64; omega)
  · have hs : sg n = n := if_pos (by omega)
    go_enter Try.func65, Try.ntmps65
    go_wp2
    go_ret
    exact ⟨rfl, rfl⟩
def ptT (x : Int × Int × Int × Int × Int × Int × Int × Bool) : Value := ptv x.1 x.2.1 x.2.2.1 x.2.2.2.1 x.2.2.2.2.1 x.2.2.2.2.2.1 x.2.2.2.2.2.2.1 x.2.2.2.2.2.2.2
theorem sg_eq (lo : Nat) (_h : lo < 4294967296) : sg ((lo : Int) / 4) = sgn lo := by
  unfold sg sgn
  by_cases h1 : lo < 2147483648
  · rw [if_pos (by omega), if_pos h1]; omega
  · rw [if_neg (by omega), if_neg h1]; omega
def leI (l : List UInt8) (a : Int) : Int := ((leN l a.toNat 4 : Nat) : Int)
set_option maxHeartbeats 1000000 in
set_option maxRecDepth 100000 in
theorem l2Get_any (s : ByteArray) (w : World) (hs : s.size = 8) :
    Calls Try.prog 48 #[.string s] w fun e w' => e = .returned (ptT (getP (leN s.data.toList 0 4) (leN s.data.toList 4 4))) ∧ Below w.heap.size w w' := by
  have hl := leN_lt s.data.toList 4 0
  have hh := leN_lt s.data.toList 4 4
  have hL : ∀ (a : Int) (w : World), (a = 0 ∨ a = 4) → Calls Try.prog 64 #[.string s, .int .i64 a, .int .i64 4] w fun e w' => e = .returned (.int .i64 (leI s.data.toList a)) ∧ w = w' := fun a w ha => by
    refine (l1Get_any s a 4 w (by rw [hs]; decide) (by omega) (by omega) (by decide) (by decide)).mono fun e w' ⟨h1, h2⟩ => ⟨h1.trans (ret_int ?_), h2⟩
    have := leN_lt s.data.toList 4 a.toNat
    exact wrap64_small _ (by show leN s.data.toList a.toNat 4 < _; omega)
  have e0 : leI s.data.toList 0 = ((leN s.data.toList 0 4 : Nat) : Int) := rfl
  have e4 : leI s.data.toList 4 = ((leN s.data.toList 4 4 : Nat) : Int) := rfl
  generalize leN s.data.toList 0 4 = lo at *
  generalize leN s.data.toList 4 4 = hi at *
  have HL := Lib.hid hL
  clear hL hs
  have hlo : lo < 4294967296 := hl
  have hhi : hi < 4294967296 := hh
  clear hl hh
  have a3 := and3_64 lo hlo
  have z3 : bits .and .i64 0 3 = 0 := by decide
  by_cases h0 : lo = 0
  · have e0' : leI s.data.toList 0 = 0 := by rw [e0, h0]; rfl
    clear e0 a3
    by_cases h1 : hi = 0
    · have e4' : leI s.data.toList 4 = 0 := by rw [e4, h1]; rfl
      clear e4
      have hg : getP lo hi = (0, 0, 0, 0, 0, 0, 0, false) := by simp [getP, h0, h1]
      have HG := Lib.hid hg
      clear hg
      clear h0 h1
      go_enter Try.func48, Try.ntmps48
      go_wp2_with (first | (go_at_call 64; refine (HL.out _ _ (by decide)).mono ?_; rintro e w' ⟨rfl, rfl⟩) | (go_at_call 65; go_must (refine (l2Signed_any _ _ (by omega)).mono ?_); rintro e w' ⟨rfl, rfl⟩))
      refine bodyPost_ret (v := .agg #[.int .i64 (0), .int .i64 (0), .int .i64 (0), .int .i64 (0), .int .i64 (0), .int .i64 (0), .int .i64 (0), .bool false]) (by simp [results, Try.results48, go_sem]) rfl ⟨?_, by repeat (first | exact Below.refl _ _ | refine Below.alloc ?_ (by simp; try omega) _)⟩
      rw [HG.out]
      simp only [ptT, ptv]
    · have b1 : ((hi : Int) == 0) = false := by simp; omega
      have aw := andw_64 hi hhi
      have s0 : sg 0 = 0 := by decide
      have HS0 := Lib.hid s0
      have hg : getP lo hi = (1, sg 0, (hi : Int) % 65536, (hi : Int) / 65536, 0, 0, 0, false) := by simp [getP, h0, h1, s0, sgn]
      have HG := Lib.hid hg
      clear hg
      clear h0 h1 s0
      go_enter Try.func48, Try.ntmps48
      go_wp2_with (first | (go_at_call 64; refine (HL.out _ _ (by decide)).mono ?_; rintro e w' ⟨rfl, rfl⟩) | (go_at_call 65; go_must (refine (l2Signed_any _ _ (by omega)).mono ?_); rintro e w' ⟨rfl, rfl⟩))
      refine bodyPost_ret (v := .agg #[.int .i64 (1), .int .i64 (sg 0), .int .i64 ((hi : Int) % 65536), .int .i64 ((hi : Int) / 65536), .int .i64 (0), .int .i64 (0), .int .i64 (0), .bool false]) (by simp [results, Try.results48, go_sem]) rfl ⟨?_, by repeat (first | exact Below.refl _ _ | refine Below.alloc ?_ (by simp; try omega) _)⟩
      rw [HG.out]
      simp only [ptT, ptv]
  · have b0 : ((lo : Int) == 0) = false := by simp; omega
    have c0 : lo % 4 = 0 ∨ lo % 4 = 1 ∨ lo % 4 = 2 ∨ lo % 4 = 3 := by omega
    rcases c0 with c | c | c | c
    all_goals rw [c] at a3
    · have aw := andw_64 hi hhi
      have hg : getP lo hi = (1, sg ((lo : Int) / 4), (hi : Int) % 65536, (hi : Int) / 65536, 0, 0, 0, false) := by simp [getP, h0, c, sg_eq lo hlo]
      have HG := Lib.hid hg
      clear hg
      clear h0 c
      go_enter Try.func48, Try.ntmps48
      go_wp2_with (first | (go_at_call 64; refine (HL.out _ _ (by decide)).mono ?_; rintro e w' ⟨rfl, rfl⟩) | (go_at_call 65; go_must (refine (l2Signed_any _ _ (by omega)).mono ?_); rintro e w' ⟨rfl, rfl⟩))
      refine bodyPost_ret (v := .agg #[.int .i64 (1), .int .i64 (sg ((lo : Int) / 4)), .int .i64 ((hi : Int) % 65536), .int .i64 ((hi : Int) / 65536), .int .i64 (0), .int .i64 (0), .int .i64 (0), .bool false]) (by simp [results, Try.results48, go_sem]) rfl ⟨?_, by repeat (first | exact Below.refl _ _ | refine Below.alloc ?_ (by simp; try omega) _)⟩
      rw [HG.out]
      simp only [ptT, ptv]
    · have aw := and7_64 hi hhi
      have hg : getP lo hi = (2, sg ((lo : Int) / 4), 0, 0, (hi : Int) % 8, (hi : Int) / 8, 0, false) := by simp [getP, h0, c, sg_eq lo hlo]
      have HG := Lib.hid hg
      clear hg
      clear h0 c
      go_enter Try.func48, Try.ntmps48
      go_wp2_with (first | (go_at_call 64; refine (HL.out _ _ (by decide)).mono ?_; rintro e w' ⟨rfl, rfl⟩) | (go_at_call 65; go_must (refine (l2Signed_any _ _ (by omega)).mono ?_); rintro e w' ⟨rfl, rfl⟩))
      refine bodyPost_ret (v := .agg #[.int .i64 (2), .int .i64 (sg ((lo : Int) / 4)), .int .i64 (0), .int .i64 (0), .int .i64 ((hi : Int) % 8), .int .i64 ((hi : Int) / 8), .int .i64 (0), .bool false]) (by simp [results, Try.results48, go_sem]) rfl ⟨?_, by repeat (first | exact Below.refl _ _ | refine Below.alloc ?_ (by simp; try omega) _)⟩
      rw [HG.out]
      simp only [ptT, ptv]
    · have a4 := and4_64 lo hlo
      have c4 : lo / 4 % 2 = 0 ∨ lo / 4 % 2 = 1 := by omega
      rcases c4 with d | d
      all_goals rw [d] at a4
      · have hg : getP lo hi = (3, (lo : Int) / 8, 0, 0, 0, 0, (hi : Int), false) := by simp [getP, h0, c, d]
        have HG := Lib.hid hg
        clear hg
        clear h0 c d
        go_enter Try.func48, Try.ntmps48
        go_wp2_with (first | (go_at_call 64; refine (HL.out _ _ (by decide)).mono ?_; rintro e w' ⟨rfl, rfl⟩) | (go_at_call 65; go_must (refine (l2Signed_any _ _ (by omega)).mono ?_); rintro e w' ⟨rfl, rfl⟩))
        refine bodyPost_ret (v := .agg #[.int .i64 (3), .int .i64 ((lo : Int) / 8), .int .i64 (0), .int .i64 (0), .int .i64 (0), .int .i64 (0), .int .i64 ((hi : Int)), .bool false]) (by simp [results, Try.results48, go_sem]) rfl ⟨?_, by repeat (first | exact Below.refl _ _ | refine Below.alloc ?_ (by simp; try omega) _)⟩
        rw [HG.out]
        simp only [ptT, ptv]
      · have hg : getP lo hi = (3, (lo : Int) / 8, 0, 0, 0, 0, (hi : Int), true) := by simp [getP, h0, c, d]
        have HG := Lib.hid hg
        clear hg
        clear h0 c d
        go_enter Try.func48, Try.ntmps48
        go_wp2_with (first | (go_at_call 64; refine (HL.out _ _ (by decide)).mono ?_; rintro e w' ⟨rfl, rfl⟩) | (go_at_call 65; go_must (refine (l2Signed_any _ _ (by omega)).mono ?_); rintro e w' ⟨rfl, rfl⟩))
        refine bodyPost_ret (v := .agg #[.int .i64 (3), .int .i64 ((lo : Int) / 8), .int .i64 (0), .int .i64 (0), .int .i64 (0), .int .i64 (0), .int .i64 ((hi : Int)), .bool true]) (by simp [results, Try.results48, go_sem]) rfl ⟨?_, by repeat (first | exact Below.refl _ _ | refine Below.alloc ?_ (by simp; try omega) _)⟩
        rw [HG.out]
        simp only [ptT, ptv]
    · have hg : getP lo hi = (4, 0, 0, 0, 0, 0, 0, false) := by simp [getP, h0, c]
      have HG := Lib.hid hg
      clear hg
      clear h0 c
      go_enter Try.func48, Try.ntmps48
      go_wp2_with (first | (go_at_call 64; refine (HL.out _ _ (by decide)).mono ?_; rintro e w' ⟨rfl, rfl⟩) | (go_at_call 65; go_must (refine (l2Signed_any _ _ (by omega)).mono ?_); rintro e w' ⟨rfl, rfl⟩))
      refine bodyPost_ret (v := .agg #[.int .i64 (4), .int .i64 (0), .int .i64 (0), .int .i64 (0), .int .i64 (0), .int .i64 (0), .int .i64 (0), .bool false]) (by simp [results, Try.results48, go_sem]) rfl ⟨?_, by repeat (first | exact Below.refl _ _ | refine Below.alloc ?_ (by simp; try omega) _)⟩
      rw [HG.out]
      simp only [ptT, ptv]
end Go.Proofs.Ytialmfolgendlab
