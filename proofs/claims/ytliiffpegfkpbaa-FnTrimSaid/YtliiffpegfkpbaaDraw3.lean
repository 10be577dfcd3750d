/- The specification's draws for the laws of words. -/
import Derived.Test.YtliiffpegfkpbaaDraw2
import Derived.Test.YtliiffpegfkpbaaDrawOne
import Derived.Test.YtliiffpegfkpbaaArgB
namespace Go.Proofs.Ytliiffpegfkpbaa
open Go.RowKit
def DrawStr (b : Nat) (w : World) (e : Ending) (w' : World) : Prop := ∃ s : ByteArray, s.size ≤ b ∧ e = .returned (.string s) ∧ Below w.heap.size w w'
set_option maxHeartbeats 2000000 in
theorem drawTrim_any (a : Option Addr) (len cap : Nat) (w : World) (h : Arg w a len cap) :
    Calls Try.prog 22 #[.slice a len cap] w (DrawStr 1700 w) := by
  go_enter Try.func22, Try.ntmps22
  go_wp2_with fail
  refine (l1Open_any a len cap _ h.1 h.2.1 h.2.2).mono ?_
  rintro e w1 ⟨R, rfl, hR, hrd, hb1⟩
  go_wp2_with fail
  refine (l13AnyWords_any R 0 _ hrd (by omega)).mono ?_
  rintro e w2 ⟨s, hs, rfl, hp2⟩
  go_wp2
  go_ret
  exact ⟨s, hs, rfl, opened_below hR hb1 hp2⟩
def DrawG (w : World) (e : Ending) (w' : World) : Prop := ∃ (s : ByteArray) (a z : Int), s.size ≤ 1700 ∧ (-1 ≤ a ∧ a ≤ 2000) ∧ (1 ≤ z ∧ z ≤ 8) ∧ e = .returned (.tuple #[.string s, .int .i64 a, .int .i64 z]) ∧ Below w.heap.size w w'
set_option maxHeartbeats 2000000 in
theorem drawGet_any (a : Option Addr) (len cap : Nat) (w : World) (h : Arg w a len cap) :
    Calls Try.prog 16 #[.slice a len cap] w (DrawG w) := by
  go_enter Try.func16, Try.ntmps16
  go_wp2_with fail
  refine (l1Open_any a len cap _ h.1 h.2.1 h.2.2).mono ?_
  rintro e w1 ⟨R, rfl, hR, hrd, hb1⟩
  go_wp2_with fail
  have hRl := hrd.lt
  refine (one_any R 0 w1.heap.size 6 6 (fun z => 1 ≤ z ∧ z ≤ 8) _ _ (by exact hrd.below ((Below.refl _ _).alloc (Nat.le_refl _) _)) (by omega) (by exact Lits.new _ _ _ _) (by
    intro v hv
    simp at hv
    rcases hv with rfl | rfl | rfl | rfl | rfl
    all_goals exact ⟨_, rfl, by omega⟩) (by omega) (by simp) (by omega) (by omega)).mono ?_
  rintro e w2 ⟨z, ⟨hz0, hz1⟩, rfl, hp2⟩
  have hq2 := (hrd.self.below ((Below.refl _ w1).alloc (Nat.le_refl _) _)).then hp2
  go_wp2_with fail
  refine (l13AnyWords_any R 1 _ hp2.1 (by omega)).mono ?_
  rintro e w3 ⟨s, hs, rfl, hp3⟩
  go_wp2_with fail
  refine (pick_any R 31 _ _ hp3.1 (by omega)).mono ?_
  rintro e w4 ⟨v, ⟨hv0, hv1⟩, rfl, hp4⟩
  have hv : v ≤ 5 := by omega
  clear hv1
  go_wp2_with fail
  refine (pick_any R 32 _ _ hp4.1 (by omega)).mono ?_
  rintro e w5 ⟨u, ⟨hu0, hu1⟩, rfl, hp5⟩
  have hu : u ≤ 47 := by omega
  clear hu1
  have hq5 := ((hq2.then hp3).then hp4).then hp5
  have hRl5 := hp5.1.lt
  go_wp2_with fail
  refine (one_any R 33 w5.heap.size 7 7 (fun z => -1 ≤ z ∧ z ≤ 2000) _ _ (by exact hp5.1.below ((Below.refl _ _).alloc (Nat.le_refl _) _)) (by omega) (by exact Lits.new _ _ _ _) (by
    intro v hv
    simp at hv
    rcases hv with rfl | rfl | rfl | rfl | rfl | rfl | rfl
    all_goals exact ⟨_, rfl, by omega⟩) (by omega) (by simp) (by omega) (by omega)).mono ?_
  rintro e w6 ⟨y, hy, rfl, hp6⟩
  go_wp2
  go_ret3
  exact ⟨s, y, z, hs, hy, ⟨hz0, hz1⟩, rfl, opened_below hR hb1 ((hq5.below ((Below.refl _ _).alloc (Nat.le_refl _) _)).then hp6)⟩
def DrawP (w : World) (e : Ending) (w' : World) : Prop := ∃ (s : ByteArray) (a z n : Int), s.size ≤ 1700 ∧ (-1 ≤ a ∧ a ≤ 2000) ∧ (1 ≤ z ∧ z ≤ 8) ∧ (-1 ≤ n ∧ n ≤ 1099511627776) ∧ e = .returned (.tuple #[.string s, .int .i64 a, .int .i64 z, .int .i64 n]) ∧ Below w.heap.size w w'
set_option maxHeartbeats 2000000 in
theorem drawPut_any (a : Option Addr) (len cap : Nat) (w : World) (h : Arg w a len cap) :
    Calls Try.prog 11 #[.slice a len cap] w (DrawP w) := by
  go_enter Try.func11, Try.ntmps11
  go_wp2_with fail
  refine (drawGet_any a len cap _ h).mono ?_
  rintro e w1 ⟨s, y, z, hs, hy, hz, rfl, hb1⟩
  have h' := h.below hb1
  go_wp2_with fail
  refine (l1Open_any a len cap _ h'.1 h'.2.1 h'.2.2).mono ?_
  rintro e w2 ⟨R, rfl, hR, hrd, hb2⟩
  go_wp2_with fail
  have hRl := hrd.lt
  refine (one_any R 0 w2.heap.size 8 8 (fun z => -1 ≤ z ∧ z ≤ 1099511627776) _ _ (by exact hrd.below ((Below.refl _ _).alloc (Nat.le_refl _) _)) (by omega) (by exact Lits.new _ _ _ _) (by
    intro v hv
    simp at hv
    rcases hv with rfl | rfl | rfl | rfl | rfl | rfl | rfl | rfl
    all_goals exact ⟨_, rfl, by omega⟩) (by omega) (by simp) (by omega) (by omega)).mono ?_
  rintro e w3 ⟨n, hn, rfl, hp3⟩
  go_wp2
  refine bodyPost_ret (v := .tuple #[.string s, .int .i64 y, .int .i64 z, .int .i64 n]) (by simp [results, Try.results11, go_sem]) rfl ⟨s, y, z, n, hs, hy, hz, hn, rfl, ?_⟩
  exact hb1.trans ((opened_below hR hb2 ((hrd.self.below ((Below.refl _ w2).alloc (Nat.le_refl _) _)).then hp3)).mono hb1.size)
def DrawB (w : World) (e : Ending) (w' : World) : Prop := ∃ (s : ByteArray) (a : Int), s.size ≤ 1700 ∧ (-1 ≤ a ∧ a ≤ 2000) ∧ e = .returned (.tuple #[.string s, .int .i64 a]) ∧ Below w.heap.size w w'
set_option maxHeartbeats 2000000 in
theorem drawBitGet_any (a : Option Addr) (len cap : Nat) (w : World) (h : Arg w a len cap) :
    Calls Try.prog 45 #[.slice a len cap] w (DrawB w) := by
  go_enter Try.func45, Try.ntmps45
  go_wp2_with fail
  refine (l1Open_any a len cap _ h.1 h.2.1 h.2.2).mono ?_
  rintro e w1 ⟨R, rfl, hR, hrd, hb1⟩
  go_wp2_with fail
  refine (l13AnyWords_any R 0 _ hrd (by omega)).mono ?_
  rintro e w2 ⟨s, hs, rfl, hp2⟩
  go_wp2_with fail
  refine (pick_any R 30 _ _ hp2.1 (by omega)).mono ?_
  rintro e w3 ⟨v, ⟨hv0, hv1⟩, rfl, hp3⟩
  have hv : v ≤ 255 := by omega
  clear hv1
  have hq3 := hp2.then hp3
  have hRl := hp3.1.lt
  go_wp2_with fail
  refine (one_any R 31 w3.heap.size 7 7 (fun z => -1 ≤ z ∧ z ≤ 2000) _ _ (by exact hp3.1.below ((Below.refl _ _).alloc (Nat.le_refl _) _)) (by omega) (by exact Lits.new _ _ _ _) (by
    intro v hv
    simp at hv
    rcases hv with rfl | rfl | rfl | rfl | rfl | rfl | rfl
    all_goals exact ⟨_, rfl, by omega⟩) (by omega) (by simp) (by omega) (by omega)).mono ?_
  rintro e w4 ⟨y, hy, rfl, hp4⟩
  go_wp2
  go_ret2
  exact ⟨s, y, hs, hy, rfl, opened_below hR hb1 ((hq3.below ((Below.refl _ _).alloc (Nat.le_refl _) _)).then hp4)⟩
def DrawBP (w : World) (e : Ending) (w' : World) : Prop := ∃ (s : ByteArray) (a b : Int), s.size ≤ 1700 ∧ (-1 ≤ a ∧ a ≤ 2000) ∧ (0 ≤ b ∧ b ≤ 2) ∧ e = .returned (.tuple #[.string s, .int .i64 a, .int .i64 b]) ∧ Below w.heap.size w w'
set_option maxHeartbeats 2000000 in
theorem drawBitPut_any (a : Option Addr) (len cap : Nat) (w : World) (h : Arg w a len cap) :
    Calls Try.prog 17 #[.slice a len cap] w (DrawBP w) := by
  go_enter Try.func17, Try.ntmps17
  go_wp2_with fail
  refine (drawBitGet_any a len cap _ h).mono ?_
  rintro e w1 ⟨s, y, hs, hy, rfl, hb1⟩
  have h' := h.below hb1
  go_wp2_with fail
  refine (l1Open_any a len cap _ h'.1 h'.2.1 h'.2.2).mono ?_
  rintro e w2 ⟨R, rfl, hR, hrd, hb2⟩
  go_wp2_with fail
  have hRl := hrd.lt
  refine (one_any R 0 w2.heap.size 4 4 (fun z => 0 ≤ z ∧ z ≤ 2) _ _ (by exact hrd.below ((Below.refl _ _).alloc (Nat.le_refl _) _)) (by omega) (by exact Lits.new _ _ _ _) (by
    intro v hv
    simp at hv
    rcases hv with rfl | rfl | rfl
    all_goals exact ⟨_, rfl, by omega⟩) (by omega) (by simp) (by omega) (by omega)).mono ?_
  rintro e w3 ⟨n, hn, rfl, hp3⟩
  go_wp2
  go_ret3
  exact ⟨s, y, n, hs, hy, hn, rfl, hb1.trans ((opened_below hR hb2 ((hrd.self.below ((Below.refl _ w2).alloc (Nat.le_refl _) _)).then hp3)).mono hb1.size)⟩
end Go.Proofs.Ytliiffpegfkpbaa
