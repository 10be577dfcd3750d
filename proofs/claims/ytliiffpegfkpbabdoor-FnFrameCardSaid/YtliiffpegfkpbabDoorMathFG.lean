/- What FrameGet answers, as plain facts on bytes. No Go text. -/
import Derived.Test.YtliiffpegfkpbabDoorMathGet
namespace Go.Proofs.YtliiffpegfkpbabDoor
open Go.RowKit
/-- the i-th number of a head. -/
def gN (l : List UInt8) (i : Nat) : Nat := leN l (4 * i) 4
theorem gN_lt (l : List UInt8) (i : Nat) : gN l i < 4294967296 := by
  have := leN_lt l 4 (4 * i)
  simpa [gN] using this
/-- how many words each segment has. -/
def szs (l : List UInt8) (n : Nat) : List Nat := (List.range n).map fun i => gN l (i + 1)
theorem szs_succ (l : List UInt8) (n : Nat) : szs l (n + 1) = szs l n ++ [gN l (n + 1)] := by simp [szs, List.range_succ]
theorem szs_length (l : List UInt8) (n : Nat) : (szs l n).length = n := by simp [szs]
theorem szs_sum_succ (l : List UInt8) (n : Nat) : (szs l (n + 1)).sum = (szs l n).sum + gN l (n + 1) := by simp [szs_succ]
theorem szs_sum_lt (l : List UInt8) : ∀ n, (szs l n).sum ≤ 4294967296 * n
  | 0 => by simp [szs]
  | n + 1 => by
    have := szs_sum_lt l n
    have := gN_lt l (n + 1)
    rw [szs_sum_succ]; omega
/-- the segments, cut from a byte on. -/
def cutB (s : ByteArray) : Nat → List Nat → List ByteArray
  | _, [] => []
  | a, z :: r => s.extract a (a + 8 * z) :: cutB s (a + 8 * z) r
theorem cutB_length (s : ByteArray) : ∀ (zs : List Nat) (a : Nat), (cutB s a zs).length = zs.length
  | [], _ => rfl
  | z :: r, a => by simp [cutB, cutB_length s r]
theorem cutB_snoc (s : ByteArray) : ∀ (zs : List Nat) (a z : Nat), cutB s a (zs ++ [z]) = cutB s a zs ++ [s.extract (a + 8 * zs.sum) (a + 8 * zs.sum + 8 * z)]
  | [], a, z => by simp [cutB]
  | y :: r, a, z => by
    have e : a + 8 * y + 8 * r.sum = a + 8 * (y + r.sum) := by omega
    simp [cutB, cutB_snoc s r, e]
theorem cutB_size (s : ByteArray) : ∀ (zs : List Nat) (a : Nat), ∀ x ∈ cutB s a zs, x.size ≤ s.size
  | [], _, x, h => by cases h
  | z :: r, a, x, h => by
    rw [cutB] at h
    rcases List.mem_cons.1 h with rfl | h
    · simp; omega
    · exact cutB_size s r _ x h
/-- how long the head of n segments is. -/
def fgHead (n : Nat) : Nat := (n / 2 + 1) * 8
/-- what fills the head is 0. -/
def fgZ (l : List UInt8) (n : Nat) : Bool := ((l.take (fgHead n)).drop (4 * (n + 1))).all (· == 0)
/-- what FrameGet answers: how many bytes, and the segments. -/
def fg (s : ByteArray) : Int × List ByteArray :=
  if s.size < 4 then (0, []) else
  if 6 < gN s.data.toList 0 + 1 then (-1, []) else
  if s.size < fgHead (gN s.data.toList 0 + 1) then (0, []) else
  if fgZ s.data.toList (gN s.data.toList 0 + 1) = false ∨ 200 < (szs s.data.toList (gN s.data.toList 0 + 1)).sum then (-1, []) else
  if s.size < fgHead (gN s.data.toList 0 + 1) + 8 * (szs s.data.toList (gN s.data.toList 0 + 1)).sum then (0, []) else
  (((fgHead (gN s.data.toList 0 + 1) + 8 * (szs s.data.toList (gN s.data.toList 0 + 1)).sum : Nat) : Int), cutB s (fgHead (gN s.data.toList 0 + 1)) (szs s.data.toList (gN s.data.toList 0 + 1)))
theorem fg0 {s : ByteArray} (h : s.size < 4) : fg s = (0, []) := by rw [fg, if_pos h]
theorem fg1 {s : ByteArray} {n : Nat} (hn : gN s.data.toList 0 + 1 = n) (h : 4 ≤ s.size) (h1 : 6 < n) : fg s = (-1, []) := by
  rw [fg, if_neg (by omega), hn, if_pos h1]
theorem fg2 {s : ByteArray} {n : Nat} (hn : gN s.data.toList 0 + 1 = n) (h : 4 ≤ s.size) (h1 : n ≤ 6) (h2 : s.size < fgHead n) : fg s = (0, []) := by
  rw [fg, if_neg (by omega), hn, if_neg (by omega), if_pos h2]
theorem fg3 {s : ByteArray} {n : Nat} (hn : gN s.data.toList 0 + 1 = n) (h : 4 ≤ s.size) (h1 : n ≤ 6) (h2 : fgHead n ≤ s.size) (h3 : fgZ s.data.toList n = false ∨ 200 < (szs s.data.toList n).sum) : fg s = (-1, []) := by
  rw [fg, if_neg (by omega), hn, if_neg (by omega), if_neg (by omega), if_pos h3]
theorem fg4 {s : ByteArray} {n : Nat} (hn : gN s.data.toList 0 + 1 = n) (h : 4 ≤ s.size) (h1 : n ≤ 6) (h2 : fgHead n ≤ s.size) (h3 : fgZ s.data.toList n = true) (h4 : (szs s.data.toList n).sum ≤ 200) (h5 : s.size < fgHead n + 8 * (szs s.data.toList n).sum) : fg s = (0, []) := by
  rw [fg, if_neg (by omega), hn, if_neg (by omega), if_neg (by omega), if_neg (by rw [h3]; simp; omega), if_pos h5]
theorem fg5 {s : ByteArray} {n : Nat} (hn : gN s.data.toList 0 + 1 = n) (h : 4 ≤ s.size) (h1 : n ≤ 6) (h2 : fgHead n ≤ s.size) (h3 : fgZ s.data.toList n = true) (h4 : (szs s.data.toList n).sum ≤ 200) (h5 : fgHead n + 8 * (szs s.data.toList n).sum ≤ s.size) :
    fg s = (((fgHead n + 8 * (szs s.data.toList n).sum : Nat) : Int), cutB s (fgHead n) (szs s.data.toList n)) := by
  rw [fg, if_neg (by omega), hn, if_neg (by omega), if_neg (by omega), if_neg (by rw [h3]; simp; omega), if_neg (by omega)]
theorem gN_congr {l m : List UInt8} (i : Nat) (h : ∀ j, j < 4 * i + 4 → l[j]? = m[j]?) : gN l i = gN m i :=
  leN_congr _ _ 4 _ _ (fun k hk => h (4 * i + k) (by omega))
theorem szs_congr {l m : List UInt8} (n : Nat) (h : ∀ j, j < 4 * n + 4 → l[j]? = m[j]?) : szs l n = szs m n := by
  unfold szs
  apply List.map_congr_left
  intro i hi
  exact gN_congr (i + 1) (fun j hj => h j (by have := List.mem_range.1 hi; omega))
theorem fg_length (s : ByteArray) : (fg s).2.length ≤ 6 := by
  unfold fg
  repeat' split
  all_goals first | (simp; done) | (rw [cutB_length, szs_length]; omega)
theorem fg_size (s : ByteArray) : ∀ x ∈ (fg s).2, x.size ≤ s.size := by
  unfold fg
  repeat' split
  all_goals first | (intro x hx; simp at hx; done) | exact cutB_size s _ _
theorem fg_code (s : ByteArray) : -1 ≤ (fg s).1 ∧ (fg s).1 ≤ 1632 := by
  unfold fg fgHead
  repeat' split
  all_goals first | (simp; done) | (simp only; omega)
end Go.Proofs.YtliiffpegfkpbabDoor
