/- What FrameGet reads is what FramePut writes. No Go text. -/
import Derived.Test.YtliiffpegfkpbabDoorFgFrame
namespace Go.Proofs.YtliiffpegfkpbabDoor
open Go.RowKit
theorem take_join (l : List UInt8) (a b c : Nat) : (l.drop a).take b ++ (l.drop (a + b)).take c = (l.drop a).take (b + c) := by
  rw [List.take_add, List.drop_drop]
theorem szs_mono' (l : List UInt8) (k : Nat) : ∀ n, k ≤ n → (szs l k).sum ≤ (szs l n).sum := by
  intro n
  induction n with
  | zero => intro h; obtain rfl : k = 0 := by omega
            exact Nat.le_refl _
  | succ n ih =>
    intro h
    by_cases hk : k = n + 1
    · rw [hk]; exact Nat.le_refl _
    · have := ih (by omega)
      rw [szs_sum_succ]; omega
theorem cut_parts (s : ByteArray) (a N : Nat) (hN : 4 * N + 4 ≤ s.size) (hb : a + 8 * (szs s.data.toList N).sum ≤ s.size) : ∀ k, k ≤ N →
    numsL (cutB s a (szs s.data.toList k)) = (s.data.toList.drop 4).take (4 * k) ∧ bodyL (cutB s a (szs s.data.toList k)) = (s.data.toList.drop a).take (8 * (szs s.data.toList k).sum) ∧
    (∀ x ∈ cutB s a (szs s.data.toList k), x.size % 8 = 0) ∧ tot (cutB s a (szs s.data.toList k)) = 8 * (szs s.data.toList k).sum := by
  intro k
  have hl : s.data.toList.length = s.size := rfl
  induction k with
  | zero => intro _; exact ⟨by simp [szs, cutB, numsL], by simp [szs, cutB, bodyL], by intro x hx; simp [szs, cutB] at hx, by simp [szs, cutB, tot]⟩
  | succ k ih =>
    intro hk
    obtain ⟨h1, h2, h3, h4⟩ := ih (by omega)
    have hm := szs_mono' s.data.toList (k + 1) N hk
    have hs := szs_sum_succ s.data.toList k
    have hct := cutB_snoc s (szs s.data.toList k) a (gN s.data.toList (k + 1))
    rw [← szs_succ] at hct
    rw [hct, hs]
    generalize hU : (szs s.data.toList k).sum = U at *
    generalize hG : gN s.data.toList (k + 1) = G at *
    have hz : (s.extract (a + 8 * U) (a + 8 * U + 8 * G)).size = 8 * G := by simp; omega
    have hx : (s.extract (a + 8 * U) (a + 8 * U + 8 * G)).data.toList = (s.data.toList.drop (a + 8 * U)).take (8 * G) := by
      rw [Lib.extract_data, show a + 8 * U + 8 * G - (a + 8 * U) = 8 * G by omega]
    refine ⟨?_, ?_, ?_, ?_⟩
    · unfold numsL at h1 ⊢
      rw [List.flatMap_append, h1, List.flatMap_cons, List.flatMap_nil, List.append_nil, hz, show 8 * G / 8 = G by omega, ← hG]
      unfold gN
      rw [leB_leN _ _ _ (by omega), show 4 * (k + 1) = 4 + 4 * k by omega, take_join, show 4 * k + 4 = 4 + 4 * k by omega]
    · unfold bodyL at h2 ⊢
      rw [List.flatMap_append, h2, List.flatMap_cons, List.flatMap_nil, List.append_nil, hx, take_join, show 8 * (U + G) = 8 * U + 8 * G by omega]
    · intro x hx2
      rcases List.mem_append.1 hx2 with h | h
      · exact h3 x h
      · obtain rfl := List.mem_singleton.1 h
        rw [hz]; omega
    · unfold tot at h4 ⊢
      rw [List.map_append, List.sum_append, h4]
      simp only [List.map_cons, List.map_nil, List.sum_cons, List.sum_nil]
      rw [hz]; omega
theorem zeros_eq : ∀ l : List UInt8, (l.all (· == 0)) = true → l = List.replicate l.length 0 := by
  intro l h
  rw [List.eq_replicate_iff]
  refine ⟨rfl, fun b hb => ?_⟩
  simpa using List.all_eq_true.1 h b hb
/-- what is read is what would be written. -/
theorem fg_back {s : ByteArray} {n : Nat} (h : (fg s).1 = (n : Int)) (h0 : 0 < n) : frOk (fg s).2 = true ∧ frameL (fg s).2 = s.data.toList.take n ∧ n ≤ s.size := by
  have hl : s.data.toList.length = s.size := rfl
  by_cases c1 : s.size < 4
  · rw [fg0 c1] at h; simp at h <;> omega
  obtain ⟨N, hN⟩ : ∃ N, gN s.data.toList 0 + 1 = N := ⟨_, rfl⟩
  by_cases c2 : 6 < N
  · rw [fg1 hN (by omega) c2] at h; simp at h <;> omega
  by_cases c3 : s.size < fgHead N
  · rw [fg2 hN (by omega) (by omega) c3] at h; simp at h <;> omega
  by_cases c4 : fgZ s.data.toList N = false ∨ 200 < (szs s.data.toList N).sum
  · rw [fg3 hN (by omega) (by omega) (by omega) c4] at h; simp at h <;> omega
  have hz : fgZ s.data.toList N = true := by
    cases hz : fgZ s.data.toList N
    · exact absurd (.inl hz) c4
    · rfl
  have hsum : (szs s.data.toList N).sum ≤ 200 := by omega
  by_cases c5 : s.size < fgHead N + 8 * (szs s.data.toList N).sum
  · rw [fg4 hN (by omega) (by omega) (by omega) hz hsum c5] at h; simp at h <;> omega
  have hf := fg5 hN (by omega) (by omega) (by omega) hz hsum (by omega)
  rw [hf] at h ⊢
  have hn : fgHead N + 8 * (szs s.data.toList N).sum = n := by simp only at h; omega
  have hH : fgHead N = (N / 2 + 1) * 8 := rfl
  obtain ⟨p1, p2, p3, p4⟩ := cut_parts s (fgHead N) N (by omega) (by omega) N (Nat.le_refl _)
  have hlen : (cutB s (fgHead N) (szs s.data.toList N)).length = N := by rw [cutB_length, szs_length]
  have hok : frOk (cutB s (fgHead N) (szs s.data.toList N)) = true := by
    unfold frOk
    rw [hlen, p4, decide_eq_true (by omega), decide_eq_true (by omega), Bool.true_and, Bool.and_true, List.all_eq_true]
    intro x hx
    exact decide_eq_true (p3 x hx)
  refine ⟨hok, ?_, by omega⟩
  show frameL (cutB s (fgHead N) (szs s.data.toList N)) = _
  rw [frameL, if_pos hok, p1, p2, hlen]
  have e1 : leB ((N : Int) - 1) 4 = (s.data.toList.drop 0).take 4 := by
    rw [show (N : Int) - 1 = ((gN s.data.toList 0 : Nat) : Int) by omega]
    exact leB_leN _ 4 0 (by omega)
  have e2 : fillL N = (s.data.toList.drop (4 + 4 * N)).take (fgHead N - (4 + 4 * N)) := by
    unfold fgZ at hz
    have hzz := zeros_eq _ hz
    rw [List.drop_take, show 4 * (N + 1) = 4 + 4 * N by omega] at hzz
    rw [hzz, List.length_take, List.length_drop, hl]
    unfold fillL
    split
    · rw [show min (fgHead N - (4 + 4 * N)) (s.size - (4 + 4 * N)) = 4 by omega]
      decide
    · rw [show min (fgHead N - (4 + 4 * N)) (s.size - (4 + 4 * N)) = 0 by omega]
      rfl
  have j1 := take_join s.data.toList 0 4 (4 * N)
  have j2 := take_join s.data.toList 0 (4 + 4 * N) (fgHead N - (4 + 4 * N))
  have j3 := take_join s.data.toList 0 (fgHead N) (8 * (szs s.data.toList N).sum)
  rw [Nat.zero_add] at j1 j2 j3
  rw [e1, e2, j1, j2, show 4 + 4 * N + (fgHead N - (4 + 4 * N)) = fgHead N by omega, j3, List.drop_zero, hn]
end Go.Proofs.YtliiffpegfkpbabDoor
