/- Texts of the proof of the law FnPipeBytes, side by side: part 6. -/
import Derived.Deep.QuietTactic
import Derived.BigQuiet
import Derived.Lib.ConvBytes
import Derived.Deep.RegionWith
import Derived.Test.YtfiiopchfmcjdabDoorMPipeBytes00
import Derived.Test.YtfiiopchfmcjdabDoorMPipeBytes01
import Derived.Test.YtfiiopchfmcjdabDoorMPipeBytes02
import Derived.Test.YtfiiopchfmcjdabDoorMPipeBytes03
import Derived.Test.YtfiiopchfmcjdabDoorMPipeBytes04
import Derived.Test.YtfiiopchfmcjdabDoorMPipeBytes05
/- What FrameGet reads is what FramePut writes. No Go text. -/
namespace Go.Proofs.YtfiiopchfmcjdabDoor
open Go.RowKit
theorem take_join (l : List UInt8) (a b c : Nat) : (l.drop a).take b ++ (l.drop (a + b)).take c = (l.drop a).take (b + c) := by
  rw [List.take_add, List.drop_drop]
theorem szs_mono' (l : List UInt8) (k : Nat) : ∀ n, k ≤ n → (szs l k).sum ≤ (szs l n).sum := by
  intro n
  induction n with
  | zero => intro h; obtain rfl : k = 0 := by omega
            exact Nat.le_refl _
  | succ n ih =>
    intro h
    by_cases hk : k = n + 1
    · rw [hk]; exact Nat.le_refl _
    · have := ih (by omega)
      rw [szs_sum_succ]; omega
theorem cut_parts (s : ByteArray) (a N : Nat) (hN : 4 * N + 4 ≤ s.size) (hb : a + 8 * (szs s.data.toList N).sum ≤ s.size) : ∀ k, k ≤ N →
    numsL (cutB s a (szs s.data.toList k)) = (s.data.toList.drop 4).take (4 * k) ∧ bodyL (cutB s a (szs s.data.toList k)) = (s.data.toList.drop a).take (8 * (szs s.data.toList k).sum) ∧
    (∀ x ∈ cutB s a (szs s.data.toList k), x.size % 8 = 0) ∧ tot (cutB s a (szs s.data.toList k)) = 8 * (szs s.data.toList k).sum := by
  intro k
  have hl : s.data.toList.length = s.size := rfl
  induction k with
  | zero => intro _; exact ⟨by simp [szs, cutB, numsL], by simp [szs, cutB, bodyL], by intro x hx; simp [szs, cutB] at hx, by simp [szs, cutB, tot]⟩
  | succ k ih =>
    intro hk
    obtain ⟨h1, h2, h3, h4⟩ := ih (by omega)
    have hm := szs_mono' s.data.toList (k + 1) N hk
    have hs := szs_sum_succ s.data.toList k
    have hct := cutB_snoc s (szs s.data.toList k) a (gN s.data.toList (k + 1))
    rw [← szs_succ] at hct
    rw [hct, hs]
    generalize hU : (szs s.data.toList k).sum = U at *
    generalize hG : gN s.data.toList (k + 1) = G at *
    have hz : (s.extract (a + 8 * U) (a + 8 * U + 8 * G)).size = 8 * G := by simp; omega
    have hx : (s.extract (a + 8 * U) (a + 8 * U + 8 * G)).data.toList = (s.data.toList.drop (a + 8 * U)).take (8 * G) := by
      rw [Lib.extract_data, show a + 8 * U + 8 * G - (a + 8 * U) = 8 * G by omega]
    refine ⟨?_, ?_, ?_, ?_⟩
    · unfold numsL at h1 ⊢
      rw [List.flatMap_append, h1, List.flatMap_cons, List.flatMap_nil, List.append_nil, hz, show 8 * G / 8 = G by omega, ← hG]
      unfold gN
      rw [leB_leN _ _ _ (by omega), show 4 * (k + 1) = 4 + 4 * k by omega, take_join, show 4 * k + 4 = 4 + 4 * k by omega]
    · unfold bodyL at h2 ⊢
      rw [List.flatMap_append, h2, List.flatMap_cons, List.flatMap_nil, List.append_nil, hx, take_join, show 8 * (U + G) = 8 * U + 8 * G by omega]
    · intro x hx2
      rcases List.mem_append.1 hx2 with h | h
      · exact h3 x h
      · obtain rfl := List.mem_singleton.1 h
        rw [hz]; omega
    · unfold tot at h4 ⊢
      rw [List.map_append, List.sum_append, h4]
      simp only [List.map_cons, List.map_nil, List.sum_cons, List.sum_nil]
      rw [hz]; omega
theorem zeros_eq : ∀ l : List UInt8, (l.all (· == 0)) = true → l = List.replicate l.length 0 := by
  intro l h
  rw [List.eq_replicate_iff]
  refine ⟨rfl, fun b hb => ?_⟩
  simpa using List.all_eq_true.1 h b hb
/-- what is read is what would be written. -/
theorem fg_back {s : ByteArray} {n : Nat} (h : (fg s).1 = (n : Int)) (h0 : 0 < n) : frOk (fg s).2 = true ∧ frameL (fg s).2 = s.data.toList.take n ∧ n ≤ s.size := by
  have hl : s.data.toList.length = s.size := rfl
  by_cases c1 : s.size < 4
  · rw [fg0 c1] at h; simp at h <;> omega
  obtain ⟨N, hN⟩ : ∃ N, gN s.data.toList 0 + 1 = N := ⟨_, rfl⟩
  by_cases c2 : 6 < N
  · rw [fg1 hN (by omega) c2] at h; simp at h <;> omega
  by_cases c3 : s.size < fgHead N
  · rw [fg2 hN (by omega) (by omega) c3] at h; simp at h <;> omega
  by_cases c4 : fgZ s.data.toList N = false ∨ 200 < (szs s.data.toList N).sum
  · rw [fg3 hN (by omega) (by omega) (by omega) c4] at h; simp at h <;> omega
  have hz : fgZ s.data.toList N = true := by
    cases hz : fgZ s.data.toList N
    · exact absurd (.inl hz) c4
    · rfl
  have hsum : (szs s.data.toList N).sum ≤ 200 := by omega
  by_cases c5 : s.size < fgHead N + 8 * (szs s.data.toList N).sum
  · rw [fg4 hN (by omega) (by omega) (by omega) hz hsum c5] at h; simp at h <;> omega
  have hf := fg5 hN (by omega) (by omega) (by omega) hz hsum (by omega)
  rw [hf] at h ⊢
  have hn : fgHead N + 8 * (szs s.data.toList N).sum = n := by simp only at h; omega
  have hH : fgHead N = (N / 2 + 1) * 8 := rfl
  obtain ⟨p1, p2, p3, p4⟩ := cut_parts s (fgHead N) N (by omega) (by omega) N (Nat.le_refl _)
  have hlen : (cutB s (fgHead N) (szs s.data.toList N)).length = N := by rw [cutB_length, szs_length]
  have hok : frOk (cutB s (fgHead N) (szs s.data.toList N)) = true := by
    unfold frOk
    rw [hlen, p4, decide_eq_true (by omega), decide_eq_true (by omega), Bool.true_and, Bool.and_true, List.all_eq_true]
    intro x hx
    exact decide_eq_true (p3 x hx)
  refine ⟨hok, ?_, by omega⟩
  show frameL (cutB s (fgHead N) (szs s.data.toList N)) = _
  rw [frameL, if_pos hok, p1, p2, hlen]
  have e1 : leB ((N : Int) - 1) 4 = (s.data.toList.drop 0).take 4 := by
    rw [show (N : Int) - 1 = ((gN s.data.toList 0 : Nat) : Int) by omega]
    exact leB_leN _ 4 0 (by omega)
  have e2 : fillL N = (s.data.toList.drop (4 + 4 * N)).take (fgHead N - (4 + 4 * N)) := by
    unfold fgZ at hz
    have hzz := zeros_eq _ hz
    rw [List.drop_take, show 4 * (N + 1) = 4 + 4 * N by omega] at hzz
    rw [hzz, List.length_take, List.length_drop, hl]
    unfold fillL
    split
    · rw [show min (fgHead N - (4 + 4 * N)) (s.size - (4 + 4 * N)) = 4 by omega]
      decide
    · rw [show min (fgHead N - (4 + 4 * N)) (s.size - (4 + 4 * N)) = 0 by omega]
      rfl
  have j1 := take_join s.data.toList 0 4 (4 * N)
  have j2 := take_join s.data.toList 0 (4 + 4 * N) (fgHead N - (4 + 4 * N))
  have j3 := take_join s.data.toList 0 (fgHead N) (8 * (szs s.data.toList N).sum)
  rw [Nat.zero_add] at j1 j2 j3
  rw [e1, e2, j1, j2, show 4 + 4 * N + (fgHead N - (4 + 4 * N)) = fgHead N by omega, j3, List.drop_zero, hn]
end Go.Proofs.YtfiiopchfmcjdabDoor

/- What PipeFeed tells piece by piece, as plain facts. No Go text. -/
namespace Go.Proofs.YtfiiopchfmcjdabDoor
open Go.RowKit
theorem app_toList (u v : ByteArray) : (u ++ v).data.toList = u.data.toList ++ v.data.toList := by simp
theorem app_get (u v : ByteArray) (j : Nat) (h : j < u.size) : (u ++ v).data.toList[j]? = u.data.toList[j]? := by
  rw [app_toList, List.getElem?_append_left (by simpa using h)]
theorem app_extract (u v : ByteArray) (a b : Nat) (h : b ≤ u.size) : (u ++ v).extract a b = u.extract a b := by
  apply ext_ba
  have hl : u.data.toList.length = u.size := rfl
  rw [Lib.extract_data, Lib.extract_data, app_toList]
  by_cases hab : a ≤ b
  · rw [List.drop_append_of_le_length (by omega), List.take_append_of_le_length (by rw [List.length_drop]; omega)]
  · rw [show b - a = 0 by omega, List.take_zero, List.take_zero]
theorem app_rest (u v : ByteArray) (n : Nat) (h : n ≤ u.size) : (u ++ v).extract n (u ++ v).size = u.extract n u.size ++ v := by
  apply ext_ba
  have hl : u.data.toList.length = u.size := rfl
  have hv : v.data.toList.length = v.size := rfl
  rw [app_toList, Lib.extract_data, Lib.extract_data, app_toList, List.drop_append_of_le_length (by omega), List.take_of_length_le (by rw [List.length_append, List.length_drop]; simp; omega), List.take_of_length_le (by rw [List.length_drop]; omega)]
theorem cutB_app (u v : ByteArray) : ∀ (zs : List Nat) (a : Nat), a + 8 * zs.sum ≤ u.size → cutB (u ++ v) a zs = cutB u a zs
  | [], _, _ => rfl
  | z :: r, a, h => by
    rw [List.sum_cons] at h
    rw [cutB, cutB, cutB_app u v r _ (by omega), app_extract u v _ _ (by omega)]
/-- what is whole, or none, stays so whatever follows. -/
theorem fg_app (u v : ByteArray) (h : (fg u).1 ≠ 0) : fg (u ++ v) = fg u := by
  have hs : (u ++ v).size = u.size + v.size := by simp
  by_cases c1 : u.size < 4
  · rw [fg0 c1] at h; exact absurd rfl h
  obtain ⟨N, hN⟩ : ∃ N, gN u.data.toList 0 + 1 = N := ⟨_, rfl⟩
  have hN' : gN (u ++ v).data.toList 0 + 1 = N := by
    rw [← hN, gN_congr 0 (fun j hj => app_get u v j (by omega))]
  by_cases c2 : 6 < N
  · rw [fg1 hN (by omega) c2, fg1 hN' (by omega) c2]
  by_cases c3 : u.size < fgHead N
  · rw [fg2 hN (by omega) (by omega) c3] at h; exact absurd rfl h
  have hH : fgHead N = (N / 2 + 1) * 8 := rfl
  have hz : szs (u ++ v).data.toList N = szs u.data.toList N := szs_congr N (fun j hj => app_get u v j (by omega))
  have hf : fgZ (u ++ v).data.toList N = fgZ u.data.toList N := by
    unfold fgZ
    rw [app_toList, List.take_append_of_le_length (by show _ ≤ u.size; omega)]
  by_cases c4 : fgZ u.data.toList N = false ∨ 200 < (szs u.data.toList N).sum
  · rw [fg3 hN (by omega) (by omega) (by omega) c4, fg3 hN' (by omega) (by omega) (by omega) (by rw [hz, hf]; exact c4)]
  have hzt : fgZ u.data.toList N = true := by
    cases hzt : fgZ u.data.toList N
    · exact absurd (.inl hzt) c4
    · rfl
  have hsum : (szs u.data.toList N).sum ≤ 200 := by omega
  by_cases c5 : u.size < fgHead N + 8 * (szs u.data.toList N).sum
  · rw [fg4 hN (by omega) (by omega) (by omega) hzt hsum c5] at h; exact absurd rfl h
  rw [fg5 hN (by omega) (by omega) (by omega) hzt hsum (by omega), fg5 hN' (by omega) (by omega) (by omega) (by rw [hf]; exact hzt) (by rw [hz]; exact hsum) (by rw [hz]; omega), hz, cutB_app u v _ _ (by omega)]
/-- what waits is short. -/
theorem fg_wait {s : ByteArray} (h : (fg s).1 = 0) : s.size ≤ 1632 := by
  by_cases c1 : s.size < 4
  · omega
  obtain ⟨N, hN⟩ : ∃ N, gN s.data.toList 0 + 1 = N := ⟨_, rfl⟩
  have hH : fgHead N = (N / 2 + 1) * 8 := rfl
  by_cases c2 : 6 < N
  · rw [fg1 hN (by omega) c2] at h; simp at h
  by_cases c3 : s.size < fgHead N
  · omega
  by_cases c4 : fgZ s.data.toList N = false ∨ 200 < (szs s.data.toList N).sum
  · rw [fg3 hN (by omega) (by omega) (by omega) c4] at h; simp at h
  have hz : fgZ s.data.toList N = true := by
    cases hz : fgZ s.data.toList N
    · exact absurd (.inl hz) c4
    · rfl
  by_cases c5 : s.size < fgHead N + 8 * (szs s.data.toList N).sum
  · omega
  rw [fg5 hN (by omega) (by omega) (by omega) hz (by omega) (by omega)] at h
  simp only at h
  omega
/-- what is left waits; each frame may be written. -/
theorem feedB_ends : ∀ (k : Nat) (u : ByteArray), u.size < k → ((feedB u).1 = true ∧ (feedB u).2.1 = ⟨#[]⟩ ∨ (feedB u).1 = false ∧ (fg (feedB u).2.1).1 = 0) ∧ ∀ l ∈ (feedB u).2.2, frOk l = true := by
  intro k
  induction k with
  | zero => intro u h; omega
  | succ k ih =>
    intro u hk
    rcases Int.lt_trichotomy (fg u).1 0 with h | h | h
    · rw [feed_bad h]
      exact ⟨.inl ⟨rfl, rfl⟩, fun l hl => by cases hl⟩
    · rw [feed_wait h]
      exact ⟨.inr ⟨rfl, h⟩, fun l hl => by cases hl⟩
    · obtain ⟨n, hn, h8, hle⟩ := fg_whole h
      have hc := cut_size u n hle
      obtain ⟨h1, h2⟩ := ih (u.extract n u.size) (by omega)
      rw [feed_more hn (by omega) hle]
      refine ⟨h1, fun l hl => ?_⟩
      rcases List.mem_cons.1 hl with rfl | hl
      · exact (fg_back hn (by omega)).1
      · exact h2 l hl
/-- piece by piece as at once. -/
theorem feedB_app : ∀ (k : Nat) (u v : ByteArray), u.size < k → feedB (u ++ v) = if (feedB u).1 then feedB u else ((feedB ((feedB u).2.1 ++ v)).1, (feedB ((feedB u).2.1 ++ v)).2.1, (feedB u).2.2 ++ (feedB ((feedB u).2.1 ++ v)).2.2) := by
  intro k
  induction k with
  | zero => intro u v h; omega
  | succ k ih =>
    intro u v hk
    rcases Int.lt_trichotomy (fg u).1 0 with h | h | h
    · have e := fg_app u v (by omega)
      rw [feed_bad h, feed_bad (by rw [e]; exact h), if_pos rfl]
    · rw [feed_wait h, if_neg (by simp)]
      simp
    · obtain ⟨n, hn, h8, hle⟩ := fg_whole h
      have e := fg_app u v (by omega)
      have hc := cut_size u n hle
      have hs : (u ++ v).size = u.size + v.size := by simp
      have hi := ih (u.extract n u.size) v (by omega)
      rw [feed_more hn (by omega) hle, feed_more (s := u ++ v) (n := n) (by rw [e]; exact hn) (by omega) (by omega), app_rest u v n hle, e, hi]
      simp only
      cases hb : (feedB (u.extract n u.size)).1
      · simp
      · simp [hb]
/-- a pipe behind a piece. -/
theorem pipe_after {s : ByteArray} {b : Bool} {t : ByteArray} (hp : pipeB s b = true) (ht : t.size ≤ 4000) : pipeB (pipeF s b t).2.1 (pipeF s b t).1 = true ∧ ∀ l ∈ (pipeF s b t).2.2, frOk l = true := by
  unfold pipeF
  rw [if_neg (by rw [hp]; simp; omega)]
  cases b
  · rw [if_neg (by decide)]
    obtain ⟨h1, h2⟩ := feedB_ends ((s ++ t).size + 1) (s ++ t) (Nat.lt_succ_self _)
    refine ⟨?_, h2⟩
    rcases h1 with ⟨e1, e2⟩ | ⟨e1, e2⟩
    · rw [e1, e2]; rfl
    · rw [e1]
      unfold pipeB
      rw [if_neg (by decide)]
      have := fg_wait e2
      exact decide_eq_true ⟨e2, by omega⟩
  · rw [if_pos rfl]
    exact ⟨rfl, fun l hl => by cases hl⟩
theorem pipeF_of {s : ByteArray} {b : Bool} {t : ByteArray} (hp : pipeB s b = true) (ht : t.size ≤ 4000) : pipeF s b t = if b = true then (true, ⟨#[]⟩, []) else feedB (s ++ t) := by
  unfold pipeF; rw [if_neg (by rw [hp]; simp; omega)]
theorem pipe_join {s : ByteArray} {b : Bool} {t u : ByteArray} (hp : pipeB s b = true) (ht : t.size + u.size ≤ 4000) :
    pipeF s b (t ++ u) = ((pipeF (pipeF s b t).2.1 (pipeF s b t).1 u).1, (pipeF (pipeF s b t).2.1 (pipeF s b t).1 u).2.1, (pipeF s b t).2.2 ++ (pipeF (pipeF s b t).2.1 (pipeF s b t).1 u).2.2) := by
  have hsz : (t ++ u).size = t.size + u.size := by simp
  obtain ⟨h1, _⟩ := pipe_after hp (t := t) (by omega)
  have e1 := pipeF_of hp (t := t) (by omega)
  have e2 := pipeF_of hp (t := t ++ u) (by omega)
  have e3 := pipeF_of h1 (t := u) (by omega)
  rw [e2, e3, e1]
  cases b
  · rw [if_neg (show ¬ (false = true) by decide), if_neg (show ¬ (false = true) by decide)]
    rw [← ByteArray.append_assoc, feedB_app ((s ++ t).size + 1) (s ++ t) u (Nat.lt_succ_self _)]
    obtain ⟨h5, _⟩ := feedB_ends ((s ++ t).size + 1) (s ++ t) (Nat.lt_succ_self _)
    cases hb : (feedB (s ++ t)).1
    · simp
    · rw [if_pos (show (true = true) from rfl), if_pos (show (true = true) from rfl)]
      rcases h5 with ⟨_, h6⟩ | ⟨h6, _⟩
      · generalize feedB (s ++ t) = F at hb h6 ⊢
        obtain ⟨x, y, z⟩ := F
        simp at hb h6 ⊢
        exact ⟨hb, h6⟩
      · rw [hb] at h6; cases h6
  · simp
end Go.Proofs.YtfiiopchfmcjdabDoor

/- The specification's drawer, pick: some number within its bounds; the drawer goes on by one place at each pick. -/
namespace Go.Proofs.YtfiiopchfmcjdabDoor
open Go.RowKit

/-- a slice value that reads as bytes, in blocks below B. -/
def Code (w : World) (B : Nat) (a : Option Addr) (len : Nat) : Prop :=
  len ≤ maxLen ∧ (len = 0 ∨ ∃ x : Addr, a = some x ∧ x.block < B ∧ ∀ i, i < len → ∃ b : UInt8, w.cell? (x.add i) = some (.int .u8 (b.toNat : Int)))
theorem Code.keeps {w w' : World} {B B' R : Nat} {a : Option Addr} {len : Nat} (h : Code w B a len) (hk : Keeps B' R w w') (h1 : B ≤ B') (h2 : B ≤ R) : Code w' B a len := by
  refine ⟨h.1, h.2.imp id ?_⟩
  rintro ⟨x, rfl, hx, hc⟩
  refine ⟨x, rfl, hx, fun i hi => ?_⟩
  obtain ⟨b, hb⟩ := hc i hi
  exact ⟨b, (keeps_cell hk (x.add i) (by rw [addr_block]; omega) (by rw [addr_block]; omega)).trans hb⟩
theorem Code.mono {w : World} {B B' : Nat} {a : Option Addr} {len : Nat} (h : Code w B a len) (h1 : B ≤ B') : Code w B' a len :=
  ⟨h.1, h.2.imp id fun ⟨x, e, hx, hc⟩ => ⟨x, e, Nat.lt_of_lt_of_le hx h1, hc⟩⟩
/-- the drawer in block R: at most at place n. -/
def Rd (w : World) (R n : Nat) : Prop :=
  ∃ (a : Option Addr) (len cap p : Nat), p ≤ n ∧ w.heap[R]? = some (.cells #[.slice a len cap, .int .i64 (p : Int)] 102 (0, 0)) ∧ Code w R a len
theorem Rd.lt {w : World} {R n : Nat} (h : Rd w R n) : R < w.heap.size := by obtain ⟨_, _, _, _, _, hb, _⟩ := h; exact row_lt hb
theorem Rd.mono {w : World} {R n m : Nat} (h : Rd w R n) (h1 : n ≤ m) : Rd w R m := by obtain ⟨a, l, c, p, hp, r⟩ := h; exact ⟨a, l, c, p, by omega, r⟩
theorem Rd.below {w w' : World} {R n : Nat} (h : Rd w R n) (hb : Below w.heap.size w w') : Rd w' R n := by
  have hlt := h.lt
  obtain ⟨a, l, c, p, hp, hr, hc⟩ := h
  exact ⟨a, l, c, p, hp, (hb.block R hlt).trans hr, hc.keeps (R := w.heap.size) (Keeps.of_below hb) (by omega) (by omega)⟩
/-- what a pick leaves. -/
def Picked (w : World) (R n : Nat) (w' : World) : Prop := Rd w' R n ∧ Keeps w.heap.size R w w'
def Pick (k : Int) (R n : Nat) (w : World) (e : Ending) (w' : World) : Prop := ∃ v : Int, (0 ≤ v ∧ (v < k ∨ v = 0)) ∧ e = .returned (.int .i64 v) ∧ Picked w R (n + 1) w'
theorem xor_i64 (a b : Nat) (ha : a < 9223372036854775808) (hb : b < 9223372036854775808) : bits .xor .i64 (a : Int) (b : Int) = ((a ^^^ b : Nat) : Int) := by
  have hx : a ^^^ b < 2 ^ 63 := Nat.xor_lt_two_pow (by omega) (by omega)
  show IntKind.i64.wrap ((BitVec.ofInt 64 (a : Int) ^^^ BitVec.ofInt 64 (b : Int)).toNat : Int) = _
  rw [BitVec.toNat_xor, ofInt_i64' a ha, ofInt_i64' b hb, IntKind.wrap_i64]
  omega
theorem xor_bd (a b : Int) (ha : 0 ≤ a) (hb : 0 ≤ b) (ha1 : a < 9223372036854775808) (hb1 : b < 9223372036854775808) : 0 ≤ bits .xor .i64 a b := by
  obtain ⟨a, rfl⟩ := Int.eq_ofNat_of_zero_le ha
  obtain ⟨b, rfl⟩ := Int.eq_ofNat_of_zero_le hb
  rw [xor_i64 a b (by omega) (by omega)]
  omega
theorem picked_set {w : World} {R n p len cap : Nat} {a : Option Addr} (hp : p ≤ n) (hb : w.heap[R]? = some (.cells #[.slice a len cap, .int .i64 (p : Int)] 102 (0, 0))) (hc : Code w R a len) :
    Picked w R (n + 1) (w.setCell ⟨R, 1, none⟩ (.int .i64 ((p : Int) + 1))) := by
  have hk := set_keeps w.heap.size R w 1 (.int .i64 ((p : Int) + 1))
  refine ⟨⟨a, len, cap, p + 1, by omega, ?_, hc.keeps hk (Nat.le_of_lt (row_lt hb)) (Nat.le_refl _)⟩, hk⟩
  exact pair_set1 hb
theorem Picked.drewN {w w' : World} {R n : Nat} (h : Picked w R n w') (k : Nat) : Picked w R n (w'.drewN k) := by
  obtain ⟨⟨a, l, c, p, hp, hr, hc⟩, hk⟩ := h
  exact ⟨⟨a, l, c, p, hp, hr, hc⟩, hk.drewN k⟩

set_option maxHeartbeats 1000000 in
theorem pick_any (R n : Nat) (k : Int) (w : World) (h : Rd w R n) (hn : n ≤ 1000000) :
    Calls Tryd.prog 32 #[.pointer (some ⟨R, 0, none⟩), .int .i64 k] w (Pick k R n w) := by
  obtain ⟨a, len, cap, p, hp, hb, hc⟩ := h
  have hfin := picked_set hp hb hc
  have HF := Lib.hid hfin
  obtain ⟨hc0, hc1⟩ := cell_pair hb
  have hfz := row_free hb 1
  have hlen := hc.1
  unfold maxLen at hlen
  clear hfin
  by_cases h1 : k < 1
  · go_enter Tryd.func32, Tryd.ntmps32
    go_wp2
    go_ret
    exact ⟨0, ⟨by omega, .inr rfl⟩, rfl, HF.out⟩
  have h1' : 1 ≤ k := by omega
  by_cases h2 : len = 0
  · subst h2
    go_enter Tryd.func32, Tryd.ntmps32
    go_wp2
    go_ret
    exact ⟨0, ⟨by omega, .inr rfl⟩, rfl, HF.out⟩
  have hl0 : ((len : Int) == 0) = false := by simp; omega
  obtain ⟨x, rfl, hx, hcl⟩ := hc.2.resolve_left h2
  have hcl2 : ∀ i, i < len → ∃ b : UInt8, (w.setCell ⟨R, 1, none⟩ (.int .i64 ((p : Int) + 1))).cell? (x.add i) = some (.int .u8 (b.toNat : Int)) := fun i hi => by
    obtain ⟨b, hb'⟩ := hcl i hi
    refine ⟨b, (keeps_cell (set_keeps w.heap.size R w 1 _) (x.add i) ?_ ?_).trans hb'⟩
    · have := row_lt hb; rw [addr_block]; omega
    · rw [addr_block]; omega
  clear hcl
  by_cases h3 : p < len
  · obtain ⟨b, hbp⟩ := hcl2 p h3
    have hb256 := b.toNat_lt
    have hm : (b.toNat : Int) % k < k := Int.emod_lt_of_pos _ (by omega)
    have hm0 : 0 ≤ (b.toNat : Int) % k := Int.emod_nonneg _ (by omega)
    clear hcl2
    have HH := Lib.hid hb
    have HC := Lib.hid hc
    clear hb hc
    go_enter Tryd.func32, Tryd.ntmps32
    go_wp2
    go_ret
    exact ⟨_, ⟨hm0, .inl hm⟩, rfl, HF.out⟩
  · have hpl : 0 < len := by omega
    obtain ⟨b1, hb1⟩ := hcl2 (p % len) (Nat.mod_lt _ hpl)
    obtain ⟨b2, hb2⟩ := hcl2 ((p * 7 + 3) % len) (Nat.mod_lt _ hpl)
    have hb1l := b1.toNat_lt
    have hb2l := b2.toNat_lt
    have i1 : ((p : Int) % (len : Int)).toNat = p % len := by rw [← Int.natCast_emod]; rfl
    have i2 : (((p : Int) * 7 + 3) % (len : Int)).toNat = (p * 7 + 3) % len := by rw [show (p : Int) * 7 + 3 = ((p * 7 + 3 : Nat) : Int) by omega, ← Int.natCast_emod]; rfl
    have j1 : (p : Int) % (len : Int) < len := Int.emod_lt_of_pos _ (by omega)
    have j2 : ((p : Int) * 7 + 3) % (len : Int) < len := Int.emod_lt_of_pos _ (by omega)
    have j3 : 0 ≤ (p : Int) % (len : Int) := Int.emod_nonneg _ (by omega)
    have j4 : 0 ≤ ((p : Int) * 7 + 3) % (len : Int) := Int.emod_nonneg _ (by omega)
    have hq : 0 ≤ (p : Int) / (len : Int) := Int.ediv_nonneg (by omega) (by omega)
    have hq1 : (p : Int) / (len : Int) ≤ 1000000 := Int.le_trans (Int.ediv_le_self _ (by omega)) (by omega)
    clear hcl2
    have HH := Lib.hid hb
    have HC := Lib.hid hc
    clear hb hc
    go_enter Tryd.func32, Tryd.ntmps32
    go_wp2
    go_quiet (fail)
    have hv0 : 0 ≤ (b1.toNat : Int) * 131 + (b2.toNat : Int) * 1117 + (p : Int) * 29 + (p : Int) / (len : Int) * 53 := by omega
    have hv1 : (b1.toNat : Int) * 131 + (b2.toNat : Int) * 1117 + (p : Int) * 29 + (p : Int) / (len : Int) * 53 < 1000000000000 := by omega
    clear i1 i2 j1 j2 j3 j4
    generalize (b1.toNat : Int) * 131 + (b2.toNat : Int) * 1117 + (p : Int) * 29 + (p : Int) / (len : Int) * 53 = v at hv0 hv1 ⊢
    have hx0 : 0 ≤ bits .xor .i64 v (v / 64) := xor_bd v (v / 64) hv0 (by omega) (by omega) (by omega)
    have hm : bits .xor .i64 v (v / 64) % k < k := Int.emod_lt_of_pos _ (by omega)
    have hm0 : 0 ≤ bits .xor .i64 v (v / 64) % k := Int.emod_nonneg _ (by omega)
    go_wp2
    go_ret
    exact ⟨_, ⟨hm0, .inl hm⟩, rfl, HF.out.drewN _⟩
end Go.Proofs.YtfiiopchfmcjdabDoor

/- The specification's drawer: l1Open. -/
namespace Go.Proofs.YtfiiopchfmcjdabDoor
open Go.RowKit
theorem Picked.then {w w1 w2 : World} {R n m : Nat} (h : Picked w R n w1) (k : Picked w1 R m w2) : Picked w R m w2 := ⟨k.1, h.2.then h.2.size k.2⟩
theorem Picked.mono {w w1 : World} {R n m : Nat} (h : Picked w R n w1) (k : n ≤ m) : Picked w R m w1 := ⟨h.1.mono k, h.2⟩
theorem Picked.from {w0 w w1 : World} {R n : Nat} (hb : Below w0.heap.size w0 w) (h : Picked w R n w1) : Picked w0 R n w1 := ⟨h.1, (Keeps.of_below hb).then hb.size h.2⟩
theorem Picked.below {w w1 w2 : World} {R n : Nat} (h : Picked w R n w1) (hb : Below w1.heap.size w1 w2) : Picked w R n w2 := ⟨h.1.below hb, h.2.then h.2.size (Keeps.of_below hb)⟩
theorem Rd.self {w : World} {R n : Nat} (h : Rd w R n) : Picked w R n w := ⟨h, Keeps.refl _ _ _⟩
/-- a row that holds these. -/
def Lits (w : World) (g : Nat) (vs : List Value) : Prop := g < w.heap.size ∧ ∀ i v, vs[i]? = some v → w.cell? ⟨g, i, none⟩ = some v
theorem Lits.keeps {w w' : World} {g R : Nat} {vs : List Value} (h : Lits w g vs) (hk : Keeps w.heap.size R w w') (hg : g ≠ R) : Lits w' g vs :=
  ⟨Nat.lt_of_lt_of_le h.1 hk.size, fun i v hi => (keeps_cell hk ⟨g, i, none⟩ h.1 hg).trans (h.2 i v hi)⟩
theorem Lits.new (w : World) (vs : Array Value) (t : TypeId) (fr : Nat × Nat) : Lits (w.alloc (.cells vs t fr)) w.heap.size vs.toList := by
  refine ⟨by simp, fun i v hi => ?_⟩
  rw [cell_of_row _ _ _ vs t fr (heap_alloc_new w _)]
  simpa using hi
/-- some text of such, the drawer gone on. -/
def StrP (S : ByteArray → Prop) (R n : Nat) (w : World) (e : Ending) (w' : World) : Prop := ∃ u, S u ∧ e = .returned (.string u) ∧ Picked w R n w'
def IntP (S : Int → Prop) (R n : Nat) (w : World) (e : Ending) (w' : World) : Prop := ∃ v, S v ∧ e = .returned (.int .i64 v) ∧ Picked w R n w'

/-- the drawer opened. -/
def Opened (w : World) (e : Ending) (w' : World) : Prop := ∃ R, e = .returned (.pointer (some ⟨R, 0, none⟩)) ∧ w.heap.size ≤ R ∧ Rd w' R 0 ∧ Below w.heap.size w w'
theorem opened_new (w : World) (a : Option Addr) (len cap : Nat) (h : Code w w.heap.size a len) : Rd (w.alloc (.cells #[.slice a len cap, .int .i64 0] 102)) w.heap.size 0 :=
  ⟨a, len, cap, 0, Nat.le_refl _, heap_alloc_new w _, h.keeps (R := w.heap.size) (Keeps.of_below ((Below.refl _ w).alloc (Nat.le_refl _) _)) (Nat.le_refl _) (Nat.le_refl _)⟩
set_option maxHeartbeats 1000000 in
theorem l1Open_any (a : Option Addr) (len cap : Nat) (w : World) (h : Code w w.heap.size a len) (hcap : len ≤ cap) (hnil : a = none → len = 0) :
    Calls Tryd.prog 28 #[.slice a len cap] w (Opened w) := by
  have hlen := h.1
  unfold maxLen at hlen
  have hb : ∀ x, Below w.heap.size w (w.alloc x) := fun x => (Below.refl _ w).alloc (Nat.le_refl _) x
  by_cases h1 : 2000 < len
  · have hn2 := opened_new w a 2000 cap ⟨by decide, h.2.elim (fun e => absurd e (by omega)) (fun ⟨x, e, hx, hc⟩ => .inr ⟨x, e, hx, fun i hi => hc i (by omega)⟩)⟩
    have HN := Lib.hid hn2
    have HB := Lib.hid hb
    clear hn2 hb
    obtain ⟨x, rfl⟩ : ∃ x, a = some x := by
      cases a with
      | none => exact absurd (hnil rfl) (by omega)
      | some x => exact ⟨x, rfl⟩
    clear hnil
    go_enter Tryd.func28, Tryd.ntmps28
    go_wp2
    go_ret
    exact ⟨w.heap.size, rfl, Nat.le_refl _, HN.out, HB.out _⟩
  · have hn2 := opened_new w a len cap h
    have HN := Lib.hid hn2
    have HB := Lib.hid hb
    have HI := Lib.hid hnil
    clear hn2 hb hnil
    go_enter Tryd.func28, Tryd.ntmps28
    go_wp2
    go_ret
    exact ⟨w.heap.size, rfl, Nat.le_refl _, HN.out, HB.out _⟩
end Go.Proofs.YtfiiopchfmcjdabDoor

/- The specification's drawer: of. -/
namespace Go.Proofs.YtfiiopchfmcjdabDoor
open Go.RowKit
set_option maxHeartbeats 1000000 in
theorem of_any (R n g len cap : Nat) (S : ByteArray → Prop) (vs : List Value) (w : World) (h : Rd w R n) (hn : n ≤ 1000000) (hl : Lits w g vs) (hS : ∀ v ∈ vs, ∃ x, v = .string x ∧ S x) (hg : g ≠ R) (hlen : vs.length = len) (hp : 0 < len) (h1 : len ≤ 1000) :
    Calls Tryd.prog 61 #[.pointer (some ⟨R, 0, none⟩), .slice (some ⟨g, 0, none⟩) len cap] w (StrP S R (n + 1) w) := by
  have HL := Lib.hid hlen
  have HS := Lib.hid hS
  clear hlen hS
  go_enter Tryd.func61, Tryd.ntmps61
  go_wp2_with fail
  refine (pick_any R n _ _ h hn).mono ?_
  rintro e w1 ⟨v, ⟨hv0, hv1⟩, rfl, hpk⟩
  have hv : v < len := by omega
  obtain ⟨k, rfl⟩ := Int.eq_ofNat_of_zero_le hv0
  have hk : k < vs.length := by rw [HL.out]; omega
  obtain ⟨x, hx, hm⟩ := HS.out vs[k] (List.getElem_mem hk)
  have hc : w1.cell? ⟨g, k, none⟩ = some (.string x) := (hl.keeps hpk.2 hg).2 k _ (by rw [List.getElem?_eq_getElem hk, hx])
  clear hk hv1 hx
  go_wp2
  go_ret
  exact ⟨x, hm, rfl, hpk⟩
end Go.Proofs.YtfiiopchfmcjdabDoor

/- Plain facts: a string laid out as bytes in a block of its own; a bit set in a byte. No Go text. -/
namespace Go.Proofs.YtfiiopchfmcjdabDoor
open Go.RowKit

/-- a block that a conversion of a string has laid: it is not frozen up to its end. -/
def SRow (w : World) (g : Nat) (e : TypeId) (cs : Array Value) : Prop := w.heap[g]? = some (.cells cs e (cs.size, cs.size + 1))
theorem SRow.cell {w : World} {g : Nat} {e : TypeId} {cs : Array Value} (h : SRow w g e cs) (i : Nat) : w.cell? ⟨g, i, none⟩ = cs[i]? := cell_of_row w g i cs e _ h
theorem SRow.frozen {w : World} {g : Nat} {e : TypeId} {cs : Array Value} (h : SRow w g e cs) (i : Nat) (hi : i < cs.size) : w.frozen? ⟨g, i, none⟩ = false := by
  unfold SRow at h
  simp [World.frozen?, h]
  omega
theorem SRow.set {w : World} {g : Nat} {e : TypeId} {cs : Array Value} (h : SRow w g e cs) (i : Nat) (u : Value) : SRow (w.setCell ⟨g, i, none⟩ u) g e (cs.setIfInBounds i u) := by
  unfold SRow at h ⊢
  simp [World.setCell, Array.getElem?_modify, h]
theorem SRow.drew {w : World} {g : Nat} {e : TypeId} {cs : Array Value} (h : SRow w g e cs) : SRow w.drew g e cs := h
theorem SRow.below {B : Nat} {w w' : World} {g : Nat} {e : TypeId} {cs : Array Value} (h : SRow w g e cs) (hb : Below B w w') (hg : g < B) : SRow w' g e cs := (hb.block g hg).trans h

theorem bytesCells_take (w : World) (e : TypeId) (s : ByteArray) : (Lib.bytesCells w e s).toList.take s.size = Lib.byteCells s.data.toList := by
  have hs : s.data.size = s.size := rfl
  rw [Lib.bytesCells, Array.toList_append, List.take_append_of_le_length (by simp [hs]), List.take_of_length_le (by simp [hs])]
  simp [Lib.byteCells]
theorem below_bytesWorld (w : World) (e : TypeId) (s : ByteArray) : Below w.heap.size w (Lib.bytesWorld w e s) :=
  ⟨rfl, rfl, rfl, by rw [Lib.bytesWorld_size]; omega, fun k hk => Lib.bytesWorld_at_old w e s k hk⟩

theorem take_set (l : List Value) (n i : Nat) (v : Value) (h : i < n) : (l.set i v).take n = (l.take n).set i v := by
  apply List.ext_getElem?
  intro j
  by_cases hj : j < n
  · rw [List.getElem?_take_of_lt hj, List.getElem?_set, List.getElem?_set, List.getElem?_take_of_lt hj, List.length_take]
    by_cases hij : i = j
    · subst hij
      by_cases hl : i < l.length
      · simp [hl, show i < min n l.length by omega]
      · simp [hl, show ¬ i < min n l.length by omega]
    · simp [hij]
  · rw [List.getElem?_eq_none (by simp; omega), List.getElem?_eq_none (by simp; omega)]
theorem byteCells_set (l : List UInt8) (i : Nat) (b : UInt8) : (Lib.byteCells l).set i (.int .u8 (b.toNat : Int)) = Lib.byteCells (l.set i b) := by simp [Lib.byteCells, List.map_set]

theorem srow_size {w : World} {g i : Nat} {e : TypeId} {cs : Array Value} {s : ByteArray} (_h : SRow w g e cs) (ht : cs.toList.take s.size = Lib.byteCells s.data.toList) (hi : i < s.size) : i < cs.size := by
  have h := congrArg List.length ht
  rw [List.length_take, Lib.byteCells_length] at h
  simp at h
  omega
theorem srow_cell {w : World} {g i : Nat} {e : TypeId} {cs : Array Value} {s : ByteArray} (h : SRow w g e cs) (ht : cs.toList.take s.size = Lib.byteCells s.data.toList) (hi : i < s.size) : w.cell? ⟨g, i, none⟩ = some (.int .u8 ((s.data.toList[i]?.getD 0).toNat : Int)) := by
  rw [h.cell]
  have h := congrArg (fun x : List Value => x[i]?) ht
  simp only [List.getElem?_take_of_lt hi, Array.getElem?_toList] at h
  rw [h]
  simp [Lib.byteCells, hi]
/-- []byte(s), s a string: its bytes lie in a new block. -/
theorem wpList_convert_bytes {P : Program} {w : World} {ops : Array Oper} {rest : List Oper} {o : Oper} {a : Act} {Q : Exit → Act → World → Prop} (hgd : o.guard = none) (src dst e : TypeId) (x : Operand) (ho : o.op = .convert src dst x) (s : ByteArray)
    (hx : a.eval x = .string s) {u : TypeDesc} (hs : P.underlying src = some u) (hd : P.underlying dst = some (.slice e)) (he : P.underlying e = some (.int .u8))
    (h : ∀ c w' cs, Hid (SRow w' w.heap.size e cs) → Hid (cs.toList.take s.size = Lib.byteCells s.data.toList) → Hid (Below w.heap.size w w') → Hid (w'.heap.size = w.heap.size + 1) → wpList P ops Q rest (a.put o.dst (.slice (some ⟨w.heap.size, 0, none⟩) s.size c)) w') :
    wpList P ops Q (o :: rest) a w := by
  refine wpList_plain hgd fun _ hK => ?_
  have hr := Lib.run_convert_string_bytes (P := P) w src dst e s hs hd he
  unfold Oper.wp execOp
  simp only [ho, hx, Sem.run_bind, hr, Result.andThen_ok, Sem.run_pure]
  exact hK _ _ (h _ _ _ (Lib.bytesWorld_at_new w e s) (bytesCells_take w e s) (below_bytesWorld w e s) (Lib.bytesWorld_size w e s))

/-- a byte with a bit that is 0 or 1. -/
def newB (b : UInt8) (r bit : Nat) : UInt8 := UInt8.ofNat ((b.toNat &&& (255 - 2 ^ r)) ||| (bit * 2 ^ r))
/-- bytes with a bit that is 0 or 1. -/
def setBit (l : List UInt8) (i bit : Nat) : List UInt8 := l.set (i / 8) (newB (l[i / 8]?.getD 0) (i % 8) bit)
theorem sub_lt256 (r : Nat) : 255 - 2 ^ r < 256 := Nat.lt_of_le_of_lt (Nat.sub_le _ _) (by decide)
theorem pow_lt256 (r : Nat) (hr : r < 8) : 2 ^ r ≤ 128 := Nat.pow_le_pow_right (by decide) (show r ≤ 7 by omega)
theorem newB_toNat (b : UInt8) (r bit : Nat) (hr : r < 8) (hb : bit ≤ 1) : (newB b r bit).toNat = ((b.toNat &&& (255 - 2 ^ r)) ||| (bit * 2 ^ r)) := by
  have h := pow_lt256 r hr
  have h1 : b.toNat &&& (255 - 2 ^ r) < 2 ^ 8 := Nat.and_lt_two_pow _ (sub_lt256 r)
  have h2 : bit * 2 ^ r < 2 ^ 8 := by
    have : bit = 0 ∨ bit = 1 := by omega
    rcases this with rfl | rfl
    · simp
    · rw [Nat.one_mul]; exact Nat.lt_of_le_of_lt h (by decide)
  have h3 := Nat.or_lt_two_pow h1 h2
  rw [newB, UInt8.toNat_ofNat', Nat.mod_eq_of_lt h3]
theorem pow_mod (r : Nat) (hr : r < 8) : (2 : Int) ^ r % 256 = ((2 ^ r : Nat) : Int) := by
  have h := pow_lt256 r hr
  rw [show (2 : Int) ^ r = ((2 ^ r : Nat) : Int) by rw [Int.natCast_pow]; rfl]
  generalize 2 ^ r = m at h ⊢
  omega
theorem newB_0 (b : UInt8) (r : Nat) (hr : r < 8) : bits .or .u8 (bits .andNot .u8 (b.toNat : Int) ((2 : Int) ^ r % 256)) 0 = ((newB b r 0).toNat : Int) := by
  have h := pow_lt256 r hr
  have h1 : b.toNat &&& (255 - 2 ^ r) < 2 ^ 8 := Nat.and_lt_two_pow _ (sub_lt256 r)
  rw [pow_mod r hr, u8_andNot_nat _ _ b.toNat_lt (Nat.lt_of_le_of_lt h (by decide)), show (0 : Int) = ((0 : Nat) : Int) from rfl, u8_or_nat _ _ h1 (by decide), newB_toNat b r 0 hr (by omega)]
  simp
theorem newB_1 (b : UInt8) (r : Nat) (hr : r < 8) : bits .or .u8 (bits .andNot .u8 (b.toNat : Int) ((2 : Int) ^ r % 256)) ((2 : Int) ^ r % 256) = ((newB b r 1).toNat : Int) := by
  have h := pow_lt256 r hr
  have h1 : b.toNat &&& (255 - 2 ^ r) < 2 ^ 8 := Nat.and_lt_two_pow _ (sub_lt256 r)
  rw [pow_mod r hr, u8_andNot_nat _ _ b.toNat_lt (Nat.lt_of_le_of_lt h (by decide)), u8_or_nat _ _ h1 (Nat.lt_of_le_of_lt h (by decide)), newB_toNat b r 1 hr (by omega)]
  simp
theorem wrap_pow (r : Nat) (hr : r < 8) : wrap64 ((2 : Int) ^ r) = (2 : Int) ^ r := by
  have h := pow_lt256 r hr
  rw [show (2 : Int) ^ r = ((2 ^ r : Nat) : Int) by rw [Int.natCast_pow]; rfl]
  generalize 2 ^ r = m at h ⊢
  exact wrap64_small m (by omega)
end Go.Proofs.YtfiiopchfmcjdabDoor

/- The specification's drawer: l13Cut. -/
namespace Go.Proofs.YtfiiopchfmcjdabDoor
open Go.RowKit
theorem conv1f (c : Nat) (hc : c < 256) (W : World) : (convert 22 9 (.slice (some ⟨W.heap.size, 0, none⟩) 1 1)).run Tryd.prog (W.alloc (.cells #[.int .u8 (c : Int)] 5)) = .ok (.string ⟨#[UInt8.ofNat c]⟩) (W.alloc (.cells #[.int .u8 (c : Int)] 5)) := by
  refine convert_wd _ _ _ 5 W.heap.size 1 1 [UInt8.ofNat c] rfl Tryd.underlying22 Tryd.underlying5 Tryd.underlying9 (heap_alloc_new W _) ?_
  have : (UInt8.ofNat c).toNat = c := by rw [UInt8.toNat_ofNat']; omega
  simp [Lib.byteCells]; omega
theorem Rd.drewd {w : World} {R n : Nat} (h : Rd w R n) : Rd w.drew R n := (h.self.drewN 1).1
set_option maxRecDepth 100000 in
set_option maxHeartbeats 4000000 in
theorem l13Cut_c (R n : Nat) (s : ByteArray) (w : World) (h : Rd w R n) (hn : n ≤ 900000) (hs : s.size ≤ 100000) :
    Calls Tryd.prog 33 #[.pointer (some ⟨R, 0, none⟩), .string s] w (StrP (fun u => u.size ≤ s.size + 1) R (n + 3) w) := by
  go_enter Tryd.func33, Tryd.ntmps33
  go_wp2_with fail
  refine (pick_any R n _ _ h (by omega)).mono ?_
  rintro e w1 ⟨v, ⟨hv0, hv1⟩, rfl, hp1⟩
  obtain ⟨k, rfl⟩ := Int.eq_ofNat_of_zero_le hv0
  have hk : k ≤ s.size := by omega
  clear hv1 hv0
  go_wp2_with fail
  refine (pick_any R (n + 1) _ _ hp1.1 (by omega)).mono ?_
  rintro e w2 ⟨c, ⟨hc0, hc1⟩, rfl, hp2⟩
  have hp12 := hp1.then hp2
  have he1 : (s.extract 0 k).size = k := by simp; omega
  have he2 : (s.extract k s.size).size = s.size - k := by simp
  have HP := Lib.hid hp12
  have hR2 := hp12.1.lt
  have HR2 := Lib.hid hR2
  clear hp1 hp2 hp12 hc1 h
  by_cases h0 : c = 0
  · subst h0
    have HA := Lib.hid he1
    have HB := Lib.hid he2
    clear he1 he2
    go_wp2_with fail
    go_region_with (go_at_call 61; refine (of_any R (n + 2) w2.heap.size 4 4 (fun u => u.size ≤ 1) _ _ (by exact (HP.out.1.below ((Below.refl _ _).alloc (Nat.le_refl _) _)).drewd) (by omega) (by exact Lits.new w2.drew _ _ _) (by
      intro v hv
      simp at hv
      rcases hv with rfl | rfl | rfl | rfl
      all_goals exact ⟨_, rfl, by decide⟩) (by have := HR2.out; omega) (by simp) (by omega) (by omega)).mono ?_; rintro e w3 ⟨x, hx, rfl, hp3⟩; have hx1 : x.size ≤ 1 := hx; have f1 : ¬ 9223372036854775807 < (s.extract 0 k).size + x.size := (by rw [HA.out]; omega); have f2 : ¬ 9223372036854775807 < (s.extract 0 k ++ x).size + (s.extract k s.size).size := (by rw [ByteArray.size_append, HA.out, HB.out]; omega); have HP3 := Lib.hid hp3; clear hp3)
    all_goals
      go_wp2
      go_ret
      exact ⟨_, by show ByteArray.size _ ≤ s.size + 1; rw [ByteArray.size_append, ByteArray.size_append, HA.out, HB.out]; omega, rfl, (((HP.out.below ((Below.refl _ w2).alloc (Nat.le_refl _) _)).drewN 1).then HP3.out).mono (by omega)⟩
  have b0 : (c == 0) = false := by simp; omega
  by_cases h1 : c = 1
  · subst h1
    have HA := Lib.hid he1
    clear he1 he2
    go_wp2
    go_ret
    exact ⟨_, by show ByteArray.size _ ≤ s.size + 1; rw [HA.out]; omega, rfl, HP.out.mono (by omega)⟩
  have b1 : (c == 1) = false := by simp; omega
  by_cases h2 : c = 2
  · subst h2
    by_cases hks : k < s.size
    · have HA := Lib.hid he1
      have he3 : (s.extract (k + 1) s.size).size = s.size - (k + 1) := by simp
      have HB := Lib.hid he3
      clear he1 he2 he3
      have hkw : IntKind.i64.wrap ((k : Int) + 1) = (k : Int) + 1 := by rw [IntKind.wrap_i64]; omega
      go_wp2_with fail
      go_region_with (go_at_call 32; refine (pick_any R (n + 2) _ _ (by exact HP.out.1.drewd) (by omega)).mono ?_; rintro e w3 ⟨x, ⟨hx0, hx1⟩, rfl, hp3⟩; obtain ⟨b, rfl⟩ := Int.eq_ofNat_of_zero_le hx0; have hb : b < 256 := (by omega); have hcv := conv1f b hb w3; have hwb : IntKind.u8.wrap (b : Int) = (b : Int) := (by rw [IntKind.wrap_u8]; omega); have hone : (⟨#[UInt8.ofNat b]⟩ : ByteArray).size = 1 := rfl; have f1 : ¬ 9223372036854775807 < (s.extract 0 k).size + (⟨#[UInt8.ofNat b]⟩ : ByteArray).size := (by rw [HA.out, hone]; omega); have f2 : ¬ 9223372036854775807 < (s.extract 0 k ++ ⟨#[UInt8.ofNat b]⟩).size + (s.extract (k + 1) s.size).size := (by rw [ByteArray.size_append, HA.out, HB.out, hone]; omega); have HP3 := Lib.hid hp3; have HOne := Lib.hid hone; clear hp3 hone hx1)
      all_goals
        go_wp2
        go_ret
        exact ⟨_, by show ByteArray.size _ ≤ s.size + 1; rw [ByteArray.size_append, ByteArray.size_append, HA.out, HB.out, HOne.out]; omega, rfl, (((HP.out.drewN 1).then HP3.out).below ((Below.refl _ w3).alloc (Nat.le_refl _) _)).mono (by omega)⟩
    · obtain rfl : k = s.size := by omega
      clear he1 he2
      go_wp2
      go_ret
      exact ⟨_, Nat.le_succ _, rfl, HP.out.mono (by omega)⟩
  have b2 : (c == 2) = false := by simp; omega
  clear he1 he2
  go_wp2
  go_ret
  exact ⟨_, Nat.le_succ _, rfl, HP.out.mono (by omega)⟩
end Go.Proofs.YtfiiopchfmcjdabDoor
