/- The laws' helpers on lists of lists of texts, and on pipes; bounds of what PipeFeed tells. -/
import Derived.Test.YtliiffpegfkpbabDoorPipeFeedS
import Derived.Test.YtliiffpegfkpbabDoorStrsEq
import Derived.Test.YtliiffpegfkpbabDoorMark
import Derived.Deep.RegionWith
namespace Go.Proofs.YtliiffpegfkpbabDoor
open Go.RowKit
theorem feedN_bounds : ∀ (k : Nat) (s : ByteArray), s.size ≤ 6000 → 8 * (feedN k s).2.2.length ≤ s.size ∧ (∀ l ∈ (feedN k s).2.2, l.length ≤ 6 ∧ ∀ x ∈ l, x.size ≤ 6000) ∧ (feedN k s).2.1.size ≤ s.size := by
  intro k
  induction k with
  | zero => intro s _; exact ⟨by simp [feedN], by intro l h; simp [feedN] at h, by simp [feedN]⟩
  | succ k ih =>
    intro s hs
    rw [feedN]
    by_cases h1 : (fg s).1 < 0
    · rw [if_pos h1]
      exact ⟨by simp, by intro l h; simp at h, Nat.zero_le _⟩
    · rw [if_neg h1]
      by_cases h2 : (fg s).1 = 0
      · rw [if_pos h2]
        exact ⟨by simp, by intro l h; simp at h, Nat.le_refl _⟩
      · rw [if_neg h2]
        obtain ⟨n, hn, h8, hle⟩ := fg_whole (s := s) (by omega)
        have hc : (s.extract (fg s).1.toNat s.size).size = s.size - n := by rw [hn]; exact cut_size s n hle
        obtain ⟨b1, b2, b3⟩ := ih (s.extract (fg s).1.toNat s.size) (by omega)
        refine ⟨?_, ?_, ?_⟩
        · simp only [List.length_cons]; omega
        · intro l h
          rcases List.mem_cons.1 h with rfl | h
          · exact ⟨fg_length s, fun x hx => by have := fg_size s x hx; omega⟩
          · exact b2 l h
        · simp only; omega
theorem pipeF_bounds (s : ByteArray) (b : Bool) (t : ByteArray) : (pipeF s b t).2.2.length ≤ 750 ∧ ∀ l ∈ (pipeF s b t).2.2, l.length ≤ 6 ∧ ∀ x ∈ l, x.size ≤ 6000 := by
  unfold pipeF
  split
  · exact ⟨by simp, by intro l h; simp at h⟩
  · rename_i h
    split
    · exact ⟨by simp, by intro l h; simp at h⟩
    · have hb : pipeB s b = true := by
        cases hb : pipeB s b
        · exact absurd (.inl hb) h
        · rfl
      have h1 := pipe_small hb
      have h2 : ¬ 4000 < t.size := fun h3 => h (.inr h3)
      have hsz : (s ++ t).size ≤ 5800 := by simp; omega
      obtain ⟨b1, b2, _⟩ := feedN_bounds ((s ++ t).size + 1) (s ++ t) (by omega)
      exact ⟨by unfold feedB; omega, b2⟩
set_option maxHeartbeats 1000000 in
theorem eqPipe_same (s : ByteArray) (b : Bool) (w : World) :
    Calls Tryd.prog 22 #[pipV s b, pipV s b] w fun e w' => e = .returned (.bool true) ∧ Below w.heap.size w w' := by
  unfold pipV
  go_enter Tryd.func22, Tryd.ntmps22
  go_wp2
  go_ret
  exact ⟨rfl, ((Below.refl _ _).alloc (Nat.le_refl _) _).alloc (by simp) _⟩
set_option maxHeartbeats 4000000 in
set_option maxRecDepth 100000 in
theorem eqStringSS_same (v u : Value) (p q : List Inn) (w : World) (h : RS w v p) (h' : RS w u q) (hpq : p.map (·.2) = q.map (·.2)) (hn : p.length ≤ 1048576) (hl : ∀ r ∈ p, r.2.length ≤ 1048576) :
    Calls Tryd.prog 23 #[v, u] w fun e w' => e = .returned (.bool true) ∧ Below w.heap.size w w' := by
  have hlen : q.length = p.length := by
    have := congrArg List.length hpq
    simpa using this.symm
  obtain ⟨A, c, rfl, hA, hAi⟩ := h
  obtain ⟨B, d, rfl, hB, hBi⟩ := h'
  rw [hlen]
  have HA := Lib.hid hA
  have HB := Lib.hid hB
  have HAI := Lib.hid hAi
  have HBI := Lib.hid hBi
  have HPQ := Lib.hid hpq
  have HLN := Lib.hid hlen
  have HL := Lib.hid hl
  clear hA hB hAi hBi hpq hlen hl
  go_enter Tryd.func23, Tryd.ntmps23
  go_wp2
  go_loopw [5] (fun i wr => ∃ k : Nat, i = .int .i64 k ∧ k ≤ p.length ∧ Hid (Below w.heap.size w wr)) (fun i _ => p.length - (intOf i).toNat)
  case atStart => exact ⟨0, rfl, by omega, Lib.hid (Below.refl _ _)⟩
  case round =>
    obtain ⟨k, rfl, hk, HBW⟩ := hrel
    by_cases hlt : k < p.length
    · have hltq : k < q.length := by rw [HLN.out]; exact hlt
      obtain ⟨x, rfl, hx1, hxc⟩ := (HA.out.below HBW.out).resolve_left (by intro h0; rw [List.map_eq_nil_iff] at h0; rw [h0] at hlt; exact absurd hlt (Nat.not_lt_zero _))
      obtain ⟨y, rfl, hy1, hyc⟩ := (HB.out.below HBW.out).resolve_left (by intro h0; rw [List.map_eq_nil_iff] at h0; rw [h0] at hltq; exact absurd hltq (Nat.not_lt_zero _))
      have hck := hxc k (by simpa using hlt)
      have hdk := hyc k (by simpa using hltq)
      obtain ⟨A1, c1, e1, s1⟩ := HAI.out p[k] (List.getElem_mem hlt)
      obtain ⟨B1, d1, e2, s2⟩ := HBI.out q[k] (List.getElem_mem hltq)
      have heq : q[k].2 = p[k].2 := by
        have h1 : (p.map (·.2))[k]? = (q.map (·.2))[k]? := by rw [HPQ.out]
        simpa [hlt, hltq] using h1.symm
      have hlk := HL.out p[k] (List.getElem_mem hlt)
      rw [heq] at e2 s2
      rw [List.getElem_map, e1] at hck
      rw [List.getElem_map, e2] at hdk
      have hd1 : Below wr.heap.size wr wr.drew := ⟨rfl, rfl, rfl, Nat.le_refl _, fun _ _ => rfl⟩
      have HP := Lib.hid (eqStringS_same A1 B1 c1 d1 p[k].2 wr.drew ((s1.below HBW.out).below hd1) ((s2.below HBW.out).below hd1) hlk)
      generalize p[k].2.length = ln at hck hdk HP
      have hk2 : (k : Int) < (p.length : Int) := by omega
      have hs := HBW.out.size
      clear hxc hyc e1 e2 s1 s2 heq hlk
      go_wp2
      go_region_with (go_at_call 46; refine HP.out.mono ?_; rintro e w2 ⟨rfl, hb2⟩)
      all_goals
        have HB2 := Lib.hid (HBW.out.trans ((show Below w.heap.size wr wr.drew from ⟨rfl, rfl, rfl, Nat.le_refl _, fun _ _ => rfl⟩).trans (hb2.mono (by simpa using hs))))
        clear hb2
        go_wp2
        go_roundw
        case rel => exact ⟨k + 1, by go_num, by omega, HB2⟩
        case measure => simp [intOf]; omega
    · obtain rfl : k = p.length := by omega
      go_wp2
      go_ret
      exact ⟨rfl, HBW.out⟩
end Go.Proofs.YtliiffpegfkpbabDoor
