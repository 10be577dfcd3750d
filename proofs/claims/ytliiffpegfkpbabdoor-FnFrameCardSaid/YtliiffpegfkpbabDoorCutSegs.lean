/- impl.cutSegments: segments cut out of a text. -/
import Derived.Test.YtliiffpegfkpbabDoorFrameSizes
namespace Go.Proofs.YtliiffpegfkpbabDoor
open Go.RowKit
/-- a slice value that reads as these cells, one an element. -/
def Ones (w : World) (A : Option Addr) (xs : List Value) : Prop :=
  xs = [] ∨ ∃ a : Addr, A = some a ∧ a.block < w.heap.size ∧ ∀ i (h : i < xs.length), w.cell? (a.add i) = some xs[i]
theorem Ones.below {w w' : World} {A : Option Addr} {xs : List Value} (h : Ones w A xs) (hb : Below w.heap.size w w') : Ones w' A xs := by
  rcases h with h0 | ⟨a, ha, hlt, hc⟩
  · exact .inl h0
  · refine .inr ⟨a, ha, Nat.lt_of_lt_of_le hlt hb.size, fun i hi => ?_⟩
    exact (hb.cell (p := a.add i) (by rw [add_block]; exact hlt)).trans (hc i hi)
theorem Ones.own {w : World} {B e n cap : Nat} {A : Option Addr} {xs : List Value} (h : w.ownsRow B e 1 (.slice A n cap) n xs) : Ones w A xs := by
  rcases h.2 with ⟨_, h0⟩ | ⟨g, cap, _, he, _⟩
  · exact .inl (List.eq_nil_of_length_eq_zero (by rw [h.1, h0]))
  · cases he
    refine .inr ⟨_, rfl, (h.lt g rfl).2, fun i hi => ?_⟩
    exact h.cells rfl i _ (by simp [List.getElem?_eq_getElem hi])
/-- what cutSegments answers, if the text is long enough. -/
def CutYes (s : ByteArray) (a : Nat) (zs : List Nat) (w : World) (e : Ending) (w' : World) : Prop :=
  ∃ v, e = .returned (.tuple #[v, .int .i64 ((a + 8 * zs.sum : Nat) : Int)]) ∧ w'.ownsRow w.heap.size 9 1 v zs.length ((cutB s a zs).map Value.string) ∧ Below w.heap.size w w'
def CutNo (w : World) (e : Ending) (w' : World) : Prop := e = .returned (.tuple #[.slice none 0 0, .int .i64 0]) ∧ Below w.heap.size w w'
theorem sum_take_le (zs : List Nat) (k : Nat) : (zs.take k).sum ≤ zs.sum := by
  conv => rhs; rw [← List.take_append_drop k zs]
  rw [List.sum_append]; omega
theorem sum_take_succ (zs : List Nat) (k : Nat) (h : k < zs.length) : (zs.take (k + 1)).sum = (zs.take k).sum + zs[k] := by
  rw [List.take_succ_eq_append_getElem h, List.sum_append]; simp
theorem cutB_take (s : ByteArray) (a : Nat) (zs : List Nat) (k : Nat) (h : k < zs.length) : cutB s a (zs.take (k + 1)) = cutB s a (zs.take k) ++ [s.extract (a + 8 * (zs.take k).sum) (a + 8 * (zs.take k).sum + 8 * zs[k])] := by
  rw [List.take_succ_eq_append_getElem h, cutB_snoc]
set_option maxHeartbeats 2000000 in
theorem cutSegments_any (s : ByteArray) (a : Nat) (A : Option Addr) (cap : Nat) (zs : List Nat) (w : World) (hs : s.size ≤ 1099511627776) (ha : a ≤ s.size) (hn : zs.length ≤ 6) (hz : zs.sum ≤ 200) (h : Ones w A (szCells zs)) :
    Calls Tryd.prog 41 #[.string s, .int .i64 a, .slice A zs.length cap] w (fun e w' => if s.size < a + 8 * zs.sum then CutNo w e w' else CutYes s a zs w e w') := by
  have hpost : ∃ P : Ending → World → Prop, P = (fun e w' => if s.size < a + 8 * zs.sum then CutNo w e w' else CutYes s a zs w e w') := ⟨_, rfl⟩
  obtain ⟨P, hP⟩ := hpost
  rw [← hP]
  have HP := Lib.hid hP
  have H := Lib.hid h
  obtain ⟨i0, hi, hz0, hz1, hz2⟩ := info_parts infoStr
  clear h hP
  go_enter Tryd.func41, Tryd.ntmps41
  go_wp2_with fail
  go_loopw [1, 8, 13] (fun at_ v i wr => ∃ k : Nat, k ≤ zs.length ∧ i = .int .i64 k ∧ at_ = .int .i64 ((a + 8 * (zs.take k).sum : Nat) : Int) ∧ a + 8 * (zs.take k).sum ≤ s.size ∧ Hid (wr.ownsRow w.heap.size 9 1 v k ((cutB s a (zs.take k)).map Value.string)) ∧ Hid (Below w.heap.size w wr)) (fun _ _ i _ => zs.length - (intOf i).toNat)
  case atStart => exact ⟨0, by omega, rfl, by simp, by simpa using ha, Lib.hid (World.ownsRow_nil _ _ _ _), Below.refl _ _⟩
  case round =>
    obtain ⟨k, hk, rfl, rfl, hat, HO, HB⟩ := hrel
    obtain ⟨A2, cp, rfl⟩ := own_shape HO.out
    by_cases hk1 : k < zs.length
    · obtain ⟨ad, rfl, _, hc⟩ := (H.out.below HB.out).resolve_left (by intro h; have := szCells_length zs; rw [h] at this; simp at this; omega)
      have hck := hc k (by rw [szCells_length]; exact hk1)
      have he : (szCells zs)[k]'(by rw [szCells_length]; exact hk1) = .int .i64 ((zs[k] : Int) * 8) := by simp [szCells]
      rw [he] at hck
      have hs1 := sum_take_succ zs k hk1
      have hs2 := sum_take_le zs (k + 1)
      have hs3 := sum_take_le zs k
      have hct := cutB_take s a zs k hk1
      have HCT := Lib.hid hct
      have HS1 := Lib.hid hs1
      generalize hz' : zs[k] = z at hck hs1 HCT HS1
      generalize (zs.take k).sum = T at hs1 hs2 hs3 hat HO HCT HS1 ⊢
      have hzl : z ≤ 200 := by omega
      have HS2 := Lib.hid hs2
      clear hc hct hs1 hs2 he
      by_cases hlt : s.size < a + 8 * T + 8 * z
      · have hd : ((s.size : Nat) : Int) < (a : Int) + 8 * (T : Int) + (z : Int) * 8 := by omega
        go_wp2
        rw [HP.out]
        show if s.size < a + 8 * zs.sum then _ else _
        rw [if_pos (by have := HS1.out; have := HS2.out; omega)]
        exact ⟨rfl, HB.out⟩
      · have hd : ¬ ((s.size : Nat) : Int) < (a : Int) + 8 * (T : Int) + (z : Int) * 8 := by omega
        have hcutE : s.extract (a + 8 * T) (a + 8 * T + 8 * z) = s.extract (a + 8 * T) (a + 8 * T + z * 8) := by rw [Nat.mul_comm 8 z]
        rw [hcutE] at HCT
        clear hcutE
        have g1 : (0 : Int) ≤ (a : Int) + 8 * (T : Int) := by omega
        have hsz1 := HB.out.size
        go_wp2_with (at_builtin; go_must (refine wpList_append_own _ rfl (.tmp 23) (.tmp 30) 23 rfl w.heap.size 9 i0 (.string ByteArray.empty) 1 16 Tryd.underlying23 hi hz0 hz1 hz2 rfl (by decide) _ _ _ rfl (HO.out.alloc _) ⟨wr.heap.size, 0, none⟩ 1 1 [.string (s.extract (a + 8 * T) (a + 8 * T + z * 8))] rfl rfl (cell_one_new _ _ _) (by simp [Value.oneCell']) (by unfold maxLen; omega) (by omega) (by simp <;> omega) ?_); intro v' wn hown' hgrow _)
        have HON := Lib.hid (show wn.ownsRow w.heap.size 9 1 v' (k + 1) ((cutB s a (zs.take (k + 1))).map Value.string) by rw [HCT.out, List.map_append]; exact hown')
        have HBN := Lib.hid (below_append HB.out hsz1 HO.out hgrow)
        clear hgrow hown'
        go_wp2
        go_roundw
        case rel => exact ⟨k + 1, by omega, by go_num, by rw [HS1.out]; go_num, by rw [HS1.out]; omega, HON, HBN⟩
        case measure => simp [intOf]; omega
    · obtain rfl : k = zs.length := by omega
      go_wp2
      rw [HP.out]
      show if s.size < a + 8 * zs.sum then _ else _
      rw [List.take_length] at hat HO ⊢
      rw [if_neg (by omega)]
      exact ⟨_, by simp, HO.out, HB.out⟩
end Go.Proofs.YtliiffpegfkpbabDoor
