/- impl.frameSizes and impl.cutSegments. -/
import Derived.Test.YtliiffpegfkpbabDoorGetNum
import Derived.Test.YtliiffpegfkpbabDoorTrimZ
import Derived.Test.YtliiffpegfkpbabDoorStrsB
import Derived.Maps.AppendAt
namespace Go.Proofs.YtliiffpegfkpbabDoor
open Go.RowKit
theorem infoInt : (Tryd.prog.info? 3).map (fun i => (i.zero, i.size, i.bytes)) = some (some (.int .i64 0), 1, 8) := by kernel_rfl
/-- sizes of segments, in bytes. -/
def szCells (zs : List Nat) : List Value := zs.map fun z : Nat => .int .i64 ((z : Int) * 8)
theorem szCells_snoc (zs : List Nat) (z : Nat) : szCells (zs ++ [z]) = szCells zs ++ [.int .i64 ((z : Int) * 8)] := by simp [szCells]
theorem szCells_length (zs : List Nat) : (szCells zs).length = zs.length := by simp [szCells]
theorem own_shape {w : World} {B e n : Nat} {v : Value} {xs : List Value} (h : w.ownsRow B e 1 v n xs) : ∃ A cap, v = .slice A n cap := by
  rcases h.2 with ⟨rfl, rfl⟩ | ⟨g, cap, _, rfl, _⟩
  · exact ⟨none, 0, rfl⟩
  · exact ⟨_, cap, rfl⟩
/-- what frameSizes answers. -/
def FSz (h : ByteArray) (n : Nat) (w : World) (e : Ending) (w' : World) : Prop :=
  ∃ v, e = .returned (.tuple #[v, .bool (fgZ h.data.toList n && decide ((szs h.data.toList n).sum ≤ 200))]) ∧ w'.ownsRow w.heap.size 3 1 v n (szCells (szs h.data.toList n)) ∧ Below w.heap.size w w'
theorem cat_nil_isEmpty (l : List UInt8) : (⟨l.toArray⟩ : ByteArray).toList.isEmpty = l.isEmpty := by rw [ByteArray.toList_eq]
set_option maxHeartbeats 2000000 in
theorem frameSizes_any (h : ByteArray) (n : Nat) (w : World) (hn1 : 1 ≤ n) (hn : n ≤ 6) (hs : h.size = fgHead n) :
    Calls Tryd.prog 40 #[.string h, .int .i64 n] w (FSz h n w) := by
  have hs2 := hs
  unfold fgHead at hs2
  have hsm : h.size ≤ 32 := by omega
  have hs4 : 4 * n + 4 ≤ h.size := by omega
  have hZ : fgZ h.data.toList n = (h.data.toList.drop (4 * (n + 1))).all (· == 0) := by
    have e : h.data.toList.length = h.size := rfl
    rw [fgZ, List.take_of_length_le (by omega)]
  have HZ := Lib.hid hZ
  have HS := Lib.hid hs
  obtain ⟨i0, hi, hz0, hz1, hz2⟩ := info_parts infoInt
  clear hs hs2 hZ
  go_enter Tryd.func40, Tryd.ntmps40
  go_wp2_with fail
  go_loopw [6, 7, 12] (fun v t i wr => ∃ k : Nat, k ≤ n ∧ i = .int .i64 k ∧ t = .int .i64 ((szs h.data.toList k).sum * 8 : Nat) ∧ Hid (wr.ownsRow w.heap.size 3 1 v k (szCells (szs h.data.toList k))) ∧ Hid (Below w.heap.size w wr)) (fun _ _ i _ => n - (intOf i).toNat)
  case atStart => exact ⟨0, by omega, rfl, rfl, Lib.hid (World.ownsRow_nil _ _ _ _), Below.refl _ _⟩
  case round =>
    obtain ⟨k, hk, rfl, rfl, HO, HB⟩ := hrel
    obtain ⟨A, cp, rfl⟩ := own_shape HO.out
    have hsl := szs_sum_lt h.data.toList k
    by_cases hk1 : k < n
    · have hg := gN_lt h.data.toList (k + 1)
      have hstep := szs_succ h.data.toList k
      have hsum := szs_sum_succ h.data.toList k
      have HSt := Lib.hid hstep
      have HSu := Lib.hid hsum
      generalize (szs h.data.toList k).sum = T at hsl HSu ⊢
      clear hstep hsum
      go_wp2_with fail
      refine (getNumber_any h (k + 1) _ (by unfold maxLen; omega) (by omega)).mono ?_
      rintro e w1 ⟨rfl, hb1⟩
      generalize hG : gN h.data.toList (k + 1) = G at hg HSt HSu ⊢
      have HO1 := Lib.hid (HO.out.kept (row := none) ⟨hb1.os, hb1.tape, hb1.output, hb1.size, fun k hk _ => hb1.block k hk⟩ (Classical.em _))
      have HB1 := Lib.hid (HB.out.trans (hb1.mono HB.out.size))
      have hsz1 := HB1.out.size
      clear hb1 hG
      go_wp2_with (at_builtin; go_must (refine wpList_append_own _ rfl (.tmp 20) (.tmp 22) 65 rfl w.heap.size 3 i0 (.int .i64 0) 1 8 Tryd.underlying65 hi hz0 hz1 hz2 rfl (by decide) _ _ _ rfl (HO1.out.alloc _) ⟨w1.heap.size, 0, none⟩ 1 1 [.int .i64 ((G : Int) * 8)] rfl rfl (cell_one_new _ _ _) (by simp [Value.oneCell']) (by unfold maxLen; omega) (by omega) (by simp <;> omega) ?_); intro v' wn hown' hgrow _)
      have HON := Lib.hid (show wn.ownsRow w.heap.size 3 1 v' (k + 1) (szCells (szs h.data.toList (k + 1))) by rw [HSt.out, szCells_snoc]; exact hown')
      have HBN := Lib.hid (below_append HB1.out hsz1 HO1.out hgrow)
      clear hgrow hown'
      go_wp2
      go_roundw
      case rel => exact ⟨k + 1, by omega, by go_num, by rw [HSu.out]; go_num, HON, HBN⟩
      case measure => simp [intOf]; omega
    · obtain rfl : k = n := by omega
      have hcut : (h.extract ((k + 1) * 4) h.size).data.toList = h.data.toList.drop (4 * (k + 1)) := by
        have e : h.data.toList.length = h.size := rfl
        rw [Lib.extract_data, List.take_of_length_le (by simp <;> omega), Nat.mul_comm]
      have hxs : (h.extract ((k + 1) * 4) h.size).size ≤ 1048576 := by simp; omega
      have hz : Lib.trimB (h.extract ((k + 1) * 4) h.size).data.toList 0 = [] ↔ fgZ h.data.toList k = true := by
        rw [trimZ_nil, hcut, HZ.out, List.all_eq_true]
        simp only [beq_iff_eq]
      have HZZ := Lib.hid hz
      clear hcut hz
      generalize hT : (szs h.data.toList k).sum = T at hsl ⊢
      generalize hL : Lib.trimB (h.extract ((k + 1) * 4) h.size).data.toList 0 = L at HZZ
      have HT := Lib.hid hT
      have HL := Lib.hid hL
      clear hT hL
      go_wp2_with fail
      refine (trimZ_any _ _ hxs).mono ?_
      rintro e w1 ⟨rfl, hb1⟩
      rw [HL.out]
      have HO1 := Lib.hid (HO.out.kept (row := none) ⟨hb1.os, hb1.tape, hb1.output, hb1.size, fun k hk _ => hb1.block k hk⟩ (Classical.em _))
      have HB1 := Lib.hid (HB.out.trans (hb1.mono HB.out.size))
      clear hb1
      have hres : ∀ b : Bool, ∀ c : Bool, fgZ h.data.toList k = b → decide (T ≤ 200) = c → FSz h k w (.returned (.tuple #[.slice A k cp, .bool (b && c)])) w1 := fun b c hb hc => ⟨.slice A k cp, by rw [hb, HT.out, hc], HO1.out, HB1.out⟩
      have HR := Lib.hid hres
      clear hres
      by_cases hL : L = []
      · have hf := HZZ.out.1 hL
        subst hL
        have HF := Lib.hid hf
        clear hf
        have HD : Hid (decide ((T : Int) * 8 ≤ 1600) = decide (T ≤ 200)) := Lib.hid (by rw [decide_eq_decide]; omega)
        go_wp2
        go_ret2
        have h3 := HR.out true (decide (T ≤ 200)) HF.out rfl
        rw [← HD.out] at h3
        exact h3
      · have hf : fgZ h.data.toList k = false := by
          cases hz : fgZ h.data.toList k
          · rfl
          · exact absurd (HZZ.out.2 hz) hL
        have hx : (⟨L.toArray⟩ : ByteArray).toList.isEmpty = false := by
          rw [cat_nil_isEmpty]
          cases L with
          | nil => exact absurd rfl hL
          | cons a r => rfl
        generalize (⟨L.toArray⟩ : ByteArray) = X at hx ⊢
        have HF := Lib.hid hf
        clear hf hL
        go_wp2
        go_ret2
        have := HR.out false (decide (T ≤ 200)) HF.out rfl
        exact this
end Go.Proofs.YtliiffpegfkpbabDoor
