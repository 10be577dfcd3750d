/- strings.Trim at the cutset of one zero byte: what is left is empty, just if every byte is zero. -/
import Derived.Test.YtliiffpegfkpbabDoorKeeps
import Derived.Test.YtliiffpegfkpbabDoorProg
import Derived.Shelf.Strings.Trim
namespace Go.Proofs.YtliiffpegfkpbabDoor
open Go.RowKit Go.Shelf
/-- the shelf's numbers, at this program. -/
def trimRen : Ren := ⟨fun | 231 => 61 | 232 => 62 | n => n, fun | 9 => 9 | 4 => 4 | 3 => 3 | 5 => 5 | n => n, fun n => n⟩
theorem laysLeft : Go.Proofs.Lays.n231 Tryd.prog trimRen := {
  mixed := by kernel_rfl
  f231 := Tryd.func61.trans (congrArg some (by kernel_rfl))
  t3 := Tryd.underlying3, a3 := Tryd.isAgg3, z3 := Tryd.sizeOf3, v3 := Tryd.zeroValue3
  t4 := Tryd.underlying4, a4 := Tryd.isAgg4, z4 := Tryd.sizeOf4, v4 := Tryd.zeroValue4
  t5 := Tryd.underlying5, a5 := Tryd.isAgg5, z5 := Tryd.sizeOf5, v5 := Tryd.zeroValue5
  t9 := Tryd.underlying9, a9 := Tryd.isAgg9, z9 := Tryd.sizeOf9, v9 := Tryd.zeroValue9 }
theorem laysRight : Go.Proofs.Lays.n232 Tryd.prog trimRen := {
  mixed := by kernel_rfl
  f232 := Tryd.func62.trans (congrArg some (by kernel_rfl))
  t3 := Tryd.underlying3, a3 := Tryd.isAgg3, z3 := Tryd.sizeOf3, v3 := Tryd.zeroValue3
  t4 := Tryd.underlying4, a4 := Tryd.isAgg4, z4 := Tryd.sizeOf4, v4 := Tryd.zeroValue4
  t5 := Tryd.underlying5, a5 := Tryd.isAgg5, z5 := Tryd.sizeOf5, v5 := Tryd.zeroValue5
  t9 := Tryd.underlying9, a9 := Tryd.isAgg9, z9 := Tryd.sizeOf9, v9 := Tryd.zeroValue9 }
theorem trimLeft_any (s : ByteArray) (w : World) :
    Calls Tryd.prog 61 #[.string s, .int .u8 0] w fun e w' => e = .returned (.string ⟨(Lib.trimLeftB s.data.toList 0).toArray⟩) ∧ w' = w := Any.strings_trimLeftByte laysLeft s 0 w
theorem trimRight_any (s : ByteArray) (w : World) (hs : s.size ≤ 9223372036854775807) :
    Calls Tryd.prog 62 #[.string s, .int .u8 0] w fun e w' => e = .returned (.string ⟨(Lib.trimRightB s.data.toList 0).toArray⟩) ∧ w' = w := Any.strings_trimRightByte laysRight s 0 w hs
theorem dw_nil (m : List UInt8) : m.dropWhile (· == (0 : UInt8)) = [] ↔ ∀ b ∈ m, b = 0 := by
  induction m with
  | nil => simp
  | cons x r ih =>
    by_cases h : x = 0
    · subst h
      rw [List.dropWhile_cons_of_pos (by rfl), ih]
      simp
    · rw [List.dropWhile_cons_of_neg (by simpa using h)]
      simp [h]
theorem trimZ_nil (l : List UInt8) : Lib.trimB l 0 = [] ↔ ∀ b ∈ l, b = 0 := by
  have hL : ∀ m : List UInt8, Lib.trimLeftB m 0 = [] ↔ ∀ b ∈ m, b = 0 := fun m => by
    exact dw_nil m
  unfold Lib.trimB
  rw [hL]
  unfold Lib.trimRightB
  constructor
  · intro h
    have h2 : l.reverse.dropWhile (· == (0 : UInt8)) = [] := by
      cases hd : l.reverse.dropWhile (· == (0 : UInt8)) with
      | nil => rfl
      | cons x r =>
        have hx := List.head_dropWhile_not (fun b : UInt8 => b == 0) (l := l.reverse) (by rw [hd]; simp)
        have e : (l.reverse.dropWhile (· == (0 : UInt8))).head (by rw [hd]; simp) = x := by simp [hd]
        rw [e] at hx
        have := h x (by rw [hd]; simp)
        subst this
        simp at hx
    rw [dw_nil] at h2
    intro b hb
    exact h2 b (by simpa using hb)
  · intro h b hb
    have : b ∈ l.reverse.dropWhile (· == (0 : UInt8)) := by simpa using hb
    exact h b (by simpa using (List.dropWhile_sublist _).subset this)
set_option maxHeartbeats 1000000 in
set_option maxRecDepth 1000000 in
theorem trimZ_any (s : ByteArray) (w : World) (hs : s.size ≤ 1048576) :
    Calls Tryd.prog 56 #[.string s, .string ⟨#[0]⟩] w fun e w' => e = .returned (.string ⟨(Lib.trimB s.data.toList 0).toArray⟩) ∧ Below w.heap.size w w' := by
  have hR := trimRight_any s
  have hL := trimLeft_any ⟨(Lib.trimRightB s.data.toList 0).toArray⟩
  have hR' := Lib.hid hR
  have hL' := Lib.hid hL
  clear hR hL
  go_enter Tryd.func56, Tryd.ntmps56
  go_wp2
  · have hl : s.data.toList = [] := by rw [← Lib.toList_data]; assumption
    go_ret
    refine ⟨?_, Below.refl _ _⟩
    show Ending.returned (Value.string s) = _
    have hs0 : s = ⟨#[]⟩ := by rw [← Lib.mk_data s, hl]
    rw [hl, (trimZ_nil []).2 (by simp), hs0]
  · rename_i h1 h2
    exact absurd (by simpa using h2) h1
  · go_region_with (first
      | (refine (hR'.out _ (by omega)).mono ?_; rintro e w' ⟨rfl, rfl⟩)
      | (refine (hL'.out _).mono ?_; rintro e w' ⟨rfl, rfl⟩))
    all_goals (go_wp2; go_ret; exact ⟨rfl, (Below.refl _ _).drew⟩)
end Go.Proofs.YtliiffpegfkpbabDoor
