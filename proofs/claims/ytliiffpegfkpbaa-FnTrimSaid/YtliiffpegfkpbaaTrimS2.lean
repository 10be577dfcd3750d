/- the specification's l1Trim. -/
import Derived.Test.YtliiffpegfkpbaaTrimS
import Derived.Deep.RegionLaw
import Derived.Deep.RegionWith
import Derived.Deep.DeepMust
namespace Go.Proofs.Ytliiffpegfkpbaa
open Go.RowKit
def zerS (u : ByteArray) : Bool := zerB u.data.toList
theorem l1ZeroS (s : ByteArray) (w : World) (hs : s.size ≤ maxLen) :
    Calls Try.prog 66 #[.string s] w fun e w' => e = .returned (.bool (zerS s)) ∧ w = w' := l1Zero_any s w hs
def sizeV : Value → Nat
  | .string u => u.size
  | _ => 0
theorem ret_str {a b : ByteArray} (h : a.data.toList = b.data.toList) : Ending.returned (.string a) = .returned (.string b) := by
  obtain ⟨⟨x⟩⟩ := a
  obtain ⟨⟨y⟩⟩ := b
  simp only at h
  rw [h]
set_option maxHeartbeats 1000000 in
theorem l1Trim_any (s : ByteArray) (K : Nat) (w : World) (hs : s.size ≤ maxLen) (h8 : s.size = 8 * K) :
    Calls Try.prog 51 #[.string s] w fun e w' => e = .returned (.string ⟨(s.data.toList.take (8 * trimN s.data.toList K)).toArray⟩) ∧ w = w' := by
  have hs' := hs
  unfold maxLen at hs
  have hl : s.data.toList.length = s.size := by simp
  have H0 := Lib.hid hl
  have H8 := Lib.hid h8
  have hl0 : s.data.toList = s.data.toList.take (8 * K) := by rw [List.take_of_length_le (by omega)]
  have HL0 := Lib.hid hl0
  clear hl h8 hl0
  generalize hl : s.data.toList = l at *
  have HLL := Lib.hid hl
  clear hl
  go_enter Try.func51, Try.ntmps51
  go_wp2
  go_loop [0] (fun t => ∃ (k : Nat) (u : ByteArray), t = .string u ∧ u.size ≤ s.size ∧ u.data.toList = l.take (8 * k) ∧ u.size = 8 * k ∧ trimN l K = trimN l k) sizeV
  case atStart => exact ⟨K, s, rfl, Nat.le_refl _, HLL.out.trans HL0.out, H8.out, rfl⟩
  case round =>
    obtain ⟨k, u, rfl, hus, hul, huk, htr⟩ := hrel
    have HU := Lib.hid hul
    have HT := Lib.hid htr
    clear hul htr
    cases k with
    | zero =>
      have hn : ¬ (8 : Int) ≤ (u.size : Int) := by omega
      have HK := Lib.hid huk
      clear huk
      go_wp2
      go_ret
      exact ⟨ret_str (by rw [HU.out, HT.out]; rfl), rfl⟩
    | succ m =>
      have f1 : (8 : Int) ≤ (u.size : Int) := by omega
      have e1 : IntKind.i64.wrap ((u.size : Int) - 8) = (u.size : Int) - 8 := by rw [IntKind.wrap_i64]; omega
      have e2 : (0 : Int) ≤ (u.size : Int) - 8 := by omega
      have e3 : (u.size : Int) - 8 ≤ (u.size : Int) := by omega
      have e4 : ((u.size : Int) - 8).toNat = u.size - 8 := by omega
      have hzl : (u.extract (u.size - 8) u.size).data.toList = (l.drop (8 * m)).take 8 := by
        rw [Lib.extract_data, HU.out, List.drop_take, huk, List.take_take]
        congr 1 <;> omega
      have hext : (u.extract 0 (u.size - 8)).data.toList = l.take (8 * m) := by
        rw [Lib.extract_data, HU.out, List.drop_zero, List.take_take]
        congr 1; omega
      have hul2 : (u.extract 0 (u.size - 8)).size = 8 * m := by simp; omega
      have hue : (u.extract (u.size - 8) u.size).size ≤ maxLen := by unfold maxLen; simp; omega
      cases hz : zerS (u.extract (u.size - 8) u.size)
      · have hT2 : trimN l (m + 1) = m + 1 := by rw [zerS, hzl] at hz; simp [trimN, hz]
        have H2 := Lib.hid hT2
        have HE := Lib.hid hext
        have HK := Lib.hid huk
        clear hT2 hzl hext hul2 huk
        go_wp2_with (go_at_call 66; refine (l1ZeroS _ _ hue).mono ?_; rintro e w' ⟨rfl, rfl⟩)
        all_goals
          go_ret
          exact ⟨ret_str (by rw [HU.out, HT.out, H2.out]), rfl⟩
      · have hT2 : trimN l (m + 1) = trimN l m := by rw [zerS, hzl] at hz; simp [trimN, hz]
        have H2 := Lib.hid hT2
        have HE := Lib.hid hext
        have HS := Lib.hid hul2
        have HK := Lib.hid huk
        clear hT2 hzl hext hul2 huk
        go_wp2_with (go_at_call 66; refine (l1ZeroS _ _ hue).mono ?_; rintro e w' ⟨rfl, rfl⟩)
        all_goals
          go_round
          case rel => exact ⟨m, _, rfl, by rw [HS.out]; have := HK.out; omega, HE.out, HS.out, HT.out.trans H2.out⟩
          case measure => (simp only [sizeV]; rw [HS.out]; have := HK.out; omega)
end Go.Proofs.Ytliiffpegfkpbaa
