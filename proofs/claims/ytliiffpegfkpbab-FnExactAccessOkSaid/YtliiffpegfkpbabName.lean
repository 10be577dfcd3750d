/- Names: the program's isName and the specification's l9Name answer the same of every text. -/
import Derived.Test.YtliiffpegfkpbabIn
import Derived.Test.YtliiffpegfkpbabMath1
import Derived.Test.YtliiffpegfkpbabMath3
import Derived.Deep.RegionLaw
import Derived.Deep.QuietTactic
import Derived.BigQuiet
import Derived.Deep.OwnRows
namespace Go.Proofs.Ytliiffpegfkpbab
open Go.RowKit
def letB (n : Nat) : Bool := decide ((97 ≤ n ∧ n ≤ 122) ∨ (65 ≤ n ∧ n ≤ 90))
def figB (n : Nat) : Bool := decide (48 ≤ n ∧ n ≤ 57)
/-- a letter, then letters and figures, at most ten. -/
def nameB (s : ByteArray) : Bool := decide (1 ≤ s.size ∧ s.size ≤ 10) && (letB (s.data.toList[0]?.getD 0).toNat && s.data.toList.all fun b => letB b.toNat || figB b.toNat)
set_option maxHeartbeats 400000 in
theorem isLetter_any (b : Nat) (hb : b < 256) (w : World) :
    Calls Try.prog 18 #[.int .u8 (b : Int)] w fun e w' => e = .returned (.bool (letB b)) ∧ w = w' := by
  by_cases h1 : (97 : Int) ≤ (b : Int) <;> by_cases h2 : (b : Int) ≤ 122 <;> by_cases h3 : (65 : Int) ≤ (b : Int)
  all_goals
    go_enter Try.func18, Try.ntmps18
    go_wp2
    all_goals go_ret
    all_goals refine ⟨ret_bool ?_, rfl⟩
    all_goals (rw [Bool.eq_iff_iff]; simp [letB]; try omega)
set_option maxHeartbeats 400000 in
theorem isFigure_any (b : Nat) (hb : b < 256) (w : World) :
    Calls Try.prog 19 #[.int .u8 (b : Int)] w fun e w' => e = .returned (.bool (figB b)) ∧ w = w' := by
  by_cases h1 : (48 : Int) ≤ (b : Int)
  all_goals
    go_enter Try.func19, Try.ntmps19
    go_wp2
    all_goals go_ret
    all_goals refine ⟨ret_bool ?_, rfl⟩
    all_goals (rw [Bool.eq_iff_iff]; simp [figB]; try omega)
/-- the byte at a place, as a number. -/
def btN (s : ByteArray) (j : Nat) : Nat := (s.data.toList[j]?.getD 0).toNat
theorem btN_at {s : ByteArray} {k : Nat} (h : k < s.size) : btN s k = (s[k]).toNat := by
  have hl : k < s.data.toList.length := by simpa using h
  unfold btN
  rw [List.getElem?_eq_getElem hl, Option.getD_some]
  rfl
theorem btN_lt (s : ByteArray) (j : Nat) : btN s j < 256 := by
  unfold btN
  have := (s.data.toList[j]?.getD 0).toNat_lt
  omega
/-- what a name may have at a place. -/
def okAt (s : ByteArray) (j : Nat) : Bool := letB (btN s j) || (decide (j ≠ 0) && figB (btN s j))
theorem nameB_iff (s : ByteArray) : nameB s = true ↔ (1 ≤ s.size ∧ s.size ≤ 10) ∧ ∀ j, j < s.size → okAt s j = true := by
  unfold nameB
  rw [Bool.and_eq_true, Bool.and_eq_true, decide_eq_true_iff, List.all_eq_true]
  refine and_congr_right fun hsz => ⟨fun ⟨h1, h2⟩ j hj => ?_, fun h => ⟨?_, fun b hb => ?_⟩⟩
  · have hl : j < s.data.toList.length := by simpa using hj
    have h3 := h2 _ (List.getElem_mem hl)
    have hbj : btN s j = (s.data.toList[j]).toNat := by unfold btN; rw [List.getElem?_eq_getElem hl, Option.getD_some]
    unfold okAt
    by_cases hj0 : j = 0
    · subst hj0
      rw [show letB (btN s 0) = true from h1, Bool.true_or]
    · rw [hbj, decide_eq_true hj0, Bool.true_and]
      exact h3
  · have := h 0 (by omega)
    unfold okAt at this
    rw [show decide ((0 : Nat) ≠ 0) = false from rfl, Bool.false_and, Bool.or_false] at this
    exact this
  · obtain ⟨j, hj, rfl⟩ := List.mem_iff_getElem.1 hb
    have h3 := h j (by simpa using hj)
    have hbj : btN s j = (s.data.toList[j]).toNat := by unfold btN; rw [List.getElem?_eq_getElem hj, Option.getD_some]
    unfold okAt at h3
    rw [hbj] at h3
    rw [Bool.or_eq_true] at h3 ⊢
    refine h3.imp id fun h4 => ?_
    rw [Bool.and_eq_true] at h4
    exact h4.2
theorem nameB_bad {s : ByteArray} {j : Nat} (hj : j < s.size) (h : okAt s j = false) : nameB s = false := by
  rw [Bool.eq_false_iff]
  intro hn
  have := ((nameB_iff s).1 hn).2 j hj
  rw [h] at this
  cases this
theorem nameB_size {s : ByteArray} (h : ¬ (1 ≤ s.size ∧ s.size ≤ 10)) : nameB s = false := by
  rw [Bool.eq_false_iff]
  exact fun hn => h ((nameB_iff s).1 hn).1
theorem nameB_all {s : ByteArray} (hz : 1 ≤ s.size ∧ s.size ≤ 10) (h : ∀ j, j < s.size → okAt s j = true) : nameB s = true := (nameB_iff s).2 ⟨hz, h⟩
theorem nm_loop (d : ByteArray) : ∀ (i : Nat) (r : List UInt8), (ByteArray.toList.loop d i r).length = (d.size - i) + r.length := by
  intro i r
  induction h : d.size - i generalizing i r with
  | zero => rw [ByteArray.toList.loop, if_neg (by omega), List.length_reverse]; omega
  | succ n ih => rw [ByteArray.toList.loop, if_pos (by omega), ih (i + 1) _ (by omega), List.length_cons]; omega
theorem nm_empty (d : ByteArray) : d.toList.isEmpty = (d.size == 0) := by
  have h := nm_loop d 0 []
  simp only [List.length_nil] at h
  unfold ByteArray.toList
  rw [Bool.eq_iff_iff, List.isEmpty_iff, ← List.length_eq_zero_iff, h]
  simp
set_option maxHeartbeats 2000000 in
set_option maxRecDepth 100000 in
theorem l9Name_any (s : ByteArray) (w : World) (hs : s.size ≤ maxLen) :
    Calls Try.prog 9 #[.string s] w fun e w' => e = .returned (.bool (nameB s)) ∧ w = w' := by
  unfold maxLen at hs
  go_enter Try.func9, Try.ntmps9
  go_wp2
  go_loopw [3] (fun i wr => wr = w ∧ ∃ k : Nat, k ≤ s.size ∧ i = .int .i64 (k : Int) ∧ Hid (∀ j, j < k → okAt s j = true)) (fun i _ => (s.size - intOf i).toNat)
  case atStart => exact ⟨rfl, 0, by omega, by simp, Lib.hid (fun j hj => by omega)⟩
  case round =>
    obtain ⟨rfl, k, hk, rfl, HZ⟩ := hrel
    by_cases hlt : k < s.size
    · have hx := btN_at hlt
      have hx2 := btN_lt s k
      rw [hx] at hx2
      have HOK : Hid (okAt s k = (letB (s[k]).toNat || (decide (k ≠ 0) && figB (s[k]).toNat))) := Lib.hid (by unfold okAt; rw [hx])
      clear hx
      have hcase : (97 ≤ (s[k]).toNat ∧ (s[k]).toNat ≤ 122) ∨ (65 ≤ (s[k]).toNat ∧ (s[k]).toNat ≤ 90) ∨ ((48 ≤ (s[k]).toNat ∧ (s[k]).toNat ≤ 57) ∧ 1 ≤ k) ∨ (122 < (s[k]).toNat ∧ k = 0) ∨ (122 < (s[k]).toNat ∧ 1 ≤ k) ∨ ((90 < (s[k]).toNat ∧ (s[k]).toNat < 97) ∧ k = 0) ∨ ((90 < (s[k]).toNat ∧ (s[k]).toNat < 97) ∧ 1 ≤ k) ∨ ((s[k]).toNat < 65 ∧ k = 0) ∨ ((57 < (s[k]).toNat ∧ (s[k]).toNat < 65) ∧ 1 ≤ k) ∨ ((s[k]).toNat < 48 ∧ 1 ≤ k) := by omega
      rcases hcase with h | h | h | h | h | h | h | h | h | h
      · have HV : Hid (okAt s k = true) := Lib.hid (by rw [HOK.out, Bool.eq_iff_iff]; simp [letB, figB]; omega)
        have f0 : (97 : Int) ≤ ((s[k]).toNat : Int) := by omega
        have f1 : ((s[k]).toNat : Int) ≤ 122 := by omega
        clear h
        go_wp2
        go_roundw
        case rel =>
          refine ⟨by trivial, k + 1, by omega, by go_num, Lib.hid fun j hj => ?_⟩
          by_cases hjk : j < k
          · exact HZ.out j hjk
          · obtain rfl : j = k := by omega
            exact HV.out
        case measure => simp [intOf]; omega
      · have HV : Hid (okAt s k = true) := Lib.hid (by rw [HOK.out, Bool.eq_iff_iff]; simp [letB, figB]; omega)
        have f0 : ¬ (97 : Int) ≤ ((s[k]).toNat : Int) := by omega
        have f1 : (65 : Int) ≤ ((s[k]).toNat : Int) := by omega
        have f2 : ((s[k]).toNat : Int) ≤ 90 := by omega
        clear h
        go_wp2
        go_roundw
        case rel =>
          refine ⟨by trivial, k + 1, by omega, by go_num, Lib.hid fun j hj => ?_⟩
          by_cases hjk : j < k
          · exact HZ.out j hjk
          · obtain rfl : j = k := by omega
            exact HV.out
        case measure => simp [intOf]; omega
      · have HV : Hid (okAt s k = true) := Lib.hid (by rw [HOK.out, Bool.eq_iff_iff]; simp [letB, figB]; omega)
        have f0 : ¬ (97 : Int) ≤ ((s[k]).toNat : Int) := by omega
        have f1 : ¬ (65 : Int) ≤ ((s[k]).toNat : Int) := by omega
        have f2 : ¬ ((s[k]).toNat : Int) < 48 := by omega
        have f3 : ¬ 57 < ((s[k]).toNat : Int) := by omega
        have f4 : ((k : Int) == 0) = false := by simp; omega
        clear h
        go_wp2
        go_roundw
        case rel =>
          refine ⟨by trivial, k + 1, by omega, by go_num, Lib.hid fun j hj => ?_⟩
          by_cases hjk : j < k
          · exact HZ.out j hjk
          · obtain rfl : j = k := by omega
            exact HV.out
        case measure => simp [intOf]; omega
      · have HV : Hid (okAt s k = false) := Lib.hid (by rw [HOK.out, Bool.eq_iff_iff]; simp [letB, figB]; omega)
        have f0 : (97 : Int) ≤ ((s[k]).toNat : Int) := by omega
        have f1 : ¬ ((s[k]).toNat : Int) ≤ 122 := by omega
        have f2 : (65 : Int) ≤ ((s[k]).toNat : Int) := by omega
        have f3 : ¬ ((s[k]).toNat : Int) ≤ 90 := by omega
        have f4 : ((k : Int) == 0) = true := by simp; omega
        clear h
        go_wp2
        go_ret
        exact ⟨by rw [nameB_bad hlt HV.out]; rfl, rfl⟩
      · have HV : Hid (okAt s k = false) := Lib.hid (by rw [HOK.out, Bool.eq_iff_iff]; simp [letB, figB]; omega)
        have f0 : (97 : Int) ≤ ((s[k]).toNat : Int) := by omega
        have f1 : ¬ ((s[k]).toNat : Int) ≤ 122 := by omega
        have f2 : (65 : Int) ≤ ((s[k]).toNat : Int) := by omega
        have f3 : ¬ ((s[k]).toNat : Int) ≤ 90 := by omega
        have f4 : ((k : Int) == 0) = false := by simp; omega
        have f5 : ¬ ((s[k]).toNat : Int) < 48 := by omega
        have f6 : 57 < ((s[k]).toNat : Int) := by omega
        clear h
        go_wp2
        go_ret
        exact ⟨by rw [nameB_bad hlt HV.out]; rfl, rfl⟩
      · have HV : Hid (okAt s k = false) := Lib.hid (by rw [HOK.out, Bool.eq_iff_iff]; simp [letB, figB]; omega)
        have f0 : ¬ (97 : Int) ≤ ((s[k]).toNat : Int) := by omega
        have f1 : (65 : Int) ≤ ((s[k]).toNat : Int) := by omega
        have f2 : ¬ ((s[k]).toNat : Int) ≤ 90 := by omega
        have f3 : ((k : Int) == 0) = true := by simp; omega
        clear h
        go_wp2
        go_ret
        exact ⟨by rw [nameB_bad hlt HV.out]; rfl, rfl⟩
      · have HV : Hid (okAt s k = false) := Lib.hid (by rw [HOK.out, Bool.eq_iff_iff]; simp [letB, figB]; omega)
        have f0 : ¬ (97 : Int) ≤ ((s[k]).toNat : Int) := by omega
        have f1 : (65 : Int) ≤ ((s[k]).toNat : Int) := by omega
        have f2 : ¬ ((s[k]).toNat : Int) ≤ 90 := by omega
        have f3 : ((k : Int) == 0) = false := by simp; omega
        have f4 : ¬ ((s[k]).toNat : Int) < 48 := by omega
        have f5 : 57 < ((s[k]).toNat : Int) := by omega
        clear h
        go_wp2
        go_ret
        exact ⟨by rw [nameB_bad hlt HV.out]; rfl, rfl⟩
      · have HV : Hid (okAt s k = false) := Lib.hid (by rw [HOK.out, Bool.eq_iff_iff]; simp [letB, figB]; omega)
        have f0 : ¬ (97 : Int) ≤ ((s[k]).toNat : Int) := by omega
        have f1 : ¬ (65 : Int) ≤ ((s[k]).toNat : Int) := by omega
        have f2 : ((k : Int) == 0) = true := by simp; omega
        clear h
        go_wp2
        go_ret
        exact ⟨by rw [nameB_bad hlt HV.out]; rfl, rfl⟩
      · have HV : Hid (okAt s k = false) := Lib.hid (by rw [HOK.out, Bool.eq_iff_iff]; simp [letB, figB]; omega)
        have f0 : ¬ (97 : Int) ≤ ((s[k]).toNat : Int) := by omega
        have f1 : ¬ (65 : Int) ≤ ((s[k]).toNat : Int) := by omega
        have f2 : ((k : Int) == 0) = false := by simp; omega
        have f3 : ¬ ((s[k]).toNat : Int) < 48 := by omega
        have f4 : 57 < ((s[k]).toNat : Int) := by omega
        clear h
        go_wp2
        go_ret
        exact ⟨by rw [nameB_bad hlt HV.out]; rfl, rfl⟩
      · have HV : Hid (okAt s k = false) := Lib.hid (by rw [HOK.out, Bool.eq_iff_iff]; simp [letB, figB]; omega)
        have f0 : ¬ (97 : Int) ≤ ((s[k]).toNat : Int) := by omega
        have f1 : ¬ (65 : Int) ≤ ((s[k]).toNat : Int) := by omega
        have f2 : ((k : Int) == 0) = false := by simp; omega
        have f3 : ((s[k]).toNat : Int) < 48 := by omega
        clear h
        go_wp2
        go_ret
        exact ⟨by rw [nameB_bad hlt HV.out]; rfl, rfl⟩
    · obtain rfl : k = s.size := by omega
      have HN : Hid (nameB s = inB s.size 1 10) := Lib.hid (by
        by_cases hz : 1 ≤ s.size ∧ s.size ≤ 10
        · rw [nameB_all hz HZ.out]; unfold inB; rw [decide_eq_true (by omega)]
        · rw [nameB_size hz]; unfold inB; rw [decide_eq_false (by omega)])
      go_wp2_with (go_at_call 8; refine (l1In_any _ _ _ _).mono ?_; rintro e w' ⟨rfl, rfl⟩)
      go_ret
      exact ⟨by rw [HN.out]; rfl, rfl⟩
set_option maxHeartbeats 2000000 in
set_option maxRecDepth 100000 in
theorem isName_any (s : ByteArray) (w : World) (hs : s.size ≤ maxLen) :
    Calls Try.prog 14 #[.string s] w fun e w' => e = .returned (.bool (nameB s)) ∧ Below w.heap.size w w' := by
  unfold maxLen at hs
  by_cases h0 : s.size = 0
  · have he : s.toList.isEmpty = true := by rw [nm_empty, h0]; rfl
    have HN := Lib.hid (nameB_size (s := s) (by omega))
    go_enter Try.func14, Try.ntmps14
    go_wp2
    go_ret
    exact ⟨by rw [HN.out]; rfl, Below.refl _ _⟩
  have he : s.toList.isEmpty = false := by rw [nm_empty]; simpa using h0
  by_cases h10 : 10 < s.size
  · have h11 : (10 : Int) < ((s.size : Nat) : Int) := by omega
    have HN := Lib.hid (nameB_size (s := s) (by omega))
    go_enter Try.func14, Try.ntmps14
    go_wp2
    go_ret
    exact ⟨by rw [HN.out]; rfl, Below.refl _ _⟩
  have h11 : ¬ (10 : Int) < ((s.size : Nat) : Int) := by omega
  have hlt : 0 < s.size := by omega
  have hx := btN_at hlt
  have hx2 := btN_lt s 0
  rw [hx] at hx2
  have HX := Lib.hid hx
  clear hx
  cases hl : letB (s[0]).toNat
  · have HN : Hid (nameB s = false) := Lib.hid (nameB_bad hlt (by unfold okAt; rw [HX.out, hl]; rfl))
    have HL := Lib.hid hl
    clear hl
    go_enter Try.func14, Try.ntmps14
    go_wp2_with (go_at_call 18; refine (isLetter_any _ hx2 _).mono ?_; rintro e w' ⟨rfl, rfl⟩; rw [HL.out])
    go_ret
    exact ⟨by rw [HN.out]; rfl, Below.refl _ _⟩
  · have HL := Lib.hid hl
    clear hl
    go_enter Try.func14, Try.ntmps14
    go_wp2_with (first | (go_at_call 18; refine (isLetter_any _ hx2 _).mono ?_; rintro e w' ⟨rfl, rfl⟩; rw [HL.out]) | (refine wpList_convert_bytes rfl 9 34 5 (.tmp 18) rfl s rfl Try.underlying9 Try.underlying34 Try.underlying5 ?_; intro c w1 cs hrow htk hbel hsz))
    have HB1 : Hid (Below w.heap.size w w1) := hbel
    have HR : Hid (SRow w1 w.heap.size 5 cs) := hrow
    clear hrow hbel hsz
    go_loopw [4, 21] (fun _ i wr => wr = w1 ∧ ∃ k : Nat, k ≤ s.size ∧ i = .int .i64 (k : Int) ∧ Hid (∀ j, j < k → okAt s j = true)) (fun _ i _ => s.size - (intOf i).toNat)
    case atStart => exact ⟨rfl, 0, by omega, by simp, Lib.hid (fun j hj => by omega)⟩
    case round =>
      obtain ⟨rfl, k, hk, rfl, HZ⟩ := hrel
      by_cases hk1 : k < s.size
      · obtain ⟨x, hx⟩ : ∃ x, s.data.toList[k]?.getD 0 = x := ⟨_, rfl⟩
        have hc0 := srow_cell HR.out htk.out hk1
        rw [hx] at hc0
        have hb : btN s k = x.toNat := by unfold btN; rw [hx]
        have hx256 := x.toNat_lt
        have hx3 : x.toNat < 256 := by omega
        clear hx hx256
        have HOK : Hid (okAt s k = (letB x.toNat || (decide (k ≠ 0) && figB x.toNat))) := Lib.hid (by unfold okAt; rw [hb])
        have HK0 : Hid (k = 0 → letB x.toNat = true) := Lib.hid (by
          intro h0
          subst h0
          rw [← hb, HX.out, HL.out])
        clear hb
        cases hlx : letB x.toNat
        · cases hfx : figB x.toNat
          · have HV : Hid (okAt s k = false) := Lib.hid (by rw [HOK.out, hlx, hfx]; simp)
            have HLX := Lib.hid hlx
            have HFX := Lib.hid hfx
            clear hlx hfx
            go_wp2_with (first | (go_at_call 18; refine (isLetter_any _ hx3 _).mono ?_; rintro e w' ⟨rfl, rfl⟩; rw [HLX.out]) | (go_at_call 19; refine (isFigure_any _ hx3 _).mono ?_; rintro e w' ⟨rfl, rfl⟩; rw [HFX.out]))
            go_ret
            exact ⟨by rw [nameB_bad hk1 HV.out]; rfl, HB1.out⟩
          · have HV : Hid (okAt s k = true) := Lib.hid (by
              rw [HOK.out, hlx, hfx]
              by_cases h0 : k = 0
              · rw [HK0.out h0] at hlx; cases hlx
              · simp [h0])
            have HLX := Lib.hid hlx
            have HFX := Lib.hid hfx
            clear hlx hfx
            go_wp2_with (first | (go_at_call 18; refine (isLetter_any _ hx3 _).mono ?_; rintro e w' ⟨rfl, rfl⟩; rw [HLX.out]) | (go_at_call 19; refine (isFigure_any _ hx3 _).mono ?_; rintro e w' ⟨rfl, rfl⟩; rw [HFX.out]))
            go_roundw
            case rel =>
              refine ⟨by trivial, k + 1, by omega, by go_num, Lib.hid fun j hj => ?_⟩
              by_cases hjk : j < k
              · exact HZ.out j hjk
              · obtain rfl : j = k := by omega
                exact HV.out
            case measure => simp [intOf]; omega
        · have HV : Hid (okAt s k = true) := Lib.hid (by rw [HOK.out, hlx]; rfl)
          have HLX := Lib.hid hlx
          clear hlx
          go_wp2_with (first | (go_at_call 18; refine (isLetter_any _ hx3 _).mono ?_; rintro e w' ⟨rfl, rfl⟩; rw [HLX.out]))
          go_roundw
          case rel =>
            refine ⟨by trivial, k + 1, by omega, by go_num, Lib.hid fun j hj => ?_⟩
            by_cases hjk : j < k
            · exact HZ.out j hjk
            · obtain rfl : j = k := by omega
              exact HV.out
          case measure => simp [intOf]; omega
      · obtain rfl : k = s.size := by omega
        have HN := Lib.hid (nameB_all (by omega) HZ.out)
        go_wp2
        go_ret
        exact ⟨by rw [HN.out]; rfl, HB1.out⟩
end Go.Proofs.Ytliiffpegfkpbab
