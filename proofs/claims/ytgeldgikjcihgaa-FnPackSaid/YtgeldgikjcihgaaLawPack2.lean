/- The walk of the law FnPack. -/
import Derived.Test.YtgeldgikjcihgaaLawPackZero
import Derived.Test.YtgeldgikjcihgaaTrimJ
namespace Go.Proofs.Ytgeldgikjcihgaa
open Go.RowKit
/-- a word that is not noughts keeps the words from being cut away. -/
theorem nzR_zero : ∀ l : List W8, nzR l = 0 → ∀ x ∈ l, zerB x.1 = true
  | [], _, x, hx => by cases hx
  | y :: r, h, x, hx => by
    rw [nzR] at h
    cases hz : zerB y.1
    · rw [hz] at h; simp at h
    · rw [hz, if_pos rfl] at h
      rcases List.mem_cons.1 hx with rfl | hx
      · exact hz
      · exact nzR_zero r h x hx
theorem nzN_zero {l : List W8} (h : nzN l = 0) (x : W8) (hx : x ∈ l) : zerB x.1 = true := nzR_zero l.reverse h x (List.mem_reverse.2 hx)
def trS (s : ByteArray) : ByteArray := s.extract 0 (8 * nzN (wordsQ s.data.toList))
theorem trimWords (s : ByteArray) (h8 : s.size % 8 = 0) (h : s.size ≤ 1600) (w : World) :
    Calls Try.prog 16 #[.string s] w fun e w' => e = .returned (.string (trS s)) ∧ Below w.heap.size w w' :=
  callsIn_wide.1 (trim_in s w (by unfold maxLen; omega) ((wordsB_iff _).2 ⟨h8, h⟩))
theorem trS_zero (s : ByteArray) (h8 : s.size % 8 = 0) (h : s.size ≤ 1600) (hz : (trS s).size = 0) : (pkS s).size ≤ 2 := by
  have hsl : s.data.toList.length = s.size := rfl
  have hle := nzN_le (wordsQ s.data.toList)
  rw [wordsQ_length, hsl] at hle
  have h0 : nzN (wordsQ s.data.toList) = 0 := by
    rw [trS, ByteArray.size_extract] at hz
    omega
  have hps : (pkS s).size = (packB s.data.toList).length := mk_sz _
  rw [hps]
  by_cases hs0 : s.size = 0
  · have hnil : s.data.toList = [] := List.eq_nil_of_length_eq_zero (by rw [hsl]; exact hs0)
    have := packB_le (l := s.data.toList) ((wordsB_iff _).2 ⟨by rw [hsl]; exact h8, by rw [hsl]; exact h⟩)
    omega
  · rw [packB_zero ((wordsB_iff _).2 ⟨by rw [hsl]; exact h8, by rw [hsl]; exact h⟩) (by rw [hsl]; exact hs0) ?_]
    · simp
    · intro b hb
      rw [← wl_flat s.data.toList (by rw [hsl]; exact h8)] at hb
      obtain ⟨x, hx, hbx⟩ := List.mem_flatten.1 hb
      obtain ⟨y, hy, rfl⟩ := List.mem_map.1 hx
      have := List.all_eq_true.1 (nzN_zero h0 y hy) b hbx
      simpa using this
theorem tr_not_empty (X : ByteArray) (h : 1 ≤ X.size) : X.toList.isEmpty = false := by
  rw [ByteArray.toList_eq]
  cases hx : X.data.toList with
  | nil =>
    have h2 : X.data.toList.length = X.size := rfl
    rw [hx, List.length_nil] at h2
    omega
  | cons a r => rfl
set_option maxRecDepth 100000 in
set_option maxHeartbeats 4000000 in
theorem walkFnPack (w : World) (a : Option Addr) (len cap : Nat) (h : Arg w a len cap) :
    Calls Try.prog 3 #[.slice a len cap] w fun e w' => e = .returned (.bool true) ∧ Below w.heap.size w w' := by
  have hlen := h.1.1
  unfold maxLen at hlen
  by_cases hbig : 1048576 < len
  · go_enter Try.func3, Try.ntmps3
    go_wp2
    go_ret
    exact ⟨rfl, Below.refl _ _⟩
  go_enter Try.func3, Try.ntmps3
  go_wp2_with fail
  refine (drawPack_any a len cap _ h).mono ?_
  rintro e w1 ⟨s, hs, rfl, hb1⟩
  have HB2 := Lib.hid hb1
  have HIs := Lib.hid (fun w => implPackS s w (by omega))
  have HSs := Lib.hid (fun w => specPackS s w (by omega))
  have hXs := pkS_le s
  clear h hlen hbig hb1
  go_wp2_with fail
  with_reducible (refine (HIs.out _).mono ?_)
  rintro e w3 ⟨rfl, hb3⟩
  have HB3 := Lib.hid (HB2.out.trans (hb3.mono HB2.out.size))
  clear hb3
  go_wp2_with fail
  with_reducible (refine (HSs.out _).mono ?_)
  rintro e w4 ⟨rfl, hb4⟩
  have HB4 := Lib.hid (HB3.out.trans (hb4.mono HB3.out.size))
  clear hb4
  have hcase : ¬ s.size % 8 = 0 ∨ (s.size % 8 = 0 ∧ ¬ s.size ≤ 1600) ∨ (s.size % 8 = 0 ∧ s.size ≤ 1600) := by omega
  rcases hcase with c1 | ⟨c1, c2⟩ | ⟨c1, c2⟩
  iterate 2
    · generalize pkS s = X at HIs HSs hXs ⊢
      go_wp2_with fail
      with_reducible (refine (HSs.out _).mono ?_)
      rintro e w5 ⟨rfl, hb5⟩
      have HB5 := Lib.hid (HB4.out.trans (hb5.mono HB4.out.size))
      clear hb5
      go_wp2
      go_ret
      exact ⟨rfl, HB5.out⟩
  have HU := Lib.hid (fun w => unPack1 s c1 c2 w)
  have HT := Lib.hid (fun w => trimWords s c1 c2 w)
  have hz := trS_zero s c1 c2
  have hX2 : (pkS s).size ≤ s.size + 2 * (s.size / 8) := by
    have hsl : s.data.toList.length = s.size := rfl
    have hps : (pkS s).size = (packB s.data.toList).length := mk_sz _
    rw [hps, ← hsl]
    exact packB_le ((wordsB_iff _).2 ⟨by rw [hsl]; exact c1, by rw [hsl]; exact c2⟩)
  have hle : ((pkS s).size : Int) ≤ (s.size : Int) + 2 * ((s.size : Int) / 8) := by omega
  generalize trS s = T at *
  generalize pkS s = X at *
  clear HIs HSs hX2
  have HZ := Lib.hid hz
  clear hz
  go_wp2_with fail
  with_reducible (refine (HU.out _).mono ?_)
  rintro e w5 ⟨rfl, hb5⟩
  have HB5 := Lib.hid (HB4.out.trans (hb5.mono HB4.out.size))
  clear hb5
  go_wp2_with fail
  with_reducible (refine (HT.out _).mono ?_)
  rintro e w6 ⟨rfl, hb6⟩
  have HB6 := Lib.hid (HB5.out.trans (hb6.mono HB5.out.size))
  clear hb6
  by_cases hT : T.size = 0
  · have h2 := HZ.out hT
    have h2i : (X.size : Int) ≤ 2 := by omega
    have hTe : T.toList.isEmpty = true := by
      have : T = ByteArray.empty := ext_ba (List.eq_nil_of_length_eq_zero hT)
      rw [this]; simp
    clear hT h2
    go_wp2
    go_ret
    refine ⟨ret_bool ?_, HB6.out⟩
    simp; try omega
  · have hTe : T.toList.isEmpty = false := tr_not_empty T (by omega)
    clear hT
    go_wp2
    go_ret
    refine ⟨ret_bool ?_, HB6.out⟩
    simp; try omega
end Go.Proofs.Ytgeldgikjcihgaa
