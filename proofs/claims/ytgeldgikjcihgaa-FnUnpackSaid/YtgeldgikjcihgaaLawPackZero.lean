/- The walk of the law FnPackZero. -/
import Derived.Test.YtgeldgikjcihgaaLawPackJoin
import Derived.Deep.OwnRows
import Derived.Laws.OwnMore
namespace Go.Proofs.Ytgeldgikjcihgaa
open Go.RowKit
/-- noughts. -/
def zrS (n : Nat) : ByteArray := ⟨(List.replicate n (0 : UInt8)).toArray⟩
theorem zrS_size (n : Nat) : (zrS n).size = n := by rw [zrS, mk_sz, List.length_replicate]
theorem zrS_data (n : Nat) : (zrS n).data.toList = List.replicate n 0 := by rw [zrS]
theorem unPack1 (a : ByteArray) (ha : a.size % 8 = 0) (hab : a.size ≤ 1600) (w : World) :
    Calls Try.prog 15 #[.string (pkS a)] w fun e w' => e = .returned (.tuple #[.string a, .bool true]) ∧ Below w.heap.size w w' := by
  have hal : a.data.toList.length = a.size := rfl
  have h := packB_un (l := a.data.toList) ((wordsB_iff _).2 ⟨ha, by omega⟩)
  have hv : unV (pkS a) = .tuple #[.string ⟨a.data.toList.toArray⟩, .bool true] := unV_of h (by omega)
  rw [← hv]
  exact implUnpack_any _ w
theorem pkS_zero (n : Nat) (h8 : n % 8 = 0) (h : n ≤ 1600) (h0 : 1 ≤ n) : pkS (zrS n) = ⟨#[0, UInt8.ofNat (n / 8 - 1)]⟩ := by
  apply ext_ba
  have hl : (List.replicate n (0 : UInt8)).length = n := List.length_replicate
  show packB (zrS n).data.toList = _
  rw [zrS_data, packB_zero (by rw [hl]; exact (wordsB_iff _).2 ⟨h8, h⟩) (by rw [hl]; omega) (fun b hb => (List.mem_replicate.1 hb).2), hl]
theorem conv_zero (n : Nat) (W : World) : (convert 22 9 (.slice (some ⟨W.heap.size, 0, none⟩) n n)).run Try.prog (W.alloc (.cells (madeCells #[.int .u8 0] n) 5)) = .ok (.string (zrS n)) (W.alloc (.cells (madeCells #[.int .u8 0] n) 5)) := by
  refine convert_wd _ _ _ 5 W.heap.size n n (List.replicate n 0) List.length_replicate Try.underlying22 Try.underlying5 Try.underlying9 (heap_alloc_new W _) ?_
  rw [toList_madeCells_one, List.take_of_length_le (by simp)]
  simp [Lib.byteCells]
set_option maxRecDepth 100000 in
set_option maxHeartbeats 4000000 in
theorem walkFnPackZero (w : World) (a : Option Addr) (len cap : Nat) (h : Arg w a len cap) :
    Calls Try.prog 6 #[.slice a len cap] w fun e w' => e = .returned (.bool true) ∧ Below w.heap.size w w' := by
  have hlen := h.1.1
  unfold maxLen at hlen
  by_cases hbig : 1048576 < len
  · go_enter Try.func6, Try.ntmps6
    go_wp2
    go_ret
    exact ⟨rfl, Below.refl _ _⟩
  go_enter Try.func6, Try.ntmps6
  go_wp2_with fail
  refine (drawPack_any a len cap _ h).mono ?_
  rintro e w1 ⟨s, hs, rfl, hb1⟩
  have HB2 := Lib.hid hb1
  have HIs := Lib.hid (fun w => implPackS s w (by omega))
  have HSs := Lib.hid (fun w => specPackS s w (by omega))
  have hXs := pkS_le s
  clear h hlen hbig hb1
  go_wp2_with fail
  with_reducible (refine (HIs.out _).mono ?_)
  rintro e w3 ⟨rfl, hb3⟩
  have HB3 := Lib.hid (HB2.out.trans (hb3.mono HB2.out.size))
  clear hb3
  go_wp2_with fail
  with_reducible (refine (HSs.out _).mono ?_)
  rintro e w4 ⟨rfl, hb4⟩
  have HB4 := Lib.hid (HB3.out.trans (hb4.mono HB3.out.size))
  clear hb4
  have hcase : ¬ s.size % 8 = 0 ∨ (s.size % 8 = 0 ∧ ¬ s.size ≤ 1600) ∨ (s.size % 8 = 0 ∧ s.size ≤ 1600 ∧ s.size = 0) ∨ (s.size % 8 = 0 ∧ s.size ≤ 1600 ∧ 1 ≤ s.size) := by omega
  rcases hcase with c1 | ⟨c1, c2⟩ | ⟨c1, c2, c3⟩ | ⟨c1, c2, c3⟩
  iterate 3
    · generalize pkS s = X at HIs HSs hXs ⊢
      go_wp2_with fail
      with_reducible (refine (HSs.out _).mono ?_)
      rintro e w5 ⟨rfl, hb5⟩
      have HB5 := Lib.hid (HB4.out.trans (hb5.mono HB4.out.size))
      clear hb5
      go_wp2
      go_ret
      exact ⟨rfl, HB5.out⟩
  have HIz := Lib.hid (fun w => implPackS (zrS s.size) w (by rw [zrS_size]; omega))
  have HUz := Lib.hid (fun w => unPack1 (zrS s.size) (by rw [zrS_size]; exact c1) (by rw [zrS_size]; exact c2) w)
  rw [pkS_zero s.size c1 c2 c3] at HIz HUz
  obtain ⟨c, hc⟩ : ∃ c, UInt8.ofNat (s.size / 8 - 1) = c := ⟨_, rfl⟩
  have hct : (c.toNat : Int) = (s.size : Int) / 8 - 1 := by
    have : c.toNat = s.size / 8 - 1 := by rw [← hc, UInt8.toNat_ofNat']; omega
    omega
  rw [hc] at HIz HUz
  have hmk := run_make_row' (P := Try.prog) 22 5 (.int .u8 0) 1 Try.underlying22 info5 rfl .i64 .i64 s.size (by omega) (by omega)
  have hcv := conv_zero s.size
  generalize zrS s.size = Z at *
  have hb0 : ((s.size : Int) == 0) = false := by rw [beq_eq_false_iff_ne]; omega
  generalize pkS s = X at *
  have HCT := Lib.hid hct
  clear HIs HSs hc c3 hct
  go_wp2_with fail
  with_reducible (refine (HIz.out _).mono ?_)
  rintro e w5 ⟨rfl, hb5⟩
  have HB5 := Lib.hid ((HB4.out.alloc HB4.out.size _).trans (hb5.mono (Nat.le_trans HB4.out.size (by simp))))
  clear hb5
  go_wp2_with fail
  with_reducible (refine (HUz.out _).mono ?_)
  rintro e w6 ⟨rfl, hb6⟩
  have HB6 := Lib.hid (HB5.out.trans (hb6.mono HB5.out.size))
  clear hb6 hmk hcv
  have i0 : ((⟨#[0, c]⟩ : ByteArray)[0]'(by show 0 < 2; omega)).toNat = 0 := rfl
  have i1 : wrap64 (((⟨#[0, c]⟩ : ByteArray)[1]'(by show 1 < 2; omega)).toNat : Int) = (s.size : Int) / 8 - 1 := by
    show wrap64 (c.toNat : Int) = _
    rw [wrap64_byte', HCT.out]
  go_wp2
  go_ret
  refine ⟨ret_bool ?_, HB6.out⟩
  simp
end Go.Proofs.Ytgeldgikjcihgaa
