/- The specification's draws of fields for the laws of layout. -/
import Derived.Test.YtfgebmmnlneciaaDoorDrawFld
namespace Go.Proofs.YtfgebmmnlneciaaDoor
open Go.RowKit
def lenOfS : Value → Nat
  | .slice _ n _ => n
  | _ => 0
set_option maxHeartbeats 8000000 in
set_option maxRecDepth 100000 in
theorem l13AnyFields_any (R n : Nat) (w : World) (h : Rd w R n) (hn : n ≤ 700000) :
    Calls Tryd.prog 39 #[.pointer (some ⟨R, 0, none⟩)] w (FldP 13 R (n + 100) w) := by
  have hRw := h.lt
  obtain ⟨i0, hi, hz0, hz1, hz2⟩ := info_parts infoFld
  go_enter Tryd.func39, Tryd.ntmps39
  go_wp2_with fail
  refine (l13Fields_any R n _ h (by omega)).mono ?_
  rintro e w1 ⟨v, l, rfl, hl, hown, hp1⟩
  obtain ⟨A1, cp1, rfl⟩ := own_slice3 hown
  have HO1 := Lib.hid hown
  have HP1 := Lib.hid hp1
  clear hown hp1
  go_wp2_with fail
  refine (pick_any R (n + 60) _ _ HP1.out.1 (by omega)).mono ?_
  rintro e w2 ⟨q, ⟨hq0, hq1⟩, rfl, hp2⟩
  have HO2 := Lib.hid (own_pickedZ HO1.out hp2 hRw)
  have HP2 := Lib.hid (HP1.out.then hp2)
  have hs2 := HP2.out.2.size
  have hRl2 := HP2.out.1.lt
  clear hp2 hq1
  by_cases q0 : q = 0
  · subst q0
    go_wp2_with fail
    refine (one_any R (n + 61) w2.heap.size 3 3 (fun _ => True) _ _ (by exact HP2.out.1.below ((Below.refl _ _).alloc (Nat.le_refl _) _)) (by omega) (by exact Lits.new _ _ _ _) (by
      intro v hv
      simp at hv
      rcases hv with rfl | rfl | rfl
      all_goals exact ⟨_, rfl, trivial⟩) (by omega) (by simp) (by omega) (by omega)).mono ?_
    rintro e w3 ⟨z1, -, rfl, hp3⟩
    have HO3 := Lib.hid (own_pickedZ (HO2.out.alloc _) hp3 hRw)
    have HP3 := Lib.hid ((HP2.out.below ((Below.refl _ _).alloc (Nat.le_refl _) _)).then hp3)
    have hs3 := HP3.out.2.size
    have hRl3 := HP3.out.1.lt
    clear hp3
    go_wp2_with fail
    refine (one_any R (n + 62) w3.heap.size 2 2 (fun _ => True) _ _ (by exact HP3.out.1.below ((Below.refl _ _).alloc (Nat.le_refl _) _)) (by omega) (by exact Lits.new _ _ _ _) (by
      intro v hv
      simp at hv
      rcases hv with rfl | rfl
      all_goals exact ⟨_, rfl, trivial⟩) (by omega) (by simp) (by omega) (by omega)).mono ?_
    rintro e w4 ⟨z2, -, rfl, hp4⟩
    have HO4 := Lib.hid (own_pickedZ (HO3.out.alloc _) hp4 hRw)
    have HP4 := Lib.hid ((HP3.out.below ((Below.refl _ _).alloc (Nat.le_refl _) _)).then hp4)
    have hs4 := HP4.out.2.size
    clear hp4
    go_wp2_with (at_builtin; go_must (refine wpList_append_own _ rfl (.tmp 10) (.tmp 18) 29 rfl w.heap.size fieldT i0 (.agg #[.int .i64 0, .bool false, .int .i64 0]) 3 24 Tryd.underlying29 hi hz0 hz1 hz2 rfl (by decide) _ l.length _ rfl (HO4.out.alloc _) ⟨w4.heap.size, 0, none⟩ 1 1 [.int .i64 z1, .bool false, .int .i64 z2] rfl rfl (cells_three_at _ _ rfl _ _ _ _) (by simp [Value.oneCell']) (by unfold maxLen; omega) (by omega) (by simp; omega) ?_); intro v' wn hown' hgrow _)
    have hpn := picked_growZ HP4.out hRw hs4 (Nat.le_refl _) HO4.out hgrow
    go_wp2
    go_ret
    exact ⟨v', l ++ [Fld.mk z1 false z2], rfl, by simp; omega, fld_app hown', hpn.mono (by omega)⟩
  have b0 : (q == 0) = false := by simpa using q0
  by_cases q1 : q = 1
  · subst q1
    go_wp2_with fail
    go_loopw [3] (fun v wr => ∃ (l : List Fld), l.length ≤ 13 ∧ Hid (wr.ownsRow w.heap.size fieldT 3 v l.length (fldCells l)) ∧ Hid (Picked w R (n + 61 + 2 * l.length) wr)) (fun v _ => 14 - lenOfS v)
    case atStart => exact ⟨l, by omega, HO2, Lib.hid (HP2.out.mono (by omega))⟩
    case round =>
      obtain ⟨l, hl, HO, HP⟩ := hrel
      obtain ⟨A2, cp2, rfl⟩ := own_slice3 HO.out
      go_wp2_with fail
      refine (pick_any R (n + 61 + 2 * l.length) _ _ HP.out.1 (by omega)).mono ?_
      rintro e w3 ⟨x, ⟨hx0, hx1⟩, rfl, hp3⟩
      have hx2 : x ≤ 1 := by omega
      have HO3 := Lib.hid (own_pickedZ HO.out hp3 hRw)
      have HP3 := Lib.hid (HP.out.then hp3)
      clear hp3 hx1
      by_cases hlt : (l.length : Int) < 12 + x
      · go_wp2_with fail
        refine (pick_any R (n + 61 + 2 * l.length + 1) _ _ HP3.out.1 (by omega)).mono ?_
        rintro e w4 ⟨y, ⟨hy0, hy1⟩, rfl, hp4⟩
        have hy2 : y ≤ 5 := by omega
        have HO4 := Lib.hid (own_pickedZ HO3.out hp4 hRw)
        have HP4 := Lib.hid (HP3.out.then hp4)
        have hs4 := HP4.out.2.size
        clear hp4 hy1
        go_wp2_with (at_builtin; go_must (refine wpList_append_own _ rfl (.tmp 28) (.tmp 33) 29 rfl w.heap.size fieldT i0 (.agg #[.int .i64 0, .bool false, .int .i64 0]) 3 24 Tryd.underlying29 hi hz0 hz1 hz2 rfl (by decide) _ l.length _ rfl (HO4.out.alloc _) ⟨w4.heap.size, 0, none⟩ 1 1 [.int .i64 (1 + y), .bool false, .int .i64 0] rfl rfl (cells_three_at _ _ rfl _ _ _ _) (by simp [Value.oneCell']) (by unfold maxLen; omega) (by omega) (by simp; omega) ?_); intro v' wn hown' hgrow _)
        have hpn := picked_growZ HP4.out hRw hs4 (Nat.le_refl _) HO4.out hgrow
        have HPN := Lib.hid hpn
        have HON := Lib.hid (fld_app hown')
        obtain ⟨A3, cp3, rfl⟩ := own_slice3 hown'
        clear hpn hown' hgrow
        go_wp2
        go_roundw
        case rel => exact ⟨l ++ [Fld.mk (1 + y) false 0], by simp; omega, HON, HPN.out.mono (by simp; omega)⟩
        case measure => simp [lenOfS]; omega
      · have hge : 12 + x ≤ (l.length : Int) := by omega
        go_wp2
        go_ret
        exact ⟨_, l, rfl, hl, HO3.out, HP3.out.mono (by omega)⟩
  have b1 : (q == 1) = false := by simpa using q1
  go_wp2
  go_ret
  exact ⟨_, l, rfl, by omega, HO2.out, HP2.out.mono (by omega)⟩
/-- what a draw of fields gives. -/
def DrawF (w : World) (e : Ending) (w' : World) : Prop := ∃ (A : Option Addr) (cap : Nat) (l : List Fld), e = .returned (.slice A l.length cap) ∧ l.length ≤ 13 ∧ l.length ≤ cap ∧ Flds w' A l ∧ Below w.heap.size w w'
theorem own_cap {w : World} {B e n z cap : Nat} {A : Option Addr} {xs : List Value} (h : w.ownsRow B e z (.slice A n cap) n xs) : n ≤ cap := by
  rcases h.2 with ⟨e1, rfl⟩ | ⟨g, cap', cur, e1, _, _, hc, _⟩
  · exact Nat.zero_le _
  · injection e1 with _ _ e3
    omega
set_option maxHeartbeats 2000000 in
theorem drawLayoutOf_any (a : Option Addr) (len cap : Nat) (w : World) (h : Arg w a len cap) :
    Calls Tryd.prog 22 #[.slice a len cap] w (DrawF w) := by
  go_enter Tryd.func22, Tryd.ntmps22
  go_wp2_with fail
  refine (l1Open_any a len cap _ h.1 h.2.1 h.2.2).mono ?_
  rintro e w1 ⟨R, rfl, hR, hrd, hb1⟩
  go_wp2_with fail
  refine (l13AnyFields_any R 0 _ hrd (by omega)).mono ?_
  rintro e w2 ⟨v, l, rfl, hl, hown, hp2⟩
  obtain ⟨A1, cp1, rfl, hf⟩ := flds_of_own hown
  have hc := own_cap hown
  clear hown
  go_wp2
  go_ret
  exact ⟨A1, cp1, l, rfl, hl, hc, hf, opened_below hR hb1 hp2⟩
set_option maxHeartbeats 2000000 in
theorem drawFieldsOk_any (a : Option Addr) (len cap : Nat) (w : World) (h : Arg w a len cap) :
    Calls Tryd.prog 27 #[.slice a len cap] w (DrawF w) := by
  go_enter Tryd.func27, Tryd.ntmps27
  go_wp2_with fail
  refine (l1Open_any a len cap _ h.1 h.2.1 h.2.2).mono ?_
  rintro e w1 ⟨R, rfl, hR, hrd, hb1⟩
  go_wp2_with fail
  refine (l13AnyFields_any R 0 _ hrd (by omega)).mono ?_
  rintro e w2 ⟨v, l, rfl, hl, hown, hp2⟩
  obtain ⟨A1, cp1, rfl, hf⟩ := flds_of_own hown
  have hc := own_cap hown
  clear hown
  go_wp2
  go_ret
  exact ⟨A1, cp1, l, rfl, hl, hc, hf, opened_below hR hb1 hp2⟩
def DrawFB (w : World) (e : Ending) (w' : World) : Prop := ∃ (A : Option Addr) (cap : Nat) (l : List Fld) (i : Int), e = .returned (.tuple #[.slice A l.length cap, .int .i64 i]) ∧ l.length ≤ 13 ∧ (-1 ≤ i ∧ i ≤ 100) ∧ Flds w' A l ∧ Below w.heap.size w w'
set_option maxHeartbeats 2000000 in
theorem drawLayoutBits_any (a : Option Addr) (len cap : Nat) (w : World) (h : Arg w a len cap) :
    Calls Tryd.prog 26 #[.slice a len cap] w (DrawFB w) := by
  go_enter Tryd.func26, Tryd.ntmps26
  go_wp2_with fail
  refine (l1Open_any a len cap _ h.1 h.2.1 h.2.2).mono ?_
  rintro e w1 ⟨R, rfl, hR, hrd, hb1⟩
  have hRl := hrd.lt
  go_wp2_with fail
  refine (l13AnyFields_any R 0 _ hrd (by omega)).mono ?_
  rintro e w2 ⟨v, l, rfl, hl, hown, hp2⟩
  have HO2 := Lib.hid hown
  obtain ⟨A1, cp1, rfl⟩ := own_slice3 hown
  have HP2 := Lib.hid hp2
  clear hown hp2
  go_wp2_with fail
  refine (pick_any R (0 + 100) _ _ HP2.out.1 (by omega)).mono ?_
  rintro e w3 ⟨x, ⟨hx0, hx1⟩, rfl, hp3⟩
  have hx2 : x ≤ 15 := by omega
  have ho3 := own_pickedZ HO2.out hp3 hRl
  have HP3 := Lib.hid (HP2.out.then hp3)
  obtain ⟨A2, cp2, hv, hf⟩ := flds_of_own ho3
  obtain ⟨rfl, rfl⟩ : A1 = A2 ∧ cp1 = cp2 := by injection hv with e1 e2 e3; exact ⟨e1, e3⟩
  clear hp3 ho3 hv hx1
  go_wp2
  go_ret2
  exact ⟨A1, cp1, l, x - 1, rfl, hl, by omega, hf, opened_below hR hb1 HP3.out⟩
end Go.Proofs.YtfgebmmnlneciaaDoor
