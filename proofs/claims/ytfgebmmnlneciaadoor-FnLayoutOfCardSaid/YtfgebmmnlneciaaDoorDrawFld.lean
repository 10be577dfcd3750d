/- The specification's drawer of fields. -/
import Derived.Test.YtfgebmmnlneciaaDoorArgB
import Derived.Test.YtfgebmmnlneciaaDoorDrawOne
import Derived.Test.YtfgebmmnlneciaaDoorFldM
import Derived.Maps.AppendAt
namespace Go.Proofs.YtfgebmmnlneciaaDoor
open Go.RowKit
theorem grown_of_keeps' {R : Nat} {w w' : World} (h : Keeps w.heap.size R w w') : w.grownBy w' (some R) := ⟨h.os, h.tape, h.output, h.size, fun k hk hne => h.block k hk (fun e => hne (by rw [e]))⟩
theorem own_pickedZ {w w' : World} {R n base m z : Nat} {e : TypeId} {v : Value} {xs : List Value} (h : w.ownsRow base e z v m xs) (hp : Picked w R n w') (hR : R < base) : w'.ownsRow base e z v m xs := by
  refine h.kept (grown_of_keeps' hp.2) ?_
  by_cases hv : v.ownBlock = none
  · exact .inl hv
  · refine .inr (fun e => ?_)
    have := (h.lt R (by rw [e])).1
    omega
theorem picked_growZ {w w1 w2 : World} {R n base m z : Nat} {e : TypeId} {v : Value} {xs : List Value} {o : Obj} (hp : Picked w R n w1) (hR : R < base) (hb : base ≤ w1.heap.size) (hwb : w.heap.size ≤ base) (hown : w1.ownsRow base e z v m xs) (hg : (w1.alloc o).grownBy w2 v.ownBlock) : Picked w R n w2 := by
  have hbel : Below base w1 w2 := ((Below.refl base w1).alloc hb o).grown hg (by simp <;> omega) (fun k hk => (hown.lt k hk).1)
  obtain ⟨⟨a, l, c, p, hpn, hr, hc⟩, hk⟩ := hp
  refine ⟨⟨a, l, c, p, hpn, (hbel.block R hR).trans hr, hc.keeps (R := base) (Keeps.of_below hbel) (Nat.le_of_lt hR) (Nat.le_of_lt hR)⟩, ?_⟩
  exact ⟨hbel.os.trans hk.os, hbel.tape.trans hk.tape, hbel.output.trans hk.output, Nat.le_trans hk.size hbel.size, fun k hk1 hk2 => (hbel.block k (Nat.lt_of_lt_of_le hk1 hwb)).trans (hk.block k hk1 hk2)⟩
theorem picked_belowB {w w1 w2 : World} {R n : Nat} (hp : Picked w R n w1) (hR : R < w.heap.size) (hbel : Below w.heap.size w1 w2) : Picked w R n w2 := by
  obtain ⟨⟨a, l, c, p, hpn, hr, hc⟩, hk⟩ := hp
  refine ⟨⟨a, l, c, p, hpn, (hbel.block R hR).trans hr, hc.keeps (R := w.heap.size) (Keeps.of_below hbel) (Nat.le_of_lt hR) (Nat.le_of_lt hR)⟩, ?_⟩
  exact ⟨hbel.os.trans hk.os, hbel.tape.trans hk.tape, hbel.output.trans hk.output, Nat.le_trans hk.size hbel.size, fun k hk1 hk2 => (hbel.block k hk1).trans (hk.block k hk1 hk2)⟩
theorem own_setZ {w : World} {base m z g i B : Nat} {e : TypeId} {v u : Value} {xs : List Value} (h : w.ownsRow base e z v m xs) (hB : ∀ k, v.ownBlock = some k → k < B) (hg : B ≤ g) : (w.setCell ⟨g, i, none⟩ u).ownsRow base e z v m xs := by
  refine h.kept (row := some g) ⟨rfl, rfl, rfl, by simp [World.setCell], fun k _ hk => Below.heap_setCell w ⟨g, i, none⟩ u k (fun e => hk (by rw [e]))⟩ ?_
  exact .inr (fun e => by have := hB g e; omega)
/-- some fields, in memory of the call's own. -/
def FldP (b R n : Nat) (w : World) (e : Ending) (w' : World) : Prop := ∃ (v : Value) (l : List Fld), e = .returned v ∧ l.length ≤ b ∧ w'.ownsRow w.heap.size fieldT 3 v l.length (fldCells l) ∧ Picked w R n w'
set_option maxHeartbeats 8000000 in
set_option maxRecDepth 100000 in
theorem l13Fields_any (R n : Nat) (w : World) (h : Rd w R n) (hn : n ≤ 800000) :
    Calls Tryd.prog 51 #[.pointer (some ⟨R, 0, none⟩)] w (FldP 9 R (n + 60) w) := by
  have hRw := h.lt
  obtain ⟨i0, hi, hz0, hz1, hz2⟩ := info_parts infoFld
  have hq0 := h.self.below ((Below.refl w.heap.size w).alloc (Nat.le_refl _) (.cells #[] fieldT))
  have hown0 : (w.alloc (.cells #[] fieldT)).ownsRow w.heap.size fieldT 3 (.slice (some ⟨w.heap.size, 0, none⟩) 0 0) 0 [] := World.ownsRow_lit w #[] 0 (Nat.le_refl _) (by decide) rfl
  have HQ0 := Lib.hid hq0
  have HO0 := Lib.hid hown0
  clear h hq0 hown0
  go_enter Tryd.func51, Tryd.ntmps51
  go_wp2_with fail
  refine (pick_any R n _ _ HQ0.out.1 (by omega)).mono ?_
  rintro e w1 ⟨q, ⟨hq0, hq9⟩, rfl, hp1⟩
  obtain ⟨q, rfl⟩ := Int.eq_ofNat_of_zero_le hq0
  have hq9' : q ≤ 9 := by omega
  clear hq9
  have HO1 := Lib.hid (own_pickedZ HO0.out hp1 hRw)
  have HQ1 := Lib.hid (HQ0.out.then hp1)
  clear hp1
  go_wp2
  go_loopw [3, 4] (fun v i wr => ∃ (m : Nat) (l : List Fld), i = .int .i64 m ∧ l.length + m = q ∧ Hid (wr.ownsRow w.heap.size fieldT 3 v l.length (fldCells l)) ∧ Hid (Picked w R (n + 1 + 4 * l.length) wr)) (fun _ i _ => (intOf i).toNat)
  case atStart => exact ⟨q, [], rfl, by simp, by exact HO1, by exact HQ1⟩
  case round =>
    obtain ⟨m, l, rfl, hlm, HO, HP⟩ := hrel
    have HLM := Lib.hid hlm
    have hl9 : l.length ≤ 9 := by omega
    have hm9 : m ≤ 9 := by omega
    clear hlm
    by_cases h0 : m = 0
    · subst h0
      go_wp2
      go_ret
      exact ⟨_, l, rfl, hl9, HO.out, HP.out.mono (by omega)⟩
    · have h1 : 1 ≤ m := by omega
      obtain ⟨A1, cp1, rfl⟩ := own_slice3 HO.out
      clear h0
      go_wp2_with fail
      refine (pick_any R (n + 1 + 4 * l.length) _ _ HP.out.1 (by omega)).mono ?_
      rintro e w2 ⟨v2, ⟨hv20, hv21⟩, rfl, hp2⟩
      have hv25 : v2 ≤ 5 := by omega
      clear hv21
      have HO2 := Lib.hid (own_pickedZ HO.out hp2 hRw)
      have HP2 := Lib.hid (HP.out.then hp2)
      clear hp2
      go_wp2_with fail
      refine (pick_any R (n + 1 + 4 * l.length + 1) _ _ HP2.out.1 (by omega)).mono ?_
      rintro e w3 ⟨v3, ⟨hv30, hv31⟩, rfl, hp3⟩
      have HO3 := Lib.hid (own_pickedZ HO2.out hp3 hRw)
      have HP3 := Lib.hid (HP2.out.then hp3)
      clear hp3
      have hv33 : v3 ≤ 2 := by omega
      clear hv31
      obtain ⟨b3, hb3⟩ : ∃ b, (v3 == 0) = b := ⟨_, rfl⟩
      have hb3i : decide (v3 = 0) = b3 := by rw [← hb3]; rfl
      have hq3 := HP3.out.below ((Below.refl w3.heap.size w3).alloc (Nat.le_refl _) (.cells #[.int .i64 (1 + v2), .bool b3, .int .i64 0] fieldT))
      have HO4 := Lib.hid (HO3.out.alloc (.cells #[.int .i64 (1 + v2), .bool b3, .int .i64 0] fieldT))
      have HP4 := Lib.hid hq3
      have hs3 := HP3.out.2.size
      have hRl := HP3.out.1.lt
      have hs4 := HP4.out.2.size
      have HLT := Lib.hid (fun k hk => (HO3.out.lt k hk).2)
      clear hq3
      by_cases h5 : v2 = 5
      · subst h5
        go_wp2_with (at_builtin; go_must (refine wpList_append_own _ rfl (.tmp 31) (.tmp 33) 29 rfl w.heap.size fieldT i0 (.agg #[.int .i64 0, .bool false, .int .i64 0]) 3 24 Tryd.underlying29 hi hz0 hz1 hz2 rfl (by decide) _ l.length _ rfl (HO4.out.alloc _) ⟨w3.heap.size + 1, 0, none⟩ 1 1 [.int .i64 6, .bool b3, .int .i64 0] rfl rfl (cells_three_at _ _ (by simp [World.setCell]) _ _ _ _) (by simp [Value.oneCell']) (by unfold maxLen; omega) (by omega) (by simp [World.setCell]; omega) ?_); intro v' wn hown' hgrow _)
        have hpn := picked_growZ HP4.out hRw HP4.out.2.size (Nat.le_refl _) HO4.out hgrow
        have HPN := Lib.hid hpn
        have HON := Lib.hid (fld_app hown')
        clear hpn hgrow hown'
        go_wp2
        go_roundw
        case rel => exact ⟨m - 1, l ++ [Fld.mk 6 b3 0], by go_num, by have := HLM.out; simp; omega, HON, HPN.out.mono (by simp <;> omega)⟩
        case measure => simp [intOf]; omega
      · have hz6 : ((1 + v2 : Int) != 6) = true := by simp; omega
        have hz6' : ((1 + v2 : Int) == 6) = false := by simp; omega
        clear h5
        go_wp2_with fail
        refine (pick_any R (n + 1 + 4 * l.length + 1 + 1) _ _ HP4.out.1 (by omega)).mono ?_
        rintro e w5 ⟨v5, ⟨hv50, hv51⟩, rfl, hp5⟩
        have HO5 := Lib.hid (own_pickedZ HO4.out hp5 hRw)
        have HP5 := Lib.hid (HP4.out.then hp5)
        have hs5 := HP5.out.2.size
        have hw5 : w3.heap.size < w5.heap.size := by have := hp5.2.size; simp at this; omega
        have HR5 := Lib.hid ((hp5.2.block w3.heap.size (by simp) (by omega)).trans (heap_alloc_new w3 (.cells #[.int .i64 (1 + v2), .bool b3, .int .i64 0] fieldT)))
        clear hp5 hv51
        by_cases h50 : v5 = 0
        · subst h50
          go_wp2_with fail
          refine (pick_any R (n + 1 + 4 * l.length + 1 + 1 + 1) _ _ HP5.out.1 (by omega)).mono ?_
          rintro e w6 ⟨v6, ⟨hv60, hv61⟩, rfl, hp6⟩
          have HO6 := Lib.hid (own_pickedZ HO5.out hp6 hRw)
          have HP6 := Lib.hid (HP5.out.then hp6)
          have hr6 := (hp6.2.block w3.heap.size hw5 (by omega)).trans HR5.out
          have q0 : w6.cell? ⟨w3.heap.size, 0, none⟩ = some (.int .i64 (1 + v2)) := by rw [cell_of_row _ _ _ _ _ _ hr6]; rfl
          have q1 : w6.cell? ⟨w3.heap.size, 1, none⟩ = some (.bool b3) := by rw [cell_of_row _ _ _ _ _ _ hr6]; rfl
          have q2 : w6.cell? ⟨w3.heap.size, 2, none⟩ = some (.int .i64 0) := by rw [cell_of_row _ _ _ _ _ _ hr6]; rfl
          have qf := row_free hr6 2
          have hs6 := HP6.out.2.size
          have HO7 := Lib.hid (own_setZ (i := 2) (u := .int .i64 v6) HO6.out HLT.out (Nat.le_refl _))
          have HP7 := Lib.hid (picked_belowB HP6.out hRw ((Below.refl w.heap.size w6).setCell (p := ⟨w3.heap.size, 2, none⟩) hs3 (.int .i64 v6)))
          clear hp6 hv61 hr6
          go_wp2_with (at_builtin; go_must (refine wpList_append_own _ rfl (.tmp 31) (.tmp 33) 29 rfl w.heap.size fieldT i0 (.agg #[.int .i64 0, .bool false, .int .i64 0]) 3 24 Tryd.underlying29 hi hz0 hz1 hz2 rfl (by decide) _ l.length _ rfl (HO7.out.alloc _) ⟨w6.heap.size, 0, none⟩ 1 1 [.int .i64 (1 + v2), .bool b3, .int .i64 v6] rfl rfl (cells_three_at _ _ (by simp [World.setCell]) _ _ _ _) (by simp [Value.oneCell']) (by unfold maxLen; omega) (by omega) (by simp [World.setCell]; omega) ?_); intro v' wn hown' hgrow _)
          have hpn := picked_growZ HP7.out hRw HP7.out.2.size (Nat.le_refl _) HO7.out hgrow
          have HPN := Lib.hid hpn
          have HON := Lib.hid (fld_app hown')
          clear hpn hgrow hown'
          go_wp2
          go_roundw
          case rel => exact ⟨m - 1, l ++ [Fld.mk (1 + v2) b3 v6], by go_num, by have := HLM.out; simp; omega, HON, HPN.out.mono (by simp <;> omega)⟩
          case measure => simp [intOf]; omega
        · have h50' : (v5 == 0) = false := by simpa using h50
          have q0 : w5.cell? ⟨w3.heap.size, 0, none⟩ = some (.int .i64 (1 + v2)) := by rw [cell_of_row _ _ _ _ _ _ HR5.out]; rfl
          have q1 : w5.cell? ⟨w3.heap.size, 1, none⟩ = some (.bool b3) := by rw [cell_of_row _ _ _ _ _ _ HR5.out]; rfl
          have q2 : w5.cell? ⟨w3.heap.size, 2, none⟩ = some (.int .i64 0) := by rw [cell_of_row _ _ _ _ _ _ HR5.out]; rfl
          clear h50
          go_wp2_with (at_builtin; go_must (refine wpList_append_own _ rfl (.tmp 31) (.tmp 33) 29 rfl w.heap.size fieldT i0 (.agg #[.int .i64 0, .bool false, .int .i64 0]) 3 24 Tryd.underlying29 hi hz0 hz1 hz2 rfl (by decide) _ l.length _ rfl (HO5.out.alloc _) ⟨w5.heap.size, 0, none⟩ 1 1 [.int .i64 (1 + v2), .bool b3, .int .i64 0] rfl rfl (cells_three_at _ _ (by simp [World.setCell]) _ _ _ _) (by simp [Value.oneCell']) (by unfold maxLen; omega) (by omega) (by simp [World.setCell]; omega) ?_); intro v' wn hown' hgrow _)
          have hpn := picked_growZ HP5.out hRw HP5.out.2.size (Nat.le_refl _) HO5.out hgrow
          have HPN := Lib.hid hpn
          have HON := Lib.hid (fld_app hown')
          clear hpn hgrow hown'
          go_wp2
          go_roundw
          case rel => exact ⟨m - 1, l ++ [Fld.mk (1 + v2) b3 0], by go_num, by have := HLM.out; simp; omega, HON, HPN.out.mono (by simp <;> omega)⟩
          case measure => simp [intOf]; omega
end Go.Proofs.YtfgebmmnlneciaaDoor
