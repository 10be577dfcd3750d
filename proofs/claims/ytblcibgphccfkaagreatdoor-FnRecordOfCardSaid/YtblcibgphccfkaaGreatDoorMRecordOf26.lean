/- Texts of the proof of the law FnRecordOf, side by side: part 26. -/
import Derived.Test.YtblcibgphccfkaaGreatDoorMRecordOf25
set_option maxHeartbeats 8000000
set_option maxRecDepth 100000
namespace Go.Proofs.YtblcibgphccfkaaGreatDoor
open Go.RowKit
theorem grown_of_keeps' {R : Nat} {w w' : World} (h : Keeps w.heap.size R w w') : w.grownBy w' (some R) := ⟨h.os, h.tape, h.output, h.size, fun k hk hne => h.block k hk (fun e => hne (by rw [e]))⟩
theorem own_pickedZ {w w' : World} {R n base m z : Nat} {e : TypeId} {v : Value} {xs : List Value} (h : w.ownsRow base e z v m xs) (hp : Picked w R n w') (hR : R < base) : w'.ownsRow base e z v m xs := by
 refine h.kept (grown_of_keeps' hp.2) ?_
 by_cases hv : v.ownBlock = none
 · exact .inl hv
 · refine .inr (fun e => ?_)
   have := (h.lt R (by rw [e])).1
   omega
theorem picked_growZ {w w1 w2 : World} {R n base m z : Nat} {e : TypeId} {v : Value} {xs : List Value} {o : Obj} (hp : Picked w R n w1) (hR : R < base) (hb : base ≤ w1.heap.size) (hwb : w.heap.size ≤ base) (hown : w1.ownsRow base e z v m xs) (hg : (w1.alloc o).grownBy w2 v.ownBlock) : Picked w R n w2 := by
 have hbel : Below base w1 w2 := ((Below.refl base w1).alloc hb o).grown hg (by simp <;> omega) (fun k hk => (hown.lt k hk).1)
 obtain ⟨⟨a, l, c, p, hpn, hr, hc⟩, hk⟩ := hp
 refine ⟨⟨a, l, c, p, hpn, (hbel.block R hR).trans hr, hc.keeps (R := base) (Keeps.of_below hbel) (Nat.le_of_lt hR) (Nat.le_of_lt hR)⟩, ?_⟩
 exact ⟨hbel.os.trans hk.os, hbel.tape.trans hk.tape, hbel.output.trans hk.output, Nat.le_trans hk.size hbel.size, fun k hk1 hk2 => (hbel.block k (Nat.lt_of_lt_of_le hk1 hwb)).trans (hk.block k hk1 hk2)⟩
theorem picked_belowB {w w1 w2 : World} {R n : Nat} (hp : Picked w R n w1) (hR : R < w.heap.size) (hbel : Below w.heap.size w1 w2) : Picked w R n w2 := by
 obtain ⟨⟨a, l, c, p, hpn, hr, hc⟩, hk⟩ := hp
 refine ⟨⟨a, l, c, p, hpn, (hbel.block R hR).trans hr, hc.keeps (R := w.heap.size) (Keeps.of_below hbel) (Nat.le_of_lt hR) (Nat.le_of_lt hR)⟩, ?_⟩
 exact ⟨hbel.os.trans hk.os, hbel.tape.trans hk.tape, hbel.output.trans hk.output, Nat.le_trans hk.size hbel.size, fun k hk1 hk2 => (hbel.block k hk1).trans (hk.block k hk1 hk2)⟩
theorem own_setZ {w : World} {base m z g i B : Nat} {e : TypeId} {v u : Value} {xs : List Value} (h : w.ownsRow base e z v m xs) (hB : ∀ k, v.ownBlock = some k → k < B) (hg : B ≤ g) : (w.setCell ⟨g, i, none⟩ u).ownsRow base e z v m xs := by
 refine h.kept (row := some g) ⟨rfl, rfl, rfl, by simp [World.setCell], fun k _ hk => Below.heap_setCell w ⟨g, i, none⟩ u k (fun e => hk (by rw [e]))⟩ ?_
 exact .inr (fun e => by have := hB g e; omega)
def lenOfS : Value → Nat
 | .slice _ n _ => n
 | _ => 0
def SomeS (v : Value) : Prop := ∃ (g : Nat) (n c : Nat), v = .slice (some ⟨g, 0, none⟩) n c
theorem own_someF {w : World} {B e n z : Nat} {v : Value} {xs : List Value} (h : w.ownsRow B e z v n xs) (hn : 0 < n) : SomeS v := by
 rcases h.2 with ⟨_, rfl⟩ | ⟨g, cap', cur, rfl, _⟩
 · exact absurd hn (Nat.lt_irrefl _)
 · exact ⟨g, _, _, rfl⟩
def ElsB (l : List Fld) : Prop := ∀ f ∈ l, 0 ≤ f.els ∧ f.els ≤ 2
theorem ElsB.snoc {l : List Fld} (h : ElsB l) {z : Int} {c : Bool} {e : Int} (he : 0 ≤ e ∧ e ≤ 2) : ElsB (l ++ [Fld.mk z c e]) := fun f hf => by
 rcases List.mem_append.1 hf with hf | hf
 · exact h f hf
 · obtain rfl := List.mem_singleton.1 hf
   exact he
def FldS (b R n : Nat) (w : World) (e : Ending) (w' : World) : Prop := ∃ (v : Value) (l : List Fld), e = .returned v ∧ l.length ≤ b ∧ w'.ownsRow w.heap.size fieldT 3 v l.length (fldCells l) ∧ Picked w R n w' ∧ SomeS v ∧ ElsB l
theorem l13Fields_s (R n : Nat) (w : World) (h : Rd w R n) (hn : n ≤ 800000) :
 Calls Tryz.prog 58 #[.pointer (some ⟨R, 0, none⟩)] w (FldS 9 R (n + 60) w) := by
 have hRw := h.lt
 obtain ⟨i0, hi, hz0, hz1, hz2⟩ := info_parts infoFld
 have hq0 := h.self.below ((Below.refl w.heap.size w).alloc (Nat.le_refl _) (.cells #[] fieldT))
 have hown0 : (w.alloc (.cells #[] fieldT)).ownsRow w.heap.size fieldT 3 (.slice (some ⟨w.heap.size, 0, none⟩) 0 0) 0 [] := World.ownsRow_lit w #[] 0 (Nat.le_refl _) (by decide) rfl
 have HQ0 := Lib.hid hq0
 have HO0 := Lib.hid hown0
 clear h hq0 hown0
 go_enter Tryz.func58, Tryz.ntmps58
 go_wp2_with fail
 refine (pick_any R n _ _ HQ0.out.1 (by omega)).mono ?_
 rintro e w1 ⟨q, ⟨hq0, hq9⟩, rfl, hp1⟩
 obtain ⟨q, rfl⟩ := Int.eq_ofNat_of_zero_le hq0
 have hq9' : q ≤ 9 := by omega
 clear hq9
 have HO1 := Lib.hid (own_pickedZ HO0.out hp1 hRw)
 have HQ1 := Lib.hid (HQ0.out.then hp1)
 clear hp1
 go_wp2
 go_loopw [3, 4] (fun v i wr => ∃ (m : Nat) (l : List Fld), i = .int .i64 m ∧ l.length + m = q ∧ Hid (wr.ownsRow w.heap.size fieldT 3 v l.length (fldCells l)) ∧ Hid (Picked w R (n + 1 + 4 * l.length) wr) ∧ Hid (SomeS v ∧ ElsB l)) (fun _ i _ => (intOf i).toNat)
 case atStart => exact ⟨q, [], rfl, by simp, by exact HO1, by exact HQ1, Lib.hid ⟨⟨_, _, _, rfl⟩, fun f h => (by cases h)⟩⟩
 case round =>
  obtain ⟨m, l, rfl, hlm, HO, HP, HSM⟩ := hrel
  have HLM := Lib.hid hlm
  have hl9 : l.length ≤ 9 := by omega
  have hm9 : m ≤ 9 := by omega
  clear hlm
  by_cases h0 : m = 0
  · subst h0
    go_wp2
    go_ret
    exact ⟨_, l, rfl, hl9, HO.out, HP.out.mono (by omega), HSM.out.1, HSM.out.2⟩
  · have h1 : 1 ≤ m := by omega
    obtain ⟨A1, cp1, rfl⟩ := own_slice3 HO.out
    clear h0
    go_wp2_with fail
    refine (pick_any R (n + 1 + 4 * l.length) _ _ HP.out.1 (by omega)).mono ?_
    rintro e w2 ⟨v2, ⟨hv20, hv21⟩, rfl, hp2⟩
    have hv25 : v2 ≤ 5 := by omega
    clear hv21
    have HO2 := Lib.hid (own_pickedZ HO.out hp2 hRw)
    have HP2 := Lib.hid (HP.out.then hp2)
    clear hp2
    go_wp2_with fail
    refine (pick_any R (n + 1 + 4 * l.length + 1) _ _ HP2.out.1 (by omega)).mono ?_
    rintro e w3 ⟨v3, ⟨hv30, hv31⟩, rfl, hp3⟩
    have HO3 := Lib.hid (own_pickedZ HO2.out hp3 hRw)
    have HP3 := Lib.hid (HP2.out.then hp3)
    clear hp3
    have hv33 : v3 ≤ 2 := by omega
    clear hv31
    obtain ⟨b3, hb3⟩ : ∃ b, (v3 == 0) = b := ⟨_, rfl⟩
    have hb3i : decide (v3 = 0) = b3 := by rw [← hb3]; rfl
    have hq3 := HP3.out.below ((Below.refl w3.heap.size w3).alloc (Nat.le_refl _) (.cells #[.int .i64 (1 + v2), .bool b3, .int .i64 0] fieldT))
    have HO4 := Lib.hid (HO3.out.alloc (.cells #[.int .i64 (1 + v2), .bool b3, .int .i64 0] fieldT))
    have HP4 := Lib.hid hq3
    have hs3 := HP3.out.2.size
    have hRl := HP3.out.1.lt
    have hs4 := HP4.out.2.size
    have HLT := Lib.hid (fun k hk => (HO3.out.lt k hk).2)
    clear hq3
    by_cases h5 : v2 = 5
    · subst h5
      go_wp2_with (at_builtin; go_must (refine wpList_append_own _ rfl (.tmp 31) (.tmp 33) 23 rfl w.heap.size fieldT i0 (.agg #[.int .i64 0, .bool false, .int .i64 0]) 3 24 Tryz.underlying23 hi hz0 hz1 hz2 rfl (by decide) _ l.length _ rfl (HO4.out.alloc _) ⟨w3.heap.size + 1, 0, none⟩ 1 1 [.int .i64 6, .bool b3, .int .i64 0] rfl rfl (cells_three_at _ _ (by simp [World.setCell]) _ _ _ _) (by simp [Value.oneCell']) (by unfold maxLen; omega) (by omega) (by simp [World.setCell]; omega) ?_); intro v' wn hown' hgrow _)
      have hpn := picked_growZ HP4.out hRw HP4.out.2.size (Nat.le_refl _) HO4.out hgrow
      have HPN := Lib.hid hpn
      have HON := Lib.hid (fld_app hown')
      clear hpn hgrow hown'
      go_wp2
      go_roundw
      case rel => exact ⟨m - 1, l ++ [Fld.mk 6 b3 0], by go_num, by have := HLM.out; simp; omega, HON, HPN.out.mono (by simp <;> omega), Lib.hid ⟨own_someF HON.out (by simp), HSM.out.2.snoc (by first | decide | exact HV6.out)⟩⟩
      case measure => simp [intOf]; omega
    · have hz6 : ((1 + v2 : Int) != 6) = true := by simp; omega
      have hz6' : ((1 + v2 : Int) == 6) = false := by simp; omega
      clear h5
      go_wp2_with fail
      refine (pick_any R (n + 1 + 4 * l.length + 1 + 1) _ _ HP4.out.1 (by omega)).mono ?_
      rintro e w5 ⟨v5, ⟨hv50, hv51⟩, rfl, hp5⟩
      have HO5 := Lib.hid (own_pickedZ HO4.out hp5 hRw)
      have HP5 := Lib.hid (HP4.out.then hp5)
      have hs5 := HP5.out.2.size
      have hw5 : w3.heap.size < w5.heap.size := by have := hp5.2.size; simp at this; omega
      have HR5 := Lib.hid ((hp5.2.block w3.heap.size (by simp) (by omega)).trans (heap_alloc_new w3 (.cells #[.int .i64 (1 + v2), .bool b3, .int .i64 0] fieldT)))
      clear hp5 hv51
      by_cases h50 : v5 = 0
      · subst h50
        go_wp2_with fail
        refine (pick_any R (n + 1 + 4 * l.length + 1 + 1 + 1) _ _ HP5.out.1 (by omega)).mono ?_
        rintro e w6 ⟨v6, ⟨hv60, hv61⟩, rfl, hp6⟩
        have HO6 := Lib.hid (own_pickedZ HO5.out hp6 hRw)
        have HP6 := Lib.hid (HP5.out.then hp6)
        have hr6 := (hp6.2.block w3.heap.size hw5 (by omega)).trans HR5.out
        have q0 : w6.cell? ⟨w3.heap.size, 0, none⟩ = some (.int .i64 (1 + v2)) := by rw [cell_of_row _ _ _ _ _ _ hr6]; rfl
        have q1 : w6.cell? ⟨w3.heap.size, 1, none⟩ = some (.bool b3) := by rw [cell_of_row _ _ _ _ _ _ hr6]; rfl
        have q2 : w6.cell? ⟨w3.heap.size, 2, none⟩ = some (.int .i64 0) := by rw [cell_of_row _ _ _ _ _ _ hr6]; rfl
        have qf := row_free hr6 2
        have hs6 := HP6.out.2.size
        have HO7 := Lib.hid (own_setZ (i := 2) (u := .int .i64 v6) HO6.out HLT.out (Nat.le_refl _))
        have HP7 := Lib.hid (picked_belowB HP6.out hRw ((Below.refl w.heap.size w6).setCell (p := ⟨w3.heap.size, 2, none⟩) hs3 (.int .i64 v6)))
        have HV6 : Hid (0 ≤ v6 ∧ v6 ≤ 2) := Lib.hid (by omega)
        clear hp6 hv61 hr6
        go_wp2_with (at_builtin; go_must (refine wpList_append_own _ rfl (.tmp 31) (.tmp 33) 23 rfl w.heap.size fieldT i0 (.agg #[.int .i64 0, .bool false, .int .i64 0]) 3 24 Tryz.underlying23 hi hz0 hz1 hz2 rfl (by decide) _ l.length _ rfl (HO7.out.alloc _) ⟨w6.heap.size, 0, none⟩ 1 1 [.int .i64 (1 + v2), .bool b3, .int .i64 v6] rfl rfl (cells_three_at _ _ (by simp [World.setCell]) _ _ _ _) (by simp [Value.oneCell']) (by unfold maxLen; omega) (by omega) (by simp [World.setCell]; omega) ?_); intro v' wn hown' hgrow _)
        have hpn := picked_growZ HP7.out hRw HP7.out.2.size (Nat.le_refl _) HO7.out hgrow
        have HPN := Lib.hid hpn
        have HON := Lib.hid (fld_app hown')
        clear hpn hgrow hown'
        go_wp2
        go_roundw
        case rel => exact ⟨m - 1, l ++ [Fld.mk (1 + v2) b3 v6], by go_num, by have := HLM.out; simp; omega, HON, HPN.out.mono (by simp <;> omega), Lib.hid ⟨own_someF HON.out (by simp), HSM.out.2.snoc (by first | decide | exact HV6.out)⟩⟩
        case measure => simp [intOf]; omega
      · have h50' : (v5 == 0) = false := by simpa using h50
        have q0 : w5.cell? ⟨w3.heap.size, 0, none⟩ = some (.int .i64 (1 + v2)) := by rw [cell_of_row _ _ _ _ _ _ HR5.out]; rfl
        have q1 : w5.cell? ⟨w3.heap.size, 1, none⟩ = some (.bool b3) := by rw [cell_of_row _ _ _ _ _ _ HR5.out]; rfl
        have q2 : w5.cell? ⟨w3.heap.size, 2, none⟩ = some (.int .i64 0) := by rw [cell_of_row _ _ _ _ _ _ HR5.out]; rfl
        clear h50
        go_wp2_with (at_builtin; go_must (refine wpList_append_own _ rfl (.tmp 31) (.tmp 33) 23 rfl w.heap.size fieldT i0 (.agg #[.int .i64 0, .bool false, .int .i64 0]) 3 24 Tryz.underlying23 hi hz0 hz1 hz2 rfl (by decide) _ l.length _ rfl (HO5.out.alloc _) ⟨w5.heap.size, 0, none⟩ 1 1 [.int .i64 (1 + v2), .bool b3, .int .i64 0] rfl rfl (cells_three_at _ _ (by simp [World.setCell]) _ _ _ _) (by simp [Value.oneCell']) (by unfold maxLen; omega) (by omega) (by simp [World.setCell]; omega) ?_); intro v' wn hown' hgrow _)
        have hpn := picked_growZ HP5.out hRw HP5.out.2.size (Nat.le_refl _) HO5.out hgrow
        have HPN := Lib.hid hpn
        have HON := Lib.hid (fld_app hown')
        clear hpn hgrow hown'
        go_wp2
        go_roundw
        case rel => exact ⟨m - 1, l ++ [Fld.mk (1 + v2) b3 0], by go_num, by have := HLM.out; simp; omega, HON, HPN.out.mono (by simp <;> omega), Lib.hid ⟨own_someF HON.out (by simp), HSM.out.2.snoc (by first | decide | exact HV6.out)⟩⟩
        case measure => simp [intOf]; omega
theorem l13AnyFields_s (R n : Nat) (w : World) (h : Rd w R n) (hn : n ≤ 700000) :
 Calls Tryz.prog 23 #[.pointer (some ⟨R, 0, none⟩)] w (FldS 13 R (n + 100) w) := by
 have hRw := h.lt
 obtain ⟨i0, hi, hz0, hz1, hz2⟩ := info_parts infoFld
 go_enter Tryz.func23, Tryz.ntmps23
 go_wp2_with fail
 refine (l13Fields_s R n _ h (by omega)).mono ?_
 rintro e w1 ⟨v, l, rfl, hl, hown, hp1, hsm1, hsm2⟩
 obtain ⟨A1, cp1, rfl⟩ := own_slice3 hown
 have HSM := Lib.hid (And.intro hsm1 hsm2)
 clear hsm1 hsm2
 have HO1 := Lib.hid hown
 have HP1 := Lib.hid hp1
 clear hown hp1
 go_wp2_with fail
 refine (pick_any R (n + 60) _ _ HP1.out.1 (by omega)).mono ?_
 rintro e w2 ⟨q, ⟨hq0, hq1⟩, rfl, hp2⟩
 have HO2 := Lib.hid (own_pickedZ HO1.out hp2 hRw)
 have HP2 := Lib.hid (HP1.out.then hp2)
 have hs2 := HP2.out.2.size
 have hRl2 := HP2.out.1.lt
 clear hp2 hq1
 by_cases q0 : q = 0
 · subst q0
   go_wp2_with fail
   refine (one_any R (n + 61) w2.heap.size 3 3 (fun _ => True) _ _ (by exact HP2.out.1.below ((Below.refl _ _).alloc (Nat.le_refl _) _)) (by omega) (by exact Lits.new _ _ _ _) (by
    intro v hv
    simp at hv
    rcases hv with rfl | rfl | rfl
    all_goals exact ⟨_, rfl, trivial⟩) (by omega) (by simp) (by omega) (by omega)).mono ?_
   rintro e w3 ⟨z1, -, rfl, hp3⟩
   have HO3 := Lib.hid (own_pickedZ (HO2.out.alloc _) hp3 hRw)
   have HP3 := Lib.hid ((HP2.out.below ((Below.refl _ _).alloc (Nat.le_refl _) _)).then hp3)
   have hs3 := HP3.out.2.size
   have hRl3 := HP3.out.1.lt
   clear hp3
   go_wp2_with fail
   refine (one_any R (n + 62) w3.heap.size 2 2 (fun z => 0 ≤ z ∧ z ≤ 2) _ _ (by exact HP3.out.1.below ((Below.refl _ _).alloc (Nat.le_refl _) _)) (by omega) (by exact Lits.new _ _ _ _) (by
    intro v hv
    simp at hv
    rcases hv with rfl | rfl
    all_goals exact ⟨_, rfl, by decide⟩) (by omega) (by simp) (by omega) (by omega)).mono ?_
   rintro e w4 ⟨z2, hz2b, rfl, hp4⟩
   have HZ2 := Lib.hid hz2b
   clear hz2b
   have HO4 := Lib.hid (own_pickedZ (HO3.out.alloc _) hp4 hRw)
   have HP4 := Lib.hid ((HP3.out.below ((Below.refl _ _).alloc (Nat.le_refl _) _)).then hp4)
   have hs4 := HP4.out.2.size
   clear hp4
   go_wp2_with (at_builtin; go_must (refine wpList_append_own _ rfl (.tmp 10) (.tmp 18) 23 rfl w.heap.size fieldT i0 (.agg #[.int .i64 0, .bool false, .int .i64 0]) 3 24 Tryz.underlying23 hi hz0 hz1 hz2 rfl (by decide) _ l.length _ rfl (HO4.out.alloc _) ⟨w4.heap.size, 0, none⟩ 1 1 [.int .i64 z1, .bool false, .int .i64 z2] rfl rfl (cells_three_at _ _ rfl _ _ _ _) (by simp [Value.oneCell']) (by unfold maxLen; omega) (by omega) (by simp; omega) ?_); intro v' wn hown' hgrow _)
   have hpn := picked_growZ HP4.out hRw hs4 (Nat.le_refl _) HO4.out hgrow
   go_wp2
   go_ret
   exact ⟨v', l ++ [Fld.mk z1 false z2], rfl, by simp; omega, fld_app hown', hpn.mono (by omega), own_someF hown' (by omega), HSM.out.2.snoc HZ2.out⟩
 have b0 : (q == 0) = false := by simpa using q0
 by_cases q1 : q = 1
 · subst q1
   go_wp2_with fail
   go_loopw [3] (fun v wr => ∃ (l : List Fld), l.length ≤ 13 ∧ Hid (wr.ownsRow w.heap.size fieldT 3 v l.length (fldCells l)) ∧ Hid (Picked w R (n + 61 + 2 * l.length) wr) ∧ Hid (SomeS v ∧ ElsB l)) (fun v _ => 14 - lenOfS v)
   case atStart => exact ⟨l, by omega, HO2, Lib.hid (HP2.out.mono (by omega)), HSM⟩
   case round =>
    obtain ⟨l, hl, HO, HP, HSV⟩ := hrel
    obtain ⟨A2, cp2, rfl⟩ := own_slice3 HO.out
    go_wp2_with fail
    refine (pick_any R (n + 61 + 2 * l.length) _ _ HP.out.1 (by omega)).mono ?_
    rintro e w3 ⟨x, ⟨hx0, hx1⟩, rfl, hp3⟩
    have hx2 : x ≤ 1 := by omega
    have HO3 := Lib.hid (own_pickedZ HO.out hp3 hRw)
    have HP3 := Lib.hid (HP.out.then hp3)
    clear hp3 hx1
    by_cases hlt : (l.length : Int) < 12 + x
    · go_wp2_with fail
      refine (pick_any R (n + 61 + 2 * l.length + 1) _ _ HP3.out.1 (by omega)).mono ?_
      rintro e w4 ⟨y, ⟨hy0, hy1⟩, rfl, hp4⟩
      have hy2 : y ≤ 5 := by omega
      have HO4 := Lib.hid (own_pickedZ HO3.out hp4 hRw)
      have HP4 := Lib.hid (HP3.out.then hp4)
      have hs4 := HP4.out.2.size
      clear hp4 hy1
      go_wp2_with (at_builtin; go_must (refine wpList_append_own _ rfl (.tmp 28) (.tmp 33) 23 rfl w.heap.size fieldT i0 (.agg #[.int .i64 0, .bool false, .int .i64 0]) 3 24 Tryz.underlying23 hi hz0 hz1 hz2 rfl (by decide) _ l.length _ rfl (HO4.out.alloc _) ⟨w4.heap.size, 0, none⟩ 1 1 [.int .i64 (1 + y), .bool false, .int .i64 0] rfl rfl (cells_three_at _ _ rfl _ _ _ _) (by simp [Value.oneCell']) (by unfold maxLen; omega) (by omega) (by simp; omega) ?_); intro v' wn hown' hgrow _)
      have hpn := picked_growZ HP4.out hRw hs4 (Nat.le_refl _) HO4.out hgrow
      have HPN := Lib.hid hpn
      have HON := Lib.hid (fld_app hown')
      obtain ⟨A3, cp3, rfl⟩ := own_slice3 hown'
      clear hpn hown' hgrow
      go_wp2
      go_roundw
      case rel => exact ⟨l ++ [Fld.mk (1 + y) false 0], by simp; omega, HON, HPN.out.mono (by simp; omega), Lib.hid ⟨own_someF HON.out (by simp), HSV.out.2.snoc (by decide)⟩⟩
      case measure => simp [lenOfS]; omega
    · have hge : 12 + x ≤ (l.length : Int) := by omega
      go_wp2
      go_ret
      exact ⟨_, l, rfl, hl, HO3.out, HP3.out.mono (by omega), HSV.out.1, HSV.out.2⟩
 have b1 : (q == 1) = false := by simpa using q1
 go_wp2
 go_ret
 exact ⟨_, l, rfl, by omega, HO2.out, HP2.out.mono (by omega), HSM.out.1, HSM.out.2⟩
open Go.RowKit Go.Deep
def ValD (R k : Nat) (w : World) (e : Ending) (w' : World) : Prop := ∃ (x : Int) (n : Nd) (h : Hd), e = .returned (valV x n h) ∧ i64v x ∧ NdAt w' (From w.heap.size) 4 n h ∧ totN 4 n ≤ 7007 ∧ Picked w R k w'
theorem none_at (w : World) (S : Nat → Prop) (m : Nat) : NdAt w S m noneNd ⟨.none, 0, .none, 0⟩ := ⟨by decide, NdsAt.nil _ _ _ _, NdsAt.nil _ _ _ _⟩
theorem none_tot (m : Nat) : totN m noneNd = 0 := by
 cases m <;> rfl
theorem cells3V {w : World} {g : Nat} {v0 v1 v2 : Value} {T : TypeId} (h : w.heap[g]? = some (.cells #[v0, v1, v2] T (0, 0))) :
 w.cell? ⟨g, 0, none⟩ = some v0 ∧ w.cell? ⟨g, 1, none⟩ = some v1 ∧ w.cell? ⟨g, 2, none⟩ = some v2 := by
 refine ⟨?_, ?_, ?_⟩ <;> (rw [cell_of_row _ _ _ _ _ _ h]; rfl)
theorem store7 {w w1 : World} {R n b : Nat} {T : TypeId} {a0 a1 a2 a3 a4 a5 a6 : Value} (h : w1.heap[b]? = some (.cells #[a0, a1, a2, a3, a4, a5, a6] T (0, 0))) (hp : Picked w R n w1) (hR : R < w.heap.size) (hb : w.heap.size ≤ b) (v0 v1 v2 v3 v4 v5 v6 : Value) :
 ∃ wf, (((((((w1.setCell ⟨b, 0, none⟩ v0).setCell ⟨b, 1, none⟩ v1).setCell ⟨b, 2, none⟩ v2).setCell ⟨b, 3, none⟩ v3).setCell ⟨b, 4, none⟩ v4).setCell ⟨b, 5, none⟩ v5).setCell ⟨b, 6, none⟩ v6) = wf ∧ wf.heap[b]? = some (.cells #[v0, v1, v2, v3, v4, v5, v6] T (0, 0)) ∧ Picked w R n wf ∧ ∀ k, k ≠ b → wf.heap[k]? = w1.heap[k]? := by
 have hn : ∀ (V : World) (i : Nat) (v : Value) {k : Nat}, k ≠ b → (V.setCell ⟨b, i, none⟩ v).heap[k]? = V.heap[k]? := fun V i v k h => Below.heap_setCell V ⟨b, i, none⟩ v k h
 refine ⟨_, rfl, row_setN (row_setN (row_setN (row_setN (row_setN (row_setN (row_setN h 0 v0) 1 v1) 2 v2) 3 v3) 4 v4) 5 v5) 6 v6, ?_, fun k h => ?_⟩
 · exact picked_storeN (picked_storeN (picked_storeN (picked_storeN (picked_storeN (picked_storeN (picked_storeN hp hR hb 0 v0) hR hb 1 v1) hR hb 2 v2) hR hb 3 v3) hR hb 4 v4) hR hb 5 v5) hR hb 6 v6
 · rw [hn _ _ _ h, hn _ _ _ h, hn _ _ _ h, hn _ _ _ h, hn _ _ _ h, hn _ _ _ h, hn _ _ _ h]
theorem l7Fits_zero (n : Int) (w : World) :
 Calls Tryz.prog 40 #[.int .i64 0, .int .i64 n] w fun e w' => ∃ b : Bool, e = .returned (.bool b) ∧ Below w.heap.size w w' := by
 go_enter Tryz.func40, Tryz.ntmps40
 go_wp2_with (first | (go_at_call 67; go_must (refine (l2Bits_any _ _ (by decide) (by decide)).mono ?_); rintro e w1 ⟨rfl, hb1⟩; simp only [show bitsAll 0 = 0 from rfl, show bitsAll 1 = 1 from rfl, show bitsAll 2 = 8 from rfl, show bitsAll 3 = 16 from rfl, show bitsAll 4 = 32 from rfl]) | (go_at_call 34; go_must (refine (l1In_any _ _ _ _).mono ?_); rintro e w2 ⟨rfl, rfl⟩))
 go_ret
 exact ⟨_, ret_bool rfl, hb1⟩
theorem l7Fits_some (a n : Int) (w : World) (h0 : 0 ≤ a) (h1 : a ≤ 6) :
 Calls Tryz.prog 40 #[.int .i64 a, .int .i64 n] w fun e w' => ∃ b : Bool, e = .returned (.bool b) ∧ Below w.heap.size w w' := by
 by_cases h : a = 0
 · subst h; exact l7Fits_zero n w
 · exact (l7Fits_any a n w (by omega) h1).mono fun e w' ⟨h1, h2⟩ => ⟨_, h1, h2⟩
theorem l13Val_any (R n : Nat) (z el : Int) (c : Bool) (w : World) (h : Rd w R n) (hn : n ≤ 300000) :
 Calls Tryz.prog 74 #[.pointer (some ⟨R, 0, none⟩), .agg #[.int .i64 z, .bool c, .int .i64 el]] w (ValD R (n + 350) w) := by
 have hRw := h.lt
 have q1 := al_next (al_first w (.cells #[.int .i64 z, .bool c, .int .i64 el] fieldT)) (.cells #[.int .i64 0, .int .i64 0, .string { data := #[] }, .slice none 0 0, .int .i64 0, .int .i64 0, .slice none 0 0] valT)
 have HR := Lib.hid (al_row (al_first w (.cells #[.int .i64 z, .bool c, .int .i64 el] fieldT)) #[.int .i64 0, .int .i64 0, .string { data := #[] }, .slice none 0 0, .int .i64 0, .int .i64 0, .slice none 0 0] valT)
 have HF := Lib.hid (heap_alloc_keep (heap_alloc_new w (.cells #[.int .i64 z, .bool c, .int .i64 el] fieldT)) (.cells #[.int .i64 0, .int .i64 0, .string { data := #[] }, .slice none 0 0, .int .i64 0, .int .i64 0, .slice none 0 0] valT))
 have HP := Lib.hid (h.self.below q1.2)
 have HS := Lib.hid q1.1
 clear q1 h
 unfold ValD
 by_cases z6 : z = 6
 · subst z6
   go_enter Tryz.func74, Tryz.ntmps74
   go_wp2_with fail
   generalize ((w.alloc (.cells #[.int .i64 6, .bool c, .int .i64 el] fieldT)).alloc (.cells #[.int .i64 0, .int .i64 0, .string { data := #[] }, .slice none 0 0, .int .i64 0, .int .i64 0, .slice none 0 0] valT)) = W0 at *
   refine (drN_any 2 (by decide) R n _ HP.out.1 (by rw [show dK 2 = 350 from rfl]; omega)).mono ?_
   rintro e w2 ⟨y, hy, rfl, hny, hty, hp2⟩
   have HNY := Lib.hid (And.intro hny hty)
   have HSZ := Lib.hid hp2.2.size
   replace HR := Lib.hid ((hp2.2.block _ (row_lt HR.out) (by omega)).trans HR.out)
   replace HF := Lib.hid ((hp2.2.block _ (row_lt HF.out) (by omega)).trans HF.out)
   replace HP := Lib.hid (HP.out.then hp2)
   clear hp2 hny hty
   obtain ⟨b0, b1, b2, b3, b4, b5, b6⟩ := cellsV HR.out
   have f2 := row_free HR.out
   obtain ⟨wf, hwf, hrw, hpw, hkw⟩ := store7 (b := w.heap.size + 1) HR.out HP.out hRw (by omega) (.int .i64 0) (.int .i64 y.kind) (.string y.data) (.slice hy.A y.ptrs.length hy.a) (.int .i64 y.size) (.int .i64 y.count) (.slice hy.B y.items.length hy.b)
   obtain ⟨e0, e1, e2, e3, e4, e5, e6⟩ := cellsV hrw
   have HWF := Lib.hid hwf
   have HPW := Lib.hid hpw
   have HNF : Hid (NdAt wf (From w.heap.size) 4 y hy) := Lib.hid (HNY.out.1.map (fun k hk => by have h1 : W0.heap.size ≤ k := hk.1; have h2 := HS.out; show w.heap.size ≤ k; omega) (fun p _ _ hs hc => hc.block (hkw _ (by have h1 : W0.heap.size ≤ p.block := hs.1; have h2 := HS.out; omega))))
   have HTY : Hid (totN 4 y ≤ 7007) := Lib.hid HNY.out.2.1
   clear hwf hrw hpw hkw
   go_wp2
   rw [HWF.out]
   exact bodyPost_ret (v := valV 0 y hy) (by simp [results, Tryz.results74, go_sem, e0, e1, e2, e3, e4, e5, e6]) rfl ⟨0, y, hy, rfl, ⟨by decide, by decide⟩, HNF.out, HTY.out, HPW.out.mono (by rw [show dK 2 = 350 from rfl]; omega)⟩
 have hz6 : (z == 6) = false := by simpa using z6
 cases hin : inB z 0 6
 · go_enter Tryz.func74, Tryz.ntmps74
   go_wp2_with fail
   generalize ((w.alloc (.cells #[.int .i64 z, .bool c, .int .i64 el] fieldT)).alloc (.cells #[.int .i64 0, .int .i64 0, .string { data := #[] }, .slice none 0 0, .int .i64 0, .int .i64 0, .slice none 0 0] valT)) = W0 at *
   refine (l1In_any z 0 6 _).mono ?_
   rintro e w1 ⟨rfl, rfl⟩
   rw [hin]
   obtain ⟨d0, d1, d2⟩ := cells3V HF.out
   go_wp2_with fail
   refine (pick_any R n _ _ HP.out.1 (by omega)).mono ?_
   rintro e w2 ⟨v, ⟨hv0, hv1⟩, rfl, hp2⟩
   replace HR := Lib.hid ((hp2.2.block _ (row_lt HR.out) (by omega)).trans HR.out)
   replace HF := Lib.hid ((hp2.2.block _ (row_lt HF.out) (by omega)).trans HF.out)
   replace HP := Lib.hid (HP.out.then hp2)
   clear hp2 d0 d1 d2
   obtain ⟨b0, b1, b2, b3, b4, b5, b6⟩ := cellsV HR.out
   have f2 := row_free HR.out
   obtain ⟨wf, hwf, hrw, hpw, -⟩ := store7 (b := w.heap.size + 1) HR.out HP.out hRw (by omega) (.int .i64 v) (.int .i64 0) (.string { data := #[] }) (.slice none 0 0) (.int .i64 0) (.int .i64 0) (.slice none 0 0)
   obtain ⟨e0, e1, e2, e3, e4, e5, e6⟩ := cellsV hrw
   have HWF := Lib.hid hwf
   have HPW := Lib.hid hpw
   clear hwf hrw hpw
   go_wp2
   rw [HWF.out]
   exact bodyPost_ret (v := .agg #[.int .i64 v, .int .i64 0, .string { data := #[] }, .slice none 0 0, .int .i64 0, .int .i64 0, .slice none 0 0]) (by simp [results, Tryz.results74, go_sem, e0, e1, e2, e3, e4, e5, e6]) rfl ⟨v, noneNd, ⟨.none, 0, .none, 0⟩, rfl, ⟨by omega, by omega⟩, none_at _ _ _, by rw [none_tot]; decide, HPW.out.mono (by omega)⟩
 have hz : 0 ≤ z ∧ z ≤ 5 := by unfold inB at hin; rw [decide_eq_true_eq] at hin; omega
 have LFIT := Lib.hid (fun (n : Int) (W : World) => l7Fits_some z n W hz.1 (by omega))
 go_enter Tryz.func74, Tryz.ntmps74
 go_wp2_with fail
 generalize ((w.alloc (.cells #[.int .i64 z, .bool c, .int .i64 el] fieldT)).alloc (.cells #[.int .i64 0, .int .i64 0, .string { data := #[] }, .slice none 0 0, .int .i64 0, .int .i64 0, .slice none 0 0] valT)) = W0 at *
 refine (l1In_any z 0 6 _).mono ?_
 rintro e w1 ⟨rfl, rfl⟩
 rw [hin]
 obtain ⟨d0, d1, d2⟩ := cells3V HF.out
 go_wp2_with fail
 have hL := Lits.new W0 #[.int .i64 0, .int .i64 1, .int .i64 1, .int .i64 200, .int .i64 255, .int .i64 65535, .int .i64 4294967295, .int .i64 (-1)] 3 (0, 0)
 have hS : ∀ v ∈ (#[.int .i64 0, .int .i64 1, .int .i64 1, .int .i64 200, .int .i64 255, .int .i64 65535, .int .i64 4294967295, .int .i64 (-1)] : Array Value).toList, ∃ x, v = .int .i64 x ∧ i64v x := by
  intro v hv
  simp only [List.mem_cons, List.not_mem_nil, or_false] at hv
  rcases hv with rfl | rfl | rfl | rfl | rfl | rfl | rfl | rfl
  all_goals exact ⟨_, rfl, by decide, by decide⟩
 refine (one_any R n W0.heap.size 8 8 i64v _ _ (HP.out.1.below ((Below.refl W0.heap.size W0).alloc (Nat.le_refl _) _)) (by omega) hL hS (by have := HP.out.2.size; omega) rfl (by omega) (by omega)).mono ?_
 rintro e w2 ⟨v, hvr, rfl, hp2⟩
 have hp := Picked.from ((Below.refl W0.heap.size W0).alloc (Nat.le_refl _) _) hp2
 replace HR := Lib.hid ((hp.2.block _ (row_lt HR.out) (by omega)).trans HR.out)
 replace HF := Lib.hid ((hp.2.block _ (row_lt HF.out) (by omega)).trans HF.out)
 replace HP := Lib.hid (HP.out.then hp)
 have HVR : Hid (i64v v) := Lib.hid hvr
 clear hp hp2 d0 d1 d2 hvr
 obtain ⟨d0, d1, d2⟩ := cells3V HF.out
 by_cases z5 : z = 5
 · subst z5
   obtain ⟨b0, b1, b2, b3, b4, b5, b6⟩ := cellsV HR.out
   have f2 := row_free HR.out
   obtain ⟨wf, hwf, hrw, hpw, -⟩ := store7 (b := w.heap.size + 1) HR.out HP.out hRw (by omega) (.int .i64 v) (.int .i64 0) (.string { data := #[] }) (.slice none 0 0) (.int .i64 0) (.int .i64 0) (.slice none 0 0)
   obtain ⟨e0, e1, e2, e3, e4, e5, e6⟩ := cellsV hrw
   have HWF := Lib.hid hwf
   have HPW := Lib.hid hpw
   clear hwf hrw hpw
   go_wp2
   rw [HWF.out]
   exact bodyPost_ret (v := .agg #[.int .i64 v, .int .i64 0, .string { data := #[] }, .slice none 0 0, .int .i64 0, .int .i64 0, .slice none 0 0]) (by simp [results, Tryz.results74, go_sem, e0, e1, e2, e3, e4, e5, e6]) rfl ⟨v, noneNd, ⟨.none, 0, .none, 0⟩, rfl, HVR.out, none_at _ _ _, by rw [none_tot]; decide, HPW.out.mono (by omega)⟩
 have hz5 : (z != 5) = true := by simp; omega
 go_wp2_with fail
 refine (LFIT.out v _).mono ?_
 rintro e w3 ⟨b, rfl, hb3⟩
 replace HR := Lib.hid ((hb3.block _ (row_lt HR.out)).trans HR.out)
 replace HF := Lib.hid ((hb3.block _ (row_lt HF.out)).trans HF.out)
 replace HP := Lib.hid (HP.out.below hb3)
 clear hb3 d0 d1 d2
 cases b
 · go_wp2_with fail
   refine (pick_any R (n + 1) _ _ HP.out.1 (by omega)).mono ?_
   rintro e w4 ⟨u, ⟨hu0, hu1⟩, rfl, hp4⟩
   replace HR := Lib.hid ((hp4.2.block _ (row_lt HR.out) (by omega)).trans HR.out)
   replace HF := Lib.hid ((hp4.2.block _ (row_lt HF.out) (by omega)).trans HF.out)
   replace HP := Lib.hid (HP.out.then hp4)
   clear hp4
   by_cases u0 : u = 0
   · subst u0
     obtain ⟨b0, b1, b2, b3, b4, b5, b6⟩ := cellsV HR.out
     have f2 := row_free HR.out
     obtain ⟨wf, hwf, hrw, hpw, -⟩ := store7 (b := w.heap.size + 1) HR.out HP.out hRw (by omega) (.int .i64 v) (.int .i64 0) (.string { data := #[] }) (.slice none 0 0) (.int .i64 0) (.int .i64 0) (.slice none 0 0)
     obtain ⟨e0, e1, e2, e3, e4, e5, e6⟩ := cellsV hrw
     have HWF := Lib.hid hwf
     have HPW := Lib.hid hpw
     clear hwf hrw hpw
     go_wp2
     rw [HWF.out]
     exact bodyPost_ret (v := .agg #[.int .i64 v, .int .i64 0, .string { data := #[] }, .slice none 0 0, .int .i64 0, .int .i64 0, .slice none 0 0]) (by simp [results, Tryz.results74, go_sem, e0, e1, e2, e3, e4, e5, e6]) rfl ⟨v, noneNd, ⟨.none, 0, .none, 0⟩, rfl, HVR.out, none_at _ _ _, by rw [none_tot]; decide, HPW.out.mono (by omega)⟩
   · have hu2 : 0 < u := by omega
     clear u0 hu1
     go_wp2_with fail
     refine (pick_any R (n + 1 + 1) _ _ HP.out.1 (by omega)).mono ?_
     rintro e w5 ⟨t, ⟨ht0, ht1⟩, rfl, hp5⟩
     replace HR := Lib.hid ((hp5.2.block _ (row_lt HR.out) (by omega)).trans HR.out)
     replace HF := Lib.hid ((hp5.2.block _ (row_lt HF.out) (by omega)).trans HF.out)
     replace HP := Lib.hid (HP.out.then hp5)
     clear hp5
     obtain ⟨b0, b1, b2, b3, b4, b5, b6⟩ := cellsV HR.out
     have f2 := row_free HR.out
     obtain ⟨wf, hwf, hrw, hpw, -⟩ := store7 (b := w.heap.size + 1) HR.out HP.out hRw (by omega) (.int .i64 t) (.int .i64 0) (.string { data := #[] }) (.slice none 0 0) (.int .i64 0) (.int .i64 0) (.slice none 0 0)
     obtain ⟨e0, e1, e2, e3, e4, e5, e6⟩ := cellsV hrw
     have HWF := Lib.hid hwf
     have HPW := Lib.hid hpw
     clear hwf hrw hpw
     go_wp2
     rw [HWF.out]
     exact bodyPost_ret (v := .agg #[.int .i64 t, .int .i64 0, .string { data := #[] }, .slice none 0 0, .int .i64 0, .int .i64 0, .slice none 0 0]) (by simp [results, Tryz.results74, go_sem, e0, e1, e2, e3, e4, e5, e6]) rfl ⟨t, noneNd, ⟨.none, 0, .none, 0⟩, rfl, ⟨by omega, by omega⟩, none_at _ _ _, by rw [none_tot]; decide, HPW.out.mono (by omega)⟩
 · have hq : True := trivial
   obtain ⟨b0, b1, b2, b3, b4, b5, b6⟩ := cellsV HR.out
   have f2 := row_free HR.out
   obtain ⟨wf, hwf, hrw, hpw, -⟩ := store7 (b := w.heap.size + 1) HR.out HP.out hRw (by omega) (.int .i64 v) (.int .i64 0) (.string { data := #[] }) (.slice none 0 0) (.int .i64 0) (.int .i64 0) (.slice none 0 0)
   obtain ⟨e0, e1, e2, e3, e4, e5, e6⟩ := cellsV hrw
   have HWF := Lib.hid hwf
   have HPW := Lib.hid hpw
   clear hwf hrw hpw
   go_wp2
   rw [HWF.out]
   exact bodyPost_ret (v := .agg #[.int .i64 v, .int .i64 0, .string { data := #[] }, .slice none 0 0, .int .i64 0, .int .i64 0, .slice none 0 0]) (by simp [results, Tryz.results74, go_sem, e0, e1, e2, e3, e4, e5, e6]) rfl ⟨v, noneNd, ⟨.none, 0, .none, 0⟩, rfl, HVR.out, none_at _ _ _, by rw [none_tot]; decide, HPW.out.mono (by omega)⟩
end Go.Proofs.YtblcibgphccfkaaGreatDoor
