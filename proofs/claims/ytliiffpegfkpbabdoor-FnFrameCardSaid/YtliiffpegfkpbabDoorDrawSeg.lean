/- The specification's drawer of segments: l13Segs, l13AnySegs, DrawFramePut: some segments. -/
import Derived.Test.YtliiffpegfkpbabDoorArgB
import Derived.Test.YtliiffpegfkpbabDoorDrawW
import Derived.Test.YtliiffpegfkpbabDoorStrsB
import Derived.Maps.AppendAt
namespace Go.Proofs.YtliiffpegfkpbabDoor
open Go.RowKit
theorem grown_of_keeps {R : Nat} {w w' : World} (h : Keeps w.heap.size R w w') : w.grownBy w' (some R) := ⟨h.os, h.tape, h.output, h.size, fun k hk hne => h.block k hk (fun e => hne (by rw [e]))⟩
theorem own_picked {w w' : World} {R n base m : Nat} {e : TypeId} {v : Value} {xs : List Value} (h : w.ownsRow base e 1 v m xs) (hp : Picked w R n w') (hR : R < base) : w'.ownsRow base e 1 v m xs := by
  refine h.kept (grown_of_keeps hp.2) ?_
  by_cases hv : v.ownBlock = none
  · exact .inl hv
  · refine .inr (fun e => ?_)
    have := (h.lt R (by rw [e])).1
    omega
theorem picked_grow {w w1 w2 : World} {R n base m : Nat} {e : TypeId} {v : Value} {xs : List Value} {o : Obj} (hp : Picked w R n w1) (hR : R < base) (hb : base ≤ w1.heap.size) (hwb : w.heap.size ≤ base) (hown : w1.ownsRow base e 1 v m xs) (hg : (w1.alloc o).grownBy w2 v.ownBlock) : Picked w R n w2 := by
  have hbel : Below base w1 w2 := ((Below.refl base w1).alloc hb o).grown hg (by simp <;> omega) (fun k hk => (hown.lt k hk).1)
  obtain ⟨⟨a, l, c, p, hpn, hr, hc⟩, hk⟩ := hp
  refine ⟨⟨a, l, c, p, hpn, (hbel.block R hR).trans hr, hc.keeps (R := base) (Keeps.of_below hbel) (Nat.le_of_lt hR) (Nat.le_of_lt hR)⟩, ?_⟩
  exact ⟨hbel.os.trans hk.os, hbel.tape.trans hk.tape, hbel.output.trans hk.output, Nat.le_trans hk.size hbel.size, fun k hk1 hk2 => (hbel.block k (Nat.lt_of_lt_of_le hk1 hwb)).trans (hk.block k hk1 hk2)⟩
theorem strs_of_own {w : World} {base : Nat} {e : TypeId} {v : Value} {ss : List ByteArray} (h : w.ownsRow base e 1 v ss.length (ss.map Value.string)) (hs : ∀ s ∈ ss, s.size ≤ maxLen) : ∃ A cap, v = .slice A ss.length cap ∧ Strs w A ss := by
  rcases h.2 with ⟨rfl, h0⟩ | ⟨g, cap, cur, rfl, _, hg, _⟩
  · have : ss = [] := by
      cases ss with
      | nil => rfl
      | cons a r => simp at h0
    subst this
    exact ⟨none, 0, rfl, Strs.nil _ _⟩
  · refine ⟨_, cap, rfl, hs, .inr ⟨⟨g, 0, none⟩, rfl, row_lt hg, fun i hi => ?_⟩⟩
    exact h.cells (g := g) rfl i _ (by simp [List.getElem?_eq_getElem hi])
theorem own_lit (w : World) (base : Nat) (x : Value) (e : TypeId) (hb : base ≤ w.heap.size) : (w.alloc (.cells #[x] e)).ownsRow base e 1 (.slice (some ⟨w.heap.size, 0, none⟩) 1 1) 1 [x] :=
  ⟨by simp, .inr ⟨w.heap.size, 1, #[x], rfl, hb, heap_alloc_new w _, Nat.le_refl _, by decide, by simp, by simp⟩⟩
theorem own_slice {w : World} {B e n : Nat} {v : Value} {xs : List Value} (h : w.ownsRow B e 1 v n xs) : ∃ A cap, v = .slice A n cap := by
  rcases h.2 with ⟨rfl, rfl⟩ | ⟨g, cap, _, rfl, _⟩
  · exact ⟨none, 0, rfl⟩
  · exact ⟨_, cap, rfl⟩
def lenOfV : Value → Nat
  | .slice _ n _ => n
  | _ => 0
/-- some segments, in memory of the call's own. -/
def SegP (R n : Nat) (w : World) (e : Ending) (w' : World) : Prop := ∃ (v : Value) (ss : List ByteArray), e = .returned v ∧ ss.length ≤ 8 ∧ (∀ s ∈ ss, s.size ≤ 1700) ∧ w'.ownsRow w.heap.size 9 1 v ss.length (ss.map Value.string) ∧ Picked w R n w'
set_option maxHeartbeats 4000000 in
set_option maxRecDepth 100000 in
theorem l13Segs_any (R n : Nat) (w : World) (h : Rd w R n) (hn : n ≤ 800000) :
    Calls Tryd.prog 37 #[.pointer (some ⟨R, 0, none⟩)] w (fun e w' => ∃ (v : Value) (ss : List ByteArray), e = .returned v ∧ ss.length ≤ 4 ∧ (∀ s ∈ ss, s.size ≤ 1700) ∧ w'.ownsRow w.heap.size 9 1 v ss.length (ss.map Value.string) ∧ Picked w R (n + 60) w') := by
  have hRw := h.lt
  obtain ⟨i0, hi, hz0, hz1, hz2⟩ := info_parts infoStr
  go_enter Tryd.func37, Tryd.ntmps37
  go_wp2_with fail
  refine (l13Words_any R n 4 _ h (by omega) (by omega)).mono ?_
  rintro e w1 ⟨s, ⟨j, hj, hs⟩, rfl, hp1⟩
  have hs1 : s.size ≤ 1700 := by omega
  clear hs
  have hq1 := hp1.below ((Below.refl w1.heap.size w1).alloc (Nat.le_refl _) (.cells #[.string s] 9))
  have hown1 := own_lit w1 w.heap.size (.string s) 9 hp1.2.size
  have HO1 := Lib.hid hown1
  clear hown1
  go_wp2_with fail
  refine (pick_any R (n + 1 + 3 * 4) _ _ hq1.1 (by omega)).mono ?_
  rintro e w2 ⟨q, ⟨hq0, hq4⟩, rfl, hp2⟩
  obtain ⟨q, rfl⟩ := Int.eq_ofNat_of_zero_le hq0
  have hq3 : q ≤ 3 := by omega
  clear hq4
  have HO2 := Lib.hid (own_picked HO1.out hp2 hRw)
  have hq2 := hq1.then hp2
  go_wp2_with fail
  go_loopw [3, 4] (fun v i wr => ∃ (m : Nat) (ss : List ByteArray), i = .int .i64 m ∧ ss.length + m = q + 1 ∧ 1 ≤ ss.length ∧ (∀ s ∈ ss, s.size ≤ 1700) ∧ Hid (wr.ownsRow w.heap.size 9 1 v ss.length (ss.map Value.string)) ∧ Hid (Picked w R (n + 14 + 11 * ss.length) wr)) (fun _ i _ => (intOf i).toNat)
  case atStart => exact ⟨q, [s], rfl, by simp <;> omega, by simp, by simpa using hs1, HO2.out, hq2.mono (by simp <;> omega)⟩
  case round =>
    obtain ⟨m, ss, rfl, hsm, hs1', hall, HO, HP⟩ := hrel
    have HALL := Lib.hid hall
    have HSM := Lib.hid hsm
    have hsl : ss.length ≤ 4 := by omega
    have hml : m ≤ 3 := by omega
    clear hall hsm
    by_cases h0 : m = 0
    · subst h0
      go_wp2
      go_ret
      exact ⟨_, ss, rfl, hsl, HALL.out, HO.out, HP.out.mono (by omega)⟩
    · have h1 : 1 ≤ m := by omega
      go_wp2_with fail
      refine (l13Words_any R (n + 14 + 11 * ss.length) 3 _ HP.out.1 (by omega) (by omega)).mono ?_
      rintro e w3 ⟨x, ⟨j3, hj3, hx⟩, rfl, hp3⟩
      have hx1 : x.size ≤ 1700 := by omega
      clear hx
      have HO3 := Lib.hid (own_picked HO.out hp3 hRw)
      have HP3 := Lib.hid (HP.out.then hp3)
      have hsz3 := HP3.out.2.size
      clear hp3
      go_wp2_with (at_builtin; go_must (refine wpList_append_own _ rfl (.tmp 14) (.tmp 17) 23 rfl w.heap.size 9 i0 (.string ByteArray.empty) 1 16 Tryd.underlying23 hi hz0 hz1 hz2 rfl (by decide) _ _ _ rfl (HO3.out.alloc _) ⟨w3.heap.size, 0, none⟩ 1 1 [.string x] rfl rfl (cell_one_new _ _ _) (by simp [Value.oneCell']) (by unfold maxLen; omega) (by omega) (by simp <;> omega) ?_); intro v' wn hown' hgrow _)
      have hpn := picked_grow HP3.out hRw hsz3 (Nat.le_refl _) HO3.out hgrow
      have hon : wn.ownsRow w.heap.size 9 1 v' (ss ++ [x]).length ((ss ++ [x]).map Value.string) := by
        rw [List.length_append, List.map_append]; exact hown'
      have HPN := Lib.hid hpn
      have HON := Lib.hid hon
      clear hpn hon hgrow hown'
      go_wp2
      go_roundw
      case rel =>
        refine ⟨m - 1, ss ++ [x], by go_num, by have := HSM.out; simp; omega, by simp, ?_, HON, HPN.out.mono (by simp <;> omega)⟩
        intro s hs
        rcases List.mem_append.1 hs with hs | hs
        · exact HALL.out s hs
        · obtain rfl : s = x := by simpa using hs
          exact hx1
      case measure => simp [intOf]; omega
set_option maxHeartbeats 4000000 in
set_option maxRecDepth 100000 in
theorem l13AnySegs_any (R n : Nat) (w : World) (h : Rd w R n) (hn : n ≤ 700000) :
    Calls Tryd.prog 26 #[.pointer (some ⟨R, 0, none⟩)] w (SegP R (n + 100) w) := by
  have hRw := h.lt
  obtain ⟨i0, hi, hz0, hz1, hz2⟩ := info_parts infoStr
  go_enter Tryd.func26, Tryd.ntmps26
  go_wp2_with fail
  refine (l13Segs_any R n _ h (by omega)).mono ?_
  rintro e w1 ⟨v, ss, rfl, hl, hall, hown, hp1⟩
  have HO1 := Lib.hid hown
  obtain ⟨A, cp, rfl⟩ := own_slice hown
  clear hown
  go_wp2_with fail
  refine (pick_any R (n + 60) _ _ hp1.1 (by omega)).mono ?_
  rintro e w2 ⟨q, ⟨hq0, hq1⟩, rfl, hp2⟩
  have HO2 := Lib.hid (own_picked HO1.out hp2 hRw)
  have HP2 := Lib.hid (hp1.then hp2)
  have hsz2 := HP2.out.2.size
  clear hp1 hp2
  have HALL := Lib.hid hall
  clear hall
  by_cases q0 : q = 0
  · subst q0
    go_wp2_with (at_builtin; go_must (refine wpList_append_own _ rfl (.tmp 10) (.tmp 11) 23 rfl w.heap.size 9 i0 (.string ByteArray.empty) 1 16 Tryd.underlying23 hi hz0 hz1 hz2 rfl (by decide) _ _ _ rfl (HO2.out.alloc _) ⟨w2.heap.size, 0, none⟩ 1 1 [.string ⟨#[111, 100, 100]⟩] rfl rfl (cell_one_new _ _ _) (by simp [Value.oneCell']) (by unfold maxLen; omega) (by omega) (by simp <;> omega) ?_); intro v' wn hown' hgrow _)
    have hpn := picked_grow HP2.out hRw hsz2 (Nat.le_refl _) HO2.out hgrow
    have hon : wn.ownsRow w.heap.size 9 1 v' (ss ++ [(⟨#[111, 100, 100]⟩ : ByteArray)]).length ((ss ++ [(⟨#[111, 100, 100]⟩ : ByteArray)]).map Value.string) := by
      rw [List.length_append, List.map_append]; exact hown'
    go_wp2
    go_ret
    refine ⟨v', ss ++ [(⟨#[111, 100, 100]⟩ : ByteArray)], rfl, by simp <;> omega, ?_, hon, hpn.mono (by omega)⟩
    intro s hs
    rcases List.mem_append.1 hs with hs | hs
    · exact HALL.out s hs
    · obtain rfl : s = ⟨#[111, 100, 100]⟩ := by simpa using hs
      decide
  have b0 : (q == 0) = false := by simp <;> omega
  by_cases q1 : q = 1
  · subst q1
    go_wp2_with fail
    go_loopw [3] (fun v wr => ∃ (ss : List ByteArray), ss.length ≤ 7 ∧ (∀ s ∈ ss, s.size ≤ 1700) ∧ Hid (wr.ownsRow w.heap.size 9 1 v ss.length (ss.map Value.string)) ∧ Hid (Picked w R (n + 62 + ss.length) wr)) (fun v _ => 8 - lenOfV v)
    case atStart => exact ⟨ss, by omega, HALL.out, HO2.out, HP2.out.mono (by omega)⟩
    case round =>
      obtain ⟨ss, hl, hall, HO, HP⟩ := hrel
      obtain ⟨A, cp, rfl⟩ := own_slice HO.out
      have HALL := Lib.hid hall
      clear hall
      go_wp2_with fail
      refine (pick_any R (n + 62 + ss.length) _ _ HP.out.1 (by omega)).mono ?_
      rintro e w3 ⟨x, ⟨hx0, hx1⟩, rfl, hp3⟩
      have hx2 : x ≤ 1 := by omega
      clear hx1
      have HO3 := Lib.hid (own_picked HO.out hp3 hRw)
      have HP3 := Lib.hid (HP.out.then hp3)
      have hsz3 := HP3.out.2.size
      clear hp3
      by_cases hlt : (ss.length : Int) < 6 + x
      · go_wp2_with (at_builtin; go_must (refine wpList_append_own _ rfl (.tmp 21) (.tmp 22) 23 rfl w.heap.size 9 i0 (.string ByteArray.empty) 1 16 Tryd.underlying23 hi hz0 hz1 hz2 rfl (by decide) _ _ _ rfl (HO3.out.alloc _) ⟨w3.heap.size, 0, none⟩ 1 1 [.string ⟨#[]⟩] rfl rfl (cell_one_new _ _ _) (by simp [Value.oneCell']) (by unfold maxLen; omega) (by omega) (by simp <;> omega) ?_); intro v' wn hown' hgrow _)
        have hpn := picked_grow HP3.out hRw hsz3 (Nat.le_refl _) HO3.out hgrow
        have hon : wn.ownsRow w.heap.size 9 1 v' (ss ++ [(⟨#[]⟩ : ByteArray)]).length ((ss ++ [(⟨#[]⟩ : ByteArray)]).map Value.string) := by
          rw [List.length_append, List.map_append]; exact hown'
        have HPN := Lib.hid hpn
        have HON := Lib.hid hon
        obtain ⟨A', cp', rfl⟩ := own_slice hon
        clear hpn hon hgrow hown'
        go_wp2
        go_roundw
        case rel =>
          refine ⟨ss ++ [⟨#[]⟩], by simp <;> omega, ?_, HON, HPN.out.mono (by simp <;> omega)⟩
          intro s hs
          rcases List.mem_append.1 hs with hs | hs
          · exact HALL.out s hs
          · obtain rfl : s = ⟨#[]⟩ := by simpa using hs
            decide
        case measure => simp [lenOfV]; omega
      · have hge : 6 + x ≤ (ss.length : Int) := by omega
        go_wp2
        go_ret
        exact ⟨.slice A ss.length cp, ss, rfl, by omega, HALL.out, HO3.out, HP3.out.mono (by omega)⟩
  have b1 : (q == 1) = false := by simp <;> omega
  by_cases q2 : q = 2
  · subst q2
    go_wp2_with fail
    refine (pick_any R (n + 61) _ _ HP2.out.1 (by omega)).mono ?_
    rintro e w3 ⟨x, ⟨hx0, hx1⟩, rfl, hp3⟩
    have hx2 : x ≤ 1 := by omega
    clear hx1
    have HP3 := Lib.hid (HP2.out.then hp3)
    clear hp3
    go_wp2_with fail
    refine (l1Many_any _ _ _ (by omega) (by omega) (by decide) (by simp [ByteArray.size]; omega)).mono ?_
    rintro e w' ⟨rfl, rfl⟩
    have hon := own_lit w3 w.heap.size (.string ⟨(repL [0] (8 * (200 + x)).toNat).toArray⟩) 9 HP3.out.2.size
    have hpn := HP3.out.below ((Below.refl w3.heap.size w3).alloc (Nat.le_refl _) (.cells #[.string ⟨(repL [0] (8 * (200 + x)).toNat).toArray⟩] 9))
    go_wp2
    go_ret
    refine ⟨.slice (some ⟨w3.heap.size, 0, none⟩) 1 1, [⟨(repL [0] (8 * (200 + x)).toNat).toArray⟩], rfl, by simp, ?_, hon, hpn.mono (by omega)⟩
    intro s hs
    obtain rfl : s = ⟨(repL [0] (8 * (200 + x)).toNat).toArray⟩ := by simpa using hs
    show ByteArray.size _ ≤ 1700
    rw [show (⟨(repL [0] (8 * (200 + x)).toNat).toArray⟩ : ByteArray).size = (repL [0] (8 * (200 + x)).toNat).length by simp [ByteArray.size], repL_length]
    simp; omega
  have b2 : (q == 2) = false := by simp <;> omega
  by_cases q3 : q = 3
  · subst q3
    go_wp2
    go_ret
    exact ⟨.slice none 0 0, [], rfl, by simp, (fun _ h => by cases h), World.ownsRow_nil _ _ _ _, HP2.out.mono (by omega)⟩
  have b3 : (q == 3) = false := by simp <;> omega
  go_wp2
  go_ret
  exact ⟨.slice A ss.length cp, ss, rfl, by omega, HALL.out, HO2.out, HP2.out.mono (by omega)⟩
def DrawSegs (w : World) (e : Ending) (w' : World) : Prop := ∃ (A : Option Addr) (cap : Nat) (ss : List ByteArray), e = .returned (.slice A ss.length cap) ∧ ss.length ≤ 8 ∧ (∀ s ∈ ss, s.size ≤ 1700) ∧ Strs w' A ss ∧ Below w.heap.size w w'
set_option maxHeartbeats 2000000 in
theorem drawFramePut_any (a : Option Addr) (len cap : Nat) (w : World) (h : Arg w a len cap) :
    Calls Tryd.prog 7 #[.slice a len cap] w (DrawSegs w) := by
  go_enter Tryd.func7, Tryd.ntmps7
  go_wp2_with fail
  refine (l1Open_any a len cap _ h.1 h.2.1 h.2.2).mono ?_
  rintro e w1 ⟨R, rfl, hR, hrd, hb1⟩
  go_wp2_with fail
  refine (l13AnySegs_any R 0 _ hrd (by omega)).mono ?_
  rintro e w2 ⟨v, ss, rfl, hl, hall, hown, hp2⟩
  obtain ⟨A, cp, rfl, hst⟩ := strs_of_own hown (fun s hs => by have := hall s hs; unfold maxLen; omega)
  clear hown
  go_wp2
  go_ret
  exact ⟨A, cp, ss, rfl, hl, hall, hst, opened_below hR hb1 hp2⟩
end Go.Proofs.YtliiffpegfkpbabDoor
