/- The program's room. -/
import Derived.Test.YtfgebmmnlneciaaDoorPlanR
namespace Go.Proofs.YtfgebmmnlneciaaDoor
open Go.RowKit
open Go.Maps (IsMap has)
/-- but for two blocks all stays. -/
def Fr (g bm : Nat) (w w' : World) : Prop := w.heap.size ≤ w'.heap.size ∧ ∀ b, b < w.heap.size → b ≠ g → b ≠ bm → w'.heap[b]? = w.heap[b]?
theorem Fr.trans {g bm : Nat} {a b c : World} (h : Fr g bm a b) (k : Fr g bm b c) : Fr g bm a c := ⟨Nat.le_trans h.1 k.1, fun x hx h1 h2 => (k.2 x (Nat.lt_of_lt_of_le hx h.1) h1 h2).trans (h.2 x hx h1 h2)⟩
theorem Fr.set (g bm i : Nat) (w : World) (u : Value) : Fr g bm w (w.setCell ⟨g, i, none⟩ u) := ⟨by simp [World.setCell], fun b _ h1 _ => Below.heap_setCell w ⟨g, i, none⟩ u b h1⟩
theorem Fr.turn {g bm : Nat} {w w' : World} (h : w.grownBy w' (some bm)) : Fr g bm w w' := ⟨h.size, fun b hb _ h2 => h.block b hb (fun e => h2 (by injection e))⟩
def RoomP (R g bm : Nat) (v1 v2 : Value) (s : PS) (sl : List Nat) (N k : Nat) (w : World) (e : Ending) (w' : World) : Prop :=
  e = .returned (.int .i64 ((roomF k s.ls).1 : Int)) ∧ Pl w' R g bm v1 v2 { s with ls := (roomF k s.ls).2 } sl (N + k) ∧ Below R w w' ∧ Fr g bm w w'
theorem keyI_of {c : Int} {k : Nat} (h : c + k = 6) : keyI k = .int .i64 c := by unfold keyI; congr 1; omega
set_option maxHeartbeats 4000000 in
theorem room_any (R g bm : Nat) (v1 v2 : Value) (s : PS) (sl : List Nat) (N : Nat) (hN : N ≤ 1000) (hbd : LBd 40 s.ls) : ∀ (k : Nat) (c : Int) (w : World), c + k = 6 → k ≤ 6 → Pl w R g bm v1 v2 s sl N →
    Calls Tryd.prog 45 #[.pointer (some ⟨g, 0, none⟩), .int .i64 c] w (RoomP R g bm v1 v2 s sl N k w)
  | 0, c, w, hc, _, h => by
    obtain rfl : c = 6 := by omega
    have h1 := h.set_ 0 (.int .i64 ((s.ls.words : Int) + 1)) { s with ls := ⟨s.ls.words + 1, s.ls.hole⟩ } (by simp [planCells]) rfl rfl
    have H1 := Lib.hid h1
    have hwd : s.ls.words ≤ 40 := hbd.1
    obtain ⟨c0, c1, c2, c3, c4, c5, c6, c7⟩ := h.cells
    have hfz := row_free h.row 0
    have HB : Hid (Below R w (w.setCell ⟨g, 0, none⟩ (.int .i64 ((s.ls.words : Int) + 1)))) := Lib.hid (h.set_below (Below.refl _ _) 0 _)
    clear h h1 c1 c2 c3 c5 c6 c7
    go_enter Tryd.func45, Tryd.ntmps45
    go_wp2
    go_ret
    exact ⟨ret_int rfl, H1.out, HB.out, Fr.set g bm 0 w _⟩
  | k + 1, c, w, hc, hk, h => by
    obtain ⟨n, D, hn, hm, hd⟩ := h.holes
    have hkey := keyI_of hc
    have h61 : (c == 6) = false := by simp; omega
    have hr := h.rs
    obtain ⟨c0, c1, c2, c3, c4, c5, c6, c7⟩ := h.cells
    have hc0 : 0 ≤ c := by omega
    have hc5 : c ≤ 5 := by omega
    clear c0 c1 c2 c3 c5 c6 c7
    by_cases h0 : s.ls.hole (k + 1) = 0
    · obtain ⟨hh, _⟩ := hd.2 (k + 1) (by omega) hk
      have hhas := hh h0
      have hat := Maps.atKey_of_not_has hhas (.lit (.int .i64 0))
      have hdel : D.del (keyI (k + 1)) = D := Maps.del_of_not_has hhas
      rw [hkey] at hhas hat hdel
      have HM := Lib.hid (room_miss k s.ls h0)
      have HT := Lib.hid (take_any bm n D c 0 false w hm (by omega) (by omega) hhas hat)
      have HH := Lib.hid h
      have HD := Lib.hid hd
      have HL := Lib.hid hdel
      have HK := Lib.hid hkey
      have HN := Lib.hid hn
      have HC := Lib.hid hc
      have HBD := Lib.hid hbd
      clear hh hhas hat hdel hd h0 hm h hkey hn hc hbd
      go_enter Tryd.func45, Tryd.ntmps45
      go_wp2_with fail
      refine HT.out.mono ?_
      rintro e w1 ⟨rfl, hown1, hg1⟩
      rw [HL.out] at hown1
      have hp1 := HH.out.turn hg1 hown1 (Nat.le_refl n) HD.out
      have hp1' : Pl w1 R g bm v1 v2 s sl N := hp1.mono HN.out
      have HP1 := Lib.hid hp1'
      have HB1 := Lib.hid (turn_below hg1 HH.out.rb hr)
      have HFR1 : Hid (Fr g bm w w1) := Lib.hid (Fr.turn hg1)
      clear hown1 hg1 hp1 hp1'
      have hbm : c + 1 + (k : Int) = 6 := by have := HC.out; omega
      have IH := room_any R g bm v1 v2 s sl N hN HBD.out k (c + 1) w1 hbm (by omega) HP1.out
      have IHH := Lib.hid IH
      have hbr := (room_bd7 HBD.out (k := k) (by omega))
      clear IH hbm
      go_wp2_with fail
      refine IHH.out.mono ?_
      rintro e w2 ⟨rfl, hp2, hb2, hfr2⟩
      have HFR2 := Lib.hid hfr2
      clear hfr2
      obtain ⟨n2, D2, hn2, hm2, hd2⟩ := hp2.holes
      obtain ⟨d0, d1, d2, d3, d4, d5, d6, d7⟩ := hp2.cells
      have HP2 := Lib.hid hp2
      have HB2 := Lib.hid hb2
      have HM2 := Lib.hid hm2
      have HD2 := Lib.hid hd2
      have hnn : n2 ≤ 1010 := by omega
      have HN2 := Lib.hid hn2
      have hr2 := hp2.rs
      clear d0 d1 d2 d3 d5 d6 d7 hp2 hb2 hm2 hd2 hn2
      obtain ⟨q, hq⟩ : ∃ q, q = (roomF k s.ls).1 := ⟨_, rfl⟩
      rw [← hq] at hbr ⊢
      have HQ := Lib.hid hq
      clear hq
      go_wp2_with (at_mapUpdate; refine wpList_mapUpdate_own _ rfl _ _ _ 56 rfl 75 3 scaleLaw Tryd.underlying56 _ bm n2 D2 rfl HM2.out (by unfold maxLen; omega) _ _ (.int .i64 c) rfl rfl (scaleKey hc0 (by omega)) (.lit (.int .i64 (2 * (q : Int) + 1))) [] (plainElem_int Tryd.underlying3 (wf_mk (by omega) (by omega))) ?_; intro w3 hown3 hg3)
      go_ret
      refine ⟨ret_int ?_, ?_, (HB1.out.trans HB2.out).trans (turn_below hg3 HH.out.rb hr2), (HFR1.out.trans HFR2.out).trans (Fr.turn hg3)⟩
      · rw [HM.out]
        show 2 * (q : Int) = ((2 * (roomF k s.ls).1 : Nat) : Int)
        rw [← HQ.out]; omega
      · have hpq := HP2.out.turn hg3 hown3 (M := N + (k + 1)) (by have := HN2.out; omega) (h' := upd (roomF k s.ls).2.hole (k + 1) (2 * q + 1)) (by
          have := HD2.out.put (k + 1) (2 * q + 1) (by omega)
          rw [HK.out] at this
          exact this)
        rw [HM.out, ← HQ.out]
        exact hpq
    · obtain ⟨_, hh⟩ := hd.2 (k + 1) (by omega) hk
      obtain ⟨hhas, hat⟩ := hh h0
      have hat0 := hat (.lit (.int .i64 0))
      rw [hkey] at hhas hat0
      have HM := Lib.hid (room_hit k s.ls h0)
      have HT := Lib.hid (take_any bm n D c _ true w hm (by omega) (by omega) hhas hat0)
      have HH := Lib.hid h
      have HD := Lib.hid (hd.del (k + 1))
      have HK := Lib.hid hkey
      have HN := Lib.hid hn
      clear hh hhas hat hat0 hd h0 hm h hkey hn hc
      go_enter Tryd.func45, Tryd.ntmps45
      go_wp2_with fail
      refine HT.out.mono ?_
      rintro e w1 ⟨rfl, hown1, hg1⟩
      rw [← HK.out] at hown1
      have HP1 := Lib.hid (HH.out.turn hg1 hown1 (Nat.le_refl n) HD.out)
      have HB1 := Lib.hid (turn_below hg1 HH.out.rb hr)
      have HFR1 : Hid (Fr g bm w w1) := Lib.hid (Fr.turn hg1)
      clear hown1 hg1
      go_wp2
      go_ret
      rw [RoomP, HM.out]
      exact ⟨rfl, HP1.out.mono (by have := HN.out; omega), HB1.out, HFR1.out⟩
end Go.Proofs.YtfgebmmnlneciaaDoor
