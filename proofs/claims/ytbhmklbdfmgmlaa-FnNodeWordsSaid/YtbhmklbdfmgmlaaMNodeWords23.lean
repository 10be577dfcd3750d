/- Texts of the proof of the law FnNodeWords, side by side: part 23. -/
import Derived.Test.YtbhmklbdfmgmlaaMNodeWords00
import Derived.Test.YtbhmklbdfmgmlaaMNodeWords01
import Derived.Test.YtbhmklbdfmgmlaaMNodeWords02
import Derived.Test.YtbhmklbdfmgmlaaMNodeWords03
import Derived.Test.YtbhmklbdfmgmlaaMNodeWords04
import Derived.Test.YtbhmklbdfmgmlaaMNodeWords05
import Derived.Test.YtbhmklbdfmgmlaaMNodeWords06
import Derived.Test.YtbhmklbdfmgmlaaMNodeWords07
import Derived.Test.YtbhmklbdfmgmlaaMNodeWords08
import Derived.Test.YtbhmklbdfmgmlaaMNodeWords09
import Derived.Test.YtbhmklbdfmgmlaaMNodeWords10
import Derived.Test.YtbhmklbdfmgmlaaMNodeWords11
import Derived.Test.YtbhmklbdfmgmlaaMNodeWords12
import Derived.Test.YtbhmklbdfmgmlaaMNodeWords13
import Derived.Test.YtbhmklbdfmgmlaaMNodeWords14
import Derived.Test.YtbhmklbdfmgmlaaMNodeWords15
import Derived.Test.YtbhmklbdfmgmlaaMNodeWords16
import Derived.Test.YtbhmklbdfmgmlaaMNodeWords17
import Derived.Test.YtbhmklbdfmgmlaaMNodeWords18
import Derived.Test.YtbhmklbdfmgmlaaMNodeWords19
import Derived.Test.YtbhmklbdfmgmlaaMNodeWords20
import Derived.Test.YtbhmklbdfmgmlaaMNodeWords21
import Derived.Test.YtbhmklbdfmgmlaaMNodeWords22
/- The program's BuildOne. -/
namespace Go.Proofs.Ytbhmklbdfmgmlaa
open Go.RowKit Go.Deep
def One1 (r : Option Segs) (w : World) (e : Ending) (w' : World) : Prop := (∃ s t, r = some (s :: t) ∧ e = .returned (.tuple #[strV s, .bool true]) ∧ Below w.heap.size w w') ∨ (r = none ∧ e = .returned (.tuple #[.string { data := #[] }, .bool false]) ∧ Below w.heap.size w w')
set_option maxHeartbeats 4000000 in
set_option maxRecDepth 100000 in
theorem implBuildOne_a (m : Nat) (n : Nd) (h : Hd) (w : World) (S : Nat → Prop) (hn : NdAt w S m n h) (ht : totN m n ≤ 2000000) :
    Calls Try.prog 17 #[.agg #[.int .i64 n.kind, .string n.data, .slice h.A n.ptrs.length h.a, .int .i64 n.size, .int .i64 n.count, .slice h.B n.items.length h.b]] w (One1 (bldV n 200) w) := by
  have hne : ∀ ss, bldV n 200 = some ss → ∃ s t, ss = s :: t := fun ss hss => by
    unfold bldV at hss
    split at hss
    · rename_i hh
      obtain ⟨s, hs, _⟩ := build_one (size := 200) hh.1 (by have := node_ok hh.1; unfold nodeWords; rw [if_pos hh.1]; omega)
      rw [show (200 : Int).toNat = 200 from rfl, hs] at hss
      injection hss with hss
      exact ⟨s, [], hss.symm⟩
    · cases hss
  have HNE := Lib.hid hne
  obtain ⟨qA, qa, qB, qb⟩ := h
  have hb0 := (Below.refl w.heap.size w).alloc (Nat.le_refl _) (.cells #[.int .i64 n.kind, .string n.data, .slice qA n.ptrs.length qa, .int .i64 n.size, .int .i64 n.count, .slice qB n.items.length qb] nodeT)
  have HB := Lib.hid (implBuild_a m n ⟨qA, qa, qB, qb⟩ _ S 200 (hn.below hb0) ht)
  dsimp only at HB ⊢
  have HB0 := Lib.hid hb0
  generalize bldV n 200 = r at *
  clear hn hb0 hne
  go_enter Try.func17, Try.ntmps17
  go_wp2_with fail
  refine HB.out.mono ?_
  rintro e w1 (⟨rfl, rfl, hb1⟩ | ⟨ss, A, c, rfl, rfl, ho, hb1⟩)
  · have HB1 := Lib.hid (HB0.out.trans (hb1.mono HB0.out.size))
    clear hb1
    go_wp2
    exact bodyPost_ret (v := .tuple #[.string { data := #[] }, .bool false]) (by simp [results, Try.results17, go_sem]) rfl (.inr ⟨rfl, rfl, HB1.out⟩)
  · have HB1 := Lib.hid (HB0.out.trans (hb1.mono HB0.out.size))
    obtain ⟨s, t, rfl⟩ := HNE.out ss rfl
    obtain ⟨g, cap, cur, hv, -⟩ := own_cases ho (by simp)
    injection hv with e1 e2 e3
    subst e1
    have hc := ho.cells (g := g) rfl 0 (strV s) (by simp)
    rw [add_zero0] at hc
    clear hb1 ho
    go_wp2
    exact bodyPost_ret (v := .tuple #[strV s, .bool true]) (by simp [results, Try.results17, go_sem]) rfl (.inl ⟨s, t, rfl, rfl, HB1.out⟩)
end Go.Proofs.Ytbhmklbdfmgmlaa

/- Which parts a list has: the specification's word on it. -/
namespace Go.Proofs.Ytbhmklbdfmgmlaa
open Go.RowKit
theorem in_wi (c : Int) : inB c 0 12800 = wiB c 12801 := by unfold inB wiB; rw [Bool.eq_iff_iff]; simp; omega
set_option maxHeartbeats 4000000 in
set_option maxRecDepth 100000 in
theorem l4List_0 (m : Nat) (s c : Int) (d : ByteArray) (A B : Option Addr) (lp cp ci : Nat) (is : List Nd) (w : World) (S : Nat → Prop) (_hn : NdsAt w S m B is) (hdm : d.size ≤ maxLen) (_hlm : is.length ≤ 2000000) (_hpm : lp ≤ 2000000) (hs0 : 0 ≤ s) (hs5 : s ≤ 5) (hw : wiB c 12801 = true) :
    Calls Try.prog 61 #[.agg #[.int .i64 2, .string d, .slice A lp cp, .int .i64 s, .int .i64 c, .slice B is.length ci]] w fun e w' => e = .returned (.bool (listB 2 s c d lp is.length (itemsB is))) ∧ Below w.heap.size w w' := by
  obtain ⟨hc0, hc1⟩ := wi_out hw
  have HLN : Hid (listB 2 s c d lp is.length (itemsB is) = (bitsB d (c * bz s) && (decide (lp = 0) && decide (is.length = 0)))) := Lib.hid (by unfold listB; rw [hw, if_pos ⟨hs0, hs5⟩]; simp)
  have HS7 : Hid (inB s 0 7 = true) := Lib.hid (by simp [inB]; omega)
  have HW : Hid (inB c 0 12800 = true) := Lib.hid (by rw [in_wi]; exact hw)
  have HPL := Lib.hid (fun W => l4Plain_a 2 s c d A B lp cp is.length ci W hs0 hs5 hc0 (by omega) hdm)
  have z6 : (s == 6) = false := by simp; omega
  have z7 : (s == 7) = false := by simp; omega
  clear _hn hw hdm _hlm _hpm hs0 hs5 hc0 hc1
  generalize bitsB d (c * bz s) = bb at *
  by_cases hp : lp = 0
  · have hpb : ((lp : Int) == 0) = true := by rw [hp]; rfl
    by_cases hi : is.length = 0
    · have hib : ((is.length : Int) == 0) = true := by rw [hi]; rfl
      have HX : Hid (listB 2 s c d lp is.length (itemsB is) = bb) := Lib.hid (by rw [HLN.out, hp, hi]; simp)
      clear hp hi
      go_enter Try.func61, Try.ntmps61
      go_wp2_with (first | (go_at_call 25; go_must (refine (l1In_any _ _ _ _).mono ?_); rintro e w1 ⟨rfl, rfl⟩; first | rw [HS7.out] | rw [HW.out]) | (go_at_call 78; go_must (with_reducible refine (HPL.out _).mono ?_); rintro e w2 ⟨rfl, hb2⟩))
      go_ret
      exact ⟨by rw [HX.out]; rfl, ((Below.refl _ _).alloc (Nat.le_refl _) _).trans (hb2.mono (by simp))⟩
    · have hib : ((is.length : Int) == 0) = false := by rw [beq_eq_false_iff_ne]; omega
      have HX : Hid (listB 2 s c d lp is.length (itemsB is) = false) := Lib.hid (by rw [HLN.out]; simp [hi])
      clear hp hi
      go_enter Try.func61, Try.ntmps61
      go_wp2_with (go_at_call 25; go_must (refine (l1In_any _ _ _ _).mono ?_); rintro e w1 ⟨rfl, rfl⟩; first | rw [HS7.out] | rw [HW.out])
      go_ret
      exact ⟨by rw [HX.out]; rfl, (Below.refl _ _).alloc (Nat.le_refl _) _⟩
  · have hpb : ((lp : Int) == 0) = false := by rw [beq_eq_false_iff_ne]; omega
    have HX : Hid (listB 2 s c d lp is.length (itemsB is) = false) := Lib.hid (by rw [HLN.out]; simp [hp])
    clear hp
    go_enter Try.func61, Try.ntmps61
    go_wp2_with (go_at_call 25; go_must (refine (l1In_any _ _ _ _).mono ?_); rintro e w1 ⟨rfl, rfl⟩; first | rw [HS7.out] | rw [HW.out])
    go_ret
    exact ⟨by rw [HX.out]; rfl, (Below.refl _ _).alloc (Nat.le_refl _) _⟩
set_option maxHeartbeats 4000000 in
set_option maxRecDepth 100000 in
theorem l4List_6 (m : Nat) (c : Int) (d : ByteArray) (A B : Option Addr) (lp cp ci : Nat) (is : List Nd) (w : World) (S : Nat → Prop) (_hn : NdsAt w S m B is) (_hdm : d.size ≤ maxLen) (_hlm : is.length ≤ 2000000) (_hpm : lp ≤ 2000000) (hw : wiB c 12801 = true) :
    Calls Try.prog 61 #[.agg #[.int .i64 2, .string d, .slice A lp cp, .int .i64 6, .int .i64 c, .slice B is.length ci]] w fun e w' => e = .returned (.bool (listB 2 6 c d lp is.length (itemsB is))) ∧ Below w.heap.size w w' := by
  have HLN : Hid (listB 2 6 c d lp is.length (itemsB is) = decide (d.size = 0 ∧ (lp : Int) = c ∧ is.length = 0)) := Lib.hid (by unfold listB; rw [hw, Bool.eq_iff_iff]; simp)
  have hse := toList_isEmpty d
  have HS7 : Hid (inB 6 0 7 = true) := Lib.hid (by decide)
  have HW : Hid (inB c 0 12800 = true) := Lib.hid (by rw [in_wi]; exact hw)
  clear hw _hn
  go_enter Try.func61, Try.ntmps61
  go_wp2_with (go_at_call 25; go_must (refine (l1In_any _ _ _ _).mono ?_); rintro e w1 ⟨rfl, rfl⟩; first | rw [HS7.out] | rw [HW.out])
  all_goals go_ret
  all_goals refine ⟨ret_bool ?_, (Below.refl _ _).alloc (Nat.le_refl _) _⟩
  all_goals (rw [HLN.out, Bool.eq_iff_iff]; simp_all)
set_option maxHeartbeats 4000000 in
set_option maxRecDepth 100000 in
theorem l4List_7 (m : Nat) (c : Int) (d : ByteArray) (A B : Option Addr) (lp cp ci : Nat) (is : List Nd) (w : World) (S : Nat → Prop) (hn : NdsAt w S m B is) (_hdm : d.size ≤ maxLen) (hlm : is.length ≤ 2000000) (_hpm : lp ≤ 2000000) (hw : wiB c 12801 = true) :
    Calls Try.prog 61 #[.agg #[.int .i64 2, .string d, .slice A lp cp, .int .i64 7, .int .i64 c, .slice B is.length ci]] w fun e w' => e = .returned (.bool (listB 2 7 c d lp is.length (itemsB is))) ∧ Below w.heap.size w w' := by
  have HLN : Hid (listB 2 7 c d lp is.length (itemsB is) = (decide (d.size = 0 ∧ lp = 0 ∧ (is.length : Int) = c) && itemsB is)) := Lib.hid (by unfold listB; rw [hw, Bool.eq_iff_iff]; simp [and_assoc])
  have HFALSE : Hid (itemsB is = false → listB 2 7 c d lp is.length (itemsB is) = false) := Lib.hid (fun h => by rw [HLN.out, h, Bool.and_false])
  have hse := toList_isEmpty d
  have HS7 : Hid (inB 7 0 7 = true) := Lib.hid (by decide)
  have HW : Hid (inB c 0 12800 = true) := Lib.hid (by rw [in_wi]; exact hw)
  have hba := (Below.refl w.heap.size w).alloc (Nat.le_refl _) (.cells #[.int .i64 2, .string d, .slice A lp cp, .int .i64 7, .int .i64 c, .slice B is.length ci] nodeT)
  have HF := Lib.hid (NdsAt.succ _ _ _ (hn.below hba))
  have HBW := Lib.hid hba
  have HR := Lib.hid (heap_alloc_new w (.cells #[.int .i64 2, .string d, .slice A lp cp, .int .i64 7, .int .i64 c, .slice B is.length ci] nodeT))
  have hsz : w.heap.size < (w.alloc (.cells #[.int .i64 2, .string d, .slice A lp cp, .int .i64 7, .int .i64 c, .slice B is.length ci] nodeT)).heap.size := by simp
  clear hw hn hba
  go_enter Try.func61, Try.ntmps61
  go_wp2_with (go_at_call 25; go_must (refine (l1In_any _ _ _ _).mono ?_); rintro e w1 ⟨rfl, rfl⟩; first | rw [HS7.out] | rw [HW.out])
  generalize w.alloc (.cells #[.int .i64 2, .string d, .slice A lp cp, .int .i64 7, .int .i64 c, .slice B is.length ci] nodeT) = W at *
  go_loopw [3] (fun i wr => ∃ k : Nat, i = .int .i64 k ∧ k ≤ is.length ∧ Hid ((is.take k).all (fun n => itemB n (is.headD default)) = true) ∧ Hid (Below W.heap.size W wr)) (fun i _ => is.length - (intOf i).toNat)
  case atStart => exact ⟨0, rfl, by omega, Lib.hid rfl, Lib.hid (Below.refl _ _)⟩
  case round =>
    obtain ⟨k, rfl, hk, HA, HB⟩ := hrel
    have hrw := (HB.out.block _ hsz).trans HR.out
    obtain ⟨e0, e1, e2, e3, e4, e5⟩ := cells6 hrw
    by_cases hlt : k < is.length
    · clear e0 e1 e2 e3 e4
      obtain ⟨x, hd, rfl, hc, hn⟩ := (HF.out.below HB.out).at_ hlt
      obtain ⟨x', hd0, hxx, hc0, hn0⟩ := (HF.out.below HB.out).at_ (k := 0) (by omega)
      obtain rfl : x = x' := Option.some.inj hxx
      rw [addr_zero] at hc0
      have HFL := Lib.hid (fun h => itemsB_false hlt h)
      have HTR := Lib.hid (fun h => itemsB_take hlt HA.out h)
      have h0l : 0 < is.length := by omega
      rw [head_at h0l] at hc0
      generalize is.headD default = hdn at hc0 HFL HTR
      generalize is[k] = n at hc HFL HTR
      obtain ⟨c0, c1, c2, c3, c4, c5⟩ := hc
      obtain ⟨-, d1, d2, -, -, -⟩ := hc0
      have HI := Lib.hid (fun W => l4Struct_any n.kind n.size n.count n.data hd.A hd.B n.ptrs.length hd.a n.items.length hd.b W)
      clear hn hn0 hrw
      go_wp2_with fail
      have q0 := cell_regrown c0
      have q1 := cell_regrown c1
      have q2 := cell_regrown c2
      have q3 := cell_regrown c3
      have q4 := cell_regrown c4
      have q5 := cell_regrown c5
      have e5' := cell_regrown e5
      have p1 := cell_regrown d1
      have p2 := cell_regrown d2
      cases hst : structB n.kind n.data n.size n.count n.items.length
      · have HX := Lib.hid (HFALSE.out (HFL.out (by simp [itemB, hst])))
        rw [hst] at HI
        refine wp_region_quiet_below (by kernel_rfl) (by kernel_rfl) ?_
        repeat (first | go_big_quiet_step ((go_at_call 60; with_reducible exact Calls.regrown_of (HI.out _))) | quiet_step ((go_at_call 60; with_reducible exact Calls.regrown_of (HI.out _))))
        refine wpQuiet_nil ?_
        intro _ hw'
        obtain ⟨⟨dq, osq⟩, hw''⟩ := hw'
        subst hw''
        have HB2 := Lib.hid (HB.out.trans ((below_regrown wr dq osq).mono HB.out.size))
        clear q0 q1 q2 q3 q4 q5 e5 e5' p1 p2 d1 d2 c0 c1 c2 c3 c4 c5
        generalize «Sort».grow (redrawn wr dq) osq = W2 at *
        go_wp2
        go_ret
        exact ⟨by rw [HX.out]; rfl, HBW.out.trans (HB2.out.mono HBW.out.size)⟩
      · rw [hst] at HI
        by_cases hz : n.data.size = hdn.data.size
        · have HZ := Lib.hid hz
          have hzb : ((n.data.size : Int) == (hdn.data.size : Int)) = true := by rw [hz]; simp
          have hzn : ((n.data.size : Int) != (hdn.data.size : Int)) = false := by rw [hz]; simp
          clear hz
          by_cases hp : n.ptrs.length = hdn.ptrs.length
          · have HX := Lib.hid (HTR.out (by simp [itemB, hst, HZ.out, hp]))
            have hpn : ((n.ptrs.length : Int) != (hdn.ptrs.length : Int)) = false := by rw [hp]; simp
            clear hp
            refine wp_region_quiet_below (by kernel_rfl) (by kernel_rfl) ?_
            repeat (first | go_big_quiet_step ((go_at_call 60; with_reducible exact Calls.regrown_of (HI.out _))) | quiet_step ((go_at_call 60; with_reducible exact Calls.regrown_of (HI.out _))))
            refine wpQuiet_nil ?_
            intro _ hw'
            obtain ⟨⟨dq, osq⟩, hw''⟩ := hw'
            subst hw''
            have HB2 := Lib.hid (HB.out.trans ((below_regrown wr dq osq).mono HB.out.size))
            clear q0 q1 q2 q3 q4 q5 e5 e5' p1 p2 d1 d2 c0 c1 c2 c3 c4 c5
            generalize «Sort».grow (redrawn wr dq) osq = W2 at *
            go_wp2
            go_roundw
            case rel => exact ⟨k + 1, by go_num, by omega, HX, HB2⟩
            case measure => simp [intOf]; omega
          · have HX := Lib.hid (HFALSE.out (HFL.out (by simp [itemB, hst, HZ.out, hp])))
            have hpn : ((n.ptrs.length : Int) != (hdn.ptrs.length : Int)) = true := by simp; omega
            clear hp
            refine wp_region_quiet_below (by kernel_rfl) (by kernel_rfl) ?_
            repeat (first | go_big_quiet_step ((go_at_call 60; with_reducible exact Calls.regrown_of (HI.out _))) | quiet_step ((go_at_call 60; with_reducible exact Calls.regrown_of (HI.out _))))
            refine wpQuiet_nil ?_
            intro _ hw'
            obtain ⟨⟨dq, osq⟩, hw''⟩ := hw'
            subst hw''
            have HB2 := Lib.hid (HB.out.trans ((below_regrown wr dq osq).mono HB.out.size))
            clear q0 q1 q2 q3 q4 q5 e5 e5' p1 p2 d1 d2 c0 c1 c2 c3 c4 c5
            generalize «Sort».grow (redrawn wr dq) osq = W2 at *
            go_wp2
            go_ret
            exact ⟨by rw [HX.out]; rfl, HBW.out.trans (HB2.out.mono HBW.out.size)⟩
        · have HX := Lib.hid (HFALSE.out (HFL.out (by simp [itemB, hst, hz])))
          have hzb : ((n.data.size : Int) == (hdn.data.size : Int)) = false := by simp; omega
          have hzn : ((n.data.size : Int) != (hdn.data.size : Int)) = true := by simp; omega
          refine wp_region_quiet_below (by kernel_rfl) (by kernel_rfl) ?_
          repeat (first | go_big_quiet_step ((go_at_call 60; with_reducible exact Calls.regrown_of (HI.out _))) | quiet_step ((go_at_call 60; with_reducible exact Calls.regrown_of (HI.out _))))
          refine wpQuiet_nil ?_
          intro _ hw'
          obtain ⟨⟨dq, osq⟩, hw''⟩ := hw'
          subst hw''
          have HB2 := Lib.hid (HB.out.trans ((below_regrown wr dq osq).mono HB.out.size))
          clear q0 q1 q2 q3 q4 q5 e5 e5' p1 p2 d1 d2 c0 c1 c2 c3 c4 c5
          generalize «Sort».grow (redrawn wr dq) osq = W2 at *
          go_wp2
          go_ret
          exact ⟨by rw [HX.out]; rfl, HBW.out.trans (HB2.out.mono HBW.out.size)⟩
    · obtain rfl : k = is.length := by omega
      rw [List.take_of_length_le (Nat.le_refl _)] at HA
      have HIB : Hid (itemsB is = true) := Lib.hid HA.out
      have HX : Hid (listB 2 7 c d lp is.length (itemsB is) = decide (d.size = 0 ∧ lp = 0 ∧ (is.length : Int) = c)) := Lib.hid (by rw [HLN.out, HIB.out, Bool.and_true])
      have HBE := Lib.hid (HBW.out.trans (HB.out.mono HBW.out.size))
      go_wp2
      all_goals go_ret
      all_goals refine ⟨?_, HBE.out⟩
      all_goals rw [HX.out]
      all_goals exact ret_bool (by rw [Bool.eq_iff_iff]; simp_all)
set_option maxHeartbeats 4000000 in
set_option maxRecDepth 100000 in
theorem l4List_a (m : Nat) (k s c : Int) (d : ByteArray) (A B : Option Addr) (lp cp ci : Nat) (is : List Nd) (w : World) (S : Nat → Prop) (hn : NdsAt w S m B is) (hdm : d.size ≤ maxLen) (hlm : is.length ≤ 2000000) (hpm : lp ≤ 2000000) :
    Calls Try.prog 61 #[.agg #[.int .i64 k, .string d, .slice A lp cp, .int .i64 s, .int .i64 c, .slice B is.length ci]] w fun e w' => e = .returned (.bool (listB k s c d lp is.length (itemsB is))) ∧ Below w.heap.size w w' := by
  by_cases hk : k = 2
  · subst hk
    by_cases hs : 0 ≤ s ∧ s ≤ 7
    · cases hw : wiB c 12801
      · have HX : Hid (listB 2 s c d lp is.length (itemsB is) = false) := Lib.hid (by unfold listB; rw [hw]; simp)
        have HS7 : Hid (inB s 0 7 = true) := Lib.hid (by simp [inB]; omega)
        have HW : Hid (inB c 0 12800 = false) := Lib.hid (by rw [in_wi]; exact hw)
        clear hw hn hs
        go_enter Try.func61, Try.ntmps61
        go_wp2_with (go_at_call 25; go_must (refine (l1In_any _ _ _ _).mono ?_); rintro e w1 ⟨rfl, rfl⟩; first | rw [HS7.out] | rw [HW.out])
        go_ret
        exact ⟨by rw [HX.out]; rfl, (Below.refl _ _).alloc (Nat.le_refl _) _⟩
      · by_cases h5 : s ≤ 5
        · exact l4List_0 m s c d A B lp cp ci is w S hn hdm hlm hpm hs.1 h5 hw
        · have h67 : s = 6 ∨ s = 7 := by omega
          rcases h67 with rfl | rfl
          · exact l4List_6 m c d A B lp cp ci is w S hn hdm hlm hpm hw
          · exact l4List_7 m c d A B lp cp ci is w S hn hdm hlm hpm hw
    · have HX : Hid (listB 2 s c d lp is.length (itemsB is) = false) := Lib.hid (by unfold listB; rw [if_neg (by omega), if_neg (by omega), if_neg (by omega)]; simp)
      have HS7 : Hid (inB s 0 7 = false) := Lib.hid (by simp [inB]; omega)
      have HW := HS7
      clear hn hs
      go_enter Try.func61, Try.ntmps61
      go_wp2_with (go_at_call 25; go_must (refine (l1In_any _ _ _ _).mono ?_); rintro e w1 ⟨rfl, rfl⟩; first | rw [HS7.out] | rw [HW.out])
      go_ret
      exact ⟨by rw [HX.out]; rfl, (Below.refl _ _).alloc (Nat.le_refl _) _⟩
  · have HX : Hid (listB k s c d lp is.length (itemsB is) = false) := Lib.hid (by unfold listB; simp [hk])
    clear hn
    go_enter Try.func61, Try.ntmps61
    go_wp2
    go_ret
    exact ⟨by rw [HX.out]; rfl, (Below.refl _ _).alloc (Nat.le_refl _) _⟩
end Go.Proofs.Ytbhmklbdfmgmlaa
