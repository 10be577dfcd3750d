/- Texts of the proof of the law FnExactRecordGet, side by side: part 14. -/
import Derived.Test.YtehhbbdaeonebaaGreatDoorMExactRecordGet13
set_option maxHeartbeats 8000000
set_option maxRecDepth 100000
namespace Go.Proofs.YtehhbbdaeonebaaGreatDoor
open Go.RowKit
theorem NdsAt.at6 {w : World} {S : Nat → Prop} {m : Nat} {A : Option Addr} {l : List Nd} (h : NdsAt w S (m + 1) A l) {k : Nat} (hk : k < l.length) :
 ∃ (x : Addr) (yA : Option Addr) (ya : Nat) (yB : Option Addr) (yb : Nat), A = some x ∧ NdCell w (x.add (k * 6)) l[k] ⟨yA, ya, yB, yb⟩ ∧ (l[k]).data.size ≤ maxLen ∧ NdsAt w S m yA (l[k]).ptrs ∧ NdsAt w S m yB (l[k]).items := by
 obtain ⟨x, ⟨yA, ya, yB, yb⟩, hx, hc, hn⟩ := h.at_ hk
 exact ⟨x, yA, ya, yB, yb, hx, hc, hn.1, hn.2.1, hn.2.2⟩
theorem ok_zero_kind {d : Nat} {n : Nd} (hk : n.kind = 0) : okN d n = noneN n := by
 have h1 : strN n = false := by unfold strN structB; rw [decide_eq_false]; omega
 have h2 : listN n = false := by unfold listN listB; rw [decide_eq_false (by omega)]; rfl
 have h3 : formN n = noneN n := by unfold formN; rw [h1, h2, decide_eq_true hk]; simp
 cases d <;> simp [okN, h3, hk]
theorem ok_other {j : Nat} {n : Nd} (hk : ¬ n.kind = 0) : okN (j + 1) n = ((strN n || listN n) && (n.ptrs.all (okN j) && n.items.all fun y => y.ptrs.all (okN j))) := by
 have h3 : formN n = (strN n || listN n) := by unfold formN; rw [decide_eq_false hk]; simp
 rw [okN, h3, decide_eq_false hk]
 unfold ptrsL
 rw [Bool.false_or, List.all_append, List.all_flatMap]
theorem all_take (l : List Nd) (f : Nd → Bool) (k : Nat) (h : k < l.length) (h1 : (l.take k).all f = true) (h2 : f l[k] = true) : (l.take (k + 1)).all f = true := by
 rw [List.take_succ_eq_append_getElem h, List.all_append, h1]
 simpa using h2
theorem all_false (l : List Nd) (f : Nd → Bool) (k : Nat) (h : k < l.length) (h2 : f l[k] = false) : l.all f = false := by
 rw [List.all_eq_false]
 exact ⟨l[k], List.getElem_mem h, by rw [h2]; decide⟩
def L4O (d : Nat) : Prop := ∀ (m : Nat) (n : Nd) (h : Hd) (w : World) (S : Nat → Prop), NdAt w S m n h → totN m n ≤ 2000000 →
 Calls Tryz.prog 72 #[.agg #[.int .i64 n.kind, .string n.data, .slice h.A n.ptrs.length h.a, .int .i64 n.size, .int .i64 n.count, .slice h.B n.items.length h.b], .int .i64 (d : Int)] w fun e w' => e = .returned (.bool (okN d n)) ∧ Below w.heap.size w w'
theorem l4Ok_step (d : Nat) (hd : d ≤ 8) (ih : ∀ j, d = j + 1 → L4O j) : L4O d := by
 intro m n h w S hn ht
 obtain ⟨qA, qa, qB, qb⟩ := h
 dsimp only at hn ⊢
 have hpl : n.ptrs.length ≤ 2000000 := totL_len' hn.2.1 (by unfold totN at ht; omega)
 have hil : n.items.length ≤ 2000000 := totL_len' hn.2.2 (by unfold totN at ht; omega)
 obtain ⟨D, hD⟩ : ∃ D : Int, D = (d : Int) := ⟨_, rfl⟩
 rw [← hD]
 have hD8 : 0 ≤ D ∧ D ≤ 8 := by omega
 have HD := Lib.hid hD
 have HN := Lib.hid hn
 have HT := Lib.hid ht
 have HIH := Lib.hid ih
 have hba := (Below.refl w.heap.size w).alloc (Nat.le_refl _) (.cells #[.int .i64 n.kind, .string n.data, .slice qA n.ptrs.length qa, .int .i64 n.size, .int .i64 n.count, .slice qB n.items.length qb] nodeT)
 have hr := heap_alloc_new w (.cells #[.int .i64 n.kind, .string n.data, .slice qA n.ptrs.length qa, .int .i64 n.size, .int .i64 n.count, .slice qB n.items.length qb] nodeT)
 have hsz : w.heap.size < (w.alloc (.cells #[.int .i64 n.kind, .string n.data, .slice qA n.ptrs.length qa, .int .i64 n.size, .int .i64 n.count, .slice qB n.items.length qb] nodeT)).heap.size := by simp
 have HBA := Lib.hid hba
 have HR := Lib.hid hr
 have hse := toList_isEmpty n.data
 clear hn ht ih hD hba hr
 by_cases hk : n.kind = 0
 · have hkb : (n.kind == 0) = true := by rw [hk]; rfl
   have HX : Hid (okN d n = decide (n.data.size = 0 ∧ n.ptrs.length = 0 ∧ n.size = 0 ∧ n.count = 0 ∧ n.items.length = 0)) := Lib.hid (by rw [ok_zero_kind hk, Bool.eq_iff_iff]; simp [noneN, noneB, and_assoc])
   clear hk hsz
   go_enter Tryz.func72, Tryz.ntmps72
   go_wp2
   all_goals go_ret
   all_goals refine ⟨?_, (Below.refl _ _).alloc (Nat.le_refl _) _⟩
   all_goals rw [HX.out]
   all_goals exact ret_bool (by rw [Bool.eq_iff_iff]; simp_all)
 have hkb : (n.kind == 0) = false := by simpa using hk
 by_cases hd0 : d = 0
 · have hD1 : decide (D < 1) = true := decide_eq_true (by have := HD.out; omega)
   have HX : Hid (okN d n = false) := Lib.hid (by subst hd0; simp [okN, hk])
   clear hk hsz
   go_enter Tryz.func72, Tryz.ntmps72
   go_wp2
   go_ret
   exact ⟨by rw [HX.out]; rfl, (Below.refl _ _).alloc (Nat.le_refl _) _⟩
 obtain ⟨j, rfl⟩ : ∃ j, d = j + 1 := ⟨d - 1, by omega⟩
 have hD1 : decide (D < 1) = false := decide_eq_false (by have := HD.out; omega)
 have HOK := Lib.hid (ok_other (j := j) hk)
 have HJ := Lib.hid (HIH.out j rfl)
 have HST : Hid (∀ W : World, Calls Tryz.prog 90 #[.agg #[.int .i64 n.kind, .string n.data, .slice qA n.ptrs.length qa, .int .i64 n.size, .int .i64 n.count, .slice qB n.items.length qb]] W fun e w' => e = .returned (.bool (strN n)) ∧ Below W.heap.size W w') := Lib.hid fun W => l4Struct_any _ _ _ _ _ _ _ _ _ _ W
 have HLI : Hid (∀ W : World, Below w.heap.size w W → Calls Tryz.prog 91 #[.agg #[.int .i64 n.kind, .string n.data, .slice qA n.ptrs.length qa, .int .i64 n.size, .int .i64 n.count, .slice qB n.items.length qb]] W fun e w' => e = .returned (.bool (listN n)) ∧ Below W.heap.size W w') := Lib.hid fun W hb => l4List_a m _ _ _ _ _ _ _ _ _ _ W S (HN.out.2.2.below hb) HN.out.1 hil hpl
 generalize strN n = bs at *
 generalize listN n = bl at *
 clear hk
 have hDj : D - 1 = (j : Int) := by have := HD.out; omega
 cases bs
 · cases bl
   · have HX : Hid (okN (j + 1) n = false) := Lib.hid (by rw [HOK.out]; rfl)
     clear HOK
     go_enter Tryz.func72, Tryz.ntmps72
     go_wp2_with fail
     refine (HST.out _).mono ?_
     rintro e w1 ⟨rfl, hb1⟩
     have hr1 := (hb1.block w.heap.size hsz).trans HR.out
     have HB1 := Lib.hid (HBA.out.trans (hb1.mono HBA.out.size))
     obtain ⟨a0, a1, a2, a3, a4, a5⟩ := cells6 hr1
     clear hr1 hb1
     go_wp2_with fail
     refine (HLI.out _ HB1.out).mono ?_
     rintro e w2 ⟨rfl, hb2⟩
     have HB2 := Lib.hid (HB1.out.trans (hb2.mono HB1.out.size))
     clear hb2
     go_wp2
     go_ret
     exact ⟨by rw [HX.out]; rfl, HB2.out⟩
   · have HP0 : Hid (n.ptrs.all (okN j) = false → okN (j + 1) n = false) := Lib.hid (fun h => by rw [HOK.out, h]; simp)
     have HP1 : Hid ((n.items.all fun y => y.ptrs.all (okN j)) = false → okN (j + 1) n = false) := Lib.hid (fun h => by rw [HOK.out, h]; simp)
     have HGOOD : Hid (n.ptrs.all (okN j) = true → (n.items.all fun y => y.ptrs.all (okN j)) = true → okN (j + 1) n = true) := Lib.hid (fun h h' => by rw [HOK.out, h, h']; rfl)
     clear HOK
     go_enter Tryz.func72, Tryz.ntmps72
     go_wp2_with fail
     refine (HST.out _).mono ?_
     rintro e w1 ⟨rfl, hb1⟩
     have hr1 := (hb1.block w.heap.size hsz).trans HR.out
     have HR1 := Lib.hid hr1
     have HB1 := Lib.hid (HBA.out.trans (hb1.mono HBA.out.size))
     obtain ⟨a0, a1, a2, a3, a4, a5⟩ := cells6 hr1
     clear hr1 hb1
     go_wp2_with fail
     refine (HLI.out _ HB1.out).mono ?_
     rintro e w2 ⟨rfl, hb2⟩
     clear a0 a1 a2 a3 a4 a5
     have hr2 := (hb2.block w.heap.size (row_lt HR1.out)).trans HR1.out
     have HR2 := Lib.hid hr2
     have HB2 := Lib.hid (HB1.out.trans (hb2.mono HB1.out.size))
     obtain ⟨a0, a1, a2, a3, a4, a5⟩ := cells6 hr2
     clear hr2 hb2
     go_wp2
     go_loopw [5] (fun i wr => ∃ k : Nat, i = .int .i64 k ∧ k ≤ n.ptrs.length ∧ Hid ((n.ptrs.take k).all (okN j) = true) ∧ Hid (Below w.heap.size w wr ∧ wr.heap[w.heap.size]? = some (.cells #[.int .i64 n.kind, .string n.data, .slice qA n.ptrs.length qa, .int .i64 n.size, .int .i64 n.count, .slice qB n.items.length qb] nodeT (0, 0)))) (fun i _ => n.ptrs.length - (intOf i).toNat)
     case atStart => exact ⟨0, rfl, by omega, Lib.hid rfl, Lib.hid ⟨HB2.out, HR2.out⟩⟩
     case round =>
      obtain ⟨k, rfl, hk, HA, HB⟩ := hrel
      obtain ⟨hbr, hrr⟩ := HB.out
      clear a0 a1 a2 a3 a4 a5
      obtain ⟨a0, a1, a2, a3, a4, a5⟩ := cells6 hrr
      by_cases hlt : k < n.ptrs.length
      · obtain ⟨m', rfl⟩ := HN.out.2.1.pred hlt
        obtain ⟨x, yA, ya, yB, yb, rfl, hc0, hdy, hny, hniy⟩ := HN.out.2.1.at6 hlt
        have hc := cell_below hbr _ _ _ hc0
        have HTK := Lib.hid (fun h => all_take n.ptrs (okN j) k hlt HA.out h)
        have HBD := Lib.hid (fun h => HP0.out (all_false n.ptrs (okN j) k hlt h))
        have htp : totN m' n.ptrs[k] ≤ 2000000 := by have := totL_at (m := m') hlt; have := HT.out; unfold totN at this; omega
        have HC := Lib.hid (HJ.out m' n.ptrs[k] ⟨yA, ya, yB, yb⟩ wr S (NdAt.below ⟨hdy, hny, hniy⟩ hbr) htp)
        dsimp only at HC
        generalize n.ptrs[k] = y at hc HTK HBD HC
        obtain ⟨c0, c1, c2, c3, c4, c5⟩ := hc
        dsimp only at c2 c5
        have HBR := Lib.hid hbr
        have HRR := Lib.hid hrr
        clear hbr hrr hc0 hdy hny hniy htp HB
        cases hoy : okN j y
        all_goals
         rw [hoy] at HC
         have HO := Lib.hid hoy
         clear hoy
         go_wp2_with fail
         refine HC.out.mono ?_
         rintro e w3 ⟨rfl, hb3⟩
         have HB3 := Lib.hid (And.intro (HBR.out.trans (hb3.mono HBR.out.size)) ((hb3.block w.heap.size (row_lt HRR.out)).trans HRR.out))
         clear hb3
         first
         | (have HX := Lib.hid (HBD.out HO.out)
            go_wp2
            go_ret
            exact ⟨by rw [HX.out]; rfl, HB3.out.1⟩)
         | (have HX := Lib.hid (HTK.out HO.out)
            go_wp2
            go_roundw
            case rel => exact ⟨k + 1, by go_num, by omega, HX, HB3⟩
            case measure => simp [intOf]; omega)
      · obtain rfl : k = n.ptrs.length := by omega
        rw [List.take_of_length_le (Nat.le_refl _)] at HA
        have HBR := Lib.hid hbr
        have HRR := Lib.hid hrr
        clear hbr hrr HB
        go_wp2
        go_loopw [6] (fun i wr => ∃ k : Nat, i = .int .i64 k ∧ k ≤ n.items.length ∧ Hid (((n.items.take k).all fun y => y.ptrs.all (okN j)) = true) ∧ Hid (Below w.heap.size w wr ∧ wr.heap[w.heap.size]? = some (.cells #[.int .i64 n.kind, .string n.data, .slice qA n.ptrs.length qa, .int .i64 n.size, .int .i64 n.count, .slice qB n.items.length qb] nodeT (0, 0)))) (fun i _ => n.items.length - (intOf i).toNat)
        case atStart => exact ⟨0, rfl, by omega, Lib.hid rfl, Lib.hid ⟨HBR.out, HRR.out⟩⟩
        case round =>
         obtain ⟨k, rfl, hk, HAI, HB⟩ := hrel
         obtain ⟨hbr, hrr⟩ := HB.out
         clear a0 a1 a2 a3 a4 a5
         obtain ⟨a0, a1, a2, a3, a4, a5⟩ := cells6 hrr
         by_cases hlt : k < n.items.length
         · obtain ⟨m', rfl⟩ := HN.out.2.2.pred hlt
           obtain ⟨x, yA, ya, yB, yb, rfl, hc0, hdy, hny, hniy⟩ := HN.out.2.2.at6 hlt
           have HTK := Lib.hid (fun h => all_take n.items (fun y => y.ptrs.all (okN j)) k hlt HAI.out h)
           have HBD := Lib.hid (fun h => HP1.out (all_false n.items (fun y => y.ptrs.all (okN j)) k hlt h))
           have HTP : Hid (totL m' (n.items[k]).ptrs ≤ 2000000) := Lib.hid (by have := totL_at (m := m') hlt; have := HT.out; unfold totN at *; omega)
           have hypl : (n.items[k]).ptrs.length ≤ 2000000 := totL_len' hny HTP.out
           generalize n.items[k] = y at hc0 HTK HBD hny HTP hypl
           have HC0 := Lib.hid hc0
           have HNY := Lib.hid hny
           have HBR := Lib.hid hbr
           have HRR := Lib.hid hrr
           clear hbr hrr hc0 hdy hny hniy HB
           go_wp2
           clear a0 a1 a2 a3 a4 a5
           go_loopw [7] (fun i wr => ∃ k : Nat, i = .int .i64 k ∧ k ≤ y.ptrs.length ∧ Hid ((y.ptrs.take k).all (okN j) = true) ∧ Hid (Below w.heap.size w wr ∧ wr.heap[w.heap.size]? = some (.cells #[.int .i64 n.kind, .string n.data, .slice qA n.ptrs.length qa, .int .i64 n.size, .int .i64 n.count, .slice (some x) n.items.length qb] nodeT (0, 0)))) (fun i _ => y.ptrs.length - (intOf i).toNat)
           case atStart => exact ⟨0, rfl, by omega, Lib.hid rfl, Lib.hid ⟨HBR.out, HRR.out⟩⟩
           case round =>
            obtain ⟨q, rfl, hq, HAQ, HB⟩ := hrel
            obtain ⟨hbr, hrr⟩ := HB.out
            obtain ⟨a0, a1, a2, a3, a4, a5⟩ := cells6 hrr
            have hc := cell_below hbr _ _ _ HC0.out
            have hcb := hc.lt
            obtain ⟨-, -, d2, -, -, -⟩ := hc
            dsimp only at d2
            by_cases hqt : q < y.ptrs.length
            · obtain ⟨m'', rfl⟩ := HNY.out.pred hqt
              obtain ⟨x2, zA, za, zB, zb, rfl, hc2, hdz, hnz, hniz⟩ := HNY.out.at6 hqt
              have hcz := cell_below hbr _ _ _ hc2
              have HTQ := Lib.hid (fun h => all_take y.ptrs (okN j) q hqt HAQ.out h)
              have HBQ := Lib.hid (fun h => HBD.out (all_false y.ptrs (okN j) q hqt h))
              have htp : totN m'' y.ptrs[q] ≤ 2000000 := by have := totL_at (m := m'') hqt; have := HTP.out; omega
              have HC := Lib.hid (HJ.out m'' y.ptrs[q] ⟨zA, za, zB, zb⟩ wr S (NdAt.below ⟨hdz, hnz, hniz⟩ hbr) htp)
              dsimp only at HC
              generalize y.ptrs[q] = z at hcz HTQ HBQ HC
              obtain ⟨c0, c1, c2, c3, c4, c5⟩ := hcz
              dsimp only at c2 c5
              have HBR := Lib.hid hbr
              have HRR := Lib.hid hrr
              clear hbr hrr hc2 hdz hnz hniz htp HB
              cases hoz : okN j z
              all_goals
               rw [hoz] at HC
               have HO := Lib.hid hoz
               clear hoz
               go_wp2_with fail
               refine HC.out.mono ?_
               rintro e w3 ⟨rfl, hb3⟩
               have HB3 := Lib.hid (And.intro (HBR.out.trans (hb3.mono HBR.out.size)) ((hb3.block w.heap.size (row_lt HRR.out)).trans HRR.out))
               clear hb3
               first
               | (have HX := Lib.hid (HBQ.out HO.out)
                  go_wp2
                  go_ret
                  exact ⟨by rw [HX.out]; rfl, HB3.out.1⟩)
               | (have HX := Lib.hid (HTQ.out HO.out)
                  go_wp2
                  go_roundw
                  case rel => exact ⟨q + 1, by go_num, by omega, HX, HB3⟩
                  case measure => simp [intOf]; omega)
            · obtain rfl : q = y.ptrs.length := by omega
              rw [List.take_of_length_le (Nat.le_refl _)] at HAQ
              have HX := Lib.hid (HTK.out HAQ.out)
              have HBB := Lib.hid (And.intro hbr hrr)
              clear hbr hrr HB
              go_wp2
              go_roundw
              case rel => exact ⟨k + 1, by go_num, by omega, HX, HBB⟩
              case measure => simp [intOf]; omega
         · obtain rfl : k = n.items.length := by omega
           rw [List.take_of_length_le (Nat.le_refl _)] at HAI
           have HX := Lib.hid (HGOOD.out HA.out HAI.out)
           have HBR := Lib.hid hbr
           clear hbr hrr HB
           go_wp2
           go_ret
           exact ⟨by rw [HX.out]; rfl, HBR.out⟩
 · have HP0 : Hid (n.ptrs.all (okN j) = false → okN (j + 1) n = false) := Lib.hid (fun h => by rw [HOK.out, h]; simp)
   have HP1 : Hid ((n.items.all fun y => y.ptrs.all (okN j)) = false → okN (j + 1) n = false) := Lib.hid (fun h => by rw [HOK.out, h]; simp)
   have HGOOD : Hid (n.ptrs.all (okN j) = true → (n.items.all fun y => y.ptrs.all (okN j)) = true → okN (j + 1) n = true) := Lib.hid (fun h h' => by rw [HOK.out, h, h']; rfl)
   clear HOK
   go_enter Tryz.func72, Tryz.ntmps72
   go_wp2_with fail
   refine (HST.out _).mono ?_
   rintro e w1 ⟨rfl, hb1⟩
   have hr1 := (hb1.block w.heap.size hsz).trans HR.out
   have HR1 := Lib.hid hr1
   have HB1 := Lib.hid (HBA.out.trans (hb1.mono HBA.out.size))
   obtain ⟨a0, a1, a2, a3, a4, a5⟩ := cells6 hr1
   clear hr1 hb1
   go_wp2
   go_loopw [5] (fun i wr => ∃ k : Nat, i = .int .i64 k ∧ k ≤ n.ptrs.length ∧ Hid ((n.ptrs.take k).all (okN j) = true) ∧ Hid (Below w.heap.size w wr ∧ wr.heap[w.heap.size]? = some (.cells #[.int .i64 n.kind, .string n.data, .slice qA n.ptrs.length qa, .int .i64 n.size, .int .i64 n.count, .slice qB n.items.length qb] nodeT (0, 0)))) (fun i _ => n.ptrs.length - (intOf i).toNat)
   case atStart => exact ⟨0, rfl, by omega, Lib.hid rfl, Lib.hid ⟨HB1.out, HR1.out⟩⟩
   case round =>
    obtain ⟨k, rfl, hk, HA, HB⟩ := hrel
    obtain ⟨hbr, hrr⟩ := HB.out
    clear a0 a1 a2 a3 a4 a5
    obtain ⟨a0, a1, a2, a3, a4, a5⟩ := cells6 hrr
    by_cases hlt : k < n.ptrs.length
    · obtain ⟨m', rfl⟩ := HN.out.2.1.pred hlt
      obtain ⟨x, yA, ya, yB, yb, rfl, hc0, hdy, hny, hniy⟩ := HN.out.2.1.at6 hlt
      have hc := cell_below hbr _ _ _ hc0
      have HTK := Lib.hid (fun h => all_take n.ptrs (okN j) k hlt HA.out h)
      have HBD := Lib.hid (fun h => HP0.out (all_false n.ptrs (okN j) k hlt h))
      have htp : totN m' n.ptrs[k] ≤ 2000000 := by have := totL_at (m := m') hlt; have := HT.out; unfold totN at this; omega
      have HC := Lib.hid (HJ.out m' n.ptrs[k] ⟨yA, ya, yB, yb⟩ wr S (NdAt.below ⟨hdy, hny, hniy⟩ hbr) htp)
      dsimp only at HC
      generalize n.ptrs[k] = y at hc HTK HBD HC
      obtain ⟨c0, c1, c2, c3, c4, c5⟩ := hc
      dsimp only at c2 c5
      have HBR := Lib.hid hbr
      have HRR := Lib.hid hrr
      clear hbr hrr hc0 hdy hny hniy htp HB
      cases hoy : okN j y
      all_goals
       rw [hoy] at HC
       have HO := Lib.hid hoy
       clear hoy
       go_wp2_with fail
       refine HC.out.mono ?_
       rintro e w3 ⟨rfl, hb3⟩
       have HB3 := Lib.hid (And.intro (HBR.out.trans (hb3.mono HBR.out.size)) ((hb3.block w.heap.size (row_lt HRR.out)).trans HRR.out))
       clear hb3
       first
       | (have HX := Lib.hid (HBD.out HO.out)
          go_wp2
          go_ret
          exact ⟨by rw [HX.out]; rfl, HB3.out.1⟩)
       | (have HX := Lib.hid (HTK.out HO.out)
          go_wp2
          go_roundw
          case rel => exact ⟨k + 1, by go_num, by omega, HX, HB3⟩
          case measure => simp [intOf]; omega)
    · obtain rfl : k = n.ptrs.length := by omega
      rw [List.take_of_length_le (Nat.le_refl _)] at HA
      have HBR := Lib.hid hbr
      have HRR := Lib.hid hrr
      clear hbr hrr HB
      go_wp2
      go_loopw [6] (fun i wr => ∃ k : Nat, i = .int .i64 k ∧ k ≤ n.items.length ∧ Hid (((n.items.take k).all fun y => y.ptrs.all (okN j)) = true) ∧ Hid (Below w.heap.size w wr ∧ wr.heap[w.heap.size]? = some (.cells #[.int .i64 n.kind, .string n.data, .slice qA n.ptrs.length qa, .int .i64 n.size, .int .i64 n.count, .slice qB n.items.length qb] nodeT (0, 0)))) (fun i _ => n.items.length - (intOf i).toNat)
      case atStart => exact ⟨0, rfl, by omega, Lib.hid rfl, Lib.hid ⟨HBR.out, HRR.out⟩⟩
      case round =>
       obtain ⟨k, rfl, hk, HAI, HB⟩ := hrel
       obtain ⟨hbr, hrr⟩ := HB.out
       clear a0 a1 a2 a3 a4 a5
       obtain ⟨a0, a1, a2, a3, a4, a5⟩ := cells6 hrr
       by_cases hlt : k < n.items.length
       · obtain ⟨m', rfl⟩ := HN.out.2.2.pred hlt
         obtain ⟨x, yA, ya, yB, yb, rfl, hc0, hdy, hny, hniy⟩ := HN.out.2.2.at6 hlt
         have HTK := Lib.hid (fun h => all_take n.items (fun y => y.ptrs.all (okN j)) k hlt HAI.out h)
         have HBD := Lib.hid (fun h => HP1.out (all_false n.items (fun y => y.ptrs.all (okN j)) k hlt h))
         have HTP : Hid (totL m' (n.items[k]).ptrs ≤ 2000000) := Lib.hid (by have := totL_at (m := m') hlt; have := HT.out; unfold totN at *; omega)
         have hypl : (n.items[k]).ptrs.length ≤ 2000000 := totL_len' hny HTP.out
         generalize n.items[k] = y at hc0 HTK HBD hny HTP hypl
         have HC0 := Lib.hid hc0
         have HNY := Lib.hid hny
         have HBR := Lib.hid hbr
         have HRR := Lib.hid hrr
         clear hbr hrr hc0 hdy hny hniy HB
         go_wp2
         clear a0 a1 a2 a3 a4 a5
         go_loopw [7] (fun i wr => ∃ k : Nat, i = .int .i64 k ∧ k ≤ y.ptrs.length ∧ Hid ((y.ptrs.take k).all (okN j) = true) ∧ Hid (Below w.heap.size w wr ∧ wr.heap[w.heap.size]? = some (.cells #[.int .i64 n.kind, .string n.data, .slice qA n.ptrs.length qa, .int .i64 n.size, .int .i64 n.count, .slice (some x) n.items.length qb] nodeT (0, 0)))) (fun i _ => y.ptrs.length - (intOf i).toNat)
         case atStart => exact ⟨0, rfl, by omega, Lib.hid rfl, Lib.hid ⟨HBR.out, HRR.out⟩⟩
         case round =>
          obtain ⟨q, rfl, hq, HAQ, HB⟩ := hrel
          obtain ⟨hbr, hrr⟩ := HB.out
          obtain ⟨a0, a1, a2, a3, a4, a5⟩ := cells6 hrr
          have hc := cell_below hbr _ _ _ HC0.out
          have hcb := hc.lt
          obtain ⟨-, -, d2, -, -, -⟩ := hc
          dsimp only at d2
          by_cases hqt : q < y.ptrs.length
          · obtain ⟨m'', rfl⟩ := HNY.out.pred hqt
            obtain ⟨x2, zA, za, zB, zb, rfl, hc2, hdz, hnz, hniz⟩ := HNY.out.at6 hqt
            have hcz := cell_below hbr _ _ _ hc2
            have HTQ := Lib.hid (fun h => all_take y.ptrs (okN j) q hqt HAQ.out h)
            have HBQ := Lib.hid (fun h => HBD.out (all_false y.ptrs (okN j) q hqt h))
            have htp : totN m'' y.ptrs[q] ≤ 2000000 := by have := totL_at (m := m'') hqt; have := HTP.out; omega
            have HC := Lib.hid (HJ.out m'' y.ptrs[q] ⟨zA, za, zB, zb⟩ wr S (NdAt.below ⟨hdz, hnz, hniz⟩ hbr) htp)
            dsimp only at HC
            generalize y.ptrs[q] = z at hcz HTQ HBQ HC
            obtain ⟨c0, c1, c2, c3, c4, c5⟩ := hcz
            dsimp only at c2 c5
            have HBR := Lib.hid hbr
            have HRR := Lib.hid hrr
            clear hbr hrr hc2 hdz hnz hniz htp HB
            cases hoz : okN j z
            all_goals
             rw [hoz] at HC
             have HO := Lib.hid hoz
             clear hoz
             go_wp2_with fail
             refine HC.out.mono ?_
             rintro e w3 ⟨rfl, hb3⟩
             have HB3 := Lib.hid (And.intro (HBR.out.trans (hb3.mono HBR.out.size)) ((hb3.block w.heap.size (row_lt HRR.out)).trans HRR.out))
             clear hb3
             first
             | (have HX := Lib.hid (HBQ.out HO.out)
                go_wp2
                go_ret
                exact ⟨by rw [HX.out]; rfl, HB3.out.1⟩)
             | (have HX := Lib.hid (HTQ.out HO.out)
                go_wp2
                go_roundw
                case rel => exact ⟨q + 1, by go_num, by omega, HX, HB3⟩
                case measure => simp [intOf]; omega)
          · obtain rfl : q = y.ptrs.length := by omega
            rw [List.take_of_length_le (Nat.le_refl _)] at HAQ
            have HX := Lib.hid (HTK.out HAQ.out)
            have HBB := Lib.hid (And.intro hbr hrr)
            clear hbr hrr HB
            go_wp2
            go_roundw
            case rel => exact ⟨k + 1, by go_num, by omega, HX, HBB⟩
            case measure => simp [intOf]; omega
       · obtain rfl : k = n.items.length := by omega
         rw [List.take_of_length_le (Nat.le_refl _)] at HAI
         have HX := Lib.hid (HGOOD.out HA.out HAI.out)
         have HBR := Lib.hid hbr
         clear hbr hrr HB
         go_wp2
         go_ret
         exact ⟨by rw [HX.out]; rfl, HBR.out⟩
theorem l4Ok_any : ∀ d, d ≤ 8 → L4O d
 | 0, h => l4Ok_step 0 h (fun j hj => by omega)
 | d + 1, h => l4Ok_step (d + 1) h (fun j hj => by
   obtain rfl : d = j := by omega
   exact l4Ok_any d (by omega))
theorem below_drewN' {B : Nat} {a w : World} (h : Below B a w) (n : Nat) : Below B a (w.drewN n) := ⟨h.os, h.tape, h.output, h.size, h.block⟩
theorem l4Own_a (m : Nat) (n : Nd) (h : Hd) (w : World) (S : Nat → Prop) (hn : NdAt w S m n h) (hf : formN n = true) (ht : totN m n ≤ 2000000) :
 Calls Tryz.prog 92 #[.agg #[.int .i64 n.kind, .string n.data, .slice h.A n.ptrs.length h.a, .int .i64 n.size, .int .i64 n.count, .slice h.B n.items.length h.b]] w fun e w' => e = .returned (.int .i64 (ownN n : Nat)) ∧ Below w.heap.size w w' := by
 obtain ⟨qA, qa, qB, qb⟩ := h
 dsimp only at hn ⊢
 have hds : n.data.size ≤ 2000000 := by unfold totN at ht; omega
 have hpl : n.ptrs.length ≤ 2000000 := totL_len' hn.2.1 (by unfold totN at ht; omega)
 have hil : n.items.length ≤ 2000000 := totL_len' hn.2.2 (by unfold totN at ht; omega)
 rcases form_cases hf with hc | hc | hc
 · have HX : Hid (ownN n = 0) := Lib.hid (by unfold ownN ownB; rw [hc.2.1, hc.2.2.1, nil_of_len hc.2.2.2.2.2, hc.1]; rfl)
   have k1 : (n.kind == 1) = false := by rw [hc.1]; rfl
   have k2 : (n.kind != 2) = true := by rw [hc.1]; rfl
   clear hc hn ht hf
   go_enter Tryz.func92, Tryz.ntmps92
   go_wp2
   go_ret
   exact ⟨by rw [HX.out]; rfl, (Below.refl _ _).alloc (Nat.le_refl _) _⟩
 · have HX : Hid (((ownN n : Nat) : Int) = (n.data.size : Int) / 8 + n.ptrs.length) := Lib.hid (by
    have : ownN n = ownB n := by unfold ownN; rw [nil_of_len hc.2.2.2.2, if_neg (by omega)]; simp
    rw [this]; unfold ownB; have := hc.2.1; omega)
   have k1 : (n.kind == 1) = true := by rw [hc.1]; rfl
   clear hc hn ht hf
   go_enter Tryz.func92, Tryz.ntmps92
   go_wp2
   go_ret
   exact ⟨by rw [HX.out]; rfl, (Below.refl _ _).alloc (Nat.le_refl _) _⟩
 · obtain ⟨hk, hcc, hc⟩ := hc
   have k1 : (n.kind == 1) = false := by rw [hk]; rfl
   have k2 : (n.kind != 2) = false := by rw [hk]; rfl
   rcases hc with hc | hc | hc
   · have HX : Hid (((ownN n : Nat) : Int) = ((n.data.size : Int) + 7) / 8) := Lib.hid (by
      have : ownN n = ownB n := by unfold ownN; rw [nil_of_len hc.2.2.2.2, if_neg (by omega)]; simp
      rw [this]; unfold ownB; have := hc.2.2.2.1; omega)
     have z6 : (n.size == 6) = false := by rw [beq_eq_false_iff_ne]; omega
     have z7 : (n.size == 7) = false := by rw [beq_eq_false_iff_ne]; omega
     clear hc hn ht hf hk
     go_enter Tryz.func92, Tryz.ntmps92
     go_wp2
     go_ret
     exact ⟨by rw [HX.out]; rfl, (Below.refl _ _).alloc (Nat.le_refl _) _⟩
   · have HX : Hid (((ownN n : Nat) : Int) = n.count) := Lib.hid (by
      have : ownN n = ownB n := by unfold ownN; rw [nil_of_len hc.2.2.2, if_neg (by omega)]; simp
      rw [this]; unfold ownB; rw [hc.2.1]; have := hc.2.2.1; omega)
     have z6 : (n.size == 6) = true := by rw [hc.1]; rfl
     have z7 : (n.size == 7) = false := by rw [hc.1]; rfl
     clear hc hn ht hf hk
     go_enter Tryz.func92, Tryz.ntmps92
     go_wp2
     go_ret
     exact ⟨by rw [HX.out]; rfl, (Below.refl _ _).alloc (Nat.le_refl _) _⟩
   · have HX : Hid (ownN n = 1 + (n.items.map ownB).sum) := Lib.hid (by unfold ownN; rw [if_pos ⟨hk, hc.1⟩]; unfold ownB; rw [hc.2.1, hc.2.2.1])
     have HIT : Hid (∀ k (hk : k < n.items.length), ((n.items[k]).data.size : Int) % 8 = 0 ∧ (n.items[k]).data.size ≤ 2000000 ∧ (n.items[k]).ptrs.length ≤ 2000000) := Lib.hid fun k hk => by
      obtain ⟨h1, h2, h3⟩ := form_item hf _ (List.getElem_mem hk)
      obtain ⟨h4, h5⟩ := item_small hn.2.2 _ (List.getElem_mem hk)
      unfold totN at ht
      exact ⟨h2, by omega, by omega⟩
     have HSUM : Hid (∀ k, ((n.items.take k).map ownB).sum ≤ 2000000) := Lib.hid fun k => by
      have h1 := sum_take_le n.items ownB k
      have h2 := own_sum hn.2.2
      unfold totN at ht
      omega
     have z7 : (n.size == 7) = true := by rw [hc.1]; rfl
     have hba := (Below.refl w.heap.size w).alloc (Nat.le_refl _) (.cells #[.int .i64 n.kind, .string n.data, .slice qA n.ptrs.length qa, .int .i64 n.size, .int .i64 n.count, .slice qB n.items.length qb] nodeT)
     have HN := Lib.hid (NdsAt.succ _ _ _ (hn.2.2.below hba))
     have HBA := Lib.hid hba
     have HR := Lib.hid (heap_alloc_new w (.cells #[.int .i64 n.kind, .string n.data, .slice qA n.ptrs.length qa, .int .i64 n.size, .int .i64 n.count, .slice qB n.items.length qb] nodeT))
     have hsz : w.heap.size < (w.alloc (.cells #[.int .i64 n.kind, .string n.data, .slice qA n.ptrs.length qa, .int .i64 n.size, .int .i64 n.count, .slice qB n.items.length qb] nodeT)).heap.size := by simp
     clear hc hn ht hf hk hba
     go_enter Tryz.func92, Tryz.ntmps92
     go_wp2
     generalize w.alloc (.cells #[.int .i64 n.kind, .string n.data, .slice qA n.ptrs.length qa, .int .i64 n.size, .int .i64 n.count, .slice qB n.items.length qb] nodeT) = W at *
     go_loopw [3, 4] (fun q i wr => ∃ (k : Nat) (z : Int), q = .int .i64 z ∧ i = .int .i64 k ∧ k ≤ n.items.length ∧ 0 ≤ z ∧ z ≤ 6000000 ∧ Hid (z = ((1 + ((n.items.take k).map ownB).sum : Nat) : Int)) ∧ Hid (Below W.heap.size W wr)) (fun _ i _ => n.items.length - (intOf i).toNat)
     case atStart => exact ⟨0, _, rfl, rfl, by omega, by omega, by omega, Lib.hid (by simp), Lib.hid (Below.refl _ _)⟩
     case round =>
      obtain ⟨k, z, rfl, rfl, hk, hz0, hz, HZ, HB⟩ := hrel
      obtain ⟨a0, a1, a2, a3, a4, a5⟩ := cells6 ((HB.out.block _ hsz).trans HR.out)
      by_cases hlt : k < n.items.length
      · obtain ⟨x, yA, ya, yB, yb, rfl, hc, -, -, -⟩ := (HN.out.below HB.out).at6 hlt
        obtain ⟨i1, i2, i3⟩ := HIT.out k hlt
        have HS := Lib.hid (own_take n.items k hlt)
        generalize n.items[k] = y at hc i1 i2 i3 HS
        have HO : Hid (((ownB y : Nat) : Int) = (y.data.size : Int) / 8 + y.ptrs.length) := Lib.hid (by unfold ownB; omega)
        have hz2 : z + (y.data.size : Int) / 8 + y.ptrs.length ≤ 6000000 := by have := HZ.out; have := HS.out; have := HSUM.out (k + 1); have := HO.out; omega
        obtain ⟨d0, d1, d2, d3, d4, d5⟩ := hc
        dsimp only at d2 d5
        have hk2 : (k : Int) < (n.items.length : Int) := by omega
        clear i1
        go_wp2
        go_big_quiet (fail)
        go_wp2
        go_roundw
        case rel => exact ⟨k + 1, _, rfl, by go_num, by omega, by omega, hz2, Lib.hid (by rw [HZ.out, HS.out]; have := HO.out; omega), Lib.hid (below_drewN' HB.out _)⟩
        case measure => simp [intOf]; omega
      · obtain rfl : k = n.items.length := by omega
        rw [List.take_of_length_le (Nat.le_refl _)] at HZ
        have HBE := Lib.hid (HBA.out.trans (HB.out.mono HBA.out.size))
        go_wp2
        go_ret
        exact ⟨by rw [HX.out, HZ.out]; rfl, HBE.out⟩
theorem mem_ptrs {n p : Nd} (h : p ∈ n.ptrs) : p ∈ ptrsL n := List.mem_append_left _ h
theorem mem_items {n y p : Nd} (h : y ∈ n.items) (hp : p ∈ y.ptrs) : p ∈ ptrsL n := List.mem_append_right _ (List.mem_flatMap.2 ⟨y, h, hp⟩)
theorem sum_flat (l : List Nd) (f : Nd → Nat) : ((l.flatMap Nd.ptrs).map f).sum = (l.map fun y => (y.ptrs.map f).sum).sum := by
 induction l with
 | nil => rfl
 | cons a t ih => rw [List.flatMap_cons, List.map_append, List.sum_append, ih]; rfl
theorem sum_ptrs (n : Nd) (f : Nd → Nat) : ((ptrsL n).map f).sum = (n.ptrs.map f).sum + (n.items.map fun y => (y.ptrs.map f).sum).sum := by
 unfold ptrsL
 rw [List.map_append, List.sum_append, sum_flat]
theorem tot_ptrs2 {w : World} {S : Nat → Prop} {m : Nat} {n : Nd} {h : Hd} (hn : NdAt w S m n h) : totL m (ptrsL n) + n.data.size + (n.items.map fun y => y.data.size).sum ≤ totN m n := by
 cases m with
 | zero =>
  rw [hn.2.2.zero]
  unfold totN
  simp only [List.map_nil, List.sum_nil]
  show 0 + _ + 0 ≤ _
  omega
 | succ m =>
  have h1 : totL (m + 1) (ptrsL n) = totL (m + 1) n.ptrs + (n.items.map fun y => totL (m + 1) y.ptrs).sum := by
   unfold ptrsL
   rw [totL_succ, List.map_append, List.sum_append, ← totL_succ, ← totL_succ, flat_tot]
  have h2 : (n.items.map fun y => totL (m + 1) y.ptrs + y.data.size).sum ≤ totL (m + 1) n.items := by
   rw [totL_succ]
   refine sum_le _ _ _ fun y hy => ?_
   obtain ⟨hd, h3⟩ := hn.2.2.mem y hy
   rw [totL_eq m _ _ h3.2.1]
   unfold totN
   omega
  have h4 : ∀ l : List Nd, (l.map fun y => totL (m + 1) y.ptrs + y.data.size).sum = (l.map fun y => totL (m + 1) y.ptrs).sum + (l.map fun y => y.data.size).sum := by
   intro l
   induction l with
   | nil => rfl
   | cons a t ih => simp only [List.map_cons, List.sum_cons, ih]; omega
  rw [h4] at h2
  rw [h1]
  unfold totN
  omega
theorem own_le2 (n : Nd) : ownN n ≤ n.data.size + (n.items.map fun y => y.data.size).sum + (ptrsL n).length + 1 := by
 have h1 : ownB n ≤ n.data.size + n.ptrs.length := by unfold ownB; omega
 have h2 : ∀ l : List Nd, (l.map ownB).sum ≤ (l.map fun y => y.data.size).sum + (l.flatMap Nd.ptrs).length := by
  intro l
  induction l with
  | nil => simp
  | cons a t ih =>
   have : ownB a ≤ a.data.size + a.ptrs.length := by unfold ownB; omega
   simp only [List.map_cons, List.sum_cons, List.flatMap_cons, List.length_append]
   omega
 have h3 := h2 n.items
 unfold ownN ptrsL
 rw [List.length_append]
 split <;> omega
theorem words_bound {w : World} {S : Nat → Prop} : ∀ (d m : Nat) (n : Nd) (h : Hd), NdAt w S m n h → okN d n = true → wordsN d n ≤ 2 * totN m n + 1 := by
 intro d
 induction d with
 | zero => intro m n h hn hok; exact Nat.zero_le _
 | succ d ih =>
  intro m n h hn hok
  obtain ⟨hf, hk⟩ := ok_kids hok
  have h1 := own_le2 n
  have h2 := tot_ptrs2 hn
  have h3 : ((ptrsL n).map (wordsN d)).sum + (ptrsL n).length ≤ 2 * totL m (ptrsL n) := by
   cases m with
   | zero =>
    have : ptrsL n = [] := by unfold ptrsL; rw [hn.2.1.zero, hn.2.2.zero]; rfl
    rw [this]; simp
   | succ m =>
    have hmem : ∀ p ∈ ptrsL n, ∃ hp : Hd, NdAt w S m p hp := by
     intro p hp
     unfold ptrsL at hp
     rcases List.mem_append.1 hp with hp | hp
     · exact hn.2.1.mem p hp
     · obtain ⟨y, hy, hpy⟩ := List.mem_flatMap.1 hp
       obtain ⟨hd, hyn⟩ := hn.2.2.mem y hy
       obtain ⟨j, rfl⟩ : ∃ j, m = j + 1 := by
        cases m with
        | zero => rw [hyn.2.1.zero] at hpy; cases hpy
        | succ j => exact ⟨j, rfl⟩
       obtain ⟨hd2, h4⟩ := hyn.2.1.mem p hpy
       exact ⟨hd2, h4.mono (by omega)⟩
    have h5 : ((ptrsL n).map fun p => wordsN d p + 1).sum ≤ ((ptrsL n).map fun p => 2 * (1 + totN m p)).sum := sum_le _ _ _ fun p hp => by
     obtain ⟨hd2, h6⟩ := hmem p hp
     have := ih m p hd2 h6 (hk p hp)
     omega
    have h7 : ∀ l : List Nd, (l.map fun p => wordsN d p + 1).sum = (l.map (wordsN d)).sum + l.length := by
     intro l
     induction l with
     | nil => rfl
     | cons a t ih => simp only [List.map_cons, List.sum_cons, List.length_cons, ih]; omega
    have h8 : ∀ l : List Nd, (l.map fun p => 2 * (1 + totN m p)).sum = 2 * (l.map fun p => 1 + totN m p).sum := by
     intro l
     induction l with
     | nil => rfl
     | cons a t ih => simp only [List.map_cons, List.sum_cons, ih]; omega
    rw [h7, h8, ← totL_succ] at h5
    exact h5
  show ownN n + _ ≤ _
  omega
def L4W (d : Nat) : Prop := ∀ (m : Nat) (n : Nd) (h : Hd) (w : World) (S : Nat → Prop), NdAt w S m n h → totN m n ≤ 2000000 → okN d n = true →
 Calls Tryz.prog 73 #[.agg #[.int .i64 n.kind, .string n.data, .slice h.A n.ptrs.length h.a, .int .i64 n.size, .int .i64 n.count, .slice h.B n.items.length h.b]] w fun e w' => e = .returned (.int .i64 (wordsN d n : Nat)) ∧ Below w.heap.size w w'
theorem l4Words_step (d : Nat) (ih : ∀ j, d = j + 1 → L4W j) : L4W d := by
 intro m n h w S hn ht hok
 have hbd := words_bound d m n h hn hok
 obtain ⟨qA, qa, qB, qb⟩ := h
 dsimp only at hn ⊢
 have hpl : n.ptrs.length ≤ 2000000 := totL_len' hn.2.1 (by unfold totN at ht; omega)
 have hil : n.items.length ≤ 2000000 := totL_len' hn.2.2 (by unfold totN at ht; omega)
 have hf := (ok_kids hok).1
 have hob := own_bound hn ht
 have HN := Lib.hid hn
 have HT := Lib.hid ht
 have hba := (Below.refl w.heap.size w).alloc (Nat.le_refl _) (.cells #[.int .i64 n.kind, .string n.data, .slice qA n.ptrs.length qa, .int .i64 n.size, .int .i64 n.count, .slice qB n.items.length qb] nodeT)
 have hr := heap_alloc_new w (.cells #[.int .i64 n.kind, .string n.data, .slice qA n.ptrs.length qa, .int .i64 n.size, .int .i64 n.count, .slice qB n.items.length qb] nodeT)
 have hsz : w.heap.size < (w.alloc (.cells #[.int .i64 n.kind, .string n.data, .slice qA n.ptrs.length qa, .int .i64 n.size, .int .i64 n.count, .slice qB n.items.length qb] nodeT)).heap.size := by simp
 have HOW := Lib.hid (l4Own_a m n ⟨qA, qa, qB, qb⟩ _ S (hn.below hba) hf ht)
 dsimp only at HOW
 have HBA := Lib.hid hba
 have HR := Lib.hid hr
 have HTOT : Hid (wordsN d n = ownN n + (n.ptrs.map (wordsN (d - 1))).sum + (n.items.map fun y => (y.ptrs.map (wordsN (d - 1))).sum).sum) := Lib.hid (by rw [words_kids hok, sum_ptrs]; omega)
 have HKID : Hid (∀ p ∈ ptrsL n, ∀ (m' : Nat) (hp : Hd) (W : World), NdAt W S m' p hp → totN m' p ≤ 2000000 → Calls Tryz.prog 73 #[.agg #[.int .i64 p.kind, .string p.data, .slice hp.A p.ptrs.length hp.a, .int .i64 p.size, .int .i64 p.count, .slice hp.B p.items.length hp.b]] W fun e w' => e = .returned (.int .i64 (wordsN (d - 1) p : Nat)) ∧ Below W.heap.size W w') := Lib.hid fun p hp m' h' W h1 h2 => by
  cases d with
  | zero =>
   have h3 := words_kids hok
   have h4 := ptrs_own n
   have h5 : (ptrsL n).length ≠ 0 := by intro h; rw [nil_of_len h] at hp; cases hp
   simp only [wordsN] at h3
   omega
  | succ j => exact ih j rfl m' p h' W S h1 h2 ((ok_kids hok).2 p hp)
 have htb : wordsN d n ≤ 4000001 := by omega
 clear hn ht hok hf ih hbd hba hr
 generalize wordsN d n = tt at *
 generalize ownN n = s0 at *
 have HS0 : Hid ((s0 : Int) = ((s0 : Nat) : Int)) := Lib.hid rfl
 go_enter Tryz.func73, Tryz.ntmps73
 go_wp2_with fail
 refine HOW.out.mono ?_
 rintro e w1 ⟨rfl, hb1⟩
 have hr1 := (hb1.block w.heap.size hsz).trans HR.out
 have HR1 := Lib.hid hr1
 have HB1 := Lib.hid (HBA.out.trans (hb1.mono HBA.out.size))
 obtain ⟨a0, a1, a2, a3, a4, a5⟩ := cells6 hr1
 clear hr1 hb1
 go_wp2
 go_loopw [3, 4] (fun u i wr => ∃ (k : Nat) (z : Int), u = .int .i64 z ∧ i = .int .i64 k ∧ k ≤ n.ptrs.length ∧ 0 ≤ z ∧ z ≤ 4000001 ∧ Hid (z = ((s0 + ((n.ptrs.take k).map (wordsN (d - 1))).sum : Nat) : Int)) ∧ Hid (Below w.heap.size w wr ∧ wr.heap[w.heap.size]? = some (.cells #[.int .i64 n.kind, .string n.data, .slice qA n.ptrs.length qa, .int .i64 n.size, .int .i64 n.count, .slice qB n.items.length qb] nodeT (0, 0)))) (fun _ i _ => n.ptrs.length - (intOf i).toNat)
 case atStart => exact ⟨0, _, rfl, rfl, by omega, by have := HS0.out; omega, by have := HS0.out; omega, Lib.hid (by rw [List.take_zero, List.map_nil, List.sum_nil]; have := HS0.out; omega), Lib.hid ⟨HB1.out, HR1.out⟩⟩
 case round =>
  obtain ⟨k, z, rfl, rfl, hk, hz0, hz1, HZ, HB⟩ := hrel
  obtain ⟨hbr, hrr⟩ := HB.out
  clear a0 a1 a2 a3 a4 a5
  obtain ⟨a0, a1, a2, a3, a4, a5⟩ := cells6 hrr
  by_cases hlt : k < n.ptrs.length
  · obtain ⟨m', rfl⟩ := HN.out.2.1.pred hlt
    obtain ⟨x, yA, ya, yB, yb, rfl, hc0, hdy, hny, hniy⟩ := HN.out.2.1.at6 hlt
    have hc := cell_below hbr _ _ _ hc0
    have HST := Lib.hid (sum_take_succ n.ptrs (wordsN (d - 1)) k hlt)
    have HSL := Lib.hid (sum_take_le n.ptrs (wordsN (d - 1)) (k + 1))
    have htp : totN m' n.ptrs[k] ≤ 2000000 := by have := totL_at (m := m') hlt; have := HT.out; unfold totN at this; omega
    have HC := Lib.hid (HKID.out _ (mem_ptrs (List.getElem_mem hlt)) m' ⟨yA, ya, yB, yb⟩ wr (NdAt.below ⟨hdy, hny, hniy⟩ hbr) htp)
    dsimp only at HC
    generalize n.ptrs[k] = y at hc HST HC
    have hzv : z + ((wordsN (d - 1)) y : Nat) ≤ 4000001 := by have := HZ.out; have := HST.out; have := HSL.out; have := HTOT.out; omega
    obtain ⟨c0, c1, c2, c3, c4, c5⟩ := hc
    dsimp only at c2 c5
    have HBR := Lib.hid hbr
    have HRR := Lib.hid hrr
    clear hbr hrr hc0 hdy hny hniy htp HB
    generalize (wordsN (d - 1)) y = v at *
    go_wp2_with fail
    refine HC.out.mono ?_
    rintro e w3 ⟨rfl, hb3⟩
    have HB3 := Lib.hid (And.intro (HBR.out.trans (hb3.mono HBR.out.size)) ((hb3.block w.heap.size (row_lt HRR.out)).trans HRR.out))
    clear hb3
    go_wp2
    go_roundw
    case rel => exact ⟨k + 1, _, rfl, by go_num, by omega, by omega, hzv, Lib.hid (by rw [HZ.out, HST.out]; omega), HB3⟩
    case measure => simp [intOf]; omega
  · obtain rfl : k = n.ptrs.length := by omega
    rw [List.take_of_length_le (Nat.le_refl _)] at HZ
    have HBR := Lib.hid hbr
    have HRR := Lib.hid hrr
    have HZP := HZ
    have hzp0 := hz0
    have hzp1 := hz1
    clear hbr hrr HB HZ
    go_wp2
    go_loopw [3, 5] (fun u i wr => ∃ (k : Nat) (z : Int), u = .int .i64 z ∧ i = .int .i64 k ∧ k ≤ n.items.length ∧ 0 ≤ z ∧ z ≤ 4000001 ∧ Hid (z = ((s0 + (n.ptrs.map (wordsN (d - 1))).sum + ((n.items.take k).map fun y => (y.ptrs.map (wordsN (d - 1))).sum).sum : Nat) : Int)) ∧ Hid (Below w.heap.size w wr ∧ wr.heap[w.heap.size]? = some (.cells #[.int .i64 n.kind, .string n.data, .slice qA n.ptrs.length qa, .int .i64 n.size, .int .i64 n.count, .slice qB n.items.length qb] nodeT (0, 0)))) (fun _ i _ => n.items.length - (intOf i).toNat)
    case atStart => exact ⟨0, _, rfl, rfl, by omega, hzp0, hzp1, Lib.hid (by rw [HZP.out]; simp), Lib.hid ⟨HBR.out, HRR.out⟩⟩
    case round =>
     clear hz0 hz1 hzp0 hzp1
     obtain ⟨k, z, rfl, rfl, hk, hz0, hz1, HZ, HB⟩ := hrel
     obtain ⟨hbr, hrr⟩ := HB.out
     clear a0 a1 a2 a3 a4 a5
     obtain ⟨a0, a1, a2, a3, a4, a5⟩ := cells6 hrr
     by_cases hlt : k < n.items.length
     · obtain ⟨m', rfl⟩ := HN.out.2.2.pred hlt
       obtain ⟨x, yA, ya, yB, yb, rfl, hc0, hdy, hny, hniy⟩ := HN.out.2.2.at6 hlt
       have HSTI := Lib.hid (sum_take_succ n.items (fun y => (y.ptrs.map (wordsN (d - 1))).sum) k hlt)
       have HSLI := Lib.hid (sum_take_le n.items (fun y => (y.ptrs.map (wordsN (d - 1))).sum) (k + 1))
       have HTP : Hid (totL m' (n.items[k]).ptrs ≤ 2000000) := Lib.hid (by have := totL_at (m := m') hlt; have := HT.out; unfold totN at *; omega)
       have hypl : (n.items[k]).ptrs.length ≤ 2000000 := totL_len' hny HTP.out
       have HMY := Lib.hid (fun p hp => HKID.out p (mem_items (List.getElem_mem hlt) hp))
       generalize n.items[k] = y at hc0 HSTI hny HTP hypl HMY
       have HC0 := Lib.hid hc0
       have HNY := Lib.hid hny
       have HBR := Lib.hid hbr
       have HRR := Lib.hid hrr
       have hzi0 := hz0
       have hzi1 := hz1
       clear hbr hrr hc0 hdy hny hniy HB
       go_wp2
       clear a0 a1 a2 a3 a4 a5
       go_loopw [3, 6] (fun u i wr => ∃ (q : Nat) (z : Int), u = .int .i64 z ∧ i = .int .i64 q ∧ q ≤ y.ptrs.length ∧ 0 ≤ z ∧ z ≤ 4000001 ∧ Hid (z = ((s0 + (n.ptrs.map (wordsN (d - 1))).sum + ((n.items.take k).map fun y => (y.ptrs.map (wordsN (d - 1))).sum).sum + ((y.ptrs.take q).map (wordsN (d - 1))).sum : Nat) : Int)) ∧ Hid (Below w.heap.size w wr ∧ wr.heap[w.heap.size]? = some (.cells #[.int .i64 n.kind, .string n.data, .slice qA n.ptrs.length qa, .int .i64 n.size, .int .i64 n.count, .slice (some x) n.items.length qb] nodeT (0, 0)))) (fun _ i _ => y.ptrs.length - (intOf i).toNat)
       case atStart => exact ⟨0, _, rfl, rfl, by omega, hzi0, hzi1, Lib.hid (by rw [HZ.out]; simp), Lib.hid ⟨HBR.out, HRR.out⟩⟩
       case round =>
        clear hz0 hz1 hzi0 hzi1
        obtain ⟨q, z, rfl, rfl, hq, hz0, hz1, HZQ, HB⟩ := hrel
        obtain ⟨hbr, hrr⟩ := HB.out
        obtain ⟨a0, a1, a2, a3, a4, a5⟩ := cells6 hrr
        have hc := cell_below hbr _ _ _ HC0.out
        obtain ⟨-, -, d2, -, -, -⟩ := hc
        dsimp only at d2
        by_cases hqt : q < y.ptrs.length
        · obtain ⟨m'', rfl⟩ := HNY.out.pred hqt
          obtain ⟨x2, zA, za, zB, zb, rfl, hc2, hdz, hnz, hniz⟩ := HNY.out.at6 hqt
          have hcz := cell_below hbr _ _ _ hc2
          have HST := Lib.hid (sum_take_succ y.ptrs (wordsN (d - 1)) q hqt)
          have HSL := Lib.hid (sum_take_le y.ptrs (wordsN (d - 1)) (q + 1))
          have htp : totN m'' y.ptrs[q] ≤ 2000000 := by have := totL_at (m := m'') hqt; have := HTP.out; omega
          have HC := Lib.hid (HMY.out _ (List.getElem_mem hqt) m'' ⟨zA, za, zB, zb⟩ wr (NdAt.below ⟨hdz, hnz, hniz⟩ hbr) htp)
          dsimp only at HC
          generalize y.ptrs[q] = t at hcz HST HC
          have hzv : z + ((wordsN (d - 1)) t : Nat) ≤ 4000001 := by have := HZQ.out; have := HST.out; have := HSL.out; have := HTOT.out; have := HSTI.out; have := HSLI.out; omega
          obtain ⟨c0, c1, c2, c3, c4, c5⟩ := hcz
          dsimp only at c2 c5
          have HBR := Lib.hid hbr
          have HRR := Lib.hid hrr
          clear hbr hrr hc2 hdz hnz hniz htp HB
          generalize (wordsN (d - 1)) t = v at *
          go_wp2_with fail
          refine HC.out.mono ?_
          rintro e w3 ⟨rfl, hb3⟩
          have HB3 := Lib.hid (And.intro (HBR.out.trans (hb3.mono HBR.out.size)) ((hb3.block w.heap.size (row_lt HRR.out)).trans HRR.out))
          clear hb3
          go_wp2
          go_roundw
          case rel => exact ⟨q + 1, _, rfl, by go_num, by omega, by omega, hzv, Lib.hid (by rw [HZQ.out, HST.out]; omega), HB3⟩
          case measure => simp [intOf]; omega
        · obtain rfl : q = y.ptrs.length := by omega
          rw [List.take_of_length_le (Nat.le_refl _)] at HZQ
          have HZ2 : Hid (z = ((s0 + (n.ptrs.map (wordsN (d - 1))).sum + ((n.items.take (k + 1)).map fun y => (y.ptrs.map (wordsN (d - 1))).sum).sum : Nat) : Int)) := Lib.hid (by rw [HZQ.out, HSTI.out]; omega)
          have HBB := Lib.hid (And.intro hbr hrr)
          clear hbr hrr HB
          go_wp2
          go_roundw
          case rel => exact ⟨k + 1, _, rfl, by go_num, by omega, hz0, hz1, HZ2, HBB⟩
          case measure => simp [intOf]; omega
     · obtain rfl : k = n.items.length := by omega
       rw [List.take_of_length_le (Nat.le_refl _)] at HZ
       have HBR := Lib.hid hbr
       clear hbr hrr HB
       go_wp2
       go_ret
       exact ⟨by rw [HTOT.out, HZ.out]; rfl, HBR.out⟩
theorem l4Words_any : ∀ d, L4W d
 | 0 => l4Words_step 0 (fun j hj => by omega)
 | d + 1 => l4Words_step (d + 1) (fun j hj => by
   obtain rfl : d = j := by omega
   exact l4Words_any d)
theorem specNodeOk_a (m : Nat) (n : Nd) (h : Hd) (w : World) (S : Nat → Prop) (hn : NdAt w S m n h) (ht : totN m n ≤ 2000000) :
 Calls Tryz.prog 50 #[.agg #[.int .i64 n.kind, .string n.data, .slice h.A n.ptrs.length h.a, .int .i64 n.size, .int .i64 n.count, .slice h.B n.items.length h.b]] w fun e w' => e = .returned (.bool (nodeOk n)) ∧ Below w.heap.size w w' := by
 have hb0 := (Below.refl w.heap.size w).alloc (Nat.le_refl _) (.cells #[.int .i64 n.kind, .string n.data, .slice h.A n.ptrs.length h.a, .int .i64 n.size, .int .i64 n.count, .slice h.B n.items.length h.b] nodeT)
 have HB0 := Lib.hid hb0
 have HBX := Lib.hid (heap_alloc_new w (.cells #[.int .i64 n.kind, .string n.data, .slice h.A n.ptrs.length h.a, .int .i64 n.size, .int .i64 n.count, .slice h.B n.items.length h.b] nodeT))
 have HO := Lib.hid (l4Ok_any 8 (by decide) m n h _ S (hn.below hb0) ht)
 rw [show (((8 : Nat)) : Int) = 8 from rfl] at HO
 have HWO : Hid (okN 8 n = true → ∀ W : World, Below w.heap.size w W → Calls Tryz.prog 73 #[.agg #[.int .i64 n.kind, .string n.data, .slice h.A n.ptrs.length h.a, .int .i64 n.size, .int .i64 n.count, .slice h.B n.items.length h.b]] W fun e w' => e = .returned (.int .i64 (wordsN 8 n : Nat)) ∧ Below W.heap.size W w') := Lib.hid fun hok W hb => l4Words_any 8 m n h W S (hn.below hb) ht hok
 clear hn ht hb0
 cases hok : okN 8 n
 · have HX : Hid (nodeOk n = false) := Lib.hid (by unfold nodeOk; rw [hok]; rfl)
   rw [hok] at HO
   clear hok
   go_enter Tryz.func50, Tryz.ntmps50
   go_wp2_with fail
   refine HO.out.mono ?_
   rintro e w2 ⟨rfl, hb2⟩
   have HB2 := Lib.hid (HB0.out.trans (hb2.mono HB0.out.size))
   clear hb2
   go_wp2
   go_ret
   exact ⟨by rw [HX.out]; rfl, HB2.out⟩
 · have HX : Hid (nodeOk n = decide (((wordsN 8 n : Nat) : Int) < 200)) := Lib.hid (by unfold nodeOk; rw [hok, Bool.true_and, Bool.eq_iff_iff]; simp only [decide_eq_true_eq]; omega)
   have HC := Lib.hid (HWO.out hok)
   rw [hok] at HO
   clear HWO hok
   generalize wordsN 8 n = wd at *
   go_enter Tryz.func50, Tryz.ntmps50
   go_wp2_with fail
   refine HO.out.mono ?_
   rintro e w2 ⟨rfl, hb2⟩
   obtain ⟨a0, a1, a2, a3, a4, a5⟩ := cells6 ((hb2.block w.heap.size (by simp)).trans HBX.out)
   have HB2 := Lib.hid (HB0.out.trans (hb2.mono HB0.out.size))
   clear hb2
   go_wp2_with fail
   refine (HC.out _ HB2.out).mono ?_
   rintro e w3 ⟨rfl, hb3⟩
   have HB3 := Lib.hid (HB2.out.trans (hb3.mono HB2.out.size))
   clear hb3
   go_wp2
   go_ret
   exact ⟨by rw [HX.out]; rfl, HB3.out⟩
theorem ne2 (k : Int) : (k != 2) = decide (k ≠ 2) := by by_cases h : k = 2 <;> simp [h]
theorem l8Is_a (A : Option Addr) (c : Nat) (l : List Fld) (m : Nat) (n : Nd) (h : Hd) (w : World) (S : Nat → Prop) (hl : Flds w A l) (hll : l.length ≤ 10000000) (hn : NdAt w S m n h) (htn : totN m n ≤ 2000000) :
 Calls Tryz.prog 26 #[.slice A l.length c, .agg #[.int .i64 n.kind, .string n.data, .slice h.A n.ptrs.length h.a, .int .i64 n.size, .int .i64 n.count, .slice h.B n.items.length h.b]] w fun e w' => e = .returned (.bool (recB l n)) ∧ Below w.heap.size w w' := by
 have hbx := (Below.refl w.heap.size w).alloc (Nat.le_refl _) (.cells #[.int .i64 n.kind, .string n.data, .slice h.A n.ptrs.length h.a, .int .i64 n.size, .int .i64 n.count, .slice h.B n.items.length h.b] nodeT)
 have HR0 := Lib.hid (heap_alloc_new w (.cells #[.int .i64 n.kind, .string n.data, .slice h.A n.ptrs.length h.a, .int .i64 n.size, .int .i64 n.count, .slice h.B n.items.length h.b] nodeT))
 have HF := Lib.hid (specFieldsOk_any A c l _ (hl.below hbx) hll)
 have HNO : Hid (∀ W : World, Below w.heap.size w W → Calls Tryz.prog 50 #[.agg #[.int .i64 n.kind, .string n.data, .slice h.A n.ptrs.length h.a, .int .i64 n.size, .int .i64 n.count, .slice h.B n.items.length h.b]] W fun e w' => e = .returned (.bool (nodeOk n)) ∧ Below W.heap.size W w') := Lib.hid fun W hW => specNodeOk_a m n h W S (hn.below hW) htn
 have HBX := Lib.hid hbx
 clear hn hl hbx
 cases hok : fldsOk l
 · have HX : Hid (recB l n = false) := Lib.hid (by unfold recB; rw [hok]; rfl)
   rw [hok] at HF
   clear hok
   go_enter Tryz.func26, Tryz.ntmps26
   go_wp2_with fail
   refine HF.out.mono ?_
   rintro e w1 ⟨rfl, hb1⟩
   have HB1 := Lib.hid (HBX.out.trans (hb1.mono HBX.out.size))
   clear hb1
   go_wp2
   go_ret
   exact ⟨by rw [HX.out]; rfl, HB1.out⟩
 · have HX : Hid (recB l n = (nodeOk n && (n.kind != 2))) := Lib.hid (by unfold recB isRec; rw [hok, Bool.true_and, Bool.and_comm, ne2])
   rw [hok] at HF
   clear hok
   go_enter Tryz.func26, Tryz.ntmps26
   go_wp2_with fail
   refine HF.out.mono ?_
   rintro e w1 ⟨rfl, hb1⟩
   have hr1 := (hb1.block _ (row_lt HR0.out)).trans HR0.out
   have HR1 := Lib.hid hr1
   obtain ⟨a0, a1, a2, a3, a4, a5⟩ := cells6 hr1
   have HB1 := Lib.hid (HBX.out.trans (hb1.mono HBX.out.size))
   clear hb1 hr1
   go_wp2_with fail
   refine (HNO.out _ HB1.out).mono ?_
   rintro e w2 ⟨rfl, hb2⟩
   clear a0 a1 a2 a3 a4 a5
   obtain ⟨a0, a1, a2, a3, a4, a5⟩ := cells6 ((hb2.block _ (row_lt HR1.out)).trans HR1.out)
   have HB2 := Lib.hid (HB1.out.trans (hb2.mono HB1.out.size))
   clear hb2
   cases hno : nodeOk n
   · rw [hno] at HX
     clear hno HNO
     go_wp2
     go_ret
     exact ⟨by rw [HX.out]; rfl, HB2.out⟩
   · rw [hno] at HX
     clear hno HNO
     go_wp2
     go_ret
     exact ⟨by rw [HX.out]; rfl, HB2.out⟩
def layV4 (l : List Fld) (v1 : Value) : Value := .agg #[.int .i64 ((layF l ps0).2.ls.words : Int), .int .i64 ((layF l ps0).2.ptrs : Int), v1, .int .i64 (tagL l)]
theorem l8Chosen_a (A1 : Option Addr) (ln cp1 : Nat) (l : List Fld) (n : Nd) (h : Hd) (w : World) (hd : n.data.size ≤ maxLen) (hok : recB l n = true) :
 Calls Tryz.prog 29 #[layV4 l (.slice A1 ln cp1), .agg #[.int .i64 n.kind, .string n.data, .slice h.A n.ptrs.length h.a, .int .i64 n.size, .int .i64 n.count, .slice h.B n.items.length h.b]] w fun e w' => e = .returned (.int .i64 (choN l n)) ∧ Below w.heap.size w w' := by
 have hb := tagL_bd (rec_data hok).2.2
 have HX : Hid (choN l n = if tagL l < 0 then -1 else wrap64 (leN n.data.data.toList (2 * tagL l).toNat 2 : Nat)) := Lib.hid (by unfold choN; rw [if_pos hok])
 unfold layV4
 generalize tagL l = tg at *
 have hbx : Below w.heap.size w ((w.alloc (.cells #[.int .i64 ((layF l ps0).2.ls.words : Int), .int .i64 ((layF l ps0).2.ptrs : Int), .slice A1 ln cp1, .int .i64 tg] 59)).alloc (.cells #[.int .i64 n.kind, .string n.data, .slice h.A n.ptrs.length h.a, .int .i64 n.size, .int .i64 n.count, .slice h.B n.items.length h.b] nodeT)) := ((Below.refl _ _).alloc (Nat.le_refl _) _).alloc (by simp) _
 have hg0 : ((w.alloc (.cells #[.int .i64 ((layF l ps0).2.ls.words : Int), .int .i64 ((layF l ps0).2.ptrs : Int), .slice A1 ln cp1, .int .i64 tg] 59)).alloc (.cells #[.int .i64 n.kind, .string n.data, .slice h.A n.ptrs.length h.a, .int .i64 n.size, .int .i64 n.count, .slice h.B n.items.length h.b] nodeT)).heap[w.heap.size]? = some (.cells #[.int .i64 ((layF l ps0).2.ls.words : Int), .int .i64 ((layF l ps0).2.ptrs : Int), .slice A1 ln cp1, .int .i64 tg] 59 (0, 0)) := heap_alloc_keep (heap_alloc_new w _) _
 obtain ⟨c0, c1, c2, c3⟩ := cells4 hg0
 have HBX := Lib.hid hbx
 clear hbx hg0
 by_cases hneg : tg < 0
 · rw [if_pos hneg] at HX
   go_enter Tryz.func29, Tryz.ntmps29
   go_wp2_with fail
   go_ret
   exact ⟨by rw [HX.out]; rfl, HBX.out⟩
 · rw [if_neg hneg] at HX
   have hw : wrap64 (2 * tg) = 2 * tg := by unfold wrap64; omega
   have HW := Lib.hid hw
   clear hw
   have HL := Lib.hid (fun W => l1Get_any n.data (2 * tg) 2 W hd (by omega) (by omega) (by decide) (by decide))
   rw [show (2 : Int).toNat = 2 from rfl] at HL
   generalize wrap64 (leN n.data.data.toList (2 * tg).toNat 2 : Nat) = r at *
   go_enter Tryz.func29, Tryz.ntmps29
   go_wp2_with fail
   refine (HL.out _).mono ?_
   rintro e w2 ⟨rfl, rfl⟩
   go_wp2
   go_ret
   exact ⟨by rw [HX.out]; rfl, HBX.out⟩
end Go.Proofs.YtehhbbdaeonebaaGreatDoor
