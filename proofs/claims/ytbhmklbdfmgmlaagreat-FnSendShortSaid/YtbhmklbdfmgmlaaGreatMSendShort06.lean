/- Texts of the proof of the law FnSendShort, side by side: part 6. -/
import Derived.Test.YtbhmklbdfmgmlaaGreatMSendShort00
import Derived.Test.YtbhmklbdfmgmlaaGreatMSendShort01
import Derived.Test.YtbhmklbdfmgmlaaGreatMSendShort02
import Derived.Test.YtbhmklbdfmgmlaaGreatMSendShort03
import Derived.Test.YtbhmklbdfmgmlaaGreatMSendShort04
import Derived.Test.YtbhmklbdfmgmlaaGreatMSendShort05
/- The program's measure of a node: whether it is ok, and its words. -/
namespace Go.Proofs.YtbhmklbdfmgmlaaGreat
open Go.RowKit
abbrev measT : TypeId := 103
/-- a node is ok, so many deep at most. -/
def okN : Nat → Nd → Bool
  | 0, n => formN n && decide (n.kind = 0)
  | d + 1, n => formN n && (decide (n.kind = 0) || (ptrsL n).all (okN d))
/-- how many words a node takes that is ok, so many deep at most. -/
def wordsN : Nat → Nd → Nat
  | 0, _ => 0
  | d + 1, n => ownN n + ((ptrsL n).map (wordsN d)).sum
theorem ok_form {d : Nat} {n : Nd} (h : formN n = false) : okN d n = false := by
  cases d <;> simp [okN, h]
theorem nil_of_len {α : Type} {l : List α} (h : l.length = 0) : l = [] := List.eq_nil_of_length_eq_zero h
theorem none_words {d : Nat} {n : Nd} (h : formN n = true) (hk : n.kind = 0) : okN d n = true ∧ wordsN d n = 0 := by
  rcases form_cases h with hc | hc | hc
  · obtain ⟨_, h1, h2, _, _, h5⟩ := hc
    have e1 : ptrsL n = [] := by unfold ptrsL; rw [nil_of_len h2, nil_of_len h5]; rfl
    have e2 : ownN n = 0 := by unfold ownN ownB; rw [h1, h2, nil_of_len h5, hk]; rfl
    cases d
    · exact ⟨by simp [okN, h, hk], rfl⟩
    · exact ⟨by simp [okN, h, hk], by simp [wordsN, e1, e2]⟩
  · omega
  · omega
theorem cell_single {w : World} {b : Nat} {v : Value} {T : TypeId} {p : Addr} {n : Nd} {h : Hd} (hb : w.heap[b]? = some (.cells #[v] T (0, 0))) (hc : NdCell w p n h) : p.block ≠ b := by
  intro e
  have h1 := hc.c1
  rw [e, cell_of_row _ _ _ _ _ _ hb] at h1
  simp at h1
theorem NdsAt.keeps {w w' : World} {S : Nat → Prop} {m b : Nat} {A : Option Addr} {l : List Nd} {v : Value} {T : TypeId} (h : NdsAt w S m A l) (hb : w.heap[b]? = some (.cells #[v] T (0, 0))) (hk : Keeps w.heap.size b w w') : NdsAt w' S m A l :=
  NdsAt.map (fun _ h => h) (fun _p _ _ _ hc => hc.block (hk.block _ hc.lt (cell_single hb hc))) _ _ _ h
theorem NdAt.keeps {w w' : World} {S : Nat → Prop} {m b : Nat} {n : Nd} {h : Hd} {v : Value} {T : TypeId} (hn : NdAt w S m n h) (hb : w.heap[b]? = some (.cells #[v] T (0, 0))) (hk : Keeps w.heap.size b w w') : NdAt w' S m n h :=
  ⟨hn.1, hn.2.1.keeps hb hk, hn.2.2.keeps hb hk⟩
theorem totL_eq {w : World} {S : Nat → Prop} : ∀ (m : Nat) (A : Option Addr) (l : List Nd), NdsAt w S m A l → totL (m + 1) l = totL m l
  | 0, A, l, h => by rw [h.zero]; rfl
  | m + 1, A, l, h => by
    rw [totL_succ (m + 1), totL_succ m]
    congr 1
    apply List.map_congr_left
    intro n hn
    obtain ⟨hd, h1⟩ := h.mem n hn
    unfold totN
    rw [totL_eq m _ _ h1.2.1, totL_eq m _ _ h1.2.2]
theorem flat_tot (l : List Nd) (m : Nat) : totL (m + 1) (l.flatMap Nd.ptrs) = (l.map fun y => totL (m + 1) y.ptrs).sum := by
  induction l with
  | nil => rfl
  | cons a t ih => rw [List.flatMap_cons, totL_succ, List.map_append, List.sum_append, ← totL_succ, ← totL_succ, ih]; rfl
theorem tot_ptrs {w : World} {S : Nat → Prop} {m : Nat} {n : Nd} {h : Hd} (hn : NdAt w S m n h) : totL m (ptrsL n) ≤ totN m n := by
  cases m with
  | zero => exact Nat.zero_le _
  | succ m =>
    have h1 : totL (m + 1) (ptrsL n) = totL (m + 1) n.ptrs + (n.items.map fun y => totL (m + 1) y.ptrs).sum := by
      unfold ptrsL
      rw [totL_succ, List.map_append, List.sum_append, ← totL_succ, ← totL_succ, flat_tot]
    have h2 : (n.items.map fun y => totL (m + 1) y.ptrs).sum ≤ totL (m + 1) n.items := by
      rw [totL_succ]
      refine sum_le _ _ _ fun y hy => ?_
      obtain ⟨hd, h3⟩ := hn.2.2.mem y hy
      rw [totL_eq m _ _ h3.2.1]
      unfold totN
      omega
    rw [h1]
    unfold totN
    omega
theorem ptrs_len {w : World} {S : Nat → Prop} {m : Nat} {n : Nd} {h : Hd} (hn : NdAt w S m n h) : (ptrsL n).length ≤ totL m (ptrsL n) := by
  cases m with
  | zero =>
    unfold ptrsL
    rw [hn.2.1.zero, hn.2.2.zero]
    simp
  | succ m => exact totL_len m _
theorem own_bound {w : World} {S : Nat → Prop} {m : Nat} {n : Nd} {h : Hd} (hn : NdAt w S m n h) (ht : totN m n ≤ 2000000) : ownN n ≤ 3000000 := by
  have h1 : ownB n ≤ n.data.size + n.ptrs.length := by unfold ownB; omega
  have h2 := own_sum hn.2.2
  have h3 := len_tot hn.2.1
  unfold ownN
  unfold totN at ht
  split <;> omega
abbrev msr (ws : Int) : Obj := .cells #[.int .i64 ws] measT (0, 0)
def AlP (d : Nat) (n : Nd) (b : Nat) (ws : Int) (w : World) (e : Ending) (w' : World) : Prop :=
  ∃ (r : Bool) (z : Int), e = .returned (.bool r) ∧ Keeps w.heap.size b w w' ∧ w'.heap[b]? = some (msr z) ∧ 0 ≤ z ∧ z ≤ 4000000 ∧ (r = true → okN d n = true ∧ z = ws + (wordsN d n : Nat) ∧ z ≤ 199) ∧ (r = false → okN d n = false ∨ 200 ≤ ws + (wordsN d n : Nat))
def AlD (d : Nat) : Prop := ∀ (m : Nat) (n : Nd) (h : Hd) (w : World) (S : Nat → Prop) (b : Nat) (ws : Int), NdAt w S m n h → totN m n ≤ 2000000 → w.heap[b]? = some (msr ws) → 0 ≤ ws → ws ≤ 199 →
  Calls Tryz.prog 73 #[.pointer (some ⟨b, 0, none⟩), .agg #[.int .i64 n.kind, .string n.data, .slice h.A n.ptrs.length h.a, .int .i64 n.size, .int .i64 n.count, .slice h.B n.items.length h.b], .int .i64 (9 - (d : Int))] w (AlP d n b ws w)
theorem own_le_words {d : Nat} {n : Nd} : ownN n ≤ wordsN (d + 1) n := by simp [wordsN]
theorem meas_cell {w : World} {b : Nat} {z : Int} (h : w.heap[b]? = some (msr z)) : w.cell? ⟨b, 0, none⟩ = some (.int .i64 z) := by rw [cell_of_row _ _ _ _ _ _ h]; rfl
set_option maxHeartbeats 4000000 in
set_option maxRecDepth 100000 in
theorem allows_step (d : Nat) (hd : d ≤ 8) (ih : ∀ j, d = j + 1 → AlD j) : AlD d := by
  intro m n h w S b ws hn ht hrow hw0 hw1
  obtain ⟨qA, qa, qB, qb⟩ := h
  dsimp only at hn ⊢
  have hpl : n.ptrs.length ≤ 2000000 := totL_len' hn.2.1 (by unfold totN at ht; omega)
  have hil : n.items.length ≤ 2000000 := totL_len' hn.2.2 (by unfold totN at ht; omega)
  have hblt := row_lt hrow
  have HP := Lib.hid (fun (W : World) (hb : Below w.heap.size w W) => hasParts_a m n ⟨qA, qa, qB, qb⟩ W S (hn.below hb) hil hpl)
  dsimp only at HP
  have HIH := Lib.hid ih
  have HN := Lib.hid hn
  have HT := Lib.hid ht
  have HR := Lib.hid hrow
  have HB0 := Lib.hid ((Below.refl w.heap.size w).alloc (Nat.le_refl _) (.cells #[.int .i64 n.kind, .string n.data, .slice qA n.ptrs.length qa, .int .i64 n.size, .int .i64 n.count, .slice qB n.items.length qb] nodeT))
  have HBX := Lib.hid (heap_alloc_new w (.cells #[.int .i64 n.kind, .string n.data, .slice qA n.ptrs.length qa, .int .i64 n.size, .int .i64 n.count, .slice qB n.items.length qb] nodeT))
  clear ih hn ht hrow
  cases hf : formN n
  · have HX := Lib.hid (ok_form (d := d) hf)
    rw [hf] at HP
    go_enter Tryz.func73, Tryz.ntmps73
    go_wp2_with fail
    refine (HP.out _ HB0.out).mono ?_
    rintro e w1 ⟨rfl, hb1⟩
    have HB1 := Lib.hid (HB0.out.trans (hb1.mono HB0.out.size))
    clear hb1
    go_wp2
    go_ret
    exact ⟨false, ws, rfl, Keeps.of_below HB1.out, (HB1.out.block _ hblt).trans HR.out, hw0, by omega, fun h => (by cases h), fun _ => .inl HX.out⟩
  rw [hf] at HP
  have HF := Lib.hid hf
  clear hf
  by_cases hk : n.kind = 0
  · have HX := Lib.hid (none_words (d := d) HF.out hk)
    have hkb : (n.kind == 0) = true := by rw [hk]; rfl
    clear hk
    go_enter Tryz.func73, Tryz.ntmps73
    go_wp2_with fail
    refine (HP.out _ HB0.out).mono ?_
    rintro e w1 ⟨rfl, hb1⟩
    obtain ⟨a0, a1, a2, a3, a4, a5⟩ := cells6 ((hb1.block w.heap.size (by simp)).trans HBX.out)
    have HB1 := Lib.hid (HB0.out.trans (hb1.mono HB0.out.size))
    clear hb1
    go_wp2
    go_ret
    exact ⟨true, ws, rfl, Keeps.of_below HB1.out, (HB1.out.block _ hblt).trans HR.out, hw0, by omega, fun _ => ⟨HX.out.1, by rw [HX.out.2]; omega, hw1⟩, fun h => (by cases h)⟩
  have hkb : (n.kind == 0) = false := by simpa using hk
  have HK := Lib.hid hk
  have HOW := Lib.hid (fun (W : World) (hb : Below w.heap.size w W) => ownWords_a m n ⟨qA, qa, qB, qb⟩ W S (HN.out.below hb) HF.out HT.out)
  dsimp only at HOW
  have hob : ownN n ≤ 3000000 := own_bound HN.out HT.out
  generalize hon : ownN n = on at HOW hob
  have HON := Lib.hid hon
  clear hk hon
  have hwrap : IntKind.i64.wrap (ws + (on : Int)) = ws + (on : Int) := by
    rw [IntKind.wrap_i64]
    omega
  obtain ⟨D, hD⟩ : ∃ D : Int, D = 9 - (d : Int) := ⟨_, rfl⟩
  have hD8 : 1 ≤ D ∧ D ≤ 9 := by omega
  rw [← hD]
  have HD := Lib.hid hD
  clear hD
  go_enter Tryz.func73, Tryz.ntmps73
  go_wp2_with fail
  refine (HP.out _ HB0.out).mono ?_
  rintro e w1 ⟨rfl, hb1⟩
  have hk1 := (hb1.block w.heap.size (by simp)).trans HBX.out
  have HBX1 := Lib.hid hk1
  have hlt1 := row_lt hk1
  obtain ⟨a0, a1, a2, a3, a4, a5⟩ := cells6 hk1
  have HB1 := Lib.hid (HB0.out.trans (hb1.mono HB0.out.size))
  have HR1 := Lib.hid ((HB1.out.block _ hblt).trans HR.out)
  have hmc := meas_cell HR1.out
  have hmf := row_free HR1.out 0
  clear hb1 hk1
  go_wp2_with fail
  go_region_with (go_at_call 76; refine (HOW.out _ (by exact HB1.out.drew)).mono ?_; rintro e w2 ⟨rfl, hb2⟩; have hmc2 := meas_cell ((hb2.block _ (by have := HB1.out.size; simp; omega)).trans HR1.out); have hmf2 := row_free ((hb2.block _ (by have := HB1.out.size; simp; omega)).trans HR1.out) 0)
  all_goals
    have hrow2 := (hb2.block b (by have := HB1.out.size; simp; omega)).trans HR1.out
    have hbox2 := (hb2.block w.heap.size (by simpa using hlt1)).trans HBX1.out
    have hB2 : Below w.heap.size w w2 := HB1.out.drew.trans (hb2.mono (by simpa using HB1.out.size))
    try rw [hwrap]
    have kp3 : Keeps w.heap.size b w (w2.setCell ⟨b, 0, none⟩ (.int .i64 (ws + (on : Int)))) := (Keeps.of_below hB2).trans ((set_keeps w2.heap.size b w2 0 _).mono hB2.size)
    have row3 : (w2.setCell ⟨b, 0, none⟩ (.int .i64 (ws + (on : Int)))).heap[b]? = some (msr (ws + (on : Int))) := row_setN hrow2 0 _
    have box3 := (Below.heap_setCell w2 ⟨b, 0, none⟩ (.int .i64 (ws + (on : Int))) w.heap.size (by simp; omega)).trans hbox2
    have hlt3 := row_lt box3
    generalize w2.setCell ⟨b, 0, none⟩ (.int .i64 (ws + (on : Int))) = W3 at *
    have KP3 := Lib.hid kp3
    have ROW3 := Lib.hid row3
    have BOX3 := Lib.hid box3
    clear hb2 hB2 hmc hmf hmc2 hmf2 a0 a1 a2 a3 a4 a5 hrow2 hbox2 kp3 row3 box3
    have hmc3 := meas_cell ROW3.out
    by_cases hd0 : d = 0
    · have hD1 : decide (8 < D) = true := decide_eq_true (by have := HD.out; omega)
      have HX : Hid (okN d n = false) := Lib.hid (by subst hd0; simp [okN, HK.out])
      go_wp2
      go_ret
      exact ⟨false, _, rfl, KP3.out, ROW3.out, by omega, by omega, fun h => (by cases h), fun _ => .inl HX.out⟩
    · obtain ⟨j, rfl⟩ : ∃ j, d = j + 1 := ⟨d - 1, by omega⟩
      have HPO : Hid (∀ W : World, Keeps w.heap.size b w W → Calls Tryz.prog 109 #[.agg #[.int .i64 n.kind, .string n.data, .slice qA n.ptrs.length qa, .int .i64 n.size, .int .i64 n.count, .slice qB n.items.length qb]] W fun e w' => ∃ A c, e = .returned (.slice A (ptrsL n).length c) ∧ NdsAt w' Any m A (ptrsL n) ∧ Below W.heap.size W w') := Lib.hid fun W hk => ptrsOf_a m n ⟨qA, qa, qB, qb⟩ W S (HN.out.keeps HR.out hk) HT.out
      have HTT : Hid (totL m (ptrsL n) ≤ 2000000) := Lib.hid (Nat.le_trans (tot_ptrs HN.out) HT.out)
      have HLN : Hid ((ptrsL n).length ≤ 2000000) := Lib.hid (Nat.le_trans (ptrs_len HN.out) HTT.out)
      have HWW : Hid (wordsN (j + 1) n = on + ((ptrsL n).map (wordsN j)).sum) := Lib.hid (by rw [wordsN, HON.out])
      have HBAD : Hid (∀ p ∈ ptrsL n, okN j p = false → okN (j + 1) n = false) := Lib.hid fun p hp h => by
        have : (ptrsL n).all (okN j) = false := by rw [List.all_eq_false]; exact ⟨p, hp, by rw [h]; decide⟩
        simp [okN, HF.out, HK.out, this]
      have HGOOD : Hid ((ptrsL n).all (okN j) = true → okN (j + 1) n = true) := Lib.hid fun h => by simp only [okN, HF.out, h, Bool.or_true, Bool.and_true]
      have hD1 : decide (8 < D) = false := decide_eq_false (by have := HD.out; omega)
      by_cases h200 : 200 ≤ ws + (on : Int)
      · have HX : Hid (200 ≤ ws + (wordsN (j + 1) n : Nat)) := Lib.hid (by have := own_le_words (d := j) (n := n); rw [HON.out] at this; omega)
        have hd2 : decide (200 ≤ ws + (on : Int)) = true := decide_eq_true h200
        go_wp2
        go_ret
        exact ⟨false, _, rfl, KP3.out, ROW3.out, by omega, by omega, fun h => (by cases h), fun _ => .inr HX.out⟩
      · have hd2 : decide (200 ≤ ws + (on : Int)) = false := decide_eq_false h200
        obtain ⟨b0, b1, b2, b3, b4, b5⟩ := cells6 BOX3.out
        go_wp2_with fail
        refine (HPO.out W3 KP3.out).mono ?_
        rintro e w4 ⟨A4, c4, rfl, hn4, hb4⟩
        have KP4 := Lib.hid (KP3.out.trans ((Keeps.of_below hb4).mono KP3.out.size))
        have ROW4 := Lib.hid ((hb4.block b (row_lt ROW3.out)).trans ROW3.out)
        have HN4 := Lib.hid hn4
        have hz0 : 0 ≤ ws + (on : Int) := by omega
        have hz1 : ws + (on : Int) ≤ 199 := by omega
        clear hn4 hb4 b0 b1 b2 b3 b4 b5 hmc3 h200 hd2 hwrap
        have hlen := HLN.out
        have HIHJ := Lib.hid (HIH.out j rfl)
        generalize ptrsL n = pl at *
        go_wp2_with fail
        go_loopw [36] (fun i wr => ∃ k : Nat, i = .int .i64 k ∧ k ≤ pl.length ∧ Hid ((pl.take k).all (okN j) = true) ∧ Hid (∃ z : Int, Keeps w.heap.size b w wr ∧ wr.heap[b]? = some (msr z) ∧ NdsAt wr Any m A4 pl ∧ 0 ≤ z ∧ z ≤ 199 ∧ z = ws + (on : Int) + (((pl.take k).map (wordsN j)).sum : Nat))) (fun i _ => pl.length - (intOf i).toNat)
        case atStart => exact ⟨0, rfl, by omega, Lib.hid rfl, Lib.hid ⟨_, KP4.out, ROW4.out, HN4.out, hz0, hz1, by simp⟩⟩
        case round =>
          obtain ⟨k, rfl, hk, HA, HZ⟩ := hrel
          obtain ⟨z, kpr, rowr, hnr, z0, z1, hz⟩ := HZ.out
          by_cases hlt : k < pl.length
          · obtain ⟨m', rfl⟩ := hnr.pred hlt
            obtain ⟨x, hdp, rfl, hc, hp⟩ := hnr.at_ hlt
            have HST := Lib.hid (sum_take_succ pl (wordsN j) k hlt)
            have HSL := Lib.hid (sum_take_le pl (wordsN j) (k + 1))
            have HTP := Lib.hid (show totN m' pl[k] ≤ 2000000 by have := totL_at (m := m') hlt; have := HTT.out; omega)
            have HMEM := Lib.hid (List.getElem_mem hlt)
            have HTK : Hid (okN j pl[k] = true → (pl.take (k + 1)).all (okN j) = true) := Lib.hid (fun h => by rw [List.take_succ_eq_append_getElem hlt, List.all_append, HA.out]; simpa using h)
            generalize pl[k] = p at hc hp HST HTP HMEM HTK
            have hbx : Below wr.heap.size wr (wr.alloc (.cells #[.int .i64 p.kind, .string p.data, .slice hdp.A p.ptrs.length hdp.a, .int .i64 p.size, .int .i64 p.count, .slice hdp.B p.items.length hdp.b] nodeT)) := (Below.refl _ _).alloc (Nat.le_refl _) _
            have HCALL := Lib.hid (HIHJ.out m' p hdp _ Any b z (hp.below hbx) HTP.out ((hbx.block b (row_lt rowr)).trans rowr) z0 z1)
            unfold AlP at HCALL
            rw [show (9 : Int) - (j : Int) = D + 1 by have := HD.out; omega] at HCALL
            have KPR := Lib.hid kpr
            have HNR := Lib.hid hnr
            have HZE := Lib.hid hz
            have HBXX := Lib.hid hbx
            have ROWR := Lib.hid rowr
            obtain ⟨d0, d1, d2, d3, d4, d5⟩ := hc
            clear kpr hnr hz hbx hp rowr HZ
            go_wp2_with fail
            refine HCALL.out.mono ?_
            rintro e w5 ⟨r, z', rfl, kp5, row5, z0', z1', ht5, hf5⟩
            have KP5 := Lib.hid (KPR.out.trans (((Keeps.of_below HBXX.out).trans (kp5.mono (by simp))).mono KPR.out.size))
            have HN5 := Lib.hid ((HNR.out.keeps ROWR.out (Keeps.of_below HBXX.out)).keeps ((HBXX.out.block b (row_lt ROWR.out)).trans ROWR.out) kp5)
            have ROW5 := Lib.hid row5
            have HF5 := Lib.hid hf5
            have HT5 := Lib.hid ht5
            clear kp5 row5 hf5 ht5
            cases r
            · go_wp2
              go_ret
              refine ⟨false, z', rfl, KP5.out, ROW5.out, z0', z1', fun h => (by cases h), fun _ => ?_⟩
              rcases HF5.out (by first | trivial | rfl) with h | h
              · exact .inl (HBAD.out p HMEM.out h)
              · right
                have := HWW.out
                have := HSL.out
                have := HST.out
                have := HZE.out
                omega
            · obtain ⟨h1, h2, h3⟩ := HT5.out (by first | trivial | rfl)
              have HTR := Lib.hid (HTK.out h1)
              have HZ5 : Hid (∃ z : Int, Keeps w.heap.size b w w5 ∧ w5.heap[b]? = some (msr z) ∧ NdsAt w5 Any (m' + 1) (some x) pl ∧ 0 ≤ z ∧ z ≤ 199 ∧ z = ws + (on : Int) + (((pl.take (k + 1)).map (wordsN j)).sum : Nat)) := Lib.hid ⟨z', KP5.out, ROW5.out, HN5.out, z0', h3, by rw [h2, HZE.out, HST.out]; omega⟩
              clear h1 h2 h3
              go_wp2
              go_roundw
              case rel => exact ⟨k + 1, by go_num, by omega, HTR, HZ5⟩
              case measure => simp [intOf]; omega
          · obtain rfl : k = pl.length := by omega
            rw [List.take_of_length_le (Nat.le_refl _)] at HA hz
            have HALL := Lib.hid (HGOOD.out HA.out)
            have KPR := Lib.hid kpr
            have HZE := Lib.hid hz
            have ROWR := Lib.hid rowr
            clear kpr hnr hz rowr HZ
            go_wp2
            go_ret
            exact ⟨true, z, rfl, KPR.out, ROWR.out, z0, by omega, fun _ => ⟨HALL.out, by rw [HZE.out, HWW.out]; omega, z1⟩, fun h => (by cases h)⟩
theorem allows_any : ∀ d, d ≤ 8 → AlD d
  | 0, h => allows_step 0 h (fun j hj => by omega)
  | d + 1, h => allows_step (d + 1) h (fun j hj => by
    obtain rfl : d = j := by omega
    exact allows_any d (by omega))
end Go.Proofs.YtbhmklbdfmgmlaaGreat

/- NodeOk, NodeWords: the program's. -/
namespace Go.Proofs.YtbhmklbdfmgmlaaGreat
open Go.RowKit
def nodeOk (n : Nd) : Bool := okN 8 n && decide (wordsN 8 n ≤ 199)
def nodeWords (n : Nd) : Nat := if nodeOk n then wordsN 8 n else 0
theorem al_ok {n : Nd} {r : Bool} {z : Int} (ht : r = true → okN 8 n = true ∧ z = 0 + (wordsN 8 n : Nat) ∧ z ≤ 199) (hf : r = false → okN 8 n = false ∨ 200 ≤ (0 : Int) + (wordsN 8 n : Nat)) : r = nodeOk n ∧ (r = true → z = (nodeWords n : Nat)) := by
  cases r with
  | true =>
    obtain ⟨h1, h2, h3⟩ := ht rfl
    have h4 : nodeOk n = true := by unfold nodeOk; rw [h1]; simp; omega
    refine ⟨h4.symm, fun _ => ?_⟩
    unfold nodeWords
    rw [h4, if_pos rfl]
    omega
  | false =>
    refine ⟨?_, fun h => by cases h⟩
    unfold nodeOk
    rcases hf rfl with h | h
    · rw [h]; rfl
    · rw [show decide (wordsN 8 n ≤ 199) = false by simp; omega, Bool.and_false]
set_option maxHeartbeats 2000000 in
set_option maxRecDepth 100000 in
theorem implNodeOk_a (m : Nat) (n : Nd) (h : Hd) (w : World) (S : Nat → Prop) (hn : NdAt w S m n h) (ht : totN m n ≤ 2000000) :
    Calls Tryz.prog 33 #[.agg #[.int .i64 n.kind, .string n.data, .slice h.A n.ptrs.length h.a, .int .i64 n.size, .int .i64 n.count, .slice h.B n.items.length h.b]] w fun e w' => e = .returned (.bool (nodeOk n)) ∧ Below w.heap.size w w' := by
  have hb0 : Below w.heap.size w ((w.alloc (.cells #[.int .i64 n.kind, .string n.data, .slice h.A n.ptrs.length h.a, .int .i64 n.size, .int .i64 n.count, .slice h.B n.items.length h.b] nodeT)).alloc (.cells #[.int .i64 0] measT)) := ((Below.refl _ w).alloc (Nat.le_refl _) _).alloc (by simp) _
  have hr := heap_alloc_new (w.alloc (.cells #[.int .i64 n.kind, .string n.data, .slice h.A n.ptrs.length h.a, .int .i64 n.size, .int .i64 n.count, .slice h.B n.items.length h.b] nodeT)) (.cells #[.int .i64 0] measT)
  rw [show (w.alloc (.cells #[.int .i64 n.kind, .string n.data, .slice h.A n.ptrs.length h.a, .int .i64 n.size, .int .i64 n.count, .slice h.B n.items.length h.b] nodeT)).heap.size = w.heap.size + 1 by simp] at hr
  have hz : ((w.alloc (.cells #[.int .i64 n.kind, .string n.data, .slice h.A n.ptrs.length h.a, .int .i64 n.size, .int .i64 n.count, .slice h.B n.items.length h.b] nodeT)).alloc (.cells #[.int .i64 0] measT)).heap.size = w.heap.size + 2 := by simp
  have HC := Lib.hid (allows_any 8 (by decide) m n h _ S (w.heap.size + 1) 0 (hn.below hb0) ht hr (by omega) (by omega))
  unfold AlP at HC
  rw [show (9 : Int) - ((8 : Nat) : Int) = 1 by decide, hz] at HC
  have HB0 := Lib.hid hb0
  clear hn ht hb0 hr hz
  go_enter Tryz.func33, Tryz.ntmps33
  go_wp2_with fail
  refine HC.out.mono ?_
  rintro e w2 ⟨r, z, rfl, kp, row, z0, z1, h1, h2⟩
  have HE := Lib.hid (al_ok h1 h2).1
  have HB := Lib.hid (HB0.out.trans (kp.below (B' := w.heap.size) (by omega) (by omega)))
  clear kp row h1 h2
  go_wp2
  go_ret
  exact ⟨by rw [HE.out]; rfl, HB.out⟩
end Go.Proofs.YtbhmklbdfmgmlaaGreat

/- What reading a node costs: the program's word. -/
namespace Go.Proofs.YtbhmklbdfmgmlaaGreat
open Go.RowKit
def lcZ (s c : Int) (v : Int) : Int := if s = 0 then c else if s = 7 ∧ v = 1 then 1 + c else v
/-- what a node costs by itself. -/
def lcN (n : Nd) : Nat := if n.kind = 2 then (lcZ n.size n.count (ownN n : Nat)).toNat else ownN n
def costN : Nat → Nd → Nat
  | 0, _ => 0
  | d + 1, n => lcN n + ((ptrsL n).map (costN d)).sum
theorem form_count {n : Nd} (h : formN n = true) : 0 ≤ n.count ∧ n.count ≤ 12800 := by
  rcases form_cases h with hc | hc | hc <;> omega
theorem lcZ_bd {s c v : Int} (h0 : 0 ≤ c) (h1 : c ≤ 12800) (h2 : 0 ≤ v) : 0 ≤ lcZ s c v ∧ lcZ s c v ≤ v + 12801 := by
  unfold lcZ
  split
  · omega
  · split <;> omega
theorem lcN_eq {n : Nd} (h : formN n = true) : ((lcN n : Nat) : Int) = if n.kind = 2 then lcZ n.size n.count (ownN n : Nat) else (ownN n : Nat) := by
  obtain ⟨h1, h2⟩ := form_count h
  have := lcZ_bd (s := n.size) h1 h2 (show (0 : Int) ≤ (ownN n : Nat) by omega)
  unfold lcN
  split <;> omega
theorem lcN_le {n : Nd} (h : formN n = true) : lcN n ≤ ownN n + 12801 := by
  have h0 := lcN_eq h
  obtain ⟨h1, h2⟩ := form_count h
  have := lcZ_bd (s := n.size) h1 h2 (show (0 : Int) ≤ (ownN n : Nat) by omega)
  split at h0 <;> omega
theorem sum_leL (l : List Nd) (f g : Nd → Nat) (h : ∀ n ∈ l, f n ≤ g n) : (l.map f).sum ≤ (l.map g).sum := sum_le l f g h
theorem sum_mem {l : List Nd} {f : Nd → Nat} {n : Nd} (h : n ∈ l) : f n ≤ (l.map f).sum := by
  induction l with
  | nil => cases h
  | cons a t ih =>
    simp only [List.map_cons, List.sum_cons]
    rcases List.mem_cons.1 h with rfl | h
    · omega
    · have := ih h; omega
theorem ptrs_own (n : Nd) : (ptrsL n).length ≤ ownN n := by
  have h1 : n.ptrs.length ≤ ownB n := by unfold ownB; omega
  have h2 : (n.items.map fun y => y.ptrs.length).sum ≤ (n.items.map ownB).sum := sum_le _ _ _ (fun y _ => by unfold ownB; omega)
  unfold ptrsL ownN
  rw [List.length_append, ptrsL_sum]
  omega
theorem ok_kids {d : Nat} {n : Nd} (h : okN d n = true) : formN n = true ∧ ∀ p ∈ ptrsL n, okN (d - 1) p = true := by
  cases d with
  | zero =>
    simp only [okN, Bool.and_eq_true, decide_eq_true_eq] at h
    refine ⟨h.1, fun p hp => ?_⟩
    have h1 : ptrsL n = [] := by
      rcases form_cases h.1 with hc | hc | hc
      · unfold ptrsL; rw [nil_of_len hc.2.2.1, nil_of_len hc.2.2.2.2.2]; rfl
      · omega
      · omega
    rw [h1] at hp; cases hp
  | succ d =>
    simp only [okN, Bool.and_eq_true, Bool.or_eq_true, decide_eq_true_eq, List.all_eq_true] at h
    refine ⟨h.1, fun p hp => ?_⟩
    rcases h.2 with hk | hk
    · have h1 : ptrsL n = [] := by
        rcases form_cases h.1 with hc | hc | hc
        · unfold ptrsL; rw [nil_of_len hc.2.2.1, nil_of_len hc.2.2.2.2.2]; rfl
        · omega
        · omega
      rw [h1] at hp; cases hp
    · exact hk p hp
theorem words_kids {d : Nat} {n : Nd} (h : okN d n = true) : wordsN d n = ownN n + ((ptrsL n).map (wordsN (d - 1))).sum := by
  cases d with
  | zero =>
    simp only [okN, Bool.and_eq_true, decide_eq_true_eq] at h
    have := none_words (d := 1) h.1 h.2
    rw [wordsN] at this
    show 0 = ownN n + _
    have h1 : ptrsL n = [] := by
      rcases form_cases h.1 with hc | hc | hc
      · unfold ptrsL; rw [nil_of_len hc.2.2.1, nil_of_len hc.2.2.2.2.2]; rfl
      · omega
      · omega
    rw [h1]; simp; omega
  | succ d => rfl
theorem cost_kids {d : Nat} {n : Nd} (h : okN d n = true) : costN d n = lcN n + ((ptrsL n).map (costN (d - 1))).sum := by
  cases d with
  | zero =>
    have hw := words_kids h
    simp only [okN, Bool.and_eq_true, decide_eq_true_eq] at h
    have h1 : ptrsL n = [] := by
      rcases form_cases h.1 with hc | hc | hc
      · unfold ptrsL; rw [nil_of_len hc.2.2.1, nil_of_len hc.2.2.2.2.2]; rfl
      · omega
      · omega
    have h2 : lcN n = 0 := by
      unfold lcN
      rw [if_neg (by omega)]
      simp only [wordsN] at hw
      omega
    rw [h1, h2]; rfl
  | succ d => rfl
/-- a cost is not much more than the words. -/
theorem cost_le : ∀ (d : Nat) (n : Nd), okN d n = true → costN d n ≤ 13000 + 13001 * wordsN d n := by
  intro d
  induction d with
  | zero => intro n h; exact Nat.zero_le _
  | succ d ih =>
    intro n h
    obtain ⟨hf, hk⟩ := ok_kids h
    have h1 := lcN_le hf
    have h2 : ((ptrsL n).map (costN d)).sum ≤ ((ptrsL n).map fun p => 13000 + 13001 * wordsN d p).sum := sum_le _ _ _ (fun p hp => ih p (hk p hp))
    have h3 : ∀ l : List Nd, (l.map fun p => 13000 + 13001 * wordsN d p).sum = 13000 * l.length + 13001 * (l.map (wordsN d)).sum := by
      intro l
      induction l with
      | nil => rfl
      | cons a t ih => simp only [List.map_cons, List.sum_cons, List.length_cons, ih]; omega
    rw [h3] at h2
    have h4 := ptrs_own n
    show lcN n + _ ≤ 13000 + 13001 * (ownN n + _)
    omega
theorem words_mem {d : Nat} {n p : Nd} (h : okN d n = true) (hp : p ∈ ptrsL n) : wordsN (d - 1) p ≤ wordsN d n := by
  rw [words_kids h]
  have := sum_mem (f := wordsN (d - 1)) hp
  omega
def nodeCost (n : Nd) : Nat := if nodeOk n then costN 8 n else 0
end Go.Proofs.YtbhmklbdfmgmlaaGreat

/- Pure facts on nodes that are ok: what is within is ok, words and cost alone and within. No Go text. -/
namespace Go.Proofs.YtbhmklbdfmgmlaaGreat
open Go.RowKit
theorem ok_up : ∀ (d : Nat) (n : Nd), okN d n = true → okN (d + 1) n = true
  | 0, n, h => by
    have hf := (ok_kids h).1
    simp only [okN, Bool.and_eq_true, decide_eq_true_eq] at h
    exact (none_words (d := 1) hf h.2).1
  | d + 1, n, h => by
    have hk := ok_kids h
    have h' := h
    simp only [okN, Bool.and_eq_true, Bool.or_eq_true, decide_eq_true_eq, List.all_eq_true] at h'
    show (formN n && (decide (n.kind = 0) || (ptrsL n).all (okN (d + 1)))) = true
    simp only [Bool.and_eq_true, Bool.or_eq_true, decide_eq_true_eq, List.all_eq_true]
    exact ⟨h'.1, .inr fun p hp => ok_up d p (hk.2 p hp)⟩
theorem map_congr_sum {l : List Nd} {f g : Nd → Nat} (h : ∀ p ∈ l, f p = g p) : (l.map f).sum = (l.map g).sum := by rw [List.map_congr_left h]
theorem words_up : ∀ (d : Nat) (n : Nd), okN d n = true → wordsN (d + 1) n = wordsN d n
  | 0, n, h => by
    have hf := (ok_kids h).1
    simp only [okN, Bool.and_eq_true, decide_eq_true_eq] at h
    rw [(none_words (d := 1) hf h.2).2]; rfl
  | d + 1, n, h => by
    have hk := (ok_kids h).2
    rw [words_kids (ok_up _ _ h), words_kids h]
    exact congrArg (ownN n + ·) (map_congr_sum fun p hp => words_up d p (hk p hp))
theorem cost_up : ∀ (d : Nat) (n : Nd), okN d n = true → costN (d + 1) n = costN d n
  | 0, n, h => by
    have hw := words_up 0 n h
    have h1 := words_kids h
    have hc := cost_kids (ok_up _ _ h)
    have hc0 := cost_kids h
    have hp : ptrsL n = [] := by
      have hl := ptrs_own n
      have : wordsN 0 n = 0 := rfl
      exact List.eq_nil_of_length_eq_zero (by omega)
    rw [hc, hc0, hp]
  | d + 1, n, h => by
    have hk := (ok_kids h).2
    rw [cost_kids (ok_up _ _ h), cost_kids h]
    exact congrArg (lcN n + ·) (map_congr_sum fun p hp => cost_up d p (hk p hp))
theorem node_ok {n : Nd} (h : nodeOk n = true) : okN 8 n = true ∧ wordsN 8 n ≤ 199 := by
  unfold nodeOk at h
  rw [Bool.and_eq_true, decide_eq_true_eq] at h
  exact h
theorem ok_node {n : Nd} (h : okN 8 n = true) (hw : wordsN 8 n ≤ 199) : nodeOk n = true := by
  unfold nodeOk
  rw [h, decide_eq_true hw]; rfl
theorem ok_ptrs {n : Nd} (h : nodeOk n = true) : ∀ p ∈ ptrsL n, nodeOk p = true := by
  obtain ⟨h1, h2⟩ := node_ok h
  intro p hp
  have hk := (ok_kids h1).2 p hp
  refine ok_node (ok_up 7 p hk) ?_
  rw [words_up 7 p hk]
  exact Nat.le_trans (words_mem h1 hp) h2
theorem ok_ptr {n : Nd} (h : nodeOk n = true) : ∀ p ∈ n.ptrs, nodeOk p = true := fun p hp => ok_ptrs h p (List.mem_append_left _ hp)
/-- an item as a node by itself. -/
theorem item_form {n : Nd} (h : formN n = true) : ∀ y ∈ n.items, formN y = true ∧ y.kind = 1 ∧ y.items = [] := by
  intro y hy
  have hi : itemsB n.items = true := by
    rcases form_cases h with hc | hc | hc
    · rw [nil_of_len hc.2.2.2.2.2] at hy; cases hy
    · rw [nil_of_len hc.2.2.2.2] at hy; cases hy
    · rcases hc.2.2 with hc | hc | hc
      · rw [nil_of_len hc.2.2.2.2] at hy; cases hy
      · rw [nil_of_len hc.2.2.2] at hy; cases hy
      · exact hc.2.2.2.2
  have h1 := (List.all_eq_true.1 hi) y hy
  unfold itemB at h1
  rw [Bool.and_eq_true] at h1
  have h2 := h1.1
  refine ⟨?_, ?_, ?_⟩
  · unfold formN strN
    rw [h2]; simp
  · unfold structB at h2; simp only [decide_eq_true_eq] at h2; exact h2.1
  · unfold structB at h2; simp only [decide_eq_true_eq] at h2; exact nil_of_len (by omega)
theorem own_item {n y : Nd} (hy : y ∈ n.items) (hk : y.kind = 1) (hi : y.items = []) : ownN y ≤ ownN n := by
  have h1 : ownB y ≤ (n.items.map ownB).sum := sum_mem hy
  have h2 : ownN y = ownB y := by unfold ownN; rw [hi, if_neg (by omega)]; simp
  rw [h2]
  unfold ownN
  omega
theorem ptrs_sub {n y : Nd} (hy : y ∈ n.items) (f : Nd → Nat) : (y.ptrs.map f).sum ≤ ((ptrsL n).map f).sum := by
  have h1 : (y.ptrs.map f).sum ≤ ((n.items.flatMap Nd.ptrs).map f).sum := by
    generalize n.items = l at hy
    induction l with
    | nil => cases hy
    | cons a t ih =>
      rw [List.flatMap_cons, List.map_append, List.sum_append]
      rcases List.mem_cons.1 hy with rfl | h
      · omega
      · have := ih h; omega
  unfold ptrsL
  rw [List.map_append, List.sum_append]
  omega
theorem ok_item {n : Nd} (h : nodeOk n = true) : ∀ y ∈ n.items, nodeOk y = true := by
  obtain ⟨h1, h2⟩ := node_ok h
  intro y hy
  obtain ⟨hf, hk⟩ := ok_kids h1
  obtain ⟨hfy, hky, hiy⟩ := item_form hf y hy
  have hp : ptrsL y = y.ptrs := by unfold ptrsL; rw [hiy]; simp
  have hok : okN 8 y = true := by
    show (formN y && (decide (y.kind = 0) || (ptrsL y).all (okN 7))) = true
    rw [hfy, Bool.true_and, hp]
    have : y.ptrs.all (okN 7) = true := List.all_eq_true.2 fun p hpp => hk p (List.mem_append_right _ (List.mem_flatMap.2 ⟨y, hy, hpp⟩))
    rw [this, Bool.or_true]
  refine ok_node hok (Nat.le_trans ?_ h2)
  rw [words_kids hok, words_kids h1, hp]
  have e1 := own_item hy hky hiy
  have e2 := ptrs_sub hy (wordsN 7)
  show ownN y + (y.ptrs.map (wordsN 7)).sum ≤ ownN n + ((ptrsL n).map (wordsN 7)).sum
  omega
/-- a struct of one pointer. -/
def oneN (n : Nd) : Nd := .mk 1 ByteArray.empty [n] 0 0 []
theorem one_ptrs (n : Nd) : ptrsL (oneN n) = [n] := by simp [ptrsL, oneN, Nd.ptrs, Nd.items]
theorem one_own (n : Nd) : ownN (oneN n) = 1 := by simp [ownN, ownB, oneN, Nd.ptrs, Nd.items, Nd.kind, Nd.data]
theorem one_lc (n : Nd) : lcN (oneN n) = 1 := by unfold lcN; rw [one_own, if_neg (by simp [oneN, Nd.kind])]
theorem one_words {n : Nd} (h : nodeOk n = true) (hx : nodeOk (oneN n) = true) : nodeWords (oneN n) = nodeWords n + 1 := by
  have h8 := (node_ok hx).1
  have h7 := (ok_kids h8).2 n (by rw [one_ptrs]; exact List.mem_singleton.2 rfl)
  unfold nodeWords
  rw [if_pos h, if_pos hx, words_kids h8, one_ptrs, one_own, words_up 7 n h7]
  simp; omega
theorem one_cost {n : Nd} (h : nodeOk n = true) (hx : nodeOk (oneN n) = true) : nodeCost (oneN n) = nodeCost n + 1 := by
  have h8 := (node_ok hx).1
  have h7 := (ok_kids h8).2 n (by rw [one_ptrs]; exact List.mem_singleton.2 rfl)
  unfold nodeCost
  rw [if_pos h, if_pos hx, cost_kids h8, one_ptrs, one_lc, cost_up 7 n h7]
  simp; omega
theorem lc_own {n : Nd} (h : formN n = true) : ownN n ≤ lcN n := by
  have h0 := lcN_eq h
  obtain ⟨h1, h2⟩ := form_count h
  split at h0
  · rename_i hk
    unfold lcZ at h0
    split at h0
    · rename_i hs
      have : ownN n = 0 := by
        rcases form_cases h with hc | hc | hc
        · omega
        · omega
        · rcases hc.2.2 with hc | hc | hc
          · have hb := hc.2.2.1
            rw [hs] at hb
            have hd : n.data.size = 0 := by
              simp [bitsB, bz] at hb
              rw [hb]; rfl
            unfold ownN ownB
            rw [nil_of_len hc.2.2.2.1, nil_of_len hc.2.2.2.2, hd, if_neg (by omega)]
            rfl
          · omega
          · omega
      omega
    · split at h0 <;> omega
  · omega
theorem cost_ge : ∀ (d : Nat) (n : Nd), okN d n = true → wordsN d n ≤ costN d n
  | 0, _, _ => Nat.le_refl _
  | d + 1, n, h => by
    obtain ⟨hf, hk⟩ := ok_kids h
    have h1 := lc_own hf
    have h2 : ((ptrsL n).map (wordsN d)).sum ≤ ((ptrsL n).map (costN d)).sum := sum_le _ _ _ (fun p hp => cost_ge d p (hk p hp))
    show ownN n + _ ≤ lcN n + _
    omega
theorem cost_words {n : Nd} (h : nodeOk n = true) : nodeWords n ≤ nodeCost n := by
  unfold nodeWords nodeCost
  rw [if_pos h, if_pos h]
  exact cost_ge 8 n (node_ok h).1
end Go.Proofs.YtbhmklbdfmgmlaaGreat

/- Plain facts: a number that was put into bytes is got from them, and put back. No Go text. No condition beyond each theorem's own. -/
namespace Go.Proofs.YtbhmklbdfmgmlaaGreat
open Go.RowKit
theorem leN_congr (l m : List UInt8) : ∀ (k a b : Nat), (∀ i, i < k → l[a + i]? = m[b + i]?) → leN l a k = leN m b k
  | 0, _, _, _ => rfl
  | k + 1, a, b, h => by
    have h0 := h 0 (by omega)
    simp only [Nat.add_zero] at h0
    have h1 := leN_congr l m k (a + 1) (b + 1) (fun i hi => by
      have := h (i + 1) (by omega)
      rwa [show a + (i + 1) = a + 1 + i by omega, show b + (i + 1) = b + 1 + i by omega] at this)
    rw [leN, leN, h0, h1]
theorem putL_in (l : List UInt8) (a : Nat) (xs : List UInt8) (h : a + xs.length ≤ l.length) (i : Nat) (hi : i < xs.length) : (putL l a xs)[a + i]? = xs[i]? := by
  have e1 : (l.take a).length = a := by simp; omega
  rw [putL, List.getElem?_append_right (by omega), e1, Nat.add_sub_cancel_left, List.getElem?_append_left hi]
theorem putL_out (l : List UInt8) (a : Nat) (xs : List UInt8) (h : a + xs.length ≤ l.length) (j : Nat) (hj : j < a ∨ a + xs.length ≤ j) : (putL l a xs)[j]? = l[j]? := by
  have e1 : (l.take a).length = a := by simp; omega
  rcases hj with hj | hj
  · rw [putL, List.getElem?_append_left (by omega), List.getElem?_take_of_lt hj]
  · rw [putL, List.getElem?_append_right (by omega), e1, List.getElem?_append_right (by omega), List.getElem?_drop]
    congr 1; omega
theorem putL_back (l : List UInt8) (a : Nat) (xs : List UInt8) (h : a + xs.length ≤ l.length) : putL (putL l a xs) a ((l.drop a).take xs.length) = l := by
  have hlen : ((l.drop a).take xs.length).length = xs.length := by simp; omega
  have hp := putL_length l a xs h
  apply List.ext_getElem?
  intro j
  by_cases hj : j < a ∨ a + xs.length ≤ j
  · rw [putL_out _ a _ (by omega) j (by omega), putL_out l a xs h j hj]
  · obtain ⟨i, rfl⟩ : ∃ i, j = a + i := ⟨j - a, by omega⟩
    rw [putL_in _ a _ (by omega) i (by omega), List.getElem?_take_of_lt (by omega), List.getElem?_drop]
theorem emod_256 (n m : Int) : n % (256 * m) = n % 256 + 256 * (n / 256 % m) := by
  rw [Int.emod_def n (256 * m), Int.emod_def (n / 256) m, ← Int.ediv_ediv_of_nonneg (by decide), Int.mul_assoc]
  omega
theorem leN_leB : ∀ (k : Nat) (n : Int), ((leN (leB n k) 0 k : Nat) : Int) = n % 256 ^ k
  | 0, n => by simp [leN, Int.emod_one]
  | k + 1, n => by
    have ih := leN_leB k (n / 256)
    have e : leN (leB n (k + 1)) 1 k = leN (leB (n / 256) k) 0 k := leN_congr _ _ k 1 0 (fun i _ => by rw [leB, Nat.add_comm, List.getElem?_cons_succ, Nat.zero_add])
    rw [leN, Nat.zero_add, e, leB, List.getElem?_cons_zero]
    simp only [Option.getD_some]
    rw [Int.natCast_add, Int.natCast_mul, ih, ofNat_toNat_u8, Int.pow_succ, Int.mul_comm (256 ^ k) 256, emod_256]
    rfl
theorem leN_putL (l : List UInt8) (a : Nat) (n : Int) (k : Nat) (h : a + k ≤ l.length) : ((leN (putL l a (leB n k)) a k : Nat) : Int) = n % 256 ^ k := by
  rw [← leN_leB k n, leN_congr (putL l a (leB n k)) (leB n k) k a 0 (fun i hi => ?_)]
  rw [putL_in l a _ (by rw [leB_length]; exact h) i (by rw [leB_length]; exact hi), Nat.zero_add]
theorem leN_putL_out (l : List UInt8) (a : Nat) (xs : List UInt8) (b k : Nat) (h : a + xs.length ≤ l.length) (hb : b + k ≤ a ∨ a + xs.length ≤ b) : leN (putL l a xs) b k = leN l b k :=
  leN_congr _ _ k b b (fun i hi => putL_out l a xs h (b + i) (by omega))
theorem leB_leN (l : List UInt8) : ∀ (k a : Nat), a + k ≤ l.length → leB ((leN l a k : Nat) : Int) k = (l.drop a).take k
  | 0, _, _ => by simp [leB]
  | k + 1, a, h => by
    have hb := byte_lt l a
    have e1 : (((l[a]?.getD 0).toNat + 256 * leN l (a + 1) k : Nat) : Int) % 256 = ((l[a]?.getD 0).toNat : Int) := by omega
    have e2 : (((l[a]?.getD 0).toNat + 256 * leN l (a + 1) k : Nat) : Int) / 256 = ((leN l (a + 1) k : Nat) : Int) := by omega
    rw [leN, leB, e1, e2, leB_leN l k (a + 1) (by omega), List.drop_eq_getElem_cons (show a < l.length by omega), List.take_succ_cons, List.getElem?_eq_getElem (by omega)]
    simp
theorem leN_2 (l : List UInt8) (a : Nat) : leN l a 2 = leN l a 1 + 256 * leN l (a + 1) 1 := by simp [leN]
theorem leN_4 (l : List UInt8) (a : Nat) : leN l a 4 = leN l a 2 + 65536 * leN l (a + 2) 2 := by simp [leN, Nat.add_assoc]; omega
end Go.Proofs.YtbhmklbdfmgmlaaGreat
