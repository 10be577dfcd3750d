/- Texts of the proof of the law FnSendShort, side by side: part 4. -/
import Derived.Test.YtbijfkpilncclaaGreatMSendShort00
import Derived.Test.YtbijfkpilncclaaGreatMSendShort01
import Derived.Test.YtbijfkpilncclaaGreatMSendShort02
import Derived.Test.YtbijfkpilncclaaGreatMSendShort03
namespace Go.Proofs.YtbijfkpilncclaaGreat
open Go.RowKit
abbrev measT : TypeId := 103
def okN : Nat → Nd → Bool
  | 0, n => formN n && decide (n.kind = 0)
  | d + 1, n => formN n && (decide (n.kind = 0) || (ptrsL n).all (okN d))
def wordsN : Nat → Nd → Nat
  | 0, _ => 0
  | d + 1, n => ownN n + ((ptrsL n).map (wordsN d)).sum
theorem ok_form {d : Nat} {n : Nd} (h : formN n = false) : okN d n = false := by
  cases d <;> simp [okN, h]
theorem nil_of_len {α : Type} {l : List α} (h : l.length = 0) : l = [] := List.eq_nil_of_length_eq_zero h
theorem none_words {d : Nat} {n : Nd} (h : formN n = true) (hk : n.kind = 0) : okN d n = true ∧ wordsN d n = 0 := by
  rcases form_cases h with hc | hc | hc
  · obtain ⟨_, h1, h2, _, _, h5⟩ := hc
    have e1 : ptrsL n = [] := by unfold ptrsL; rw [nil_of_len h2, nil_of_len h5]; rfl
    have e2 : ownN n = 0 := by unfold ownN ownB; rw [h1, h2, nil_of_len h5, hk]; rfl
    cases d
    · exact ⟨by simp [okN, h, hk], rfl⟩
    · exact ⟨by simp [okN, h, hk], by simp [wordsN, e1, e2]⟩
  · omega
  · omega
theorem cell_single {w : World} {b : Nat} {v : Value} {T : TypeId} {p : Addr} {n : Nd} {h : Hd} (hb : w.heap[b]? = some (.cells #[v] T (0, 0))) (hc : NdCell w p n h) : p.block ≠ b := by
  intro e
  have h1 := hc.c1
  rw [e, cell_of_row _ _ _ _ _ _ hb] at h1
  simp at h1
theorem NdsAt.keeps {w w' : World} {S : Nat → Prop} {m b : Nat} {A : Option Addr} {l : List Nd} {v : Value} {T : TypeId} (h : NdsAt w S m A l) (hb : w.heap[b]? = some (.cells #[v] T (0, 0))) (hk : Keeps w.heap.size b w w') : NdsAt w' S m A l :=
  NdsAt.map (fun _ h => h) (fun _p _ _ _ hc => hc.block (hk.block _ hc.lt (cell_single hb hc))) _ _ _ h
theorem NdAt.keeps {w w' : World} {S : Nat → Prop} {m b : Nat} {n : Nd} {h : Hd} {v : Value} {T : TypeId} (hn : NdAt w S m n h) (hb : w.heap[b]? = some (.cells #[v] T (0, 0))) (hk : Keeps w.heap.size b w w') : NdAt w' S m n h :=
  ⟨hn.1, hn.2.1.keeps hb hk, hn.2.2.keeps hb hk⟩
theorem totL_eq {w : World} {S : Nat → Prop} : ∀ (m : Nat) (A : Option Addr) (l : List Nd), NdsAt w S m A l → totL (m + 1) l = totL m l
  | 0, A, l, h => by rw [h.zero]; rfl
  | m + 1, A, l, h => by
    rw [totL_succ (m + 1), totL_succ m]
    congr 1
    apply List.map_congr_left
    intro n hn
    obtain ⟨hd, h1⟩ := h.mem n hn
    unfold totN
    rw [totL_eq m _ _ h1.2.1, totL_eq m _ _ h1.2.2]
theorem flat_tot (l : List Nd) (m : Nat) : totL (m + 1) (l.flatMap Nd.ptrs) = (l.map fun y => totL (m + 1) y.ptrs).sum := by
  induction l with
  | nil => rfl
  | cons a t ih => rw [List.flatMap_cons, totL_succ, List.map_append, List.sum_append, ← totL_succ, ← totL_succ, ih]; rfl
theorem tot_ptrs {w : World} {S : Nat → Prop} {m : Nat} {n : Nd} {h : Hd} (hn : NdAt w S m n h) : totL m (ptrsL n) ≤ totN m n := by
  cases m with
  | zero => exact Nat.zero_le _
  | succ m =>
    have h1 : totL (m + 1) (ptrsL n) = totL (m + 1) n.ptrs + (n.items.map fun y => totL (m + 1) y.ptrs).sum := by
      unfold ptrsL
      rw [totL_succ, List.map_append, List.sum_append, ← totL_succ, ← totL_succ, flat_tot]
    have h2 : (n.items.map fun y => totL (m + 1) y.ptrs).sum ≤ totL (m + 1) n.items := by
      rw [totL_succ]
      refine sum_le _ _ _ fun y hy => ?_
      obtain ⟨hd, h3⟩ := hn.2.2.mem y hy
      rw [totL_eq m _ _ h3.2.1]
      unfold totN
      omega
    rw [h1]
    unfold totN
    omega
theorem ptrs_len {w : World} {S : Nat → Prop} {m : Nat} {n : Nd} {h : Hd} (hn : NdAt w S m n h) : (ptrsL n).length ≤ totL m (ptrsL n) := by
  cases m with
  | zero =>
    unfold ptrsL
    rw [hn.2.1.zero, hn.2.2.zero]
    simp
  | succ m => exact totL_len m _
theorem own_bound {w : World} {S : Nat → Prop} {m : Nat} {n : Nd} {h : Hd} (hn : NdAt w S m n h) (ht : totN m n ≤ 2000000) : ownN n ≤ 3000000 := by
  have h1 : ownB n ≤ n.data.size + n.ptrs.length := by unfold ownB; omega
  have h2 := own_sum hn.2.2
  have h3 := len_tot hn.2.1
  unfold ownN
  unfold totN at ht
  split <;> omega
abbrev msr (ws : Int) : Obj := .cells #[.int .i64 ws] measT (0, 0)
def AlP (d : Nat) (n : Nd) (b : Nat) (ws : Int) (w : World) (e : Ending) (w' : World) : Prop :=
  ∃ (r : Bool) (z : Int), e = .returned (.bool r) ∧ Keeps w.heap.size b w w' ∧ w'.heap[b]? = some (msr z) ∧ 0 ≤ z ∧ z ≤ 4000000 ∧ (r = true → okN d n = true ∧ z = ws + (wordsN d n : Nat) ∧ z ≤ 199) ∧ (r = false → okN d n = false ∨ 200 ≤ ws + (wordsN d n : Nat))
def AlD (d : Nat) : Prop := ∀ (m : Nat) (n : Nd) (h : Hd) (w : World) (S : Nat → Prop) (b : Nat) (ws : Int), NdAt w S m n h → totN m n ≤ 2000000 → w.heap[b]? = some (msr ws) → 0 ≤ ws → ws ≤ 199 →
  Calls Tryz.prog 73 #[.pointer (some ⟨b, 0, none⟩), .agg #[.int .i64 n.kind, .string n.data, .slice h.A n.ptrs.length h.a, .int .i64 n.size, .int .i64 n.count, .slice h.B n.items.length h.b], .int .i64 (9 - (d : Int))] w (AlP d n b ws w)
theorem own_le_words {d : Nat} {n : Nd} : ownN n ≤ wordsN (d + 1) n := by simp [wordsN]
theorem meas_cell {w : World} {b : Nat} {z : Int} (h : w.heap[b]? = some (msr z)) : w.cell? ⟨b, 0, none⟩ = some (.int .i64 z) := by rw [cell_of_row _ _ _ _ _ _ h]; rfl
set_option maxHeartbeats 4000000 in
set_option maxRecDepth 100000 in
theorem allows_step (d : Nat) (hd : d ≤ 8) (ih : ∀ j, d = j + 1 → AlD j) : AlD d := by
  intro m n h w S b ws hn ht hrow hw0 hw1
  obtain ⟨qA, qa, qB, qb⟩ := h
  dsimp only at hn ⊢
  have hpl : n.ptrs.length ≤ 2000000 := totL_len' hn.2.1 (by unfold totN at ht; omega)
  have hil : n.items.length ≤ 2000000 := totL_len' hn.2.2 (by unfold totN at ht; omega)
  have hblt := row_lt hrow
  have HP := Lib.hid (fun (W : World) (hb : Below w.heap.size w W) => hasParts_a m n ⟨qA, qa, qB, qb⟩ W S (hn.below hb) hil hpl)
  dsimp only at HP
  have HIH := Lib.hid ih
  have HN := Lib.hid hn
  have HT := Lib.hid ht
  have HR := Lib.hid hrow
  have HB0 := Lib.hid ((Below.refl w.heap.size w).alloc (Nat.le_refl _) (.cells #[.int .i64 n.kind, .string n.data, .slice qA n.ptrs.length qa, .int .i64 n.size, .int .i64 n.count, .slice qB n.items.length qb] nodeT))
  have HBX := Lib.hid (heap_alloc_new w (.cells #[.int .i64 n.kind, .string n.data, .slice qA n.ptrs.length qa, .int .i64 n.size, .int .i64 n.count, .slice qB n.items.length qb] nodeT))
  clear ih hn ht hrow
  cases hf : formN n
  · have HX := Lib.hid (ok_form (d := d) hf)
    rw [hf] at HP
    go_enter Tryz.func73, Tryz.ntmps73
    go_wp2_with fail
    refine (HP.out _ HB0.out).mono ?_
    rintro e w1 ⟨rfl, hb1⟩
    have HB1 := Lib.hid (HB0.out.trans (hb1.mono HB0.out.size))
    clear hb1
    go_wp2
    go_ret
    exact ⟨false, ws, rfl, Keeps.of_below HB1.out, (HB1.out.block _ hblt).trans HR.out, hw0, by omega, fun h => (by cases h), fun _ => .inl HX.out⟩
  rw [hf] at HP
  have HF := Lib.hid hf
  clear hf
  by_cases hk : n.kind = 0
  · have HX := Lib.hid (none_words (d := d) HF.out hk)
    have hkb : (n.kind == 0) = true := by rw [hk]; rfl
    clear hk
    go_enter Tryz.func73, Tryz.ntmps73
    go_wp2_with fail
    refine (HP.out _ HB0.out).mono ?_
    rintro e w1 ⟨rfl, hb1⟩
    obtain ⟨a0, a1, a2, a3, a4, a5⟩ := cells6 ((hb1.block w.heap.size (by simp)).trans HBX.out)
    have HB1 := Lib.hid (HB0.out.trans (hb1.mono HB0.out.size))
    clear hb1
    go_wp2
    go_ret
    exact ⟨true, ws, rfl, Keeps.of_below HB1.out, (HB1.out.block _ hblt).trans HR.out, hw0, by omega, fun _ => ⟨HX.out.1, by rw [HX.out.2]; omega, hw1⟩, fun h => (by cases h)⟩
  have hkb : (n.kind == 0) = false := by simpa using hk
  have HK := Lib.hid hk
  have HOW := Lib.hid (fun (W : World) (hb : Below w.heap.size w W) => ownWords_a m n ⟨qA, qa, qB, qb⟩ W S (HN.out.below hb) HF.out HT.out)
  dsimp only at HOW
  have hob : ownN n ≤ 3000000 := own_bound HN.out HT.out
  generalize hon : ownN n = on at HOW hob
  have HON := Lib.hid hon
  clear hk hon
  have hwrap : IntKind.i64.wrap (ws + (on : Int)) = ws + (on : Int) := by
    rw [IntKind.wrap_i64]
    omega
  obtain ⟨D, hD⟩ : ∃ D : Int, D = 9 - (d : Int) := ⟨_, rfl⟩
  have hD8 : 1 ≤ D ∧ D ≤ 9 := by omega
  rw [← hD]
  have HD := Lib.hid hD
  clear hD
  go_enter Tryz.func73, Tryz.ntmps73
  go_wp2_with fail
  refine (HP.out _ HB0.out).mono ?_
  rintro e w1 ⟨rfl, hb1⟩
  have hk1 := (hb1.block w.heap.size (by simp)).trans HBX.out
  have HBX1 := Lib.hid hk1
  have hlt1 := row_lt hk1
  obtain ⟨a0, a1, a2, a3, a4, a5⟩ := cells6 hk1
  have HB1 := Lib.hid (HB0.out.trans (hb1.mono HB0.out.size))
  have HR1 := Lib.hid ((HB1.out.block _ hblt).trans HR.out)
  have hmc := meas_cell HR1.out
  have hmf := row_free HR1.out 0
  clear hb1 hk1
  go_wp2_with fail
  go_region_with (go_at_call 76; refine (HOW.out _ (by exact HB1.out.drew)).mono ?_; rintro e w2 ⟨rfl, hb2⟩; have hmc2 := meas_cell ((hb2.block _ (by have := HB1.out.size; simp; omega)).trans HR1.out); have hmf2 := row_free ((hb2.block _ (by have := HB1.out.size; simp; omega)).trans HR1.out) 0)
  all_goals
    have hrow2 := (hb2.block b (by have := HB1.out.size; simp; omega)).trans HR1.out
    have hbox2 := (hb2.block w.heap.size (by simpa using hlt1)).trans HBX1.out
    have hB2 : Below w.heap.size w w2 := HB1.out.drew.trans (hb2.mono (by simpa using HB1.out.size))
    try rw [hwrap]
    have kp3 : Keeps w.heap.size b w (w2.setCell ⟨b, 0, none⟩ (.int .i64 (ws + (on : Int)))) := (Keeps.of_below hB2).trans ((set_keeps w2.heap.size b w2 0 _).mono hB2.size)
    have row3 : (w2.setCell ⟨b, 0, none⟩ (.int .i64 (ws + (on : Int)))).heap[b]? = some (msr (ws + (on : Int))) := row_setN hrow2 0 _
    have box3 := (Below.heap_setCell w2 ⟨b, 0, none⟩ (.int .i64 (ws + (on : Int))) w.heap.size (by simp; omega)).trans hbox2
    have hlt3 := row_lt box3
    generalize w2.setCell ⟨b, 0, none⟩ (.int .i64 (ws + (on : Int))) = W3 at *
    have KP3 := Lib.hid kp3
    have ROW3 := Lib.hid row3
    have BOX3 := Lib.hid box3
    clear hb2 hB2 hmc hmf hmc2 hmf2 a0 a1 a2 a3 a4 a5 hrow2 hbox2 kp3 row3 box3
    have hmc3 := meas_cell ROW3.out
    by_cases hd0 : d = 0
    · have hD1 : decide (8 < D) = true := decide_eq_true (by have := HD.out; omega)
      have HX : Hid (okN d n = false) := Lib.hid (by subst hd0; simp [okN, HK.out])
      go_wp2
      go_ret
      exact ⟨false, _, rfl, KP3.out, ROW3.out, by omega, by omega, fun h => (by cases h), fun _ => .inl HX.out⟩
    · obtain ⟨j, rfl⟩ : ∃ j, d = j + 1 := ⟨d - 1, by omega⟩
      have HPO : Hid (∀ W : World, Keeps w.heap.size b w W → Calls Tryz.prog 109 #[.agg #[.int .i64 n.kind, .string n.data, .slice qA n.ptrs.length qa, .int .i64 n.size, .int .i64 n.count, .slice qB n.items.length qb]] W fun e w' => ∃ A c, e = .returned (.slice A (ptrsL n).length c) ∧ NdsAt w' Any m A (ptrsL n) ∧ Below W.heap.size W w') := Lib.hid fun W hk => ptrsOf_a m n ⟨qA, qa, qB, qb⟩ W S (HN.out.keeps HR.out hk) HT.out
      have HTT : Hid (totL m (ptrsL n) ≤ 2000000) := Lib.hid (Nat.le_trans (tot_ptrs HN.out) HT.out)
      have HLN : Hid ((ptrsL n).length ≤ 2000000) := Lib.hid (Nat.le_trans (ptrs_len HN.out) HTT.out)
      have HWW : Hid (wordsN (j + 1) n = on + ((ptrsL n).map (wordsN j)).sum) := Lib.hid (by rw [wordsN, HON.out])
      have HBAD : Hid (∀ p ∈ ptrsL n, okN j p = false → okN (j + 1) n = false) := Lib.hid fun p hp h => by
        have : (ptrsL n).all (okN j) = false := by rw [List.all_eq_false]; exact ⟨p, hp, by rw [h]; decide⟩
        simp [okN, HF.out, HK.out, this]
      have HGOOD : Hid ((ptrsL n).all (okN j) = true → okN (j + 1) n = true) := Lib.hid fun h => by simp only [okN, HF.out, h, Bool.or_true, Bool.and_true]
      have hD1 : decide (8 < D) = false := decide_eq_false (by have := HD.out; omega)
      by_cases h200 : 200 ≤ ws + (on : Int)
      · have HX : Hid (200 ≤ ws + (wordsN (j + 1) n : Nat)) := Lib.hid (by have := own_le_words (d := j) (n := n); rw [HON.out] at this; omega)
        have hd2 : decide (200 ≤ ws + (on : Int)) = true := decide_eq_true h200
        go_wp2
        go_ret
        exact ⟨false, _, rfl, KP3.out, ROW3.out, by omega, by omega, fun h => (by cases h), fun _ => .inr HX.out⟩
      · have hd2 : decide (200 ≤ ws + (on : Int)) = false := decide_eq_false h200
        obtain ⟨b0, b1, b2, b3, b4, b5⟩ := cells6 BOX3.out
        go_wp2_with fail
        refine (HPO.out W3 KP3.out).mono ?_
        rintro e w4 ⟨A4, c4, rfl, hn4, hb4⟩
        have KP4 := Lib.hid (KP3.out.trans ((Keeps.of_below hb4).mono KP3.out.size))
        have ROW4 := Lib.hid ((hb4.block b (row_lt ROW3.out)).trans ROW3.out)
        have HN4 := Lib.hid hn4
        have hz0 : 0 ≤ ws + (on : Int) := by omega
        have hz1 : ws + (on : Int) ≤ 199 := by omega
        clear hn4 hb4 b0 b1 b2 b3 b4 b5 hmc3 h200 hd2 hwrap
        have hlen := HLN.out
        have HIHJ := Lib.hid (HIH.out j rfl)
        generalize ptrsL n = pl at *
        go_wp2_with fail
        go_loopw [36] (fun i wr => ∃ k : Nat, i = .int .i64 k ∧ k ≤ pl.length ∧ Hid ((pl.take k).all (okN j) = true) ∧ Hid (∃ z : Int, Keeps w.heap.size b w wr ∧ wr.heap[b]? = some (msr z) ∧ NdsAt wr Any m A4 pl ∧ 0 ≤ z ∧ z ≤ 199 ∧ z = ws + (on : Int) + (((pl.take k).map (wordsN j)).sum : Nat))) (fun i _ => pl.length - (intOf i).toNat)
        case atStart => exact ⟨0, rfl, by omega, Lib.hid rfl, Lib.hid ⟨_, KP4.out, ROW4.out, HN4.out, hz0, hz1, by simp⟩⟩
        case round =>
          obtain ⟨k, rfl, hk, HA, HZ⟩ := hrel
          obtain ⟨z, kpr, rowr, hnr, z0, z1, hz⟩ := HZ.out
          by_cases hlt : k < pl.length
          · obtain ⟨m', rfl⟩ := hnr.pred hlt
            obtain ⟨x, hdp, rfl, hc, hp⟩ := hnr.at_ hlt
            have HST := Lib.hid (sum_take_succ pl (wordsN j) k hlt)
            have HSL := Lib.hid (sum_take_le pl (wordsN j) (k + 1))
            have HTP := Lib.hid (show totN m' pl[k] ≤ 2000000 by have := totL_at (m := m') hlt; have := HTT.out; omega)
            have HMEM := Lib.hid (List.getElem_mem hlt)
            have HTK : Hid (okN j pl[k] = true → (pl.take (k + 1)).all (okN j) = true) := Lib.hid (fun h => by rw [List.take_succ_eq_append_getElem hlt, List.all_append, HA.out]; simpa using h)
            generalize pl[k] = p at hc hp HST HTP HMEM HTK
            have hbx : Below wr.heap.size wr (wr.alloc (.cells #[.int .i64 p.kind, .string p.data, .slice hdp.A p.ptrs.length hdp.a, .int .i64 p.size, .int .i64 p.count, .slice hdp.B p.items.length hdp.b] nodeT)) := (Below.refl _ _).alloc (Nat.le_refl _) _
            have HCALL := Lib.hid (HIHJ.out m' p hdp _ Any b z (hp.below hbx) HTP.out ((hbx.block b (row_lt rowr)).trans rowr) z0 z1)
            unfold AlP at HCALL
            rw [show (9 : Int) - (j : Int) = D + 1 by have := HD.out; omega] at HCALL
            have KPR := Lib.hid kpr
            have HNR := Lib.hid hnr
            have HZE := Lib.hid hz
            have HBXX := Lib.hid hbx
            have ROWR := Lib.hid rowr
            obtain ⟨d0, d1, d2, d3, d4, d5⟩ := hc
            clear kpr hnr hz hbx hp rowr HZ
            go_wp2_with fail
            refine HCALL.out.mono ?_
            rintro e w5 ⟨r, z', rfl, kp5, row5, z0', z1', ht5, hf5⟩
            have KP5 := Lib.hid (KPR.out.trans (((Keeps.of_below HBXX.out).trans (kp5.mono (by simp))).mono KPR.out.size))
            have HN5 := Lib.hid ((HNR.out.keeps ROWR.out (Keeps.of_below HBXX.out)).keeps ((HBXX.out.block b (row_lt ROWR.out)).trans ROWR.out) kp5)
            have ROW5 := Lib.hid row5
            have HF5 := Lib.hid hf5
            have HT5 := Lib.hid ht5
            clear kp5 row5 hf5 ht5
            cases r
            · go_wp2
              go_ret
              refine ⟨false, z', rfl, KP5.out, ROW5.out, z0', z1', fun h => (by cases h), fun _ => ?_⟩
              rcases HF5.out (by first | trivial | rfl) with h | h
              · exact .inl (HBAD.out p HMEM.out h)
              · right
                have := HWW.out
                have := HSL.out
                have := HST.out
                have := HZE.out
                omega
            · obtain ⟨h1, h2, h3⟩ := HT5.out (by first | trivial | rfl)
              have HTR := Lib.hid (HTK.out h1)
              have HZ5 : Hid (∃ z : Int, Keeps w.heap.size b w w5 ∧ w5.heap[b]? = some (msr z) ∧ NdsAt w5 Any (m' + 1) (some x) pl ∧ 0 ≤ z ∧ z ≤ 199 ∧ z = ws + (on : Int) + (((pl.take (k + 1)).map (wordsN j)).sum : Nat)) := Lib.hid ⟨z', KP5.out, ROW5.out, HN5.out, z0', h3, by rw [h2, HZE.out, HST.out]; omega⟩
              clear h1 h2 h3
              go_wp2
              go_roundw
              case rel => exact ⟨k + 1, by go_num, by omega, HTR, HZ5⟩
              case measure => simp [intOf]; omega
          · obtain rfl : k = pl.length := by omega
            rw [List.take_of_length_le (Nat.le_refl _)] at HA hz
            have HALL := Lib.hid (HGOOD.out HA.out)
            have KPR := Lib.hid kpr
            have HZE := Lib.hid hz
            have ROWR := Lib.hid rowr
            clear kpr hnr hz rowr HZ
            go_wp2
            go_ret
            exact ⟨true, z, rfl, KPR.out, ROWR.out, z0, by omega, fun _ => ⟨HALL.out, by rw [HZE.out, HWW.out]; omega, z1⟩, fun h => (by cases h)⟩
theorem allows_any : ∀ d, d ≤ 8 → AlD d
  | 0, h => allows_step 0 h (fun j hj => by omega)
  | d + 1, h => allows_step (d + 1) h (fun j hj => by
    obtain rfl : d = j := by omega
    exact allows_any d (by omega))
end Go.Proofs.YtbijfkpilncclaaGreat

namespace Go.Proofs.YtbijfkpilncclaaGreat
open Go.RowKit
def nodeOk (n : Nd) : Bool := okN 8 n && decide (wordsN 8 n ≤ 199)
def nodeWords (n : Nd) : Nat := if nodeOk n then wordsN 8 n else 0
theorem al_ok {n : Nd} {r : Bool} {z : Int} (ht : r = true → okN 8 n = true ∧ z = 0 + (wordsN 8 n : Nat) ∧ z ≤ 199) (hf : r = false → okN 8 n = false ∨ 200 ≤ (0 : Int) + (wordsN 8 n : Nat)) : r = nodeOk n ∧ (r = true → z = (nodeWords n : Nat)) := by
  cases r with
  | true =>
    obtain ⟨h1, h2, h3⟩ := ht rfl
    have h4 : nodeOk n = true := by unfold nodeOk; rw [h1]; simp; omega
    refine ⟨h4.symm, fun _ => ?_⟩
    unfold nodeWords
    rw [h4, if_pos rfl]
    omega
  | false =>
    refine ⟨?_, fun h => by cases h⟩
    unfold nodeOk
    rcases hf rfl with h | h
    · rw [h]; rfl
    · rw [show decide (wordsN 8 n ≤ 199) = false by simp; omega, Bool.and_false]
set_option maxHeartbeats 2000000 in
set_option maxRecDepth 100000 in
theorem implNodeOk_a (m : Nat) (n : Nd) (h : Hd) (w : World) (S : Nat → Prop) (hn : NdAt w S m n h) (ht : totN m n ≤ 2000000) :
    Calls Tryz.prog 33 #[.agg #[.int .i64 n.kind, .string n.data, .slice h.A n.ptrs.length h.a, .int .i64 n.size, .int .i64 n.count, .slice h.B n.items.length h.b]] w fun e w' => e = .returned (.bool (nodeOk n)) ∧ Below w.heap.size w w' := by
  have hb0 : Below w.heap.size w ((w.alloc (.cells #[.int .i64 n.kind, .string n.data, .slice h.A n.ptrs.length h.a, .int .i64 n.size, .int .i64 n.count, .slice h.B n.items.length h.b] nodeT)).alloc (.cells #[.int .i64 0] measT)) := ((Below.refl _ w).alloc (Nat.le_refl _) _).alloc (by simp) _
  have hr := heap_alloc_new (w.alloc (.cells #[.int .i64 n.kind, .string n.data, .slice h.A n.ptrs.length h.a, .int .i64 n.size, .int .i64 n.count, .slice h.B n.items.length h.b] nodeT)) (.cells #[.int .i64 0] measT)
  rw [show (w.alloc (.cells #[.int .i64 n.kind, .string n.data, .slice h.A n.ptrs.length h.a, .int .i64 n.size, .int .i64 n.count, .slice h.B n.items.length h.b] nodeT)).heap.size = w.heap.size + 1 by simp] at hr
  have hz : ((w.alloc (.cells #[.int .i64 n.kind, .string n.data, .slice h.A n.ptrs.length h.a, .int .i64 n.size, .int .i64 n.count, .slice h.B n.items.length h.b] nodeT)).alloc (.cells #[.int .i64 0] measT)).heap.size = w.heap.size + 2 := by simp
  have HC := Lib.hid (allows_any 8 (by decide) m n h _ S (w.heap.size + 1) 0 (hn.below hb0) ht hr (by omega) (by omega))
  unfold AlP at HC
  rw [show (9 : Int) - ((8 : Nat) : Int) = 1 by decide, hz] at HC
  have HB0 := Lib.hid hb0
  clear hn ht hb0 hr hz
  go_enter Tryz.func33, Tryz.ntmps33
  go_wp2_with fail
  refine HC.out.mono ?_
  rintro e w2 ⟨r, z, rfl, kp, row, z0, z1, h1, h2⟩
  have HE := Lib.hid (al_ok h1 h2).1
  have HB := Lib.hid (HB0.out.trans (kp.below (B' := w.heap.size) (by omega) (by omega)))
  clear kp row h1 h2
  go_wp2
  go_ret
  exact ⟨by rw [HE.out]; rfl, HB.out⟩
end Go.Proofs.YtbijfkpilncclaaGreat

namespace Go.Proofs.YtbijfkpilncclaaGreat
open Go.RowKit
theorem ptrs_own (n : Nd) : (ptrsL n).length ≤ ownN n := by
  have h1 : n.ptrs.length ≤ ownB n := by unfold ownB; omega
  have h2 : (n.items.map fun y => y.ptrs.length).sum ≤ (n.items.map ownB).sum := sum_le _ _ _ (fun y _ => by unfold ownB; omega)
  unfold ptrsL ownN
  rw [List.length_append, ptrsL_sum]
  omega
theorem ok_kids {d : Nat} {n : Nd} (h : okN d n = true) : formN n = true ∧ ∀ p ∈ ptrsL n, okN (d - 1) p = true := by
  cases d with
  | zero =>
    simp only [okN, Bool.and_eq_true, decide_eq_true_eq] at h
    refine ⟨h.1, fun p hp => ?_⟩
    have h1 : ptrsL n = [] := by
      rcases form_cases h.1 with hc | hc | hc
      · unfold ptrsL; rw [nil_of_len hc.2.2.1, nil_of_len hc.2.2.2.2.2]; rfl
      · omega
      · omega
    rw [h1] at hp; cases hp
  | succ d =>
    simp only [okN, Bool.and_eq_true, Bool.or_eq_true, decide_eq_true_eq, List.all_eq_true] at h
    refine ⟨h.1, fun p hp => ?_⟩
    rcases h.2 with hk | hk
    · have h1 : ptrsL n = [] := by
        rcases form_cases h.1 with hc | hc | hc
        · unfold ptrsL; rw [nil_of_len hc.2.2.1, nil_of_len hc.2.2.2.2.2]; rfl
        · omega
        · omega
      rw [h1] at hp; cases hp
    · exact hk p hp
theorem words_kids {d : Nat} {n : Nd} (h : okN d n = true) : wordsN d n = ownN n + ((ptrsL n).map (wordsN (d - 1))).sum := by
  cases d with
  | zero =>
    simp only [okN, Bool.and_eq_true, decide_eq_true_eq] at h
    have := none_words (d := 1) h.1 h.2
    rw [wordsN] at this
    show 0 = ownN n + _
    have h1 : ptrsL n = [] := by
      rcases form_cases h.1 with hc | hc | hc
      · unfold ptrsL; rw [nil_of_len hc.2.2.1, nil_of_len hc.2.2.2.2.2]; rfl
      · omega
      · omega
    rw [h1]; simp; omega
  | succ d => rfl
end Go.Proofs.YtbijfkpilncclaaGreat

namespace Go.Proofs.YtbijfkpilncclaaGreat
open Go.RowKit
theorem node_ok {n : Nd} (h : nodeOk n = true) : okN 8 n = true ∧ wordsN 8 n ≤ 199 := by
  unfold nodeOk at h
  rw [Bool.and_eq_true, decide_eq_true_eq] at h
  exact h
theorem ok_node {n : Nd} (h : okN 8 n = true) (hw : wordsN 8 n ≤ 199) : nodeOk n = true := by
  unfold nodeOk
  rw [h, decide_eq_true hw]; rfl
theorem ptrs_sub {n y : Nd} (hy : y ∈ n.items) (f : Nd → Nat) : (y.ptrs.map f).sum ≤ ((ptrsL n).map f).sum := by
  have h1 : (y.ptrs.map f).sum ≤ ((n.items.flatMap Nd.ptrs).map f).sum := by
    generalize n.items = l at hy
    induction l with
    | nil => cases hy
    | cons a t ih =>
      rw [List.flatMap_cons, List.map_append, List.sum_append]
      rcases List.mem_cons.1 hy with rfl | h
      · omega
      · have := ih h; omega
  unfold ptrsL
  rw [List.map_append, List.sum_append]
  omega
end Go.Proofs.YtbijfkpilncclaaGreat

namespace Go.Proofs.YtbijfkpilncclaaGreat
open Go.RowKit
end Go.Proofs.YtbijfkpilncclaaGreat

namespace Go.Proofs.YtbijfkpilncclaaGreat
open Go.RowKit
end Go.Proofs.YtbijfkpilncclaaGreat

namespace Go.Proofs.YtbijfkpilncclaaGreat
open Go.RowKit
theorem leB_add (n : Int) : ∀ (a b : Nat), leB n (a + b) = leB n a ++ leB (n / 256 ^ a) b
  | 0, b => by simp [leB]
  | a + 1, b => by
    rw [show a + 1 + b = (a + b) + 1 by omega, leB, leB, leB_add (n / 256) a b, List.cons_append, Int.pow_succ, Int.mul_comm (256 ^ a) 256, Int.ediv_ediv_of_nonneg (by decide)]
theorem leB_md (n m : Int) : ∀ (k : Nat) (c : Int), n = m + c * 256 ^ k → leB n k = leB m k
  | 0, _, _ => rfl
  | k + 1, c, h => by
    have e : n = m + 256 * (c * 256 ^ k) := by rw [h, Int.pow_succ, Int.mul_comm (256 ^ k) 256, ← Int.mul_assoc, Int.mul_comm c 256, Int.mul_assoc]
    rw [leB, leB, leB_md (n / 256) (m / 256) k c (by omega), show n % 256 = m % 256 by omega]
theorem leB_two (lo hi : Int) (h0 : 0 ≤ lo) (h1 : lo < 4294967296) : leB (lo + 4294967296 * hi) 8 = leB lo 4 ++ leB hi 4 := by
  have h := leB_add (lo + 4294967296 * hi) 4 4
  have e : (256 : Int) ^ 4 = 4294967296 := rfl
  rw [e, show (lo + 4294967296 * hi) / 4294967296 = hi by omega] at h
  rw [h, leB_md (lo + 4294967296 * hi) lo 4 hi (by rw [e]; omega)]
theorem leB_four (d p : Int) (h0 : 0 ≤ d) (h1 : d < 65536) : leB (d + 65536 * p) 4 = leB d 2 ++ leB p 2 := by
  have h := leB_add (d + 65536 * p) 2 2
  have e : (256 : Int) ^ 2 = 65536 := rfl
  rw [e, show (d + 65536 * p) / 65536 = p by omega] at h
  rw [h, leB_md (d + 65536 * p) d 2 p (by rw [e]; omega)]
def offN (o : Int) : Int := o % 1073741824 * 4
theorem offN_bd (o : Int) : 0 ≤ offN o ∧ offN o ≤ 4294967292 := by unfold offN; omega
end Go.Proofs.YtbijfkpilncclaaGreat

namespace Go.Proofs.YtbijfkpilncclaaGreat
open Go.RowKit
abbrev Segs := List (List UInt8)
def sgS (ss : Segs) (i : Nat) : List UInt8 := ss[i]?.getD []
def wn (s : List UInt8) : Nat := s.length / 8
def totS (ss : Segs) : Nat := (ss.map wn).sum
def zer (k : Nat) : List UInt8 := List.replicate (8 * k) 0
def spl (s : List UInt8) (p : Nat) (t : List UInt8) : List UInt8 := s.take p ++ t ++ s.drop (p + t.length)
def growB (ss : Segs) (i k : Nat) : Segs := ss.set i (sgS ss i ++ zer k)
def putS (ss : Segs) (i a : Nat) (t : List UInt8) : Segs := ss.set i (spl (sgS ss i) (8 * a) t)
def w8 (lo hi : Int) : List UInt8 := leB lo 4 ++ leB hi 4
def ptrW (n : Nd) (off : Int) : List UInt8 :=
  if n.kind = 1 then w8 (offN off) ((n.data.size / 8 : Nat) + 65536 * (n.ptrs.length : Int))
  else if n.size = 7 then w8 (offN off + 1) (((ownN n : Int) - 1) * 8 + 7) else w8 (offN off + 1) (n.count * 8 + n.size)
def farW (off seg : Nat) : List UInt8 := w8 ((off : Int) * 8 + 2) seg
def itD (n : Nd) : Nat := (n.items.headD default).data.size / 8
def itP (n : Nd) : Nat := (n.items.headD default).ptrs.length
def tagW (n : Nd) : List UInt8 := w8 (offN n.count) ((itD n : Nat) + 65536 * (itP n : Int))
def otherP (size : Nat) (ss : Segs) (k : Nat) : Option (Segs × Nat) :=
  if wn (sgS ss (ss.length - 1)) + k ≤ size then some (ss, ss.length - 1) else if ss.length < 6 then some (ss ++ [[]], ss.length) else none
def roomP (L size : Nat) (n : Nd) (ss : Segs) (i a : Nat) : Option (Segs × Nat × Nat) :=
  if wn (sgS ss i) + ownN n ≤ size then
    (if totS ss + ownN n ≤ L then some (putS (growB ss i (ownN n)) i a (ptrW n ((wn (sgS ss i) : Int) - a - 1)), i, wn (sgS ss i)) else none)
  else match otherP size ss (1 + ownN n) with
    | none => none
    | some (s1, j) => if totS s1 + (1 + ownN n) ≤ L then some (putS (putS (growB s1 j (1 + ownN n)) i a (farW (wn (sgS s1 j)) j)) j (wn (sgS s1 j)) (ptrW n 0), j, wn (sgS s1 j) + 1) else none
abbrev Wr := Nd → Segs → Nat → Nat → Option Segs
def ptrsP (wr : Wr) : List Nd → Segs → Nat → Nat → Option Segs
  | [], ss, _, _ => some ss
  | p :: t, ss, i, a => (wr p ss i a).bind fun s1 => ptrsP wr t s1 i (a + 1)
def bodyP (wr : Wr) (n : Nd) (ss : Segs) (i a : Nat) : Option Segs := ptrsP wr n.ptrs (putS ss i a n.data.data.toList) i (a + (n.data.size + 7) / 8)
def itemsP (wr : Wr) (each : Nat) : List Nd → Segs → Nat → Nat → Option Segs
  | [], ss, _, _ => some ss
  | y :: t, ss, i, a => (bodyP wr y ss i a).bind fun s1 => itemsP wr each t s1 i (a + each)
def fillP (wr : Wr) (n : Nd) (ss : Segs) (i a : Nat) : Option Segs :=
  if n.kind = 2 ∧ n.size = 7 then itemsP wr (itD n + itP n) n.items (putS ss i a (tagW n)) i (a + 1) else bodyP wr n ss i a
def wrP (L size : Nat) : Nat → Wr
  | 0, _, ss, _, _ => some ss
  | d + 1, n, ss, i, a =>
    if n.kind = 0 then some ss
    else if ownN n = 0 then some (putS ss i a (ptrW n (if n.kind = 1 then -1 else 0)))
    else (roomP L size n ss i a).bind fun r => fillP (wrP L size d) n r.1 r.2.1 r.2.2
def buildP (L size : Nat) (n : Nd) : Option Segs := wrP L size 8 n [zer 1] 0 0
theorem ptrsP_snoc (wr : Wr) : ∀ (l : List Nd) (p : Nd) (ss : Segs) (i a : Nat), ptrsP wr (l ++ [p]) ss i a = (ptrsP wr l ss i a).bind fun s1 => wr p s1 i (a + l.length)
  | [], p, ss, i, a => by simp [ptrsP]
  | q :: t, p, ss, i, a => by
    simp only [List.cons_append, ptrsP, Option.bind_assoc, List.length_cons]
    congr 1
    funext s1
    rw [ptrsP_snoc wr t p s1 i (a + 1), show a + 1 + t.length = a + (t.length + 1) by omega]
theorem itemsP_snoc (wr : Wr) (each : Nat) : ∀ (l : List Nd) (p : Nd) (ss : Segs) (i a : Nat), itemsP wr each (l ++ [p]) ss i a = (itemsP wr each l ss i a).bind fun s1 => bodyP wr p s1 i (a + l.length * each)
  | [], p, ss, i, a => by simp [itemsP]
  | q :: t, p, ss, i, a => by
    simp only [List.cons_append, itemsP, Option.bind_assoc, List.length_cons]
    congr 1
    funext s1
    rw [itemsP_snoc wr each t p s1 i (a + each), show a + each + t.length * each = a + (t.length + 1) * each by rw [Nat.add_mul]; omega]
theorem ptrsP_none (wr : Wr) : ∀ (l m : List Nd) (ss : Segs) (i a : Nat), ptrsP wr l ss i a = none → ptrsP wr (l ++ m) ss i a = none
  | [], m, ss, i, a, h => by cases h
  | q :: t, m, ss, i, a, h => by
    simp only [List.cons_append, ptrsP] at h ⊢
    cases hq : wr q ss i a with
    | none => rfl
    | some s1 => rw [hq] at h; exact ptrsP_none wr t m s1 i (a + 1) h
theorem itemsP_none (wr : Wr) (each : Nat) : ∀ (l m : List Nd) (ss : Segs) (i a : Nat), itemsP wr each l ss i a = none → itemsP wr each (l ++ m) ss i a = none
  | [], m, ss, i, a, h => by cases h
  | q :: t, m, ss, i, a, h => by
    simp only [List.cons_append, itemsP] at h ⊢
    cases hq : bodyP wr q ss i a with
    | none => rfl
    | some s1 => rw [hq] at h; exact itemsP_none wr each t m s1 i (a + each) h
theorem ptrsP_take (wr : Wr) (l : List Nd) (k : Nat) (hk : k < l.length) (ss : Segs) (i a : Nat) : ptrsP wr (l.take (k + 1)) ss i a = (ptrsP wr (l.take k) ss i a).bind fun s1 => wr l[k] s1 i (a + k) := by
  rw [List.take_succ_eq_append_getElem hk, ptrsP_snoc, List.length_take, Nat.min_eq_left (by omega)]
theorem itemsP_take (wr : Wr) (each : Nat) (l : List Nd) (k : Nat) (hk : k < l.length) (ss : Segs) (i a : Nat) : itemsP wr each (l.take (k + 1)) ss i a = (itemsP wr each (l.take k) ss i a).bind fun s1 => bodyP wr l[k] s1 i (a + k * each) := by
  rw [List.take_succ_eq_append_getElem hk, itemsP_snoc, List.length_take, Nat.min_eq_left (by omega)]
theorem ptrsP_cut (wr : Wr) (l : List Nd) (k : Nat) (ss : Segs) (i a : Nat) (h : ptrsP wr (l.take k) ss i a = none) : ptrsP wr l ss i a = none := by
  have := ptrsP_none wr (l.take k) (l.drop k) ss i a h
  rwa [List.take_append_drop] at this
theorem itemsP_cut (wr : Wr) (each : Nat) (l : List Nd) (k : Nat) (ss : Segs) (i a : Nat) (h : itemsP wr each (l.take k) ss i a = none) : itemsP wr each l ss i a = none := by
  have := itemsP_none wr each (l.take k) (l.drop k) ss i a h
  rwa [List.take_append_drop] at this
theorem sgS_set {ss : Segs} {i : Nat} {x : List UInt8} (h : i < ss.length) (j : Nat) : sgS (ss.set i x) j = if j = i then x else sgS ss j := by
  unfold sgS
  rw [List.getElem?_set]
  by_cases e : i = j
  · subst e; simp [h]
  · rw [if_neg e, if_neg (fun x => e x.symm)]
theorem sgS_app {ss : Segs} {x : List UInt8} (j : Nat) : sgS (ss ++ [x]) j = if j = ss.length then x else sgS ss j := by
  unfold sgS
  by_cases e : j < ss.length
  · rw [List.getElem?_append_left e, if_neg (by omega)]
  · rw [List.getElem?_append_right (by omega)]
    by_cases e2 : j = ss.length
    · subst e2; simp
    · rw [if_neg e2, List.getElem?_eq_none (by simp; omega), List.getElem?_eq_none (by omega)]
theorem sgS_out {ss : Segs} {i : Nat} (h : ss.length ≤ i) : sgS ss i = [] := by unfold sgS; rw [List.getElem?_eq_none h]; rfl
theorem spl_length {s t : List UInt8} {p : Nat} (h : p + t.length ≤ s.length) : (spl s p t).length = s.length := by
  unfold spl; simp only [List.length_append, List.length_take, List.length_drop]; omega
theorem putS_length (ss : Segs) (i a : Nat) (t : List UInt8) : (putS ss i a t).length = ss.length := by unfold putS; simp
theorem growB_length (ss : Segs) (i k : Nat) : (growB ss i k).length = ss.length := by unfold growB; simp
theorem zer_length (k : Nat) : (zer k).length = 8 * k := by simp [zer]
theorem w8_length (a b : Int) : (w8 a b).length = 8 := by unfold w8; rw [List.length_append, leB_length, leB_length]
theorem ptrW_length (n : Nd) (o : Int) : (ptrW n o).length = 8 := by
  unfold ptrW
  split
  · exact w8_length _ _
  · split <;> exact w8_length _ _
theorem farW_length (a b : Nat) : (farW a b).length = 8 := w8_length _ _
theorem tagW_length (n : Nd) : (tagW n).length = 8 := w8_length _ _
def WdS (ss : Segs) : Prop := ∀ i, (sgS ss i).length % 8 = 0
def Alen (ss s1 : Segs) : Prop := ss.length = s1.length ∧ ∀ i, (sgS ss i).length = (sgS s1 i).length
def Grew (ss s1 : Segs) : Prop := ss.length ≤ s1.length ∧ ∀ i, (sgS ss i).length ≤ (sgS s1 i).length
theorem Alen.grew {ss s1 : Segs} (h : Alen ss s1) : Grew ss s1 := ⟨Nat.le_of_eq h.1, fun i => Nat.le_of_eq (h.2 i)⟩
theorem Grew.refl (ss : Segs) : Grew ss ss := ⟨Nat.le_refl _, fun _ => Nat.le_refl _⟩
theorem Grew.trans {a b c : Segs} (h : Grew a b) (g : Grew b c) : Grew a c := ⟨Nat.le_trans h.1 g.1, fun i => Nat.le_trans (h.2 i) (g.2 i)⟩
theorem Grew.wn {a b : Segs} (h : Grew a b) (i : Nat) : wn (sgS a i) ≤ wn (sgS b i) := Nat.div_le_div_right (h.2 i)
theorem Alen.wds {a b : Segs} (h : Alen a b) (hw : WdS a) : WdS b := fun i => by rw [← h.2 i]; exact hw i
theorem totS_set {ss : Segs} : ∀ {i : Nat} (x : List UInt8), i < ss.length → totS (ss.set i x) + wn (sgS ss i) = totS ss + wn x := by
  induction ss with
  | nil => intro i x h; cases h
  | cons s t ih =>
    intro i x h
    cases i with
    | zero => simp [totS, sgS]; omega
    | succ i =>
      have := ih (i := i) x (by simpa using h)
      simp only [totS, sgS, List.set_cons_succ, List.map_cons, List.sum_cons, List.getElem?_cons_succ] at this ⊢
      omega
theorem totS_app (ss : Segs) (x : List UInt8) : totS (ss ++ [x]) = totS ss + wn x := by simp [totS]
theorem wn_le_totS (ss : Segs) (i : Nat) : wn (sgS ss i) ≤ totS ss := by
  by_cases h : i < ss.length
  · have := totS_set (ss := ss) (i := i) [] h
    have : wn [] = 0 := rfl
    omega
  · rw [sgS_out (by omega)]; exact Nat.zero_le _
theorem spl_alen {ss : Segs} {i o : Nat} {t : List UInt8} (h : i < ss.length) (ha : o + t.length ≤ (sgS ss i).length) : Alen ss (ss.set i (spl (sgS ss i) o t)) := by
  refine ⟨by simp, fun j => ?_⟩
  rw [sgS_set h]
  split
  · rename_i e; subst e; exact (spl_length ha).symm
  · rfl
theorem put_alen {ss : Segs} {i a : Nat} {t : List UInt8} (h : i < ss.length) (ha : 8 * a + t.length ≤ (sgS ss i).length) : Alen ss (putS ss i a t) := by
  refine ⟨(putS_length _ _ _ _).symm, fun j => ?_⟩
  unfold putS
  rw [sgS_set h]
  split
  · rename_i e; subst e; exact (spl_length ha).symm
  · rfl
theorem alen_totS : ∀ {a b : Segs}, Alen a b → totS a = totS b
  | [], [], _ => rfl
  | [], _ :: _, h => by cases h.1
  | _ :: _, [], h => by cases h.1
  | x :: a, y :: b, h => by
    have h1 : wn x = wn y := by have := h.2 0; simp [sgS] at this; unfold wn; rw [this]
    have h2 : totS a = totS b := alen_totS ⟨by have := h.1; simpa using this, fun i => by have := h.2 (i + 1); simpa [sgS] using this⟩
    simp only [totS, List.map_cons, List.sum_cons] at h2 ⊢
    omega
theorem put_totS {ss : Segs} {i a : Nat} {t : List UInt8} (h : i < ss.length) (ha : 8 * a + t.length ≤ (sgS ss i).length) : totS (putS ss i a t) = totS ss := (alen_totS (put_alen h ha)).symm
theorem sgS_grow {ss : Segs} {i k : Nat} (h : i < ss.length) (j : Nat) : sgS (growB ss i k) j = if j = i then sgS ss i ++ zer k else sgS ss j := sgS_set h j
theorem wn_grow {ss : Segs} {i k : Nat} (h : i < ss.length) : wn (sgS (growB ss i k) i) = wn (sgS ss i) + k := by
  rw [sgS_grow h, if_pos rfl]; unfold wn; rw [List.length_append, zer_length]; omega
theorem grow_grew {ss : Segs} {i k : Nat} (h : i < ss.length) : Grew ss (growB ss i k) := by
  refine ⟨Nat.le_of_eq (growB_length _ _ _).symm, fun j => ?_⟩
  rw [sgS_grow h]; split
  · rename_i e; subst e; simp
  · exact Nat.le_refl _
theorem grow_wds {ss : Segs} {i k : Nat} (h : i < ss.length) (hw : WdS ss) : WdS (growB ss i k) := by
  intro j
  rw [sgS_grow h]; split
  · rename_i e; subst e; rw [List.length_append, zer_length]; have := hw j; omega
  · exact hw j
theorem grow_totS {ss : Segs} {i k : Nat} (h : i < ss.length) : totS (growB ss i k) = totS ss + k := by
  have := totS_set (ss := ss) (i := i) (sgS ss i ++ zer k) h
  unfold growB
  have h2 : wn (sgS ss i ++ zer k) = wn (sgS ss i) + k := by unfold wn; rw [List.length_append, zer_length]; omega
  omega
theorem app_grew (ss : Segs) : Grew ss (ss ++ [[]]) := by
  refine ⟨by simp, fun j => ?_⟩
  rw [sgS_app]; split
  · rename_i e; subst e; rw [sgS_out (Nat.le_refl _)]; exact Nat.le_refl _
  · exact Nat.le_refl _
theorem app_wds {ss : Segs} (hw : WdS ss) : WdS (ss ++ [[]]) := by
  intro j; rw [sgS_app]; split
  · rfl
  · exact hw j
theorem wds_len {ss : Segs} (h : WdS ss) (i : Nat) : (sgS ss i).length = 8 * wn (sgS ss i) := by unfold wn; have := h i; omega
theorem spl_step (s t : List UInt8) (p k : Nat) (hk : k < t.length) (h : p + t.length ≤ s.length) : spl (spl s p (t.take k)) (p + k) [t[k]] = spl s p (t.take (k + 1)) := by
  have hl : (t.take k).length = k := by rw [List.length_take]; omega
  have hl1 : (t.take (k + 1)).length = k + 1 := by rw [List.length_take]; omega
  have e0 : (s.take p).length = p := by rw [List.length_take]; omega
  unfold spl
  rw [hl, hl1, List.length_singleton]
  have e1 : (s.take p ++ t.take k ++ s.drop (p + k)).take (p + k) = s.take p ++ t.take k := List.take_left' (by rw [List.length_append, e0, hl])
  have e2 : (s.take p ++ t.take k ++ s.drop (p + k)).drop (p + k + 1) = s.drop (p + (k + 1)) := by
    rw [← List.drop_drop, List.drop_left' (by rw [List.length_append, e0, hl]), List.drop_drop]
    congr 1
  rw [e1, e2, List.take_succ_eq_append_getElem hk]
  simp
theorem spl_nil (s : List UInt8) (p : Nat) : spl s p [] = s := by unfold spl; simp
theorem set_sgS (ss : Segs) (i : Nat) : ss.set i (sgS ss i) = ss := by
  apply List.ext_getElem?
  intro j
  rw [List.getElem?_set]
  split
  · rename_i e
    subst e
    split
    · rename_i h; unfold sgS; rw [List.getElem?_eq_getElem h]; rfl
    · rename_i h; rw [List.getElem?_eq_none (by omega)]
  · rfl
theorem putS_nil (ss : Segs) (i a : Nat) : putS ss i a [] = ss := by unfold putS; rw [spl_nil, set_sgS]
theorem putS_step (ss : Segs) (i a k : Nat) (t : List UInt8) (hi : i < ss.length) (hk : k < t.length) (h : 8 * a + t.length ≤ (sgS ss i).length) :
    (putS ss i a (t.take k)).set i (spl (sgS (putS ss i a (t.take k)) i) (8 * a + k) [t[k]]) = putS ss i a (t.take (k + 1)) := by
  have e : sgS (putS ss i a (t.take k)) i = spl (sgS ss i) (8 * a) (t.take k) := by unfold putS; rw [sgS_set hi, if_pos rfl]
  rw [e, spl_step _ _ _ _ hk h]
  unfold putS
  rw [List.set_set]
end Go.Proofs.YtbijfkpilncclaaGreat
