/- Texts of the proof of the law FnSend, side by side: part 4. -/
import Derived.Test.YtlbfffokkhccaaaGreatDoorMSend03
set_option maxHeartbeats 8000000
set_option maxRecDepth 100000
namespace Go.Proofs.YtlbfffokkhccaaaGreatDoor
open Go.RowKit
abbrev measT : TypeId := 106
def okN : Nat → Nd → Bool
 | 0, n => formN n && decide (n.kind = 0)
 | d + 1, n => formN n && (decide (n.kind = 0) || (ptrsL n).all (okN d))
def wordsN : Nat → Nd → Nat
 | 0, _ => 0
 | d + 1, n => ownN n + ((ptrsL n).map (wordsN d)).sum
theorem ok_form {d : Nat} {n : Nd} (h : formN n = false) : okN d n = false := by
 cases d <;> simp [okN, h]
theorem nil_of_len {α : Type} {l : List α} (h : l.length = 0) : l = [] := List.eq_nil_of_length_eq_zero h
theorem none_words {d : Nat} {n : Nd} (h : formN n = true) (hk : n.kind = 0) : okN d n = true ∧ wordsN d n = 0 := by
 rcases form_cases h with hc | hc | hc
 · obtain ⟨_, h1, h2, _, _, h5⟩ := hc
   have e1 : ptrsL n = [] := by unfold ptrsL; rw [nil_of_len h2, nil_of_len h5]; rfl
   have e2 : ownN n = 0 := by unfold ownN ownB; rw [h1, h2, nil_of_len h5, hk]; rfl
   cases d
   · exact ⟨by simp [okN, h, hk], rfl⟩
   · exact ⟨by simp [okN, h, hk], by simp [wordsN, e1, e2]⟩
 · omega
 · omega
theorem cell_single {w : World} {b : Nat} {v : Value} {T : TypeId} {p : Addr} {n : Nd} {h : Hd} (hb : w.heap[b]? = some (.cells #[v] T (0, 0))) (hc : NdCell w p n h) : p.block ≠ b := by
 intro e
 have h1 := hc.c1
 rw [e, cell_of_row _ _ _ _ _ _ hb] at h1
 simp at h1
theorem NdsAt.keeps {w w' : World} {S : Nat → Prop} {m b : Nat} {A : Option Addr} {l : List Nd} {v : Value} {T : TypeId} (h : NdsAt w S m A l) (hb : w.heap[b]? = some (.cells #[v] T (0, 0))) (hk : Keeps w.heap.size b w w') : NdsAt w' S m A l :=
 NdsAt.map (fun _ h => h) (fun _p _ _ _ hc => hc.block (hk.block _ hc.lt (cell_single hb hc))) _ _ _ h
theorem NdAt.keeps {w w' : World} {S : Nat → Prop} {m b : Nat} {n : Nd} {h : Hd} {v : Value} {T : TypeId} (hn : NdAt w S m n h) (hb : w.heap[b]? = some (.cells #[v] T (0, 0))) (hk : Keeps w.heap.size b w w') : NdAt w' S m n h :=
 ⟨hn.1, hn.2.1.keeps hb hk, hn.2.2.keeps hb hk⟩
theorem totL_eq {w : World} {S : Nat → Prop} : ∀ (m : Nat) (A : Option Addr) (l : List Nd), NdsAt w S m A l → totL (m + 1) l = totL m l
 | 0, A, l, h => by rw [h.zero]; rfl
 | m + 1, A, l, h => by
   rw [totL_succ (m + 1), totL_succ m]
   congr 1
   apply List.map_congr_left
   intro n hn
   obtain ⟨hd, h1⟩ := h.mem n hn
   unfold totN
   rw [totL_eq m _ _ h1.2.1, totL_eq m _ _ h1.2.2]
theorem flat_tot (l : List Nd) (m : Nat) : totL (m + 1) (l.flatMap Nd.ptrs) = (l.map fun y => totL (m + 1) y.ptrs).sum := by
 induction l with
 | nil => rfl
 | cons a t ih => rw [List.flatMap_cons, totL_succ, List.map_append, List.sum_append, ← totL_succ, ← totL_succ, ih]; rfl
theorem tot_ptrs {w : World} {S : Nat → Prop} {m : Nat} {n : Nd} {h : Hd} (hn : NdAt w S m n h) : totL m (ptrsL n) ≤ totN m n := by
 cases m with
 | zero => exact Nat.zero_le _
 | succ m =>
  have h1 : totL (m + 1) (ptrsL n) = totL (m + 1) n.ptrs + (n.items.map fun y => totL (m + 1) y.ptrs).sum := by
   unfold ptrsL
   rw [totL_succ, List.map_append, List.sum_append, ← totL_succ, ← totL_succ, flat_tot]
  have h2 : (n.items.map fun y => totL (m + 1) y.ptrs).sum ≤ totL (m + 1) n.items := by
   rw [totL_succ]
   refine sum_le _ _ _ fun y hy => ?_
   obtain ⟨hd, h3⟩ := hn.2.2.mem y hy
   rw [totL_eq m _ _ h3.2.1]
   unfold totN
   omega
  rw [h1]
  unfold totN
  omega
theorem ptrs_len {w : World} {S : Nat → Prop} {m : Nat} {n : Nd} {h : Hd} (hn : NdAt w S m n h) : (ptrsL n).length ≤ totL m (ptrsL n) := by
 cases m with
 | zero =>
  unfold ptrsL
  rw [hn.2.1.zero, hn.2.2.zero]
  simp
 | succ m => exact totL_len m _
theorem own_bound {w : World} {S : Nat → Prop} {m : Nat} {n : Nd} {h : Hd} (hn : NdAt w S m n h) (ht : totN m n ≤ 2000000) : ownN n ≤ 3000000 := by
 have h1 : ownB n ≤ n.data.size + n.ptrs.length := by unfold ownB; omega
 have h2 := own_sum hn.2.2
 have h3 := len_tot hn.2.1
 unfold ownN
 unfold totN at ht
 split <;> omega
abbrev msr (ws : Int) : Obj := .cells #[.int .i64 ws] measT (0, 0)
def AlP (d : Nat) (n : Nd) (b : Nat) (ws : Int) (w : World) (e : Ending) (w' : World) : Prop :=
 ∃ (r : Bool) (z : Int), e = .returned (.bool r) ∧ Keeps w.heap.size b w w' ∧ w'.heap[b]? = some (msr z) ∧ 0 ≤ z ∧ z ≤ 4000000 ∧ (r = true → okN d n = true ∧ z = ws + (wordsN d n : Nat) ∧ z ≤ 199) ∧ (r = false → okN d n = false ∨ 200 ≤ ws + (wordsN d n : Nat))
def AlD (d : Nat) : Prop := ∀ (m : Nat) (n : Nd) (h : Hd) (w : World) (S : Nat → Prop) (b : Nat) (ws : Int), NdAt w S m n h → totN m n ≤ 2000000 → w.heap[b]? = some (msr ws) → 0 ≤ ws → ws ≤ 199 →
 Calls Tryz.prog 69 #[.pointer (some ⟨b, 0, none⟩), .agg #[.int .i64 n.kind, .string n.data, .slice h.A n.ptrs.length h.a, .int .i64 n.size, .int .i64 n.count, .slice h.B n.items.length h.b], .int .i64 (9 - (d : Int))] w (AlP d n b ws w)
theorem own_le_words {d : Nat} {n : Nd} : ownN n ≤ wordsN (d + 1) n := by simp [wordsN]
theorem meas_cell {w : World} {b : Nat} {z : Int} (h : w.heap[b]? = some (msr z)) : w.cell? ⟨b, 0, none⟩ = some (.int .i64 z) := by rw [cell_of_row _ _ _ _ _ _ h]; rfl
theorem allows_step (d : Nat) (hd : d ≤ 8) (ih : ∀ j, d = j + 1 → AlD j) : AlD d := by
 intro m n h w S b ws hn ht hrow hw0 hw1
 obtain ⟨qA, qa, qB, qb⟩ := h
 dsimp only at hn ⊢
 have hpl : n.ptrs.length ≤ 2000000 := totL_len' hn.2.1 (by unfold totN at ht; omega)
 have hil : n.items.length ≤ 2000000 := totL_len' hn.2.2 (by unfold totN at ht; omega)
 have hblt := row_lt hrow
 have HP := Lib.hid (fun (W : World) (hb : Below w.heap.size w W) => hasParts_a m n ⟨qA, qa, qB, qb⟩ W S (hn.below hb) hil hpl)
 dsimp only at HP
 have HIH := Lib.hid ih
 have HN := Lib.hid hn
 have HT := Lib.hid ht
 have HR := Lib.hid hrow
 have HB0 := Lib.hid ((Below.refl w.heap.size w).alloc (Nat.le_refl _) (.cells #[.int .i64 n.kind, .string n.data, .slice qA n.ptrs.length qa, .int .i64 n.size, .int .i64 n.count, .slice qB n.items.length qb] nodeT))
 have HBX := Lib.hid (heap_alloc_new w (.cells #[.int .i64 n.kind, .string n.data, .slice qA n.ptrs.length qa, .int .i64 n.size, .int .i64 n.count, .slice qB n.items.length qb] nodeT))
 clear ih hn ht hrow
 cases hf : formN n
 · have HX := Lib.hid (ok_form (d := d) hf)
   rw [hf] at HP
   go_enter Tryz.func69, Tryz.ntmps69
   go_wp2_with fail
   refine (HP.out _ HB0.out).mono ?_
   rintro e w1 ⟨rfl, hb1⟩
   have HB1 := Lib.hid (HB0.out.trans (hb1.mono HB0.out.size))
   clear hb1
   go_wp2
   go_ret
   exact ⟨false, ws, rfl, Keeps.of_below HB1.out, (HB1.out.block _ hblt).trans HR.out, hw0, by omega, fun h => (by cases h), fun _ => .inl HX.out⟩
 rw [hf] at HP
 have HF := Lib.hid hf
 clear hf
 by_cases hk : n.kind = 0
 · have HX := Lib.hid (none_words (d := d) HF.out hk)
   have hkb : (n.kind == 0) = true := by rw [hk]; rfl
   clear hk
   go_enter Tryz.func69, Tryz.ntmps69
   go_wp2_with fail
   refine (HP.out _ HB0.out).mono ?_
   rintro e w1 ⟨rfl, hb1⟩
   obtain ⟨a0, a1, a2, a3, a4, a5⟩ := cells6 ((hb1.block w.heap.size (by simp)).trans HBX.out)
   have HB1 := Lib.hid (HB0.out.trans (hb1.mono HB0.out.size))
   clear hb1
   go_wp2
   go_ret
   exact ⟨true, ws, rfl, Keeps.of_below HB1.out, (HB1.out.block _ hblt).trans HR.out, hw0, by omega, fun _ => ⟨HX.out.1, by rw [HX.out.2]; omega, hw1⟩, fun h => (by cases h)⟩
 have hkb : (n.kind == 0) = false := by simpa using hk
 have HK := Lib.hid hk
 have HOW := Lib.hid (fun (W : World) (hb : Below w.heap.size w W) => ownWords_a m n ⟨qA, qa, qB, qb⟩ W S (HN.out.below hb) HF.out HT.out)
 dsimp only at HOW
 have hob : ownN n ≤ 3000000 := own_bound HN.out HT.out
 generalize hon : ownN n = on at HOW hob
 have HON := Lib.hid hon
 clear hk hon
 have hwrap : IntKind.i64.wrap (ws + (on : Int)) = ws + (on : Int) := by
  rw [IntKind.wrap_i64]
  omega
 obtain ⟨D, hD⟩ : ∃ D : Int, D = 9 - (d : Int) := ⟨_, rfl⟩
 have hD8 : 1 ≤ D ∧ D ≤ 9 := by omega
 rw [← hD]
 have HD := Lib.hid hD
 clear hD
 go_enter Tryz.func69, Tryz.ntmps69
 go_wp2_with fail
 refine (HP.out _ HB0.out).mono ?_
 rintro e w1 ⟨rfl, hb1⟩
 have hk1 := (hb1.block w.heap.size (by simp)).trans HBX.out
 have HBX1 := Lib.hid hk1
 have hlt1 := row_lt hk1
 obtain ⟨a0, a1, a2, a3, a4, a5⟩ := cells6 hk1
 have HB1 := Lib.hid (HB0.out.trans (hb1.mono HB0.out.size))
 have HR1 := Lib.hid ((HB1.out.block _ hblt).trans HR.out)
 have hmc := meas_cell HR1.out
 have hmf := row_free HR1.out 0
 clear hb1 hk1
 go_wp2_with fail
 go_region_with (go_at_call 70; refine (HOW.out _ (by exact HB1.out.drew)).mono ?_; rintro e w2 ⟨rfl, hb2⟩; have hmc2 := meas_cell ((hb2.block _ (by have := HB1.out.size; simp; omega)).trans HR1.out); have hmf2 := row_free ((hb2.block _ (by have := HB1.out.size; simp; omega)).trans HR1.out) 0)
 all_goals
  have hrow2 := (hb2.block b (by have := HB1.out.size; simp; omega)).trans HR1.out
  have hbox2 := (hb2.block w.heap.size (by simpa using hlt1)).trans HBX1.out
  have hB2 : Below w.heap.size w w2 := HB1.out.drew.trans (hb2.mono (by simpa using HB1.out.size))
  try rw [hwrap]
  have kp3 : Keeps w.heap.size b w (w2.setCell ⟨b, 0, none⟩ (.int .i64 (ws + (on : Int)))) := (Keeps.of_below hB2).trans ((set_keeps w2.heap.size b w2 0 _).mono hB2.size)
  have row3 : (w2.setCell ⟨b, 0, none⟩ (.int .i64 (ws + (on : Int)))).heap[b]? = some (msr (ws + (on : Int))) := row_setN hrow2 0 _
  have box3 := (Below.heap_setCell w2 ⟨b, 0, none⟩ (.int .i64 (ws + (on : Int))) w.heap.size (by simp; omega)).trans hbox2
  have hlt3 := row_lt box3
  generalize w2.setCell ⟨b, 0, none⟩ (.int .i64 (ws + (on : Int))) = W3 at *
  have KP3 := Lib.hid kp3
  have ROW3 := Lib.hid row3
  have BOX3 := Lib.hid box3
  clear hb2 hB2 hmc hmf hmc2 hmf2 a0 a1 a2 a3 a4 a5 hrow2 hbox2 kp3 row3 box3
  have hmc3 := meas_cell ROW3.out
  by_cases hd0 : d = 0
  · have hD1 : decide (8 < D) = true := decide_eq_true (by have := HD.out; omega)
    have HX : Hid (okN d n = false) := Lib.hid (by subst hd0; simp [okN, HK.out])
    go_wp2
    go_ret
    exact ⟨false, _, rfl, KP3.out, ROW3.out, by omega, by omega, fun h => (by cases h), fun _ => .inl HX.out⟩
  · obtain ⟨j, rfl⟩ : ∃ j, d = j + 1 := ⟨d - 1, by omega⟩
    have HPO : Hid (∀ W : World, Keeps w.heap.size b w W → Calls Tryz.prog 82 #[.agg #[.int .i64 n.kind, .string n.data, .slice qA n.ptrs.length qa, .int .i64 n.size, .int .i64 n.count, .slice qB n.items.length qb]] W fun e w' => ∃ A c, e = .returned (.slice A (ptrsL n).length c) ∧ NdsAt w' Any m A (ptrsL n) ∧ Below W.heap.size W w') := Lib.hid fun W hk => ptrsOf_a m n ⟨qA, qa, qB, qb⟩ W S (HN.out.keeps HR.out hk) HT.out
    have HTT : Hid (totL m (ptrsL n) ≤ 2000000) := Lib.hid (Nat.le_trans (tot_ptrs HN.out) HT.out)
    have HLN : Hid ((ptrsL n).length ≤ 2000000) := Lib.hid (Nat.le_trans (ptrs_len HN.out) HTT.out)
    have HWW : Hid (wordsN (j + 1) n = on + ((ptrsL n).map (wordsN j)).sum) := Lib.hid (by rw [wordsN, HON.out])
    have HBAD : Hid (∀ p ∈ ptrsL n, okN j p = false → okN (j + 1) n = false) := Lib.hid fun p hp h => by
     have : (ptrsL n).all (okN j) = false := by rw [List.all_eq_false]; exact ⟨p, hp, by rw [h]; decide⟩
     simp [okN, HF.out, HK.out, this]
    have HGOOD : Hid ((ptrsL n).all (okN j) = true → okN (j + 1) n = true) := Lib.hid fun h => by simp only [okN, HF.out, h, Bool.or_true, Bool.and_true]
    have hD1 : decide (8 < D) = false := decide_eq_false (by have := HD.out; omega)
    by_cases h200 : 200 ≤ ws + (on : Int)
    · have HX : Hid (200 ≤ ws + (wordsN (j + 1) n : Nat)) := Lib.hid (by have := own_le_words (d := j) (n := n); rw [HON.out] at this; omega)
      have hd2 : decide (200 ≤ ws + (on : Int)) = true := decide_eq_true h200
      go_wp2
      go_ret
      exact ⟨false, _, rfl, KP3.out, ROW3.out, by omega, by omega, fun h => (by cases h), fun _ => .inr HX.out⟩
    · have hd2 : decide (200 ≤ ws + (on : Int)) = false := decide_eq_false h200
      obtain ⟨b0, b1, b2, b3, b4, b5⟩ := cells6 BOX3.out
      go_wp2_with fail
      refine (HPO.out W3 KP3.out).mono ?_
      rintro e w4 ⟨A4, c4, rfl, hn4, hb4⟩
      have KP4 := Lib.hid (KP3.out.trans ((Keeps.of_below hb4).mono KP3.out.size))
      have ROW4 := Lib.hid ((hb4.block b (row_lt ROW3.out)).trans ROW3.out)
      have HN4 := Lib.hid hn4
      have hz0 : 0 ≤ ws + (on : Int) := by omega
      have hz1 : ws + (on : Int) ≤ 199 := by omega
      clear hn4 hb4 b0 b1 b2 b3 b4 b5 hmc3 h200 hd2 hwrap
      have hlen := HLN.out
      have HIHJ := Lib.hid (HIH.out j rfl)
      generalize ptrsL n = pl at *
      go_wp2_with fail
      go_loopw [36] (fun i wr => ∃ k : Nat, i = .int .i64 k ∧ k ≤ pl.length ∧ Hid ((pl.take k).all (okN j) = true) ∧ Hid (∃ z : Int, Keeps w.heap.size b w wr ∧ wr.heap[b]? = some (msr z) ∧ NdsAt wr Any m A4 pl ∧ 0 ≤ z ∧ z ≤ 199 ∧ z = ws + (on : Int) + (((pl.take k).map (wordsN j)).sum : Nat))) (fun i _ => pl.length - (intOf i).toNat)
      case atStart => exact ⟨0, rfl, by omega, Lib.hid rfl, Lib.hid ⟨_, KP4.out, ROW4.out, HN4.out, hz0, hz1, by simp⟩⟩
      case round =>
       obtain ⟨k, rfl, hk, HA, HZ⟩ := hrel
       obtain ⟨z, kpr, rowr, hnr, z0, z1, hz⟩ := HZ.out
       by_cases hlt : k < pl.length
       · obtain ⟨m', rfl⟩ := hnr.pred hlt
         obtain ⟨x, hdp, rfl, hc, hp⟩ := hnr.at_ hlt
         have HST := Lib.hid (sum_take_succ pl (wordsN j) k hlt)
         have HSL := Lib.hid (sum_take_le pl (wordsN j) (k + 1))
         have HTP := Lib.hid (show totN m' pl[k] ≤ 2000000 by have := totL_at (m := m') hlt; have := HTT.out; omega)
         have HMEM := Lib.hid (List.getElem_mem hlt)
         have HTK : Hid (okN j pl[k] = true → (pl.take (k + 1)).all (okN j) = true) := Lib.hid (fun h => by rw [List.take_succ_eq_append_getElem hlt, List.all_append, HA.out]; simpa using h)
         generalize pl[k] = p at hc hp HST HTP HMEM HTK
         have hbx : Below wr.heap.size wr (wr.alloc (.cells #[.int .i64 p.kind, .string p.data, .slice hdp.A p.ptrs.length hdp.a, .int .i64 p.size, .int .i64 p.count, .slice hdp.B p.items.length hdp.b] nodeT)) := (Below.refl _ _).alloc (Nat.le_refl _) _
         have HCALL := Lib.hid (HIHJ.out m' p hdp _ Any b z (hp.below hbx) HTP.out ((hbx.block b (row_lt rowr)).trans rowr) z0 z1)
         unfold AlP at HCALL
         rw [show (9 : Int) - (j : Int) = D + 1 by have := HD.out; omega] at HCALL
         have KPR := Lib.hid kpr
         have HNR := Lib.hid hnr
         have HZE := Lib.hid hz
         have HBXX := Lib.hid hbx
         have ROWR := Lib.hid rowr
         obtain ⟨d0, d1, d2, d3, d4, d5⟩ := hc
         clear kpr hnr hz hbx hp rowr HZ
         go_wp2_with fail
         refine HCALL.out.mono ?_
         rintro e w5 ⟨r, z', rfl, kp5, row5, z0', z1', ht5, hf5⟩
         have KP5 := Lib.hid (KPR.out.trans (((Keeps.of_below HBXX.out).trans (kp5.mono (by simp))).mono KPR.out.size))
         have HN5 := Lib.hid ((HNR.out.keeps ROWR.out (Keeps.of_below HBXX.out)).keeps ((HBXX.out.block b (row_lt ROWR.out)).trans ROWR.out) kp5)
         have ROW5 := Lib.hid row5
         have HF5 := Lib.hid hf5
         have HT5 := Lib.hid ht5
         clear kp5 row5 hf5 ht5
         cases r
         · go_wp2
           go_ret
           refine ⟨false, z', rfl, KP5.out, ROW5.out, z0', z1', fun h => (by cases h), fun _ => ?_⟩
           rcases HF5.out (by first | trivial | rfl) with h | h
           · exact .inl (HBAD.out p HMEM.out h)
           · right
             have := HWW.out
             have := HSL.out
             have := HST.out
             have := HZE.out
             omega
         · obtain ⟨h1, h2, h3⟩ := HT5.out (by first | trivial | rfl)
           have HTR := Lib.hid (HTK.out h1)
           have HZ5 : Hid (∃ z : Int, Keeps w.heap.size b w w5 ∧ w5.heap[b]? = some (msr z) ∧ NdsAt w5 Any (m' + 1) (some x) pl ∧ 0 ≤ z ∧ z ≤ 199 ∧ z = ws + (on : Int) + (((pl.take (k + 1)).map (wordsN j)).sum : Nat)) := Lib.hid ⟨z', KP5.out, ROW5.out, HN5.out, z0', h3, by rw [h2, HZE.out, HST.out]; omega⟩
           clear h1 h2 h3
           go_wp2
           go_roundw
           case rel => exact ⟨k + 1, by go_num, by omega, HTR, HZ5⟩
           case measure => simp [intOf]; omega
       · obtain rfl : k = pl.length := by omega
         rw [List.take_of_length_le (Nat.le_refl _)] at HA hz
         have HALL := Lib.hid (HGOOD.out HA.out)
         have KPR := Lib.hid kpr
         have HZE := Lib.hid hz
         have ROWR := Lib.hid rowr
         clear kpr hnr hz rowr HZ
         go_wp2
         go_ret
         exact ⟨true, z, rfl, KPR.out, ROWR.out, z0, by omega, fun _ => ⟨HALL.out, by rw [HZE.out, HWW.out]; omega, z1⟩, fun h => (by cases h)⟩
theorem allows_any : ∀ d, d ≤ 8 → AlD d
 | 0, h => allows_step 0 h (fun j hj => by omega)
 | d + 1, h => allows_step (d + 1) h (fun j hj => by
   obtain rfl : d = j := by omega
   exact allows_any d (by omega))
def nodeOk (n : Nd) : Bool := okN 8 n && decide (wordsN 8 n ≤ 199)
def nodeWords (n : Nd) : Nat := if nodeOk n then wordsN 8 n else 0
theorem al_ok {n : Nd} {r : Bool} {z : Int} (ht : r = true → okN 8 n = true ∧ z = 0 + (wordsN 8 n : Nat) ∧ z ≤ 199) (hf : r = false → okN 8 n = false ∨ 200 ≤ (0 : Int) + (wordsN 8 n : Nat)) : r = nodeOk n ∧ (r = true → z = (nodeWords n : Nat)) := by
 cases r with
 | true =>
  obtain ⟨h1, h2, h3⟩ := ht rfl
  have h4 : nodeOk n = true := by unfold nodeOk; rw [h1]; simp; omega
  refine ⟨h4.symm, fun _ => ?_⟩
  unfold nodeWords
  rw [h4, if_pos rfl]
  omega
 | false =>
  refine ⟨?_, fun h => by cases h⟩
  unfold nodeOk
  rcases hf rfl with h | h
  · rw [h]; rfl
  · rw [show decide (wordsN 8 n ≤ 199) = false by simp; omega, Bool.and_false]
theorem implNodeOk_a (m : Nat) (n : Nd) (h : Hd) (w : World) (S : Nat → Prop) (hn : NdAt w S m n h) (ht : totN m n ≤ 2000000) :
 Calls Tryz.prog 32 #[.agg #[.int .i64 n.kind, .string n.data, .slice h.A n.ptrs.length h.a, .int .i64 n.size, .int .i64 n.count, .slice h.B n.items.length h.b]] w fun e w' => e = .returned (.bool (nodeOk n)) ∧ Below w.heap.size w w' := by
 have hb0 : Below w.heap.size w ((w.alloc (.cells #[.int .i64 n.kind, .string n.data, .slice h.A n.ptrs.length h.a, .int .i64 n.size, .int .i64 n.count, .slice h.B n.items.length h.b] nodeT)).alloc (.cells #[.int .i64 0] measT)) := ((Below.refl _ w).alloc (Nat.le_refl _) _).alloc (by simp) _
 have hr := heap_alloc_new (w.alloc (.cells #[.int .i64 n.kind, .string n.data, .slice h.A n.ptrs.length h.a, .int .i64 n.size, .int .i64 n.count, .slice h.B n.items.length h.b] nodeT)) (.cells #[.int .i64 0] measT)
 rw [show (w.alloc (.cells #[.int .i64 n.kind, .string n.data, .slice h.A n.ptrs.length h.a, .int .i64 n.size, .int .i64 n.count, .slice h.B n.items.length h.b] nodeT)).heap.size = w.heap.size + 1 by simp] at hr
 have hz : ((w.alloc (.cells #[.int .i64 n.kind, .string n.data, .slice h.A n.ptrs.length h.a, .int .i64 n.size, .int .i64 n.count, .slice h.B n.items.length h.b] nodeT)).alloc (.cells #[.int .i64 0] measT)).heap.size = w.heap.size + 2 := by simp
 have HC := Lib.hid (allows_any 8 (by decide) m n h _ S (w.heap.size + 1) 0 (hn.below hb0) ht hr (by omega) (by omega))
 unfold AlP at HC
 rw [show (9 : Int) - ((8 : Nat) : Int) = 1 by decide, hz] at HC
 have HB0 := Lib.hid hb0
 clear hn ht hb0 hr hz
 go_enter Tryz.func32, Tryz.ntmps32
 go_wp2_with fail
 refine HC.out.mono ?_
 rintro e w2 ⟨r, z, rfl, kp, row, z0, z1, h1, h2⟩
 have HE := Lib.hid (al_ok h1 h2).1
 have HB := Lib.hid (HB0.out.trans (kp.below (B' := w.heap.size) (by omega) (by omega)))
 clear kp row h1 h2
 go_wp2
 go_ret
 exact ⟨by rw [HE.out]; rfl, HB.out⟩
def lcZ (s c : Int) (v : Int) : Int := if s = 0 then c else if s = 7 ∧ v = 1 then 1 + c else v
theorem listCost_a (s c v : Int) (w : World) (h0 : 0 ≤ c) (h1 : c ≤ 12800) :
 Calls Tryz.prog 81 #[.int .i64 s, .int .i64 c, .int .i64 v] w fun e w' => e = .returned (.int .i64 (lcZ s c v)) ∧ w = w' := by
 have HX : Hid (lcZ s c v = if s = 0 then c else if s = 7 ∧ v = 1 then 1 + c else v) := Lib.hid rfl
 go_enter Tryz.func81, Tryz.ntmps81
 go_wp2
 all_goals go_ret
 all_goals (refine ⟨ret_int ?_, rfl⟩; rw [HX.out]; simp_all)
def lcN (n : Nd) : Nat := if n.kind = 2 then (lcZ n.size n.count (ownN n : Nat)).toNat else ownN n
def costN : Nat → Nd → Nat
 | 0, _ => 0
 | d + 1, n => lcN n + ((ptrsL n).map (costN d)).sum
theorem form_count {n : Nd} (h : formN n = true) : 0 ≤ n.count ∧ n.count ≤ 12800 := by
 rcases form_cases h with hc | hc | hc <;> omega
theorem lcZ_bd {s c v : Int} (h0 : 0 ≤ c) (h1 : c ≤ 12800) (h2 : 0 ≤ v) : 0 ≤ lcZ s c v ∧ lcZ s c v ≤ v + 12801 := by
 unfold lcZ
 split
 · omega
 · split <;> omega
theorem lcN_eq {n : Nd} (h : formN n = true) : ((lcN n : Nat) : Int) = if n.kind = 2 then lcZ n.size n.count (ownN n : Nat) else (ownN n : Nat) := by
 obtain ⟨h1, h2⟩ := form_count h
 have := lcZ_bd (s := n.size) h1 h2 (show (0 : Int) ≤ (ownN n : Nat) by omega)
 unfold lcN
 split <;> omega
theorem lcN_le {n : Nd} (h : formN n = true) : lcN n ≤ ownN n + 12801 := by
 have h0 := lcN_eq h
 obtain ⟨h1, h2⟩ := form_count h
 have := lcZ_bd (s := n.size) h1 h2 (show (0 : Int) ≤ (ownN n : Nat) by omega)
 split at h0 <;> omega
theorem sum_mem {l : List Nd} {f : Nd → Nat} {n : Nd} (h : n ∈ l) : f n ≤ (l.map f).sum := by
 induction l with
 | nil => cases h
 | cons a t ih =>
  simp only [List.map_cons, List.sum_cons]
  rcases List.mem_cons.1 h with rfl | h
  · omega
  · have := ih h; omega
theorem ptrs_own (n : Nd) : (ptrsL n).length ≤ ownN n := by
 have h1 : n.ptrs.length ≤ ownB n := by unfold ownB; omega
 have h2 : (n.items.map fun y => y.ptrs.length).sum ≤ (n.items.map ownB).sum := sum_le _ _ _ (fun y _ => by unfold ownB; omega)
 unfold ptrsL ownN
 rw [List.length_append, ptrsL_sum]
 omega
theorem ok_kids {d : Nat} {n : Nd} (h : okN d n = true) : formN n = true ∧ ∀ p ∈ ptrsL n, okN (d - 1) p = true := by
 cases d with
 | zero =>
  simp only [okN, Bool.and_eq_true, decide_eq_true_eq] at h
  refine ⟨h.1, fun p hp => ?_⟩
  have h1 : ptrsL n = [] := by
   rcases form_cases h.1 with hc | hc | hc
   · unfold ptrsL; rw [nil_of_len hc.2.2.1, nil_of_len hc.2.2.2.2.2]; rfl
   · omega
   · omega
  rw [h1] at hp; cases hp
 | succ d =>
  simp only [okN, Bool.and_eq_true, Bool.or_eq_true, decide_eq_true_eq, List.all_eq_true] at h
  refine ⟨h.1, fun p hp => ?_⟩
  rcases h.2 with hk | hk
  · have h1 : ptrsL n = [] := by
     rcases form_cases h.1 with hc | hc | hc
     · unfold ptrsL; rw [nil_of_len hc.2.2.1, nil_of_len hc.2.2.2.2.2]; rfl
     · omega
     · omega
    rw [h1] at hp; cases hp
  · exact hk p hp
theorem words_kids {d : Nat} {n : Nd} (h : okN d n = true) : wordsN d n = ownN n + ((ptrsL n).map (wordsN (d - 1))).sum := by
 cases d with
 | zero =>
  simp only [okN, Bool.and_eq_true, decide_eq_true_eq] at h
  have := none_words (d := 1) h.1 h.2
  rw [wordsN] at this
  show 0 = ownN n + _
  have h1 : ptrsL n = [] := by
   rcases form_cases h.1 with hc | hc | hc
   · unfold ptrsL; rw [nil_of_len hc.2.2.1, nil_of_len hc.2.2.2.2.2]; rfl
   · omega
   · omega
  rw [h1]; simp; omega
 | succ d => rfl
theorem cost_kids {d : Nat} {n : Nd} (h : okN d n = true) : costN d n = lcN n + ((ptrsL n).map (costN (d - 1))).sum := by
 cases d with
 | zero =>
  have hw := words_kids h
  simp only [okN, Bool.and_eq_true, decide_eq_true_eq] at h
  have h1 : ptrsL n = [] := by
   rcases form_cases h.1 with hc | hc | hc
   · unfold ptrsL; rw [nil_of_len hc.2.2.1, nil_of_len hc.2.2.2.2.2]; rfl
   · omega
   · omega
  have h2 : lcN n = 0 := by
   unfold lcN
   rw [if_neg (by omega)]
   simp only [wordsN] at hw
   omega
  rw [h1, h2]; rfl
 | succ d => rfl
theorem cost_le : ∀ (d : Nat) (n : Nd), okN d n = true → costN d n ≤ 13000 + 13001 * wordsN d n := by
 intro d
 induction d with
 | zero => intro n h; exact Nat.zero_le _
 | succ d ih =>
  intro n h
  obtain ⟨hf, hk⟩ := ok_kids h
  have h1 := lcN_le hf
  have h2 : ((ptrsL n).map (costN d)).sum ≤ ((ptrsL n).map fun p => 13000 + 13001 * wordsN d p).sum := sum_le _ _ _ (fun p hp => ih p (hk p hp))
  have h3 : ∀ l : List Nd, (l.map fun p => 13000 + 13001 * wordsN d p).sum = 13000 * l.length + 13001 * (l.map (wordsN d)).sum := by
   intro l
   induction l with
   | nil => rfl
   | cons a t ih => simp only [List.map_cons, List.sum_cons, List.length_cons, ih]; omega
  rw [h3] at h2
  have h4 := ptrs_own n
  show lcN n + _ ≤ 13000 + 13001 * (ownN n + _)
  omega
theorem words_mem {d : Nat} {n p : Nd} (h : okN d n = true) (hp : p ∈ ptrsL n) : wordsN (d - 1) p ≤ wordsN d n := by
 rw [words_kids h]
 have := sum_mem (f := wordsN (d - 1)) hp
 omega
def CoD (d : Nat) : Prop := ∀ (m : Nat) (n : Nd) (h : Hd) (w : World) (S : Nat → Prop), NdAt w S m n h → totN m n ≤ 2000000 → okN d n = true → wordsN d n ≤ 199 →
 Calls Tryz.prog 41 #[.agg #[.int .i64 n.kind, .string n.data, .slice h.A n.ptrs.length h.a, .int .i64 n.size, .int .i64 n.count, .slice h.B n.items.length h.b]] w fun e w' => e = .returned (.int .i64 (costN d n : Nat)) ∧ Below w.heap.size w w'
theorem cost_step (d : Nat) (ih : ∀ j, d = j + 1 → CoD j) : CoD d := by
 intro m n h w S hn ht hok hwd
 obtain ⟨qA, qa, qB, qb⟩ := h
 dsimp only at hn ⊢
 obtain ⟨hf, hkids⟩ := ok_kids hok
 have HCE := Lib.hid (cost_kids hok)
 have hcl := cost_le d n hok
 have hct : costN d n ≤ 2700000 := by omega
 have HCT := Lib.hid hct
 have hob := own_bound hn ht
 have HLC := Lib.hid (lcN_eq hf)
 obtain ⟨hc0, hc1⟩ := form_count hf
 have HKID : Hid (∀ p ∈ ptrsL n, ∃ j, d = j + 1 ∧ okN j p = true ∧ wordsN j p ≤ 199 ∧ costN (d - 1) p = costN j p) := Lib.hid fun p hp => by
  cases d with
  | zero =>
   have := hkids p hp
   have hl := words_kids hok
   have h3 := ptrs_own n
   have h4 : (ptrsL n).length ≠ 0 := by intro h; rw [nil_of_len h] at hp; cases hp
   simp only [wordsN] at hl
   omega
  | succ j => exact ⟨j, rfl, hkids p hp, by have := words_mem hok hp; simp only [Nat.add_sub_cancel] at this; omega, rfl⟩
 have HOW := Lib.hid (fun (W : World) (hb : Below w.heap.size w W) => ownWords_a m n ⟨qA, qa, qB, qb⟩ W S (hn.below hb) hf ht)
 have HPO := Lib.hid (fun (W : World) (hb : Below w.heap.size w W) => ptrsOf_a m n ⟨qA, qa, qB, qb⟩ W S (hn.below hb) ht)
 have HTT := Lib.hid (Nat.le_trans (tot_ptrs hn) ht)
 have hln := Nat.le_trans (ptrs_len hn) HTT.out
 have HIH := Lib.hid ih
 dsimp only at HOW HPO
 have HB0 := Lib.hid ((Below.refl w.heap.size w).alloc (Nat.le_refl _) (.cells #[.int .i64 n.kind, .string n.data, .slice qA n.ptrs.length qa, .int .i64 n.size, .int .i64 n.count, .slice qB n.items.length qb] nodeT))
 have HBX := Lib.hid (heap_alloc_new w (.cells #[.int .i64 n.kind, .string n.data, .slice qA n.ptrs.length qa, .int .i64 n.size, .int .i64 n.count, .slice qB n.items.length qb] nodeT))
 clear ih hn ht hok hwd hf hkids hcl
 generalize ownN n = on at *
 generalize ptrsL n = pl at *
 generalize costN d n = cst at *
 by_cases hk : n.kind = 2
 all_goals
  first | (rw [if_pos hk] at HLC; have hkb : (n.kind == 2) = true := by rw [hk]; rfl) | (rw [if_neg hk] at HLC; have hkb : (n.kind == 2) = false := by simpa using hk)
  clear hk
  go_enter Tryz.func41, Tryz.ntmps41
  go_wp2_with fail
  refine (HOW.out _ HB0.out).mono ?_
  rintro e w1 ⟨rfl, hb1⟩
  have hk1 := (hb1.block w.heap.size (by simp)).trans HBX.out
  obtain ⟨a0, a1, a2, a3, a4, a5⟩ := cells6 hk1
  have HB1 := Lib.hid (HB0.out.trans (hb1.mono HB0.out.size))
  clear hb1 hk1
  go_wp2_with (go_at_call 81; go_must (refine (listCost_a _ _ _ _ hc0 hc1).mono ?_); rintro e w2 ⟨rfl, rfl⟩; rw [← HLC.out])
  try rw [← HLC.out]
  refine (HPO.out _ HB1.out).mono ?_
  rintro e w3 ⟨A3, c3, rfl, hn3, hb3⟩
  have HB3 := Lib.hid (HB1.out.trans (hb3.mono HB1.out.size))
  have HN3 := Lib.hid hn3
  have hlcb : lcN n ≤ 2700000 := by have := HCE.out; omega
  clear hb3 hn3 a0 a1 a2 a3 a4 a5 HLC
  generalize lcN n = lc at *
  go_wp2_with fail
  go_loopw [3, 20] (fun q i wr => ∃ (k : Nat) (z : Int), q = .int .i64 z ∧ i = .int .i64 k ∧ k ≤ pl.length ∧ 0 ≤ z ∧ z ≤ 2700000 ∧ Hid (z = ((lc + ((pl.take k).map (costN (d - 1))).sum : Nat) : Int)) ∧ Hid (Below w.heap.size w wr ∧ NdsAt wr Any m A3 pl)) (fun _ i _ => pl.length - (intOf i).toNat)
  case atStart => exact ⟨0, _, rfl, rfl, by omega, by omega, by omega, Lib.hid (by simp), Lib.hid ⟨HB3.out, HN3.out⟩⟩
  case round =>
   obtain ⟨k, z, rfl, rfl, hk, hz0, hz1, HZ, HB⟩ := hrel
   obtain ⟨hbr, hnr⟩ := HB.out
   by_cases hlt : k < pl.length
   · obtain ⟨m', rfl⟩ := hnr.pred hlt
     obtain ⟨x, hdp, rfl, hc, hp⟩ := hnr.at_ hlt
     have HST := Lib.hid (sum_take_succ pl (costN (d - 1)) k hlt)
     have HSL := Lib.hid (sum_take_le pl (costN (d - 1)) (k + 1))
     have htp : totN m' pl[k] ≤ 2000000 := by have := totL_at (m := m') hlt; have := HTT.out; omega
     obtain ⟨j, rfl, hoj, hwj, hcj⟩ := HKID.out _ (List.getElem_mem hlt)
     simp only [Nat.add_sub_cancel] at HST HSL HZ HCE
     generalize pl[k] = p at hc hp HST htp hoj hwj
     have hbx : Below wr.heap.size wr (wr.alloc (.cells #[.int .i64 p.kind, .string p.data, .slice hdp.A p.ptrs.length hdp.a, .int .i64 p.size, .int .i64 p.count, .slice hdp.B p.items.length hdp.b] nodeT)) := (Below.refl _ _).alloc (Nat.le_refl _) _
     have HCALL := Lib.hid (HIH.out j rfl m' p hdp _ Any (hp.below hbx) htp hoj hwj)
     have hpc : z + (costN j p : Int) ≤ 2700000 := by have := HZ.out; have := HST.out; have := HSL.out; have := HCE.out; have := HCT.out; omega
     have HBR := Lib.hid hbr
     have HNR := Lib.hid hnr
     have HBXX := Lib.hid hbx
     have HNX := Lib.hid (hnr.below hbx)
     obtain ⟨d0, d1, d2, d3, d4, d5⟩ := hc
     clear hbr hnr hbx hp htp hoj hwj hcj HB
     generalize costN j p = cp at *
     go_wp2_with fail
     refine HCALL.out.mono ?_
     rintro e w5 ⟨rfl, hb5⟩
     have HB5 := Lib.hid (And.intro (HBR.out.trans ((HBXX.out.trans (hb5.mono (by simp))).mono HBR.out.size)) (HNX.out.below hb5))
     clear hb5
     go_wp2
     go_roundw
     case rel => exact ⟨k + 1, _, rfl, by go_num, by omega, by omega, hpc, Lib.hid (by rw [HZ.out]; simp only [Nat.add_sub_cancel]; rw [HST.out]; omega), HB5⟩
     case measure => simp [intOf]; omega
   · obtain rfl : k = pl.length := by omega
     rw [List.take_of_length_le (Nat.le_refl _)] at HZ
     have HBR := Lib.hid hbr
     clear hbr hnr HB
     go_wp2
     go_ret
     exact ⟨by rw [HCE.out, HZ.out]; rfl, HBR.out⟩
theorem cost_any : ∀ d, CoD d
 | 0 => cost_step 0 (fun j hj => by omega)
 | d + 1 => cost_step (d + 1) (fun j hj => by
   obtain rfl : d = j := by omega
   exact cost_any d)
def nodeCost (n : Nd) : Nat := if nodeOk n then costN 8 n else 0
theorem implReadCost_a (m : Nat) (n : Nd) (h : Hd) (w : World) (S : Nat → Prop) (hn : NdAt w S m n h) (ht : totN m n ≤ 2000000) :
 Calls Tryz.prog 12 #[.agg #[.int .i64 n.kind, .string n.data, .slice h.A n.ptrs.length h.a, .int .i64 n.size, .int .i64 n.count, .slice h.B n.items.length h.b]] w fun e w' => e = .returned (.int .i64 (nodeCost n : Nat)) ∧ Below w.heap.size w w' := by
 have hb0 := (Below.refl w.heap.size w).alloc (Nat.le_refl _) (.cells #[.int .i64 n.kind, .string n.data, .slice h.A n.ptrs.length h.a, .int .i64 n.size, .int .i64 n.count, .slice h.B n.items.length h.b] nodeT)
 have HB0 := Lib.hid hb0
 have HBX := Lib.hid (heap_alloc_new w (.cells #[.int .i64 n.kind, .string n.data, .slice h.A n.ptrs.length h.a, .int .i64 n.size, .int .i64 n.count, .slice h.B n.items.length h.b] nodeT))
 have HN := Lib.hid hn
 have HO := Lib.hid (implNodeOk_a m n h _ S (hn.below hb0) ht)
 have HCO : Hid (nodeOk n = true → ∀ W : World, Below w.heap.size w W → Calls Tryz.prog 41 #[.agg #[.int .i64 n.kind, .string n.data, .slice h.A n.ptrs.length h.a, .int .i64 n.size, .int .i64 n.count, .slice h.B n.items.length h.b]] W fun e w' => e = .returned (.int .i64 (costN 8 n : Nat)) ∧ Below W.heap.size W w') := Lib.hid fun hok W hb => by
  unfold nodeOk at hok
  simp only [Bool.and_eq_true, decide_eq_true_eq] at hok
  exact cost_any 8 m n h W S (hn.below hb) ht hok.1 hok.2
 clear hn ht hb0
 cases hok : nodeOk n
 · have HX : Hid (nodeCost n = 0) := Lib.hid (by unfold nodeCost; rw [hok]; rfl)
   rw [hok] at HO
   go_enter Tryz.func12, Tryz.ntmps12
   go_wp2_with fail
   refine HO.out.mono ?_
   rintro e w2 ⟨rfl, hb2⟩
   have HB2 := Lib.hid (HB0.out.trans (hb2.mono HB0.out.size))
   clear hb2
   go_wp2
   go_ret
   exact ⟨by rw [HX.out]; rfl, HB2.out⟩
 · have HX : Hid (nodeCost n = costN 8 n) := Lib.hid (by unfold nodeCost; rw [hok]; rfl)
   have HC := Lib.hid (HCO.out hok)
   rw [hok] at HO
   clear HCO hok
   generalize costN 8 n = cst at *
   go_enter Tryz.func12, Tryz.ntmps12
   go_wp2_with fail
   refine HO.out.mono ?_
   rintro e w2 ⟨rfl, hb2⟩
   obtain ⟨a0, a1, a2, a3, a4, a5⟩ := cells6 ((hb2.block w.heap.size (by simp)).trans HBX.out)
   have HB2 := Lib.hid (HB0.out.trans (hb2.mono HB0.out.size))
   clear hb2
   go_wp2_with fail
   refine (HC.out _ HB2.out).mono ?_
   rintro e w3 ⟨rfl, hb3⟩
   have HB3 := Lib.hid (HB2.out.trans (hb3.mono HB2.out.size))
   clear hb3
   go_wp2
   go_ret
   exact ⟨by rw [HX.out]; rfl, HB3.out⟩
theorem node_ok {n : Nd} (h : nodeOk n = true) : okN 8 n = true ∧ wordsN 8 n ≤ 199 := by
 unfold nodeOk at h
 rw [Bool.and_eq_true, decide_eq_true_eq] at h
 exact h
theorem ok_node {n : Nd} (h : okN 8 n = true) (hw : wordsN 8 n ≤ 199) : nodeOk n = true := by
 unfold nodeOk
 rw [h, decide_eq_true hw]; rfl
theorem ptrs_sub {n y : Nd} (hy : y ∈ n.items) (f : Nd → Nat) : (y.ptrs.map f).sum ≤ ((ptrsL n).map f).sum := by
 have h1 : (y.ptrs.map f).sum ≤ ((n.items.flatMap Nd.ptrs).map f).sum := by
  generalize n.items = l at hy
  induction l with
  | nil => cases hy
  | cons a t ih =>
   rw [List.flatMap_cons, List.map_append, List.sum_append]
   rcases List.mem_cons.1 hy with rfl | h
   · omega
   · have := ih h; omega
 unfold ptrsL
 rw [List.map_append, List.sum_append]
 omega
theorem leN_congr (l m : List UInt8) : ∀ (k a b : Nat), (∀ i, i < k → l[a + i]? = m[b + i]?) → leN l a k = leN m b k
 | 0, _, _, _ => rfl
 | k + 1, a, b, h => by
   have h0 := h 0 (by omega)
   simp only [Nat.add_zero] at h0
   have h1 := leN_congr l m k (a + 1) (b + 1) (fun i hi => by
    have := h (i + 1) (by omega)
    rwa [show a + (i + 1) = a + 1 + i by omega, show b + (i + 1) = b + 1 + i by omega] at this)
   rw [leN, leN, h0, h1]
theorem emod_256 (n m : Int) : n % (256 * m) = n % 256 + 256 * (n / 256 % m) := by
 rw [Int.emod_def n (256 * m), Int.emod_def (n / 256) m, ← Int.ediv_ediv_of_nonneg (by decide), Int.mul_assoc]
 omega
theorem leN_leB : ∀ (k : Nat) (n : Int), ((leN (leB n k) 0 k : Nat) : Int) = n % 256 ^ k
 | 0, n => by simp [leN, Int.emod_one]
 | k + 1, n => by
   have ih := leN_leB k (n / 256)
   have e : leN (leB n (k + 1)) 1 k = leN (leB (n / 256) k) 0 k := leN_congr _ _ k 1 0 (fun i _ => by rw [leB, Nat.add_comm, List.getElem?_cons_succ, Nat.zero_add])
   rw [leN, Nat.zero_add, e, leB, List.getElem?_cons_zero]
   simp only [Option.getD_some]
   rw [Int.natCast_add, Int.natCast_mul, ih, ofNat_toNat_u8, Int.pow_succ, Int.mul_comm (256 ^ k) 256, emod_256]
   rfl
theorem nat_low (a n : Nat) : a &&& (2 ^ n - 1) = a % 2 ^ n := Nat.and_two_pow_sub_one_eq_mod a n
theorem nat_four (a : Nat) : a &&& 4 = 4 * (a / 4 % 2) := by
 have h : a &&& 4 = (a % 8) &&& 4 := by
  rw [show a % 8 = a &&& 7 from (nat_low a 3).symm, Nat.and_assoc]
  rfl
 have h8 : ∀ r : Nat, r < 8 → r &&& 4 = 4 * (r / 4 % 2) := by decide
 rw [h, h8 _ (Nat.mod_lt _ (by decide))]
 omega
theorem ofInt_32 (a : Nat) (ha : a < 4294967296) : (BitVec.ofInt 32 (a : Int)).toNat = a := by
 rw [BitVec.toNat_ofInt]
 omega
theorem and_u32 (a b : Nat) (ha : a < 4294967296) (hb : b < 4294967296) : bits .and .u32 (a : Int) (b : Int) = ((a &&& b : Nat) : Int) := by
 have hx : a &&& b < 2 ^ 32 := Nat.and_lt_two_pow _ (by omega)
 show IntKind.u32.wrap ((BitVec.ofInt 32 (a : Int) &&& BitVec.ofInt 32 (b : Int)).toNat : Int) = _
 rw [BitVec.toNat_and, ofInt_32 a ha, ofInt_32 b hb, IntKind.wrap_u32]
 omega
theorem and3_32 (a : Nat) (h : a < 4294967296) : bits .and .u32 (a : Int) 3 = ((a % 4 : Nat) : Int) := by
 rw [show (3 : Int) = ((3 : Nat) : Int) from rfl, and_u32 _ _ (by omega) (by omega), nat_low a 2]
theorem and7_32 (a : Nat) (h : a < 4294967296) : bits .and .u32 (a : Int) 7 = ((a % 8 : Nat) : Int) := by
 rw [show (7 : Int) = ((7 : Nat) : Int) from rfl, and_u32 _ _ (by omega) (by omega), nat_low a 3]
theorem andw_32 (a : Nat) (h : a < 4294967296) : bits .and .u32 (a : Int) 65535 = ((a % 65536 : Nat) : Int) := by
 rw [show (65535 : Int) = ((65535 : Nat) : Int) from rfl, and_u32 _ _ (by omega) (by omega), nat_low a 16]
theorem and4_32 (a : Nat) (h : a < 4294967296) : bits .and .u32 (a : Int) 4 = ((4 * (a / 4 % 2) : Nat) : Int) := by
 rw [show (4 : Int) = ((4 : Nat) : Int) from rfl, and_u32 _ _ (by omega) (by omega), nat_four]
def sgn (lo : Nat) : Int := if lo < 2147483648 then ((lo / 4 : Nat) : Int) else ((lo / 4 : Nat) : Int) - 1073741824
def getP (lo hi : Nat) : Int × Int × Int × Int × Int × Int × Int × Bool :=
 if lo = 0 ∧ hi = 0 then (0, 0, 0, 0, 0, 0, 0, false) else if lo % 4 = 0 then (1, sgn lo, ((hi % 65536 : Nat) : Int), ((hi / 65536 : Nat) : Int), 0, 0, 0, false)
 else if lo % 4 = 1 then (2, sgn lo, 0, 0, ((hi % 8 : Nat) : Int), ((hi / 8 : Nat) : Int), 0, false) else if lo % 4 = 2 then (3, ((lo / 8 : Nat) : Int), 0, 0, 0, 0, (hi : Int), decide (lo / 4 % 2 = 1)) else (4, 0, 0, 0, 0, 0, 0, false)
end Go.Proofs.YtlbfffokkhccaaaGreatDoor
