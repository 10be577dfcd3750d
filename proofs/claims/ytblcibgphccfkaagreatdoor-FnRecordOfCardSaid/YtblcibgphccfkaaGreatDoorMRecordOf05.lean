/- Texts of the proof of the law FnRecordOf, side by side: part 5. -/
import Derived.Test.YtblcibgphccfkaaGreatDoorMRecordOf04
set_option maxHeartbeats 8000000
set_option maxRecDepth 100000
namespace Go.Proofs.YtblcibgphccfkaaGreatDoor
open Go.RowKit
theorem NdsAt.map' {w w' : World} {S S' : Nat → Prop} (hS : ∀ k, k < w.heap.size → S k → S' k) (hf : ∀ p n h, S p.block → NdCell w p n h → NdCell w' p n h) : ∀ m A l, NdsAt w S m A l → NdsAt w' S' m A l
 | 0, _, _, h => h
 | m + 1, A, l, ⟨hl, q, hq, hc, hr⟩ => by
   refine ⟨hl, q, hq, ?_, fun r h => ⟨(hr r h).1, NdsAt.map' hS hf m _ _ (hr r h).2.1, NdsAt.map' hS hf m _ _ (hr r h).2.2⟩⟩
   rcases hc with hc | ⟨x, hx, hs, hk⟩
   · exact .inl hc
   · cases q with
     | nil => exact .inl rfl
     | cons r t =>
      have hlt := (hk 0 r rfl).lt
      rw [addr_block] at hlt
      exact .inr ⟨x, hx, hS _ hlt hs, fun k r' h => hf _ _ _ (by rw [addr_block]; exact hs) (hk k r' h)⟩
theorem NdAt.map' {w w' : World} {S S' : Nat → Prop} {m : Nat} {n : Nd} {h : Hd} (hS : ∀ k, k < w.heap.size → S k → S' k) (hf : ∀ p n h, S p.block → NdCell w p n h → NdCell w' p n h) (hn : NdAt w S m n h) : NdAt w' S' m n h := ⟨hn.1, NdsAt.map' hS hf _ _ _ hn.2.1, NdsAt.map' hS hf _ _ _ hn.2.2⟩
theorem own_pickedN {w w' : World} {R n base m z : Nat} {e : TypeId} {v : Value} {xs : List Value} (h : w.ownsRow base e z v m xs) (hp : Picked w R n w') (hR : R < base) : w'.ownsRow base e z v m xs := by
 refine h.kept (row := some R) ⟨hp.2.os, hp.2.tape, hp.2.output, hp.2.size, fun k hk hne => hp.2.block k hk (fun e => hne (by rw [e]))⟩ ?_
 by_cases hv : v.ownBlock = none
 · exact .inl hv
 · refine .inr (fun e => ?_)
   have := (h.lt R (by rw [e])).1
   omega
theorem step_append_nd {ops : Array Oper} {o : Oper} {a : Act} {w : World} {K : Act → World → Prop} {Q : Exit → Act → World → Prop} {E : Prop} (hgd : o.guard = none) (s x : Operand)
 (ho : o.op = .call { callee := .builtin .append, args := #[s, x], argTypes := #[nodesT, nodesT] })
 (base : Nat) (v : Value) (n : Nat) (xs : List Value) (hs : a.eval s = v) (hown : w.ownsRow base nodeT 6 v n xs)
 (ad : Addr) (c : Nat) (r : Nd × Hd) (hx : a.eval x = .slice (some ad) 1 c) (hnews : ∀ j u, (rowOf [r])[j]? = some u → w.cell? (ad.add j) = some u) (hn : n ≤ 1000) (hbase : base ≤ w.heap.size)
 (h : ∀ A' c' w', Hid (w'.ownsRow base nodeT 6 (.slice A' (n + 1) c') (n + 1) (xs ++ rowOf [r])) → Hid (w.grownBy w' v.ownBlock) → Hid ((Value.slice A' (n + 1) c').ownBlock = v.ownBlock ∨ (Value.slice A' (n + 1) c').ownBlock = some w.heap.size) → K (a.put o.dst (.slice A' (n + 1) c')) w') :
 if Region.wanted o (yielded ops a.tmps) = true then Oper.wp Tryz.prog o a w K Q else E := by
 have hw : Region.wanted o (yielded ops a.tmps) = true := by simp [Region.wanted, hgd]
 rw [if_pos hw]
 obtain ⟨i0, hi, hz0, hz1, hz2⟩ := info_parts infoNd
 obtain ⟨v', w', hr, h2, h3, _, h5⟩ := run_append_own_at (P := Tryz.prog) w base nodesT o.type nodeT i0 _ 6 88 Tryz.underlying24 hi hz0 hz1 hz2 rfl (by decide) v n xs hown ad 1 c (rowOf [r]) rfl hnews (rowOf_one _) (by unfold maxLen; omega) (by omega) hbase
 obtain ⟨A', c', rfl⟩ := own_sliceN h2
 unfold Oper.wp execOp
 simp only [ho, resolve, invoke, builtin, Sem.run_bind, Sem.run_pure, Result.andThen_ok, List.map_toArray, List.map_cons, List.map_nil, hs, hx, hr]
 exact h A' c' w' h2 h3 h5
theorem cells_six_new (w : World) (r : Nd × Hd) (t : TypeId) : ∀ j u, (rowOf [r])[j]? = some u → (w.alloc (.cells #[.int .i64 r.1.kind, .string r.1.data, .slice r.2.A r.1.ptrs.length r.2.a, .int .i64 r.1.size, .int .i64 r.1.count, .slice r.2.B r.1.items.length r.2.b] t)).cell? ((⟨w.heap.size, 0, none⟩ : Addr).add j) = some u := by
 intro j u hj
 rw [add_zero0, cell_of_row _ _ _ _ _ (0, 0) (heap_alloc_new w _)]
 simp only [rowOf] at hj
 match j, hj with
 | 0, hj => simpa using hj
 | 1, hj => simpa using hj
 | 2, hj => simpa using hj
 | 3, hj => simpa using hj
 | 4, hj => simpa using hj
 | 5, hj => simpa using hj
abbrev measT : TypeId := 95
def okN : Nat → Nd → Bool
 | 0, n => formN n && decide (n.kind = 0)
 | d + 1, n => formN n && (decide (n.kind = 0) || (ptrsL n).all (okN d))
def wordsN : Nat → Nd → Nat
 | 0, _ => 0
 | d + 1, n => ownN n + ((ptrsL n).map (wordsN d)).sum
theorem ok_form {d : Nat} {n : Nd} (h : formN n = false) : okN d n = false := by
 cases d <;> simp [okN, h]
theorem nil_of_len {α : Type} {l : List α} (h : l.length = 0) : l = [] := List.eq_nil_of_length_eq_zero h
theorem none_words {d : Nat} {n : Nd} (h : formN n = true) (hk : n.kind = 0) : okN d n = true ∧ wordsN d n = 0 := by
 rcases form_cases h with hc | hc | hc
 · obtain ⟨_, h1, h2, _, _, h5⟩ := hc
   have e1 : ptrsL n = [] := by unfold ptrsL; rw [nil_of_len h2, nil_of_len h5]; rfl
   have e2 : ownN n = 0 := by unfold ownN ownB; rw [h1, h2, nil_of_len h5, hk]; rfl
   cases d
   · exact ⟨by simp [okN, h, hk], rfl⟩
   · exact ⟨by simp [okN, h, hk], by simp [wordsN, e1, e2]⟩
 · omega
 · omega
theorem cell_single {w : World} {b : Nat} {v : Value} {T : TypeId} {p : Addr} {n : Nd} {h : Hd} (hb : w.heap[b]? = some (.cells #[v] T (0, 0))) (hc : NdCell w p n h) : p.block ≠ b := by
 intro e
 have h1 := hc.c1
 rw [e, cell_of_row _ _ _ _ _ _ hb] at h1
 simp at h1
theorem NdsAt.keeps {w w' : World} {S : Nat → Prop} {m b : Nat} {A : Option Addr} {l : List Nd} {v : Value} {T : TypeId} (h : NdsAt w S m A l) (hb : w.heap[b]? = some (.cells #[v] T (0, 0))) (hk : Keeps w.heap.size b w w') : NdsAt w' S m A l :=
 NdsAt.map (fun _ h => h) (fun _p _ _ _ hc => hc.block (hk.block _ hc.lt (cell_single hb hc))) _ _ _ h
theorem NdAt.keeps {w w' : World} {S : Nat → Prop} {m b : Nat} {n : Nd} {h : Hd} {v : Value} {T : TypeId} (hn : NdAt w S m n h) (hb : w.heap[b]? = some (.cells #[v] T (0, 0))) (hk : Keeps w.heap.size b w w') : NdAt w' S m n h :=
 ⟨hn.1, hn.2.1.keeps hb hk, hn.2.2.keeps hb hk⟩
theorem totL_eq {w : World} {S : Nat → Prop} : ∀ (m : Nat) (A : Option Addr) (l : List Nd), NdsAt w S m A l → totL (m + 1) l = totL m l
 | 0, A, l, h => by rw [h.zero]; rfl
 | m + 1, A, l, h => by
   rw [totL_succ (m + 1), totL_succ m]
   congr 1
   apply List.map_congr_left
   intro n hn
   obtain ⟨hd, h1⟩ := h.mem n hn
   unfold totN
   rw [totL_eq m _ _ h1.2.1, totL_eq m _ _ h1.2.2]
theorem flat_tot (l : List Nd) (m : Nat) : totL (m + 1) (l.flatMap Nd.ptrs) = (l.map fun y => totL (m + 1) y.ptrs).sum := by
 induction l with
 | nil => rfl
 | cons a t ih => rw [List.flatMap_cons, totL_succ, List.map_append, List.sum_append, ← totL_succ, ← totL_succ, ih]; rfl
theorem tot_ptrs {w : World} {S : Nat → Prop} {m : Nat} {n : Nd} {h : Hd} (hn : NdAt w S m n h) : totL m (ptrsL n) ≤ totN m n := by
 cases m with
 | zero => exact Nat.zero_le _
 | succ m =>
  have h1 : totL (m + 1) (ptrsL n) = totL (m + 1) n.ptrs + (n.items.map fun y => totL (m + 1) y.ptrs).sum := by
   unfold ptrsL
   rw [totL_succ, List.map_append, List.sum_append, ← totL_succ, ← totL_succ, flat_tot]
  have h2 : (n.items.map fun y => totL (m + 1) y.ptrs).sum ≤ totL (m + 1) n.items := by
   rw [totL_succ]
   refine sum_le _ _ _ fun y hy => ?_
   obtain ⟨hd, h3⟩ := hn.2.2.mem y hy
   rw [totL_eq m _ _ h3.2.1]
   unfold totN
   omega
  rw [h1]
  unfold totN
  omega
theorem ptrs_len {w : World} {S : Nat → Prop} {m : Nat} {n : Nd} {h : Hd} (hn : NdAt w S m n h) : (ptrsL n).length ≤ totL m (ptrsL n) := by
 cases m with
 | zero =>
  unfold ptrsL
  rw [hn.2.1.zero, hn.2.2.zero]
  simp
 | succ m => exact totL_len m _
theorem own_bound {w : World} {S : Nat → Prop} {m : Nat} {n : Nd} {h : Hd} (hn : NdAt w S m n h) (ht : totN m n ≤ 2000000) : ownN n ≤ 3000000 := by
 have h1 : ownB n ≤ n.data.size + n.ptrs.length := by unfold ownB; omega
 have h2 := own_sum hn.2.2
 have h3 := len_tot hn.2.1
 unfold ownN
 unfold totN at ht
 split <;> omega
abbrev msr (ws : Int) : Obj := .cells #[.int .i64 ws] measT (0, 0)
def AlP (d : Nat) (n : Nd) (b : Nat) (ws : Int) (w : World) (e : Ending) (w' : World) : Prop :=
 ∃ (r : Bool) (z : Int), e = .returned (.bool r) ∧ Keeps w.heap.size b w w' ∧ w'.heap[b]? = some (msr z) ∧ 0 ≤ z ∧ z ≤ 4000000 ∧ (r = true → okN d n = true ∧ z = ws + (wordsN d n : Nat) ∧ z ≤ 199) ∧ (r = false → okN d n = false ∨ 200 ≤ ws + (wordsN d n : Nat))
def AlD (d : Nat) : Prop := ∀ (m : Nat) (n : Nd) (h : Hd) (w : World) (S : Nat → Prop) (b : Nat) (ws : Int), NdAt w S m n h → totN m n ≤ 2000000 → w.heap[b]? = some (msr ws) → 0 ≤ ws → ws ≤ 199 →
 Calls Tryz.prog 55 #[.pointer (some ⟨b, 0, none⟩), .agg #[.int .i64 n.kind, .string n.data, .slice h.A n.ptrs.length h.a, .int .i64 n.size, .int .i64 n.count, .slice h.B n.items.length h.b], .int .i64 (9 - (d : Int))] w (AlP d n b ws w)
theorem own_le_words {d : Nat} {n : Nd} : ownN n ≤ wordsN (d + 1) n := by simp [wordsN]
theorem meas_cell {w : World} {b : Nat} {z : Int} (h : w.heap[b]? = some (msr z)) : w.cell? ⟨b, 0, none⟩ = some (.int .i64 z) := by rw [cell_of_row _ _ _ _ _ _ h]; rfl
theorem allows_step (d : Nat) (hd : d ≤ 8) (ih : ∀ j, d = j + 1 → AlD j) : AlD d := by
 intro m n h w S b ws hn ht hrow hw0 hw1
 obtain ⟨qA, qa, qB, qb⟩ := h
 dsimp only at hn ⊢
 have hpl : n.ptrs.length ≤ 2000000 := totL_len' hn.2.1 (by unfold totN at ht; omega)
 have hil : n.items.length ≤ 2000000 := totL_len' hn.2.2 (by unfold totN at ht; omega)
 have hblt := row_lt hrow
 have HP := Lib.hid (fun (W : World) (hb : Below w.heap.size w W) => hasParts_a m n ⟨qA, qa, qB, qb⟩ W S (hn.below hb) hil hpl)
 dsimp only at HP
 have HIH := Lib.hid ih
 have HN := Lib.hid hn
 have HT := Lib.hid ht
 have HR := Lib.hid hrow
 have HB0 := Lib.hid ((Below.refl w.heap.size w).alloc (Nat.le_refl _) (.cells #[.int .i64 n.kind, .string n.data, .slice qA n.ptrs.length qa, .int .i64 n.size, .int .i64 n.count, .slice qB n.items.length qb] nodeT))
 have HBX := Lib.hid (heap_alloc_new w (.cells #[.int .i64 n.kind, .string n.data, .slice qA n.ptrs.length qa, .int .i64 n.size, .int .i64 n.count, .slice qB n.items.length qb] nodeT))
 clear ih hn ht hrow
 cases hf : formN n
 · have HX := Lib.hid (ok_form (d := d) hf)
   rw [hf] at HP
   go_enter Tryz.func55, Tryz.ntmps55
   go_wp2_with fail
   refine (HP.out _ HB0.out).mono ?_
   rintro e w1 ⟨rfl, hb1⟩
   have HB1 := Lib.hid (HB0.out.trans (hb1.mono HB0.out.size))
   clear hb1
   go_wp2
   go_ret
   exact ⟨false, ws, rfl, Keeps.of_below HB1.out, (HB1.out.block _ hblt).trans HR.out, hw0, by omega, fun h => (by cases h), fun _ => .inl HX.out⟩
 rw [hf] at HP
 have HF := Lib.hid hf
 clear hf
 by_cases hk : n.kind = 0
 · have HX := Lib.hid (none_words (d := d) HF.out hk)
   have hkb : (n.kind == 0) = true := by rw [hk]; rfl
   clear hk
   go_enter Tryz.func55, Tryz.ntmps55
   go_wp2_with fail
   refine (HP.out _ HB0.out).mono ?_
   rintro e w1 ⟨rfl, hb1⟩
   obtain ⟨a0, a1, a2, a3, a4, a5⟩ := cells6 ((hb1.block w.heap.size (by simp)).trans HBX.out)
   have HB1 := Lib.hid (HB0.out.trans (hb1.mono HB0.out.size))
   clear hb1
   go_wp2
   go_ret
   exact ⟨true, ws, rfl, Keeps.of_below HB1.out, (HB1.out.block _ hblt).trans HR.out, hw0, by omega, fun _ => ⟨HX.out.1, by rw [HX.out.2]; omega, hw1⟩, fun h => (by cases h)⟩
 have hkb : (n.kind == 0) = false := by simpa using hk
 have HK := Lib.hid hk
 have HOW := Lib.hid (fun (W : World) (hb : Below w.heap.size w W) => ownWords_a m n ⟨qA, qa, qB, qb⟩ W S (HN.out.below hb) HF.out HT.out)
 dsimp only at HOW
 have hob : ownN n ≤ 3000000 := own_bound HN.out HT.out
 generalize hon : ownN n = on at HOW hob
 have HON := Lib.hid hon
 clear hk hon
 have hwrap : IntKind.i64.wrap (ws + (on : Int)) = ws + (on : Int) := by
  rw [IntKind.wrap_i64]
  omega
 obtain ⟨D, hD⟩ : ∃ D : Int, D = 9 - (d : Int) := ⟨_, rfl⟩
 have hD8 : 1 ≤ D ∧ D ≤ 9 := by omega
 rw [← hD]
 have HD := Lib.hid hD
 clear hD
 go_enter Tryz.func55, Tryz.ntmps55
 go_wp2_with fail
 refine (HP.out _ HB0.out).mono ?_
 rintro e w1 ⟨rfl, hb1⟩
 have hk1 := (hb1.block w.heap.size (by simp)).trans HBX.out
 have HBX1 := Lib.hid hk1
 have hlt1 := row_lt hk1
 obtain ⟨a0, a1, a2, a3, a4, a5⟩ := cells6 hk1
 have HB1 := Lib.hid (HB0.out.trans (hb1.mono HB0.out.size))
 have HR1 := Lib.hid ((HB1.out.block _ hblt).trans HR.out)
 have hmc := meas_cell HR1.out
 have hmf := row_free HR1.out 0
 clear hb1 hk1
 go_wp2_with fail
 go_region_with (go_at_call 84; refine (HOW.out _ (by exact HB1.out.drew)).mono ?_; rintro e w2 ⟨rfl, hb2⟩; have hmc2 := meas_cell ((hb2.block _ (by have := HB1.out.size; simp; omega)).trans HR1.out); have hmf2 := row_free ((hb2.block _ (by have := HB1.out.size; simp; omega)).trans HR1.out) 0)
 all_goals
  have hrow2 := (hb2.block b (by have := HB1.out.size; simp; omega)).trans HR1.out
  have hbox2 := (hb2.block w.heap.size (by simpa using hlt1)).trans HBX1.out
  have hB2 : Below w.heap.size w w2 := HB1.out.drew.trans (hb2.mono (by simpa using HB1.out.size))
  try rw [hwrap]
  have kp3 : Keeps w.heap.size b w (w2.setCell ⟨b, 0, none⟩ (.int .i64 (ws + (on : Int)))) := (Keeps.of_below hB2).trans ((set_keeps w2.heap.size b w2 0 _).mono hB2.size)
  have row3 : (w2.setCell ⟨b, 0, none⟩ (.int .i64 (ws + (on : Int)))).heap[b]? = some (msr (ws + (on : Int))) := row_setN hrow2 0 _
  have box3 := (Below.heap_setCell w2 ⟨b, 0, none⟩ (.int .i64 (ws + (on : Int))) w.heap.size (by simp; omega)).trans hbox2
  have hlt3 := row_lt box3
  generalize w2.setCell ⟨b, 0, none⟩ (.int .i64 (ws + (on : Int))) = W3 at *
  have KP3 := Lib.hid kp3
  have ROW3 := Lib.hid row3
  have BOX3 := Lib.hid box3
  clear hb2 hB2 hmc hmf hmc2 hmf2 a0 a1 a2 a3 a4 a5 hrow2 hbox2 kp3 row3 box3
  have hmc3 := meas_cell ROW3.out
  by_cases hd0 : d = 0
  · have hD1 : decide (8 < D) = true := decide_eq_true (by have := HD.out; omega)
    have HX : Hid (okN d n = false) := Lib.hid (by subst hd0; simp [okN, HK.out])
    go_wp2
    go_ret
    exact ⟨false, _, rfl, KP3.out, ROW3.out, by omega, by omega, fun h => (by cases h), fun _ => .inl HX.out⟩
  · obtain ⟨j, rfl⟩ : ∃ j, d = j + 1 := ⟨d - 1, by omega⟩
    have HPO : Hid (∀ W : World, Keeps w.heap.size b w W → Calls Tryz.prog 85 #[.agg #[.int .i64 n.kind, .string n.data, .slice qA n.ptrs.length qa, .int .i64 n.size, .int .i64 n.count, .slice qB n.items.length qb]] W fun e w' => ∃ A c, e = .returned (.slice A (ptrsL n).length c) ∧ NdsAt w' Any m A (ptrsL n) ∧ Below W.heap.size W w') := Lib.hid fun W hk => ptrsOf_a m n ⟨qA, qa, qB, qb⟩ W S (HN.out.keeps HR.out hk) HT.out
    have HTT : Hid (totL m (ptrsL n) ≤ 2000000) := Lib.hid (Nat.le_trans (tot_ptrs HN.out) HT.out)
    have HLN : Hid ((ptrsL n).length ≤ 2000000) := Lib.hid (Nat.le_trans (ptrs_len HN.out) HTT.out)
    have HWW : Hid (wordsN (j + 1) n = on + ((ptrsL n).map (wordsN j)).sum) := Lib.hid (by rw [wordsN, HON.out])
    have HBAD : Hid (∀ p ∈ ptrsL n, okN j p = false → okN (j + 1) n = false) := Lib.hid fun p hp h => by
     have : (ptrsL n).all (okN j) = false := by rw [List.all_eq_false]; exact ⟨p, hp, by rw [h]; decide⟩
     simp [okN, HF.out, HK.out, this]
    have HGOOD : Hid ((ptrsL n).all (okN j) = true → okN (j + 1) n = true) := Lib.hid fun h => by simp only [okN, HF.out, h, Bool.or_true, Bool.and_true]
    have hD1 : decide (8 < D) = false := decide_eq_false (by have := HD.out; omega)
    by_cases h200 : 200 ≤ ws + (on : Int)
    · have HX : Hid (200 ≤ ws + (wordsN (j + 1) n : Nat)) := Lib.hid (by have := own_le_words (d := j) (n := n); rw [HON.out] at this; omega)
      have hd2 : decide (200 ≤ ws + (on : Int)) = true := decide_eq_true h200
      go_wp2
      go_ret
      exact ⟨false, _, rfl, KP3.out, ROW3.out, by omega, by omega, fun h => (by cases h), fun _ => .inr HX.out⟩
    · have hd2 : decide (200 ≤ ws + (on : Int)) = false := decide_eq_false h200
      obtain ⟨b0, b1, b2, b3, b4, b5⟩ := cells6 BOX3.out
      go_wp2_with fail
      refine (HPO.out W3 KP3.out).mono ?_
      rintro e w4 ⟨A4, c4, rfl, hn4, hb4⟩
      have KP4 := Lib.hid (KP3.out.trans ((Keeps.of_below hb4).mono KP3.out.size))
      have ROW4 := Lib.hid ((hb4.block b (row_lt ROW3.out)).trans ROW3.out)
      have HN4 := Lib.hid hn4
      have hz0 : 0 ≤ ws + (on : Int) := by omega
      have hz1 : ws + (on : Int) ≤ 199 := by omega
      clear hn4 hb4 b0 b1 b2 b3 b4 b5 hmc3 h200 hd2 hwrap
      have hlen := HLN.out
      have HIHJ := Lib.hid (HIH.out j rfl)
      generalize ptrsL n = pl at *
      go_wp2_with fail
      go_loopw [36] (fun i wr => ∃ k : Nat, i = .int .i64 k ∧ k ≤ pl.length ∧ Hid ((pl.take k).all (okN j) = true) ∧ Hid (∃ z : Int, Keeps w.heap.size b w wr ∧ wr.heap[b]? = some (msr z) ∧ NdsAt wr Any m A4 pl ∧ 0 ≤ z ∧ z ≤ 199 ∧ z = ws + (on : Int) + (((pl.take k).map (wordsN j)).sum : Nat))) (fun i _ => pl.length - (intOf i).toNat)
      case atStart => exact ⟨0, rfl, by omega, Lib.hid rfl, Lib.hid ⟨_, KP4.out, ROW4.out, HN4.out, hz0, hz1, by simp⟩⟩
      case round =>
       obtain ⟨k, rfl, hk, HA, HZ⟩ := hrel
       obtain ⟨z, kpr, rowr, hnr, z0, z1, hz⟩ := HZ.out
       by_cases hlt : k < pl.length
       · obtain ⟨m', rfl⟩ := hnr.pred hlt
         obtain ⟨x, hdp, rfl, hc, hp⟩ := hnr.at_ hlt
         have HST := Lib.hid (sum_take_succ pl (wordsN j) k hlt)
         have HSL := Lib.hid (sum_take_le pl (wordsN j) (k + 1))
         have HTP := Lib.hid (show totN m' pl[k] ≤ 2000000 by have := totL_at (m := m') hlt; have := HTT.out; omega)
         have HMEM := Lib.hid (List.getElem_mem hlt)
         have HTK : Hid (okN j pl[k] = true → (pl.take (k + 1)).all (okN j) = true) := Lib.hid (fun h => by rw [List.take_succ_eq_append_getElem hlt, List.all_append, HA.out]; simpa using h)
         generalize pl[k] = p at hc hp HST HTP HMEM HTK
         have hbx : Below wr.heap.size wr (wr.alloc (.cells #[.int .i64 p.kind, .string p.data, .slice hdp.A p.ptrs.length hdp.a, .int .i64 p.size, .int .i64 p.count, .slice hdp.B p.items.length hdp.b] nodeT)) := (Below.refl _ _).alloc (Nat.le_refl _) _
         have HCALL := Lib.hid (HIHJ.out m' p hdp _ Any b z (hp.below hbx) HTP.out ((hbx.block b (row_lt rowr)).trans rowr) z0 z1)
         unfold AlP at HCALL
         rw [show (9 : Int) - (j : Int) = D + 1 by have := HD.out; omega] at HCALL
         have KPR := Lib.hid kpr
         have HNR := Lib.hid hnr
         have HZE := Lib.hid hz
         have HBXX := Lib.hid hbx
         have ROWR := Lib.hid rowr
         obtain ⟨d0, d1, d2, d3, d4, d5⟩ := hc
         clear kpr hnr hz hbx hp rowr HZ
         go_wp2_with fail
         refine HCALL.out.mono ?_
         rintro e w5 ⟨r, z', rfl, kp5, row5, z0', z1', ht5, hf5⟩
         have KP5 := Lib.hid (KPR.out.trans (((Keeps.of_below HBXX.out).trans (kp5.mono (by simp))).mono KPR.out.size))
         have HN5 := Lib.hid ((HNR.out.keeps ROWR.out (Keeps.of_below HBXX.out)).keeps ((HBXX.out.block b (row_lt ROWR.out)).trans ROWR.out) kp5)
         have ROW5 := Lib.hid row5
         have HF5 := Lib.hid hf5
         have HT5 := Lib.hid ht5
         clear kp5 row5 hf5 ht5
         cases r
         · go_wp2
           go_ret
           refine ⟨false, z', rfl, KP5.out, ROW5.out, z0', z1', fun h => (by cases h), fun _ => ?_⟩
           rcases HF5.out (by first | trivial | rfl) with h | h
           · exact .inl (HBAD.out p HMEM.out h)
           · right
             have := HWW.out
             have := HSL.out
             have := HST.out
             have := HZE.out
             omega
         · obtain ⟨h1, h2, h3⟩ := HT5.out (by first | trivial | rfl)
           have HTR := Lib.hid (HTK.out h1)
           have HZ5 : Hid (∃ z : Int, Keeps w.heap.size b w w5 ∧ w5.heap[b]? = some (msr z) ∧ NdsAt w5 Any (m' + 1) (some x) pl ∧ 0 ≤ z ∧ z ≤ 199 ∧ z = ws + (on : Int) + (((pl.take (k + 1)).map (wordsN j)).sum : Nat)) := Lib.hid ⟨z', KP5.out, ROW5.out, HN5.out, z0', h3, by rw [h2, HZE.out, HST.out]; omega⟩
           clear h1 h2 h3
           go_wp2
           go_roundw
           case rel => exact ⟨k + 1, by go_num, by omega, HTR, HZ5⟩
           case measure => simp [intOf]; omega
       · obtain rfl : k = pl.length := by omega
         rw [List.take_of_length_le (Nat.le_refl _)] at HA hz
         have HALL := Lib.hid (HGOOD.out HA.out)
         have KPR := Lib.hid kpr
         have HZE := Lib.hid hz
         have ROWR := Lib.hid rowr
         clear kpr hnr hz rowr HZ
         go_wp2
         go_ret
         exact ⟨true, z, rfl, KPR.out, ROWR.out, z0, by omega, fun _ => ⟨HALL.out, by rw [HZE.out, HWW.out]; omega, z1⟩, fun h => (by cases h)⟩
theorem allows_any : ∀ d, d ≤ 8 → AlD d
 | 0, h => allows_step 0 h (fun j hj => by omega)
 | d + 1, h => allows_step (d + 1) h (fun j hj => by
   obtain rfl : d = j := by omega
   exact allows_any d (by omega))
def nodeOk (n : Nd) : Bool := okN 8 n && decide (wordsN 8 n ≤ 199)
def nodeWords (n : Nd) : Nat := if nodeOk n then wordsN 8 n else 0
theorem al_ok {n : Nd} {r : Bool} {z : Int} (ht : r = true → okN 8 n = true ∧ z = 0 + (wordsN 8 n : Nat) ∧ z ≤ 199) (hf : r = false → okN 8 n = false ∨ 200 ≤ (0 : Int) + (wordsN 8 n : Nat)) : r = nodeOk n ∧ (r = true → z = (nodeWords n : Nat)) := by
 cases r with
 | true =>
  obtain ⟨h1, h2, h3⟩ := ht rfl
  have h4 : nodeOk n = true := by unfold nodeOk; rw [h1]; simp; omega
  refine ⟨h4.symm, fun _ => ?_⟩
  unfold nodeWords
  rw [h4, if_pos rfl]
  omega
 | false =>
  refine ⟨?_, fun h => by cases h⟩
  unfold nodeOk
  rcases hf rfl with h | h
  · rw [h]; rfl
  · rw [show decide (wordsN 8 n ≤ 199) = false by simp; omega, Bool.and_false]
theorem implNodeOk_a (m : Nat) (n : Nd) (h : Hd) (w : World) (S : Nat → Prop) (hn : NdAt w S m n h) (ht : totN m n ≤ 2000000) :
 Calls Tryz.prog 17 #[.agg #[.int .i64 n.kind, .string n.data, .slice h.A n.ptrs.length h.a, .int .i64 n.size, .int .i64 n.count, .slice h.B n.items.length h.b]] w fun e w' => e = .returned (.bool (nodeOk n)) ∧ Below w.heap.size w w' := by
 have hb0 : Below w.heap.size w ((w.alloc (.cells #[.int .i64 n.kind, .string n.data, .slice h.A n.ptrs.length h.a, .int .i64 n.size, .int .i64 n.count, .slice h.B n.items.length h.b] nodeT)).alloc (.cells #[.int .i64 0] measT)) := ((Below.refl _ w).alloc (Nat.le_refl _) _).alloc (by simp) _
 have hr := heap_alloc_new (w.alloc (.cells #[.int .i64 n.kind, .string n.data, .slice h.A n.ptrs.length h.a, .int .i64 n.size, .int .i64 n.count, .slice h.B n.items.length h.b] nodeT)) (.cells #[.int .i64 0] measT)
 rw [show (w.alloc (.cells #[.int .i64 n.kind, .string n.data, .slice h.A n.ptrs.length h.a, .int .i64 n.size, .int .i64 n.count, .slice h.B n.items.length h.b] nodeT)).heap.size = w.heap.size + 1 by simp] at hr
 have hz : ((w.alloc (.cells #[.int .i64 n.kind, .string n.data, .slice h.A n.ptrs.length h.a, .int .i64 n.size, .int .i64 n.count, .slice h.B n.items.length h.b] nodeT)).alloc (.cells #[.int .i64 0] measT)).heap.size = w.heap.size + 2 := by simp
 have HC := Lib.hid (allows_any 8 (by decide) m n h _ S (w.heap.size + 1) 0 (hn.below hb0) ht hr (by omega) (by omega))
 unfold AlP at HC
 rw [show (9 : Int) - ((8 : Nat) : Int) = 1 by decide, hz] at HC
 have HB0 := Lib.hid hb0
 clear hn ht hb0 hr hz
 go_enter Tryz.func17, Tryz.ntmps17
 go_wp2_with fail
 refine HC.out.mono ?_
 rintro e w2 ⟨r, z, rfl, kp, row, z0, z1, h1, h2⟩
 have HE := Lib.hid (al_ok h1 h2).1
 have HB := Lib.hid (HB0.out.trans (kp.below (B' := w.heap.size) (by omega) (by omega)))
 clear kp row h1 h2
 go_wp2
 go_ret
 exact ⟨by rw [HE.out]; rfl, HB.out⟩
theorem ptrs_own (n : Nd) : (ptrsL n).length ≤ ownN n := by
 have h1 : n.ptrs.length ≤ ownB n := by unfold ownB; omega
 have h2 : (n.items.map fun y => y.ptrs.length).sum ≤ (n.items.map ownB).sum := sum_le _ _ _ (fun y _ => by unfold ownB; omega)
 unfold ptrsL ownN
 rw [List.length_append, ptrsL_sum]
 omega
theorem ok_kids {d : Nat} {n : Nd} (h : okN d n = true) : formN n = true ∧ ∀ p ∈ ptrsL n, okN (d - 1) p = true := by
 cases d with
 | zero =>
  simp only [okN, Bool.and_eq_true, decide_eq_true_eq] at h
  refine ⟨h.1, fun p hp => ?_⟩
  have h1 : ptrsL n = [] := by
   rcases form_cases h.1 with hc | hc | hc
   · unfold ptrsL; rw [nil_of_len hc.2.2.1, nil_of_len hc.2.2.2.2.2]; rfl
   · omega
   · omega
  rw [h1] at hp; cases hp
 | succ d =>
  simp only [okN, Bool.and_eq_true, Bool.or_eq_true, decide_eq_true_eq, List.all_eq_true] at h
  refine ⟨h.1, fun p hp => ?_⟩
  rcases h.2 with hk | hk
  · have h1 : ptrsL n = [] := by
     rcases form_cases h.1 with hc | hc | hc
     · unfold ptrsL; rw [nil_of_len hc.2.2.1, nil_of_len hc.2.2.2.2.2]; rfl
     · omega
     · omega
    rw [h1] at hp; cases hp
  · exact hk p hp
theorem words_kids {d : Nat} {n : Nd} (h : okN d n = true) : wordsN d n = ownN n + ((ptrsL n).map (wordsN (d - 1))).sum := by
 cases d with
 | zero =>
  simp only [okN, Bool.and_eq_true, decide_eq_true_eq] at h
  have := none_words (d := 1) h.1 h.2
  rw [wordsN] at this
  show 0 = ownN n + _
  have h1 : ptrsL n = [] := by
   rcases form_cases h.1 with hc | hc | hc
   · unfold ptrsL; rw [nil_of_len hc.2.2.1, nil_of_len hc.2.2.2.2.2]; rfl
   · omega
   · omega
  rw [h1]; simp; omega
 | succ d => rfl
def noneNd : Nd := .mk 0 ⟨#[]⟩ [] 0 0 []
theorem data_nil {d : ByteArray} (h : d.size = 0) : d = ⟨#[]⟩ := by
 cases d with
 | mk a =>
  have : a = #[] := by
   apply Array.eq_empty_of_size_eq_zero
   exact h
  rw [this]
theorem none_eq {n : Nd} (h : formN n = true) (hk : n.kind = 0) : n = noneNd := by
 rcases form_cases h with hc | hc | hc
 · obtain ⟨h0, h1, h2, h3, h4, h5⟩ := hc
   cases n with
   | mk k d p s c i =>
    simp only [Nd.kind, Nd.data, Nd.ptrs, Nd.size, Nd.count, Nd.items] at *
    rw [h0, data_nil h1, nil_of_len h2, h3, h4, nil_of_len h5]
    rfl
 · omega
 · omega
def wordsB (n : Nat) : Bool := decide (n % 8 = 0 ∧ n ≤ 1600)
theorem isWords_any (s : ByteArray) (w : World) (hs : s.size ≤ maxLen) :
 Calls Tryz.prog 142 #[.string s] w fun e w' => e = .returned (.bool (wordsB s.size)) ∧ w = w' := by
 unfold maxLen at hs
 by_cases h1 : s.size % 8 = 0
 all_goals
  go_enter Tryz.func142, Tryz.ntmps142
  go_wp2
  go_ret
  refine ⟨ret_bool ?_, rfl⟩
  simp [wordsB, h1]
 omega
theorem wordAt_any (s : ByteArray) (i : Int) (w : World) (hs : s.size ≤ maxLen) (h0 : 0 ≤ i) (hi : 8 * i + 8 ≤ s.size) :
 Calls Tryz.prog 148 #[.string s, .int .i64 i] w fun e w' => e = .returned (.agg (wd ((s.data.toList.drop (8 * i.toNat)).take 8))) ∧ Below w.heap.size w w' := by
 obtain ⟨i, rfl⟩ := Int.eq_ofNat_of_zero_le h0
 unfold maxLen at hs
 have ewd : (s.extract (i * 8) s.size).data.toList.take 8 = (s.data.toList.drop (8 * (i : Int).toNat)).take 8 := by
  rw [Lib.extract_data, Nat.mul_comm]
  congr 2
  simp [List.take_of_length_le]
 have hsz : 8 ≤ (s.extract (i * 8) s.size).size := by simp; omega
 have hlen : ((s.extract (i * 8) s.size).data.toList.take 8).length = 8 := by simp; omega
 generalize hl : (s.extract (i * 8) s.size).data.toList.take 8 = l at ewd hlen
 rw [← ewd]
 have HL := Lib.hid hl
 clear ewd hl
 go_enter Tryz.func148, Tryz.ntmps148
 go_wp2
 have e1 : IntKind.i64.wrap ((i : Int) * 8) = (i : Int) * 8 := by rw [IntKind.wrap_i64]; omega
 have e2 : (0 : Int) ≤ (i : Int) * 8 := by omega
 have e3 : (i : Int) * 8 ≤ (s.size : Int) := by omega
 have e4 : ((i : Int) * 8).toNat = i * 8 := by omega
 go_region_law (refine step_copy_string_ge rfl (.tmp 6) (.tmp 10) 22 9 rfl 5 Tryz.underlying22 size5 (w.heap.size + 1) 8 8 (s.extract (i * 8) s.size) _ 180 rfl (by simp [Act.eval, Act.put]) (by simp [Act.eval, Act.put]) (heap_alloc2_new w _ _) hsz ?_; intro w4 hg4 hb4)
 clear e1 e2 e3 e4
 have hA : Hid (w4.heap[w.heap.size]? = some (.cells #[.int .u8 0, .int .u8 0, .int .u8 0, .int .u8 0, .int .u8 0, .int .u8 0, .int .u8 0, .int .u8 0] 180 (0, 0))) :=
  (hb4.out.block w.heap.size (by simp; omega) (by simp)).trans (heap_alloc2_old w _ _)
 have hB : Hid (Below w.heap.size w w4) := ((Below.refl _ _).alloc (Nat.le_refl _) _ |>.alloc (by simp) _ |>.drew).grown hb4.out (by simp; omega) (fun k e => by cases e; simp)
 clear hb4
 have hG : Hid (w4.heap[w.heap.size + 1]? = some (.cells (wd l) 180 (0, 0))) := by rw [← HL.out]; exact hg4.out
 have hlen := Lib.hid hlen
 clear hg4 HL
 go_wp2_with (first | (refine wpList_load_wd rfl 180 (.tmp 5) rfl (w.heap.size + 1) rfl 180 l _ hG.out Tryz.underlying180 rfl (by rw [hlen.out]; exact size46) ?_) | (refine wpList_store_wd rfl 180 (.tmp 4) (.tmp 12) rfl w.heap.size l rfl rfl 180 _ hA.out (by rw [hlen.out]; exact size46) (by rw [hlen.out]; rfl) ?_; intro w5 hg5 hb5))
 refine bodyPost_ret (v := .agg (wd l)) ?_ rfl ⟨rfl, hB.out.grown hb5.out (by have := hB.out.size; omega) (fun k e => by cases e; simp)⟩
 exact results_cell_row rfl _ _ w.heap.size 180 _ (0, 0) _ rfl hg5.out Tryz.underlying180 rfl (by rw [wd_size, hlen.out]; exact size46)
def widthB (size : Int) : Bool := decide (size = 1 ∨ size = 2 ∨ size = 4 ∨ size = 8)
def placeB (at_ size : Int) : Bool := decide (0 ≤ at_ ∧ at_ ≤ 1600 ∧ ((size = 1 ∨ size = 2 ∨ size = 4 ∨ size = 8) ∧ at_ % size = 0))
theorem isWidth_any (size : Int) (w : World) :
 Calls Tryz.prog 162 #[.int .i64 size] w fun e w' => e = .returned (.bool (widthB size)) ∧ w = w' := by
 by_cases hz : size = 1 ∨ size = 2 ∨ size = 4 ∨ size = 8
 · rcases hz with rfl | rfl | rfl | rfl
   all_goals
    go_enter Tryz.func162, Tryz.ntmps162
    go_wp2
    all_goals go_ret
    all_goals exact ⟨ret_bool (by decide), rfl⟩
 · have b1 : (size == 1) = false := by simp; omega
   have b2 : (size == 2) = false := by simp; omega
   have b3 : (size == 4) = false := by simp; omega
   have b4 : (size == 8) = false := by simp; omega
   have hw : widthB size = false := by simp only [widthB, hz, decide_false]
   have HW := Lib.hid hw
   clear hw
   go_enter Tryz.func162, Tryz.ntmps162
   go_wp2
   go_ret
   exact ⟨by rw [HW.out]; rfl, rfl⟩
theorem isPlace_any (at_ size : Int) (w : World) :
 Calls Tryz.prog 152 #[.int .i64 at_, .int .i64 size] w fun e w' => e = .returned (.bool (placeB at_ size)) ∧ w = w' := by
 by_cases hz : size = 1 ∨ size = 2 ∨ size = 4 ∨ size = 8
 · rcases hz with rfl | rfl | rfl | rfl
   all_goals
    by_cases h0 : 0 ≤ at_
    all_goals
     go_enter Tryz.func152, Tryz.ntmps152
     go_wp2_with (go_at_call 162; refine (isWidth_any _ _).mono ?_; rintro e w' ⟨rfl, rfl⟩; rw [show widthB _ = true from by decide])
     all_goals go_ret
     all_goals refine ⟨ret_bool ?_, rfl⟩
     all_goals (rw [Bool.eq_iff_iff]; simp [placeB]; omega)
 · have hw : widthB size = false := by simp only [widthB, hz, decide_false]
   have HW := Lib.hid hw
   clear hw
   go_enter Tryz.func152, Tryz.ntmps152
   go_wp2_with (go_at_call 162; refine (isWidth_any _ _).mono ?_; rintro e w' ⟨rfl, rfl⟩; rw [HW.out])
   go_ret
   refine ⟨ret_bool ?_, rfl⟩
   have : ¬ (size = 1 ∨ size = 2 ∨ size = 4 ∨ size = 8) := hz
   simp only [placeB, this, false_and, and_false, decide_false]
def fitsB (n size : Int) : Bool := decide (size = 8 ∨ (0 ≤ n ∧ n < 256 ^ size.toNat))
theorem fitsBytes_any (n size : Int) (w : World) (hz : size = 1 ∨ size = 2 ∨ size = 4 ∨ size = 8) (hn : -9223372036854775808 ≤ n ∧ n ≤ 9223372036854775807) :
 Calls Tryz.prog 154 #[.int .i64 n, .int .i64 size] w fun e w' => e = .returned (.bool (fitsB n size)) ∧ w = w' := by
 obtain ⟨hn1, hn2⟩ := hn
 rcases hz with rfl | rfl | rfl | rfl
 all_goals
  by_cases h0 : 0 ≤ n
  all_goals
   go_enter Tryz.func154, Tryz.ntmps154
   go_wp2
   all_goals go_ret
   all_goals refine ⟨ret_bool ?_, rfl⟩
   all_goals (simp [fitsB]; try omega)
def xorI (n t : Int) : Int := bits .xor .i64 n t
theorem xorI_eq (n t : Int) : xorI n t = IntKind.i64.wrap (((BitVec.ofInt 64 n).toNat ^^^ (BitVec.ofInt 64 t).toNat : Nat) : Int) := by
 show IntKind.i64.wrap ((BitVec.ofInt 64 n ^^^ BitVec.ofInt 64 t).toNat : Int) = _
 rw [BitVec.toNat_xor]
theorem ofInt_nat64 (n : Int) : ((BitVec.ofInt 64 n).toNat : Int) = n % 18446744073709551616 := by
 rw [BitVec.toNat_ofInt]
 have : ((2 ^ 64 : Nat) : Int) = 18446744073709551616 := by decide
 rw [this]
 omega
theorem ofInt_lt64 (n : Int) : (BitVec.ofInt 64 n).toNat < 2 ^ 64 := (BitVec.ofInt 64 n).isLt
theorem xorI_bd (n t : Int) : -9223372036854775808 ≤ xorI n t ∧ xorI n t ≤ 9223372036854775807 := by
 rw [xorI_eq, IntKind.wrap_i64]
 omega
theorem xorI_small {k : Nat} (hk : k ≤ 62) {n t : Int} (hn : -9223372036854775808 ≤ n ∧ n ≤ 9223372036854775807) (h0 : 0 ≤ t) (h1 : t < ((2 ^ k : Nat) : Int)) : (0 ≤ xorI n t ∧ xorI n t < ((2 ^ k : Nat) : Int)) ↔ (0 ≤ n ∧ n < ((2 ^ k : Nat) : Int)) := by
 have hX := ofInt_nat64 n
 have hT := ofInt_nat64 t
 have hXl := ofInt_lt64 n
 have h2k : 2 ^ k ≤ 2 ^ 62 := Nat.pow_le_pow_right (by decide) hk
 rw [xorI_eq, IntKind.wrap_i64]
 generalize (BitVec.ofInt 64 n).toNat = X at *
 generalize (BitVec.ofInt 64 t).toNat = T at *
 have hTk : T < 2 ^ k := by omega
 have e1 : X < 2 ^ k → X ^^^ T < 2 ^ k := fun h => Nat.xor_lt_two_pow h hTk
 have e2 : X ^^^ T < 2 ^ k → X < 2 ^ k := fun h => by
  have := Nat.xor_lt_two_pow h hTk
  rwa [Nat.xor_assoc, Nat.xor_self, Nat.xor_zero] at this
 have e3 : X ^^^ T < 2 ^ 64 := Nat.xor_lt_two_pow hXl (Nat.lt_of_lt_of_le hTk (Nat.pow_le_pow_right (by decide) (by omega)))
 generalize X ^^^ T = Y at *
 generalize 2 ^ k = K at *
 constructor
 · rintro ⟨a, b⟩
   have := e2 (by omega)
   omega
 · rintro ⟨a, b⟩
   have := e1 (by omega)
   omega
theorem xorI_back {n t : Int} (hn : -9223372036854775808 ≤ n ∧ n ≤ 9223372036854775807) : xorI (xorI n t) t = n := by
 have hX := ofInt_nat64 n
 have hXl := ofInt_lt64 n
 have hTl := ofInt_lt64 t
 have hY := ofInt_nat64 (xorI n t)
 have hYl := ofInt_lt64 (xorI n t)
 rw [xorI_eq (xorI n t) t]
 rw [xorI_eq n t, IntKind.wrap_i64] at hY
 rw [xorI_eq n t] at hYl ⊢
 rw [IntKind.wrap_i64]
 rw [IntKind.wrap_i64] at hYl ⊢
 generalize (BitVec.ofInt 64 n).toNat = X at *
 generalize (BitVec.ofInt 64 t).toNat = T at *
 have e3 : X ^^^ T < 2 ^ 64 := Nat.xor_lt_two_pow hXl hTl
 have e4 : (X ^^^ T) ^^^ T = X := by rw [Nat.xor_assoc, Nat.xor_self, Nat.xor_zero]
 generalize X ^^^ T = Y at *
 have hYY : (BitVec.ofInt 64 (((Y : Int) + 9223372036854775808) % 18446744073709551616 - 9223372036854775808)).toNat = Y := by omega
 rw [hYY, e4]
 omega
theorem xorI_fits {n t z : Int} (hn : -9223372036854775808 ≤ n ∧ n ≤ 9223372036854775807) (hz : z = 1 ∨ z = 2 ∨ z = 4 ∨ z = 8) (ht : fitsB t z = true) : fitsB (xorI n t) z = fitsB n z := by
 rw [Bool.eq_iff_iff]
 rcases hz with rfl | rfl | rfl | rfl
 · have := xorI_small (k := 8) (by decide) hn (t := t) (by simp [fitsB] at ht; omega) (by simp [fitsB] at ht; omega)
   simpa [fitsB] using this
 · have := xorI_small (k := 16) (by decide) hn (t := t) (by simp [fitsB] at ht; omega) (by simp [fitsB] at ht; omega)
   simpa [fitsB] using this
 · have := xorI_small (k := 32) (by decide) hn (t := t) (by simp [fitsB] at ht; omega) (by simp [fitsB] at ht; omega)
   simpa [fitsB] using this
 · simp [fitsB]
theorem xorI_bit {n t : Int} (hn : -9223372036854775808 ≤ n ∧ n ≤ 9223372036854775807) (ht : t = 0 ∨ t = 1) : (xorI n t = 0 ∨ xorI n t = 1) ↔ (n = 0 ∨ n = 1) := by
 have := xorI_small (k := 1) (by decide) hn (t := t) (by omega) (by omega)
 simp only [Nat.pow_one] at this
 constructor
 · intro h
   have := this.1 (by omega)
   omega
 · intro h
   have := this.2 (by omega)
   omega
def getI (l : List UInt8) (at_ size : Int) : Int := if wordsB l.length = true ∧ placeB at_ size = true then wrap64 (leN l at_.toNat size.toNat : Nat) else 0
end Go.Proofs.YtblcibgphccfkaaGreatDoor
