/- Texts of the proof of the law FnReadTwo, side by side: part 10. -/
import Derived.Deep.DeepMust
import Derived.Outline
import Derived.Test.YtlbfffokkhccaaaGreatDoorMReadTwo09
namespace Go.Proofs.YtlbfffokkhccaaaGreatDoor
open Go.RowKit Go.Deep
abbrev tmT : TypeId := 112
theorem infoPs : (Tryz.prog.info? psgT).map (fun i => (i.zero, i.size, i.bytes)) = some (some (.pointer none), 1, 8) := by kernel_rfl
def Too (P : Nat → Prop) (w : World) (e : Ending) (w' : World) : Prop := e = .panicked [{ v := .iface tmT (.agg #[]), recovered := false }] ∧ KP P w w'
def OpenB (base b size : Nat) (ss : Segs) (P : Nat → Prop) (w : World) (e : Ending) (w' : World) : Prop :=
 e = .returned (.int .i64 (ss.length : Int)) ∧ KP P w w' ∧ Bun w' base b size (ss ++ [[]]) (fun k => P k ∨ w.heap.size ≤ k)
set_option maxHeartbeats 2000000 in
set_option maxRecDepth 100000 in
theorem open_full (base b size : Nat) (ss : Segs) (P : Nat → Prop) (w : World) (h : Bun w base b size ss P) (h6 : ss.length = 6) :
 Calls Tryz.prog 36 #[.pointer (some ⟨b, 0, none⟩)] w (Too P w) := by
 obtain ⟨row, g, v, hB, hP⟩ := h
 obtain ⟨r, cap, rfl, hrow⟩ := hB.row (i := 0) (by omega)
 obtain ⟨c0, c1, c2⟩ := cells3 hB.hb
 rw [h6] at c0
 clear hB hP hrow h6
 go_enter Tryz.func36, Tryz.ntmps36
 go_wp2
 exact ⟨rfl, rfl, KP.refl _ _⟩
theorem cell_second (w : World) (o : Obj) (v : Value) (T : TypeId) : ∀ (j : Nat) (u : Value), [v][j]? = some u → ((w.alloc o).alloc (.cells #[v] T)).cell? ((⟨w.heap.size + 1, 0, none⟩ : Addr).add j) = some u := by
 intro j u h
 have := cell_one_new (w.alloc o) v T j u h
 simpa using this
set_option maxHeartbeats 2000000 in
set_option maxRecDepth 100000 in
theorem open_more (base b size : Nat) (ss : Segs) (P : Nat → Prop) (w : World) (h : Bun w base b size ss P) (h6 : ss.length < 6) :
 Calls Tryz.prog 36 #[.pointer (some ⟨b, 0, none⟩)] w (OpenB base b size ss P w) := by
 obtain ⟨i0, hi, hz0, hz1, hz2⟩ := info_parts infoPs
 obtain ⟨row, g, v, hB, hP⟩ := h
 obtain ⟨A, cap, rfl⟩ := own_sliceW hB.hr
 have hbl := hB.lt b (.inl rfl)
 have hb1 : ((ss.length : Int) == 6) = false := by simp; omega
 have hwa : Below w.heap.size w ((w.alloc (.cells #[.slice none 0 0] sgT)).alloc (.cells #[.pointer (some ⟨w.heap.size, 0, none⟩)] psgT)) := ((Below.refl _ w).alloc (Nat.le_refl _) _).alloc (by simp) _
 have hwn : ((w.alloc (.cells #[.slice none 0 0] sgT)).alloc (.cells #[.pointer (some ⟨w.heap.size, 0, none⟩)] psgT)).heap[w.heap.size]? = some (.cells #[.slice none 0 0] sgT (0, 0)) := heap_alloc_keep (heap_alloc_new w _) _
 obtain ⟨c0, c1, c2⟩ := cells3 hB.hb
 have HR := Lib.hid (own_keepB hB.hr (fun k e => hwa.block k (hB.hr.lt k e).2))
 have HB := Lib.hid hB
 have HWA := Lib.hid hwa
 have HWN := Lib.hid hwn
 have HP := Lib.hid hP
 have HL := Lib.hid h6
 clear hB hP hwa hwn
 go_enter Tryz.func36, Tryz.ntmps36
 go_wp2_with (at_builtin; refine wpList_append_own_at _ rfl (.tmp 15) (.tmp 17) 53 rfl base psgT i0 (.pointer none) 1 8 Tryz.underlying53 hi hz0 hz1 hz2 rfl (by decide) _ ss.length _ rfl ((HB.out.hr.alloc _).alloc _) ⟨w.heap.size + 1, 0, none⟩ 1 1 [.pointer (some ⟨w.heap.size, 0, none⟩)] ?c0 rfl ?c1 (by simp [Value.oneCell']) (by unfold maxLen; omega) (by omega) (by simp; omega) ?_)
 case c0 => rfl
 case c1 => exact cell_second _ _ _ _
 intro v' w1 hown' hgrow _ hat
 obtain ⟨A', c', rfl⟩ := own_sliceW hown'
 have hB1 := HB.out.more (by omega) HWA.out HWN.out _ hown' hgrow
 have hb1 := hB1.hb
 have hbr : (w1.setCell ⟨b, 0, none⟩ (.slice A' (ss.length + 1) c')).heap[b]? = some (.cells #[.slice A' (ss.length + 1) c', .int .i64 size, .int .i64 (totS ss : Nat)] buT (0, 0)) := hb1
 have hk1 : KP P w w1 := ⟨hgrow.os.trans HWA.out.os, hgrow.tape.trans HWA.out.tape, hgrow.output.trans HWA.out.output, Nat.le_trans HWA.out.size hgrow.size, fun k hk hn => (hgrow.block k (by simp; omega) (fun e => hn (HP.out k (.inr (.inl e.symm))))).trans (HWA.out.block k hk)⟩
 have hk2 : KP P w (w1.setCell ⟨b, 0, none⟩ (.slice A' (ss.length + 1) c')) := hk1.trans (KP.set (HP.out b (.inl rfl)) w1 0 _) (fun _ _ h => h)
 have hfin : Bun (w1.setCell ⟨b, 0, none⟩ (.slice A' (ss.length + 1) c')) base b size (ss ++ [[]]) (fun k => P k ∨ w.heap.size ≤ k) := by
  refine ⟨_, _, _, by rw [totS_app]; exact hB1, ?_⟩
  rintro k (rfl | e | ⟨i, hi, e | e⟩)
  · exact .inl (HP.out _ (.inl rfl))
  · rcases hat with e2 | e2
    · exact .inl (HP.out _ (.inr (.inl (by rw [← e2]; exact e))))
    · rw [e2] at e; injection e with e; right; omega
  · rw [e]; dsimp only; split
    · exact .inr (Nat.le_refl _)
    · exact .inl (HP.out _ (.inr (.inr ⟨i, by simp at hi; omega, .inl rfl⟩)))
  · dsimp only at e; split at e
    · cases e
    · exact .inl (HP.out _ (.inr (.inr ⟨i, by simp at hi; omega, .inr e⟩)))
 have cb := cells3 hbr
 have hfr : w1.frozen? ⟨b, 0, none⟩ = false ∧ (∃ u, w1.cell? ⟨b, 0, none⟩ = some u) := by
  have h1 : w1.heap[b]? = some (.cells #[.slice A ss.length cap, .int .i64 size, .int .i64 (totS ss : Nat)] buT (0, 0)) := (hgrow.block b (by simp; omega) (fun e => by obtain ⟨c, hc⟩ := own_T HB.out.hr e.symm; exact ne_T HB.out.hb hc (by decide) rfl)).trans ((HWA.out.block b hbl.2).trans HB.out.hb)
  exact ⟨row_free h1 0, _, (cells3 h1).1⟩
 obtain ⟨hf0, u0, hu0⟩ := hfr
 have HK := Lib.hid hk2
 have HF := Lib.hid hfin
 have hc0 := cb.1
 clear hb1 hbr hk1 hk2 hfin cb hown' hgrow hat hB1 c0 c1 c2
 go_wp2
 go_ret
 exact ⟨rfl, HK.out, HF.out⟩
end Go.Proofs.YtlbfffokkhccaaaGreatDoor
namespace Go.Proofs.YtlbfffokkhccaaaGreatDoor
open Go.RowKit Go.Deep
abbrev plT : TypeId := 58
def Grown (base b size : Nat) (ss : Segs) (i k : Nat) (P : Nat → Prop) (w : World) (e : Ending) (w' : World) : Prop :=
 e = .returned (.agg #[.int .i64 (i : Nat), .int .i64 (wn (sgS ss i) : Nat)]) ∧ KP P w w' ∧ Bun w' base b size (growB ss i k) (fun k => P k ∨ w.heap.size ≤ k)
set_option maxHeartbeats 2000000 in
set_option maxRecDepth 100000 in
theorem grow_much (base b size : Nat) (ss : Segs) (P : Nat → Prop) (w : World) (h : Bun w base b size ss P) (i k : Nat) (ht : totS ss ≤ 200) (hk : k ≤ 100000) (hm : 200 < totS ss + k) :
 Calls Tryz.prog 35 #[.pointer (some ⟨b, 0, none⟩), .int .i64 (i : Int), .int .i64 (k : Int)] w (Too P w) := by
 obtain ⟨row, g, v, hB, hP⟩ := h
 obtain ⟨c0, c1, c2⟩ := cells3 hB.hb
 have hf := row_free hB.hb 2
 have hbl := hB.lt b (.inl rfl)
 have hd : decide (200 < (totS ss : Int) + (k : Int)) = true := decide_eq_true (by omega)
 have HP := Lib.hid (hP b (.inl rfl))
 generalize totS ss = t at *
 clear hB hP
 go_enter Tryz.func35, Tryz.ntmps35
 go_wp2
 exact ⟨rfl, rfl, (KP.set HP.out _ 2 _).trans (KP.of_below ((Below.refl _ _).alloc (Nat.le_refl _) _)) (fun _ _ h => h)⟩
theorem Bun.other {w : World} {base b size N : Nat} {ss : Segs} {P : Nat → Prop} {x : Array Value} {T : TypeId} (h : Bun w base b size ss P) (hN : w.heap[N]? = some (.cells x T (0, 0))) (hT : T ≠ buT ∧ T ≠ psgT ∧ T ≠ sgT ∧ T ≠ wdT) (i : Nat) (u : Value) : Bun (w.setCell ⟨N, i, none⟩ u) base b size ss P := by
 obtain ⟨row, g, v, hB, hP⟩ := h
 refine ⟨row, g, v, hB.keep (fun k hk => Below.heap_setCell w ⟨N, i, none⟩ u k ?_), hP⟩
 show k ≠ N
 rcases hk with rfl | e | ⟨j, hj, rfl | e⟩
 · exact ne_T hB.hb hN (fun e => hT.1 e.symm)
 · obtain ⟨c, hc⟩ := own_T hB.hr e
   exact ne_T hc hN (fun e => hT.2.1 e.symm)
 · exact ne_T (hB.hg j hj) hN (fun e => hT.2.2.1 e.symm)
 · obtain ⟨c, hc⟩ := own_T (hB.ho j hj) e
   exact ne_T hc hN (fun e => hT.2.2.2 e.symm)
theorem bu_alloc2 {w : World} {base b size W : Nat} {ss : Segs} {row : Value} {g : Nat → Nat} {v : Nat → Value} (h : Bu w base b size W ss row g v) (o o' : Obj) : Bu ((w.alloc o).alloc o') base b size W ss row g v :=
 h.keep (fun k hk => (((Below.refl w.heap.size w).alloc (Nat.le_refl _) o).alloc (by simp) o').block k (h.lt k hk).2)
set_option maxHeartbeats 2000000 in
set_option maxRecDepth 100000 in
theorem grow_more (base b size : Nat) (ss : Segs) (P : Nat → Prop) (w : World) (h : Bun w base b size ss P) (hw8 : WdS ss) (i k : Nat) (hi : i < ss.length) (hm : totS ss + k ≤ 200) :
 Calls Tryz.prog 35 #[.pointer (some ⟨b, 0, none⟩), .int .i64 (i : Int), .int .i64 (k : Int)] w (Grown base b size ss i k P w) := by
 obtain ⟨row, g, v, hB, hP⟩ := h
 have hbl := hB.lt b (.inl rfl)
 have hB1 := hB.words (totS ss + k)
 have hk1 : KP P w (w.setCell ⟨b, 2, none⟩ (.int .i64 (totS ss + k : Nat))) := KP.set (hP b (.inl rfl)) w 2 _
 have hs1 : (w.setCell ⟨b, 2, none⟩ (.int .i64 (totS ss + k : Nat))).heap.size = w.heap.size := by simp [World.setCell]
 have hcast : ((totS ss + k : Nat) : Int) = (totS ss : Int) + (k : Int) := by omega
 rw [hcast] at hB1 hk1 hs1
 obtain ⟨c0, c1, c2⟩ := cells3 hB.hb
 have hf := row_free hB.hb 2
 obtain ⟨r, cap, hrow, hcr⟩ := hB1.row hi
 obtain ⟨A, cp, hv, hcg, hfg⟩ := hB1.seg hi
 obtain ⟨d0, d1, d2⟩ := cells3 hB1.hb
 have hlt : (i : Int) < (ss.length : Int) := by omega
 have hd : decide (200 < (totS ss : Int) + (k : Int)) = false := decide_eq_false (by omega)
 have hgl := hB1.lt (g i) (.inr (.inr ⟨i, hi, .inl rfl⟩))
 rw [hrow] at c0 d0
 rw [hv] at hcg
 have HB1 := Lib.hid hB1
 have HK1 := Lib.hid hk1
 have HP := Lib.hid hP
 have HV := Lib.hid hv
 have HROW := Lib.hid hrow
 have hcri := hcr i hi
 have hwi := wn_le_totS ss i
 have hal : ∀ {p : Addr} {u : Value}, (w.setCell ⟨b, 2, none⟩ (.int .i64 ((totS ss : Int) + (k : Int)))).cell? p = some u → (∀ o, ((w.setCell ⟨b, 2, none⟩ (.int .i64 ((totS ss : Int) + (k : Int)))).alloc o).cell? p = some u) ∧ (∀ o o', (((w.setCell ⟨b, 2, none⟩ (.int .i64 ((totS ss : Int) + (k : Int)))).alloc o).alloc o').cell? p = some u) := fun {p u} h => by
  have hlt := World.block_lt_of_cell? _ _ h
  have h1 : ∀ o, ((w.setCell ⟨b, 2, none⟩ (.int .i64 ((totS ss : Int) + (k : Int)))).alloc o).cell? p = some u := fun o => by rw [World.cell?_alloc_lt _ _ _ hlt]; exact h
  exact ⟨h1, fun o o' => by rw [World.cell?_alloc_lt _ _ _ (by simp; omega)]; exact h1 o⟩
 obtain ⟨p1, p2⟩ := hal hcri
 obtain ⟨q1, q2⟩ := hal hcg
 obtain ⟨r1, r2⟩ := hal d0
 have HO := Lib.hid (HB1.out.ho i hi)
 rw [HV.out] at HO
 clear hB hB1 hk1 hP hcr hcast hv hrow hal d0 d1 d2 hcri hcg
 go_enter Tryz.func35, Tryz.ntmps35
 go_wp2_with (refine wpList_append_zw rfl (.tmp 42) (.tmp 43) rfl base ?b0 _ (wn (sgS ss i)) _ rfl ((HO.out.alloc _).alloc _) k rfl (by omega) ?_)
 case b0 => simp; omega
 intro A' c' w2 hown hgrow hat
 have hBa := bu_alloc2 HB1.out (.cells #[.int .i64 0, .int .i64 0] plT) (.cells #[.int .i64 (i : Int), .int .i64 (wn (sgS ss i) : Int)] plT)
 have hne : ∀ m, (v i).ownBlock = some m → m < w.heap.size := fun m e => by have := (HB1.out.lt m (.inr (.inr ⟨i, hi, .inr e⟩))).2; omega
 have hgr2 := hgrow.out
 rw [← HV.out] at hgr2
 have hB2 := hBa.grow (by simp; omega) hi hw8 (.slice A' (wn (sgS ss i) + k) c') hown.out hgr2 (by rw [HV.out]; simpa using hat.out)
 have hp0 : w2.heap[w.heap.size]? = some (.cells #[.int .i64 0, .int .i64 0] plT (0, 0)) := (hgr2.block _ (by simp; omega) (fun e => by have := hne _ e.symm; omega)).trans (by rw [← hs1]; exact heap_alloc_keep (heap_alloc_new _ _) _)
 have hp1 : w2.heap[w.heap.size + 1]? = some (.cells #[.int .i64 (i : Int), .int .i64 (wn (sgS ss i) : Int)] plT (0, 0)) := (hgr2.block _ (by simp) (fun e => by have := hne _ e.symm; omega)).trans (by
  have := heap_alloc_new ((w.setCell ⟨b, 2, none⟩ (.int .i64 ((totS ss : Int) + (k : Int)))).alloc (.cells #[.int .i64 0, .int .i64 0] plT)) (.cells #[.int .i64 (i : Int), .int .i64 (wn (sgS ss i) : Int)] plT)
  rwa [show ((w.setCell ⟨b, 2, none⟩ (.int .i64 ((totS ss : Int) + (k : Int)))).alloc (.cells #[.int .i64 0, .int .i64 0] plT)).heap.size = w.heap.size + 1 by simp] at this)
 have hg2 : w2.heap[g i]? = some (.cells #[.slice A (wn (sgS ss i)) cp] sgT (0, 0)) := (hgr2.block _ (by simp; omega) (fun e => by obtain ⟨c, hc⟩ := own_T (hBa.ho i hi) e.symm; exact ne_T (hBa.hg i hi) hc (by decide) rfl)).trans (by rw [hBa.hg i hi, HV.out])
 have hs2 := hgr2.size
 have hfr := row_free hg2 0
 have hcc : w2.cell? ⟨g i, 0, none⟩ = some (.slice A (wn (sgS ss i)) cp) := by rw [cell_of_row _ _ _ _ _ _ hg2]; rfl
 have hp0' := (Below.heap_setCell w2 ⟨g i, 0, none⟩ (.slice A' (wn (sgS ss i) + k) c') w.heap.size (by show w.heap.size ≠ g i; omega)).trans hp0
 have hp1' := (Below.heap_setCell w2 ⟨g i, 0, none⟩ (.slice A' (wn (sgS ss i) + k) c') (w.heap.size + 1) (by show w.heap.size + 1 ≠ g i; omega)).trans hp1
 have k2 := HK1.out.trans (KP.of_below (((Below.refl _ _).alloc (Nat.le_refl _) (.cells #[.int .i64 0, .int .i64 0] plT)).alloc (by simp) (.cells #[.int .i64 (i : Int), .int .i64 (wn (sgS ss i) : Int)] plT))) (fun _ _ h => h)
 have k3 := k2.trans (Q := P) (KP.mk hgr2.os hgr2.tape hgr2.output hgr2.size (fun m hm hn => hgr2.block m hm (fun e => hn (HP.out m (.inr (.inr ⟨i, hi, .inr e.symm⟩)))))) (fun _ _ h => h)
 have hkp := k3.trans (KP.set (HP.out _ (.inr (.inr ⟨i, hi, .inl rfl⟩))) w2 0 (.slice A' (wn (sgS ss i) + k) c')) (fun _ _ h => h)
 have hbun : Bun (w2.setCell ⟨g i, 0, none⟩ (.slice A' (wn (sgS ss i) + k) c')) base b size (growB ss i k) (fun k => P k ∨ w.heap.size ≤ k) := by
  refine ⟨_, _, _, by rw [grow_totS hi]; exact hB2, ?_⟩
  rintro m (rfl | e | ⟨j, hj, e | e⟩)
  · exact .inl (HP.out _ (.inl rfl))
  · exact .inl (HP.out _ (.inr (.inl e)))
  · exact .inl (HP.out _ (.inr (.inr ⟨j, by rwa [growB_length] at hj, .inl e⟩)))
  · rw [growB_length] at hj
    dsimp only at e; split at e
    · rcases hat.out with e2 | e2
      · exact .inl (HP.out _ (.inr (.inr ⟨i, hi, .inr (by rw [HV.out, ← e2]; exact e)⟩)))
      · rw [e2] at e; injection e with e; right; omega
    · exact .inl (HP.out _ (.inr (.inr ⟨j, hj, .inr e⟩)))
 have hsz : w.heap.size + 1 < w2.heap.size := by simp at hs2; omega
 have hsz' : (w2.setCell ⟨g i, 0, none⟩ (.slice A' (wn (sgS ss i) + k) c')).heap.size = w2.heap.size := by simp [World.setCell]
 have HKP := Lib.hid hkp
 have HBU := Lib.hid hbun
 have HP0 := Lib.hid hp0'
 have HP1 := Lib.hid hp1'
 obtain ⟨n00, n01⟩ := cell_pair hp0
 obtain ⟨n10, n11⟩ := cell_pair hp1
 have f00 := row_free hp0 0
 have f01 := row_free hp0 1
 clear k2 k3 hBa hne hgr2 hB2 hp0 hp1 hg2 hs2 hp0' hp1' hkp hbun p1 p2 q1 q2 r1 r2 hown hgrow hat HO hw8
 go_wp2_with fail
 have hrow := row_setN (row_setN HP0.out 0 (.int .i64 (i : Int))) 1 (.int .i64 (wn (sgS ss i) : Int))
 have k5 : KP (fun m => w.heap.size ≤ m) (w2.setCell ⟨g i, 0, none⟩ (.slice A' (wn (sgS ss i) + k) c')) (((w2.setCell ⟨g i, 0, none⟩ (.slice A' (wn (sgS ss i) + k) c')).setCell ⟨w.heap.size, 0, none⟩ (.int .i64 (i : Int))).setCell ⟨w.heap.size, 1, none⟩ (.int .i64 (wn (sgS ss i) : Int))) := (KP.set (Nat.le_refl _) _ 0 _).trans (KP.set (Nat.le_refl _) _ 1 _) (fun _ _ h => h)
 obtain ⟨e0, e1⟩ := cell_pair hrow
 refine bodyPost_ret (v := .agg #[.int .i64 (i : Int), .int .i64 (wn (sgS ss i) : Int)]) (by simp [results, Tryz.results35, go_sem, e0, e1]) rfl ⟨rfl, ?_, ?_⟩
 · exact HKP.out.trans k5 (fun m h1 h2 => by omega)
 · exact (HBU.out.other HP0.out (by decide) 0 _).other (row_setN HP0.out 0 _) (by decide) 1 _
end Go.Proofs.YtlbfffokkhccaaaGreatDoor
namespace Go.Proofs.YtlbfffokkhccaaaGreatDoor
open Go.RowKit Go.Deep
def fitS (size : Nat) (ss : Segs) (i k : Nat) : Bool := decide (wn (sgS ss i) + k ≤ size)
set_option maxHeartbeats 2000000 in
set_option maxRecDepth 100000 in
theorem fits_any (base b size : Nat) (ss : Segs) (P : Nat → Prop) (w : World) (h : Bun w base b size ss P) (i k : Nat) (hi : i < ss.length) (hz : size ≤ 100000) (hk : k ≤ 100000) (ht : totS ss ≤ 100000) :
 Calls Tryz.prog 119 #[.pointer (some ⟨b, 0, none⟩), .int .i64 (i : Int), .int .i64 (k : Int)] w fun e w' => e = .returned (.bool (fitS size ss i k)) ∧ Below w.heap.size w w' := by
 obtain ⟨row, g, v, hB, hP⟩ := h
 obtain ⟨c0, c1, c2⟩ := cells3 hB.hb
 obtain ⟨r, cap, rfl, hcr⟩ := hB.row hi
 obtain ⟨A, cp, hv, hcg, hfg⟩ := hB.seg hi
 rw [hv] at hcg
 have hcri := hcr i hi
 have hlt : (i : Int) < (ss.length : Int) := by omega
 have hwi := wn_le_totS ss i
 obtain ⟨B, hBB⟩ : ∃ B, fitS size ss i k = B := ⟨_, rfl⟩
 have hd : decide ((wn (sgS ss i) : Int) + (k : Int) ≤ (size : Int)) = B := by rw [← hBB]; unfold fitS; rw [Bool.eq_iff_iff]; simp; omega
 rw [hBB]
 clear hBB hB hP hcr hfg hv
 generalize wn (sgS ss i) = x at *
 generalize totS ss = t at *
 generalize g i = gi at *
 cases B
 all_goals
  go_enter Tryz.func119, Tryz.ntmps119
  go_wp2_with fail
  go_quiet (fail)
  go_wp2
  go_ret
  exact ⟨rfl, ⟨rfl, rfl, rfl, Nat.le_refl _, fun _ _ => rfl⟩⟩
set_option maxHeartbeats 2000000 in
theorem behind_any (i a k : Nat) (w : World) (ha : a ≤ 1000000) (hk : k ≤ 1000000) :
 Calls Tryz.prog 118 #[.agg #[.int .i64 (i : Int), .int .i64 (a : Int)], .int .i64 (k : Int)] w fun e w' => e = .returned (.agg #[.int .i64 (i : Int), .int .i64 (a + k : Nat)]) ∧ Below w.heap.size w w' := by
 go_enter Tryz.func118, Tryz.ntmps118
 go_wp2
 refine bodyPost_ret (v := .agg #[.int .i64 (i : Int), .int .i64 ((a : Int) + (k : Int))]) (by simp [results, Tryz.results118, go_sem]) rfl ⟨by simp, ?_⟩
 exact ((Below.refl _ _).alloc (Nat.le_refl _) _).alloc (by simp) _
end Go.Proofs.YtlbfffokkhccaaaGreatDoor
namespace Go.Proofs.YtlbfffokkhccaaaGreatDoor
open Go.RowKit
set_option maxHeartbeats 1000000 in
theorem put_any (l : List UInt8) (at_ size n : Int) (w : World) (hl : l.length = 8) (h0 : 0 ≤ at_) (h1 : 0 ≤ size) (h2 : at_ + size ≤ 8) (hn0 : 0 ≤ n) (hn1 : n < 18446744073709551616) :
 Calls Tryz.prog 107 #[.agg (wd l), .int .i64 at_, .int .i64 size, .int .u64 n] w fun e w' => e = .returned (.agg (wd (putL l at_.toNat (leB n size.toNat)))) ∧ Below w.heap.size w w' := by
 obtain ⟨a, rfl⟩ := Int.eq_ofNat_of_zero_le h0
 obtain ⟨z, rfl⟩ := Int.eq_ofNat_of_zero_le h1
 have HL := Lib.hid hl
 clear hl
 go_enter Tryz.func107, Tryz.ntmps107
 go_wp2
 go_loopw [3, 9] (fun m i wr => ∃ k : Nat, k ≤ z ∧ i = .int .i64 ((a : Int) + k) ∧ m = .int .u64 (shr8 n k) ∧ Hid (wr.heap[w.heap.size]? = some (.cells (wd (putL l a (leB n k))) 87 (0, 0))) ∧ Hid (wr.heap[w.heap.size + 1]? = some (.cells #[.int .u8 0, .int .u8 0, .int .u8 0, .int .u8 0, .int .u8 0, .int .u8 0, .int .u8 0, .int .u8 0] 87 (0, 0))) ∧ Hid (Below w.heap.size w wr)) (fun _ i _ => (a + z - intOf i).toNat)
 case atStart =>
  refine ⟨0, by omega, by simp, rfl, ?_, ?_, ?_⟩
  · rw [leB, putL_nil]; exact heap_alloc2_old w _ _
  · exact heap_alloc2_new w _ _
  · exact ((Below.refl _ _).alloc (Nat.le_refl _) _).alloc (by simp) _
 case round =>
  obtain ⟨k, hk, rfl, rfl, HW, HZ, HB⟩ := hrel
  have hbd := shr8_bd n k hn0 hn1
  obtain ⟨hb0, hb1⟩ := hbd
  by_cases hlt : k < z
  · have hcell := wd_cell_row HW.out (a + k) (by rw [putL_length _ _ _ (by rw [leB_length, HL.out]; omega), HL.out]; omega)
    have hfr := frozen_row HW.out (a + k)
    go_wp2
    go_roundw
    case rel =>
     exact ⟨k + 1, by omega, by go_num, rfl, put_step l a n k (by rw [HL.out]; omega) HW.out, heap_set_far _ (by omega) HZ.out, HB.out.setCell (Nat.le_refl _) _⟩
    case measure => simp [intOf]; omega
  · obtain rfl : k = z := by omega
    have hpl : (putL l a (leB n k)).length = 8 := by rw [putL_length _ _ _ (by rw [leB_length, HL.out]; omega), HL.out]
    have HP := Lib.hid hpl
    clear hpl
    go_wp2_with (first | (refine wpList_load_wd rfl 87 (.tmp 4) rfl w.heap.size rfl 87 _ _ HW.out Tryz.underlying87 rfl (by rw [HP.out]; exact size46) ?_) | (refine wpList_store_wd rfl 87 (.tmp 8) (.tmp 24) rfl (w.heap.size + 1) _ rfl rfl 87 _ HZ.out (by rw [HP.out]; exact size46) (by rw [HP.out]; rfl) ?_; intro w5 hg5 hb5))
    refine bodyPost_ret (v := .agg (wd (putL l a (leB n k)))) ?_ rfl ⟨by simp, HB.out.grown hb5.out (by have := HB.out.size; omega) (fun k e => by cases e; simp)⟩
    exact results_cell_row rfl _ _ (w.heap.size + 1) 87 _ (0, 0) _ rfl hg5.out Tryz.underlying87 rfl (by rw [wd_size, HP.out]; exact size46)
end Go.Proofs.YtlbfffokkhccaaaGreatDoor
namespace Go.Proofs.YtlbfffokkhccaaaGreatDoor
open Go.RowKit
set_option maxHeartbeats 400000 in
theorem text_any (l : List UInt8) (w : World) (hl : l.length = 8) :
 Calls Tryz.prog 59 #[.agg (wd l)] w fun e w' => e = .returned (.string ⟨l.toArray⟩) ∧ Below w.heap.size w w' := by
 have hrow := heap_alloc_new w (.cells (wd l) 87)
 have hcv : (convert 22 9 (.slice (some ⟨w.heap.size, 0, none⟩) 8 8)).run Tryz.prog (w.alloc (.cells (wd l) 87)) = .ok (.string ⟨l.toArray⟩) (w.alloc (.cells (wd l) 87)) := by
  exact convert_wd _ _ _ _ _ _ 8 l hl Tryz.underlying22 Tryz.underlying5 Tryz.underlying9 hrow (by rw [List.take_of_length_le (by simp [wd, Lib.byteCells_length, hl])]; simp [wd])
 have HL := Lib.hid hl
 clear hl hrow
 go_enter Tryz.func59, Tryz.ntmps59
 go_wp2
 go_ret
 exact ⟨rfl, (Below.refl _ _).alloc (Nat.le_refl _) _⟩
theorem text_lit (b0 b1 b2 b3 b4 b5 b6 b7 : UInt8) (w : World) :
 Calls Tryz.prog 59 #[.agg #[.int .u8 b0.toNat, .int .u8 b1.toNat, .int .u8 b2.toNat, .int .u8 b3.toNat, .int .u8 b4.toNat, .int .u8 b5.toNat, .int .u8 b6.toNat, .int .u8 b7.toNat]] w fun e w' =>
  e = .returned (.string ⟨#[b0, b1, b2, b3, b4, b5, b6, b7]⟩) ∧ Below w.heap.size w w' := text_any [b0, b1, b2, b3, b4, b5, b6, b7] w rfl
end Go.Proofs.YtlbfffokkhccaaaGreatDoor
namespace Go.Proofs.YtlbfffokkhccaaaGreatDoor
open Go.RowKit
def zeros8 : List UInt8 := [0, 0, 0, 0, 0, 0, 0, 0]
theorem put_zero (n : Int) (w : World) (hn0 : 0 ≤ n) (hn1 : n < 18446744073709551616) :
 Calls Tryz.prog 107 #[.agg #[.int .u8 0, .int .u8 0, .int .u8 0, .int .u8 0, .int .u8 0, .int .u8 0, .int .u8 0, .int .u8 0], .int .i64 0, .int .i64 8, .int .u64 n] w fun e w' => e = .returned (.agg (wd (leB n 8))) ∧ Below w.heap.size w w' := by
 have hput : putL zeros8 (0 : Int).toNat (leB n (8 : Int).toNat) = leB n 8 := by
  show putL zeros8 0 (leB n 8) = leB n 8
  rw [putL, leB_length, zeros8]; simp
 have h := put_any zeros8 0 8 n w rfl (by decide) (by decide) (by decide) hn0 hn1
 rw [hput] at h
 exact h
set_option maxHeartbeats 1000000 in
theorem wordOf_any (n : Int) (w : World) (hn0 : 0 ≤ n) (hn1 : n < 18446744073709551616) :
 Calls Tryz.prog 57 #[.int .u64 n] w fun e w' => e = .returned (.agg (wd (leB n 8))) ∧ Below w.heap.size w w' := by
 have HL : Hid ((leB n 8).length = 8) := Lib.hid (leB_length n 8)
 go_enter Tryz.func57, Tryz.ntmps57
 go_wp2_with fail
 refine (put_zero n _ hn0 hn1).mono ?_
 rintro e w1 ⟨rfl, hb1⟩
 have hA : Hid (w1.heap[w.heap.size]? = some (.cells #[.int .u8 0, .int .u8 0, .int .u8 0, .int .u8 0, .int .u8 0, .int .u8 0, .int .u8 0, .int .u8 0] 87 (0, 0))) :=
  (hb1.block w.heap.size (by simp; omega)).trans (heap_alloc2_old w _ _)
 have hB : Hid (Below w.heap.size w w1) := ((Below.refl _ w).alloc (Nat.le_refl _) _ |>.alloc (by simp) _).trans (hb1.mono (by simp; omega))
 clear hb1
 go_wp2_with (refine wpList_store_wd rfl 87 (.tmp 2) (.tmp 6) rfl w.heap.size (leB n 8) rfl rfl 87 _ hA.out (by rw [HL.out]; exact size46) (by rw [HL.out]; rfl) ?_; intro w5 hg5 hb5)
 refine bodyPost_ret (v := .agg (wd (leB n 8))) ?_ rfl ⟨rfl, hB.out.grown hb5.out (by have := hB.out.size; omega) (fun k e => by cases e; simp)⟩
 exact results_cell_row rfl _ _ w.heap.size 87 _ (0, 0) _ rfl hg5.out Tryz.underlying87 rfl (by rw [wd_size, HL.out]; exact size46)
end Go.Proofs.YtlbfffokkhccaaaGreatDoor