/- Texts of the proof of the law FnExactCanonPut, side by side: part 29. -/
import Derived.Test.YtbijfkpilncclaaGreatMExactCanonPut00
import Derived.Test.YtbijfkpilncclaaGreatMExactCanonPut01
import Derived.Test.YtbijfkpilncclaaGreatMExactCanonPut02
import Derived.Test.YtbijfkpilncclaaGreatMExactCanonPut03
import Derived.Test.YtbijfkpilncclaaGreatMExactCanonPut04
import Derived.Test.YtbijfkpilncclaaGreatMExactCanonPut05
import Derived.Test.YtbijfkpilncclaaGreatMExactCanonPut06
import Derived.Test.YtbijfkpilncclaaGreatMExactCanonPut07
import Derived.Test.YtbijfkpilncclaaGreatMExactCanonPut08
import Derived.Test.YtbijfkpilncclaaGreatMExactCanonPut09
import Derived.Test.YtbijfkpilncclaaGreatMExactCanonPut10
import Derived.Test.YtbijfkpilncclaaGreatMExactCanonPut11
import Derived.Test.YtbijfkpilncclaaGreatMExactCanonPut12
import Derived.Test.YtbijfkpilncclaaGreatMExactCanonPut13
import Derived.Test.YtbijfkpilncclaaGreatMExactCanonPut14
import Derived.Test.YtbijfkpilncclaaGreatMExactCanonPut15
import Derived.Test.YtbijfkpilncclaaGreatMExactCanonPut16
import Derived.Test.YtbijfkpilncclaaGreatMExactCanonPut17
import Derived.Test.YtbijfkpilncclaaGreatMExactCanonPut18
import Derived.Test.YtbijfkpilncclaaGreatMExactCanonPut19
import Derived.Test.YtbijfkpilncclaaGreatMExactCanonPut20
import Derived.Test.YtbijfkpilncclaaGreatMExactCanonPut21
import Derived.Test.YtbijfkpilncclaaGreatMExactCanonPut22
import Derived.Test.YtbijfkpilncclaaGreatMExactCanonPut23
import Derived.Test.YtbijfkpilncclaaGreatMExactCanonPut24
import Derived.Test.YtbijfkpilncclaaGreatMExactCanonPut25
import Derived.Test.YtbijfkpilncclaaGreatMExactCanonPut26
import Derived.Test.YtbijfkpilncclaaGreatMExactCanonPut27
import Derived.Test.YtbijfkpilncclaaGreatMExactCanonPut28
/- The program's builder: words more in a segment. -/
namespace Go.Proofs.YtbijfkpilncclaaGreat
open Go.RowKit Go.Deep
abbrev plT : TypeId := 60
def Grown (base b size : Nat) (ss : Segs) (i k : Nat) (P : Nat → Prop) (w : World) (e : Ending) (w' : World) : Prop :=
  e = .returned (.agg #[.int .i64 (i : Nat), .int .i64 (wn (sgS ss i) : Nat)]) ∧ KP P w w' ∧ Bun w' base b size (growB ss i k) (fun k => P k ∨ w.heap.size ≤ k)
set_option maxHeartbeats 2000000 in
set_option maxRecDepth 100000 in
theorem grow_much (base b size : Nat) (ss : Segs) (P : Nat → Prop) (w : World) (h : Bun w base b size ss P) (i k : Nat) (ht : totS ss ≤ 200) (hk : k ≤ 100000) (hm : 200 < totS ss + k) :
    Calls Tryz.prog 39 #[.pointer (some ⟨b, 0, none⟩), .int .i64 (i : Int), .int .i64 (k : Int)] w (Too P w) := by
  obtain ⟨row, g, v, hB, hP⟩ := h
  obtain ⟨c0, c1, c2⟩ := cells3 hB.hb
  have hf := row_free hB.hb 2
  have hbl := hB.lt b (.inl rfl)
  have hd : decide (200 < (totS ss : Int) + (k : Int)) = true := decide_eq_true (by omega)
  have HP := Lib.hid (hP b (.inl rfl))
  generalize totS ss = t at *
  clear hB hP
  go_enter Tryz.func39, Tryz.ntmps39
  go_wp2
  exact ⟨rfl, rfl, (KP.set HP.out _ 2 _).trans (KP.of_below ((Below.refl _ _).alloc (Nat.le_refl _) _)) (fun _ _ h => h)⟩
theorem Bun.other {w : World} {base b size N : Nat} {ss : Segs} {P : Nat → Prop} {x : Array Value} {T : TypeId} (h : Bun w base b size ss P) (hN : w.heap[N]? = some (.cells x T (0, 0))) (hT : T ≠ buT ∧ T ≠ psgT ∧ T ≠ sgT ∧ T ≠ wdT) (i : Nat) (u : Value) : Bun (w.setCell ⟨N, i, none⟩ u) base b size ss P := by
  obtain ⟨row, g, v, hB, hP⟩ := h
  refine ⟨row, g, v, hB.keep (fun k hk => Below.heap_setCell w ⟨N, i, none⟩ u k ?_), hP⟩
  show k ≠ N
  rcases hk with rfl | e | ⟨j, hj, rfl | e⟩
  · exact ne_T hB.hb hN (fun e => hT.1 e.symm)
  · obtain ⟨c, hc⟩ := own_T hB.hr e
    exact ne_T hc hN (fun e => hT.2.1 e.symm)
  · exact ne_T (hB.hg j hj) hN (fun e => hT.2.2.1 e.symm)
  · obtain ⟨c, hc⟩ := own_T (hB.ho j hj) e
    exact ne_T hc hN (fun e => hT.2.2.2 e.symm)
theorem bu_alloc2 {w : World} {base b size W : Nat} {ss : Segs} {row : Value} {g : Nat → Nat} {v : Nat → Value} (h : Bu w base b size W ss row g v) (o o' : Obj) : Bu ((w.alloc o).alloc o') base b size W ss row g v :=
  h.keep (fun k hk => (((Below.refl w.heap.size w).alloc (Nat.le_refl _) o).alloc (by simp) o').block k (h.lt k hk).2)
set_option maxHeartbeats 2000000 in
set_option maxRecDepth 100000 in
theorem grow_more (base b size : Nat) (ss : Segs) (P : Nat → Prop) (w : World) (h : Bun w base b size ss P) (hw8 : WdS ss) (i k : Nat) (hi : i < ss.length) (hm : totS ss + k ≤ 200) :
    Calls Tryz.prog 39 #[.pointer (some ⟨b, 0, none⟩), .int .i64 (i : Int), .int .i64 (k : Int)] w (Grown base b size ss i k P w) := by
  obtain ⟨row, g, v, hB, hP⟩ := h
  have hbl := hB.lt b (.inl rfl)
  have hB1 := hB.words (totS ss + k)
  have hk1 : KP P w (w.setCell ⟨b, 2, none⟩ (.int .i64 (totS ss + k : Nat))) := KP.set (hP b (.inl rfl)) w 2 _
  have hs1 : (w.setCell ⟨b, 2, none⟩ (.int .i64 (totS ss + k : Nat))).heap.size = w.heap.size := by simp [World.setCell]
  have hcast : ((totS ss + k : Nat) : Int) = (totS ss : Int) + (k : Int) := by omega
  rw [hcast] at hB1 hk1 hs1
  obtain ⟨c0, c1, c2⟩ := cells3 hB.hb
  have hf := row_free hB.hb 2
  obtain ⟨r, cap, hrow, hcr⟩ := hB1.row hi
  obtain ⟨A, cp, hv, hcg, hfg⟩ := hB1.seg hi
  obtain ⟨d0, d1, d2⟩ := cells3 hB1.hb
  have hlt : (i : Int) < (ss.length : Int) := by omega
  have hd : decide (200 < (totS ss : Int) + (k : Int)) = false := decide_eq_false (by omega)
  have hgl := hB1.lt (g i) (.inr (.inr ⟨i, hi, .inl rfl⟩))
  rw [hrow] at c0 d0
  rw [hv] at hcg
  have HB1 := Lib.hid hB1
  have HK1 := Lib.hid hk1
  have HP := Lib.hid hP
  have HV := Lib.hid hv
  have HROW := Lib.hid hrow
  have hcri := hcr i hi
  have hwi := wn_le_totS ss i
  have hal : ∀ {p : Addr} {u : Value}, (w.setCell ⟨b, 2, none⟩ (.int .i64 ((totS ss : Int) + (k : Int)))).cell? p = some u → (∀ o, ((w.setCell ⟨b, 2, none⟩ (.int .i64 ((totS ss : Int) + (k : Int)))).alloc o).cell? p = some u) ∧ (∀ o o', (((w.setCell ⟨b, 2, none⟩ (.int .i64 ((totS ss : Int) + (k : Int)))).alloc o).alloc o').cell? p = some u) := fun {p u} h => by
    have hlt := World.block_lt_of_cell? _ _ h
    have h1 : ∀ o, ((w.setCell ⟨b, 2, none⟩ (.int .i64 ((totS ss : Int) + (k : Int)))).alloc o).cell? p = some u := fun o => by rw [World.cell?_alloc_lt _ _ _ hlt]; exact h
    exact ⟨h1, fun o o' => by rw [World.cell?_alloc_lt _ _ _ (by simp; omega)]; exact h1 o⟩
  obtain ⟨p1, p2⟩ := hal hcri
  obtain ⟨q1, q2⟩ := hal hcg
  obtain ⟨r1, r2⟩ := hal d0
  have HO := Lib.hid (HB1.out.ho i hi)
  rw [HV.out] at HO
  clear hB hB1 hk1 hP hcr hcast hv hrow hal d0 d1 d2 hcri hcg
  go_enter Tryz.func39, Tryz.ntmps39
  go_wp2_with (refine wpList_append_zw rfl (.tmp 42) (.tmp 43) rfl base ?b0 _ (wn (sgS ss i)) _ rfl ((HO.out.alloc _).alloc _) k rfl (by omega) ?_)
  case b0 => simp; omega
  intro A' c' w2 hown hgrow hat
  have hBa := bu_alloc2 HB1.out (.cells #[.int .i64 0, .int .i64 0] plT) (.cells #[.int .i64 (i : Int), .int .i64 (wn (sgS ss i) : Int)] plT)
  have hne : ∀ m, (v i).ownBlock = some m → m < w.heap.size := fun m e => by have := (HB1.out.lt m (.inr (.inr ⟨i, hi, .inr e⟩))).2; omega
  have hgr2 := hgrow.out
  rw [← HV.out] at hgr2
  have hB2 := hBa.grow (by simp; omega) hi hw8 (.slice A' (wn (sgS ss i) + k) c') hown.out hgr2 (by rw [HV.out]; simpa using hat.out)
  have hp0 : w2.heap[w.heap.size]? = some (.cells #[.int .i64 0, .int .i64 0] plT (0, 0)) := (hgr2.block _ (by simp; omega) (fun e => by have := hne _ e.symm; omega)).trans (by rw [← hs1]; exact heap_alloc_keep (heap_alloc_new _ _) _)
  have hp1 : w2.heap[w.heap.size + 1]? = some (.cells #[.int .i64 (i : Int), .int .i64 (wn (sgS ss i) : Int)] plT (0, 0)) := (hgr2.block _ (by simp) (fun e => by have := hne _ e.symm; omega)).trans (by
    have := heap_alloc_new ((w.setCell ⟨b, 2, none⟩ (.int .i64 ((totS ss : Int) + (k : Int)))).alloc (.cells #[.int .i64 0, .int .i64 0] plT)) (.cells #[.int .i64 (i : Int), .int .i64 (wn (sgS ss i) : Int)] plT)
    rwa [show ((w.setCell ⟨b, 2, none⟩ (.int .i64 ((totS ss : Int) + (k : Int)))).alloc (.cells #[.int .i64 0, .int .i64 0] plT)).heap.size = w.heap.size + 1 by simp] at this)
  have hg2 : w2.heap[g i]? = some (.cells #[.slice A (wn (sgS ss i)) cp] sgT (0, 0)) := (hgr2.block _ (by simp; omega) (fun e => by obtain ⟨c, hc⟩ := own_T (hBa.ho i hi) e.symm; exact ne_T (hBa.hg i hi) hc (by decide) rfl)).trans (by rw [hBa.hg i hi, HV.out])
  have hs2 := hgr2.size
  have hfr := row_free hg2 0
  have hcc : w2.cell? ⟨g i, 0, none⟩ = some (.slice A (wn (sgS ss i)) cp) := by rw [cell_of_row _ _ _ _ _ _ hg2]; rfl
  have hp0' := (Below.heap_setCell w2 ⟨g i, 0, none⟩ (.slice A' (wn (sgS ss i) + k) c') w.heap.size (by show w.heap.size ≠ g i; omega)).trans hp0
  have hp1' := (Below.heap_setCell w2 ⟨g i, 0, none⟩ (.slice A' (wn (sgS ss i) + k) c') (w.heap.size + 1) (by show w.heap.size + 1 ≠ g i; omega)).trans hp1
  have k2 := HK1.out.trans (KP.of_below (((Below.refl _ _).alloc (Nat.le_refl _) (.cells #[.int .i64 0, .int .i64 0] plT)).alloc (by simp) (.cells #[.int .i64 (i : Int), .int .i64 (wn (sgS ss i) : Int)] plT))) (fun _ _ h => h)
  have k3 := k2.trans (Q := P) (KP.mk hgr2.os hgr2.tape hgr2.output hgr2.size (fun m hm hn => hgr2.block m hm (fun e => hn (HP.out m (.inr (.inr ⟨i, hi, .inr e.symm⟩)))))) (fun _ _ h => h)
  have hkp := k3.trans (KP.set (HP.out _ (.inr (.inr ⟨i, hi, .inl rfl⟩))) w2 0 (.slice A' (wn (sgS ss i) + k) c')) (fun _ _ h => h)
  have hbun : Bun (w2.setCell ⟨g i, 0, none⟩ (.slice A' (wn (sgS ss i) + k) c')) base b size (growB ss i k) (fun k => P k ∨ w.heap.size ≤ k) := by
    refine ⟨_, _, _, by rw [grow_totS hi]; exact hB2, ?_⟩
    rintro m (rfl | e | ⟨j, hj, e | e⟩)
    · exact .inl (HP.out _ (.inl rfl))
    · exact .inl (HP.out _ (.inr (.inl e)))
    · exact .inl (HP.out _ (.inr (.inr ⟨j, by rwa [growB_length] at hj, .inl e⟩)))
    · rw [growB_length] at hj
      dsimp only at e; split at e
      · rcases hat.out with e2 | e2
        · exact .inl (HP.out _ (.inr (.inr ⟨i, hi, .inr (by rw [HV.out, ← e2]; exact e)⟩)))
        · rw [e2] at e; injection e with e; right; omega
      · exact .inl (HP.out _ (.inr (.inr ⟨j, hj, .inr e⟩)))
  have hsz : w.heap.size + 1 < w2.heap.size := by simp at hs2; omega
  have hsz' : (w2.setCell ⟨g i, 0, none⟩ (.slice A' (wn (sgS ss i) + k) c')).heap.size = w2.heap.size := by simp [World.setCell]
  have HKP := Lib.hid hkp
  have HBU := Lib.hid hbun
  have HP0 := Lib.hid hp0'
  have HP1 := Lib.hid hp1'
  obtain ⟨n00, n01⟩ := cell_pair hp0
  obtain ⟨n10, n11⟩ := cell_pair hp1
  have f00 := row_free hp0 0
  have f01 := row_free hp0 1
  clear k2 k3 hBa hne hgr2 hB2 hp0 hp1 hg2 hs2 hp0' hp1' hkp hbun p1 p2 q1 q2 r1 r2 hown hgrow hat HO hw8
  go_wp2_with fail
  have hrow := row_setN (row_setN HP0.out 0 (.int .i64 (i : Int))) 1 (.int .i64 (wn (sgS ss i) : Int))
  have k5 : KP (fun m => w.heap.size ≤ m) (w2.setCell ⟨g i, 0, none⟩ (.slice A' (wn (sgS ss i) + k) c')) (((w2.setCell ⟨g i, 0, none⟩ (.slice A' (wn (sgS ss i) + k) c')).setCell ⟨w.heap.size, 0, none⟩ (.int .i64 (i : Int))).setCell ⟨w.heap.size, 1, none⟩ (.int .i64 (wn (sgS ss i) : Int))) := (KP.set (Nat.le_refl _) _ 0 _).trans (KP.set (Nat.le_refl _) _ 1 _) (fun _ _ h => h)
  obtain ⟨e0, e1⟩ := cell_pair hrow
  refine bodyPost_ret (v := .agg #[.int .i64 (i : Int), .int .i64 (wn (sgS ss i) : Int)]) (by simp [results, Tryz.results39, go_sem, e0, e1]) rfl ⟨rfl, ?_, ?_⟩
  · exact HKP.out.trans k5 (fun m h1 h2 => by omega)
  · exact (HBU.out.other HP0.out (by decide) 0 _).other (row_setN HP0.out 0 _) (by decide) 1 _
end Go.Proofs.YtbijfkpilncclaaGreat

/- The program's builder: whether there is room; another segment; a place behind. -/
namespace Go.Proofs.YtbijfkpilncclaaGreat
open Go.RowKit Go.Deep
def fitS (size : Nat) (ss : Segs) (i k : Nat) : Bool := decide (wn (sgS ss i) + k ≤ size)
set_option maxHeartbeats 2000000 in
set_option maxRecDepth 100000 in
theorem fits_any (base b size : Nat) (ss : Segs) (P : Nat → Prop) (w : World) (h : Bun w base b size ss P) (i k : Nat) (hi : i < ss.length) (hz : size ≤ 100000) (hk : k ≤ 100000) (ht : totS ss ≤ 100000) :
    Calls Tryz.prog 115 #[.pointer (some ⟨b, 0, none⟩), .int .i64 (i : Int), .int .i64 (k : Int)] w fun e w' => e = .returned (.bool (fitS size ss i k)) ∧ Below w.heap.size w w' := by
  obtain ⟨row, g, v, hB, hP⟩ := h
  obtain ⟨c0, c1, c2⟩ := cells3 hB.hb
  obtain ⟨r, cap, rfl, hcr⟩ := hB.row hi
  obtain ⟨A, cp, hv, hcg, hfg⟩ := hB.seg hi
  rw [hv] at hcg
  have hcri := hcr i hi
  have hlt : (i : Int) < (ss.length : Int) := by omega
  have hwi := wn_le_totS ss i
  obtain ⟨B, hBB⟩ : ∃ B, fitS size ss i k = B := ⟨_, rfl⟩
  have hd : decide ((wn (sgS ss i) : Int) + (k : Int) ≤ (size : Int)) = B := by rw [← hBB]; unfold fitS; rw [Bool.eq_iff_iff]; simp; omega
  rw [hBB]
  clear hBB hB hP hcr hfg hv
  generalize wn (sgS ss i) = x at *
  generalize totS ss = t at *
  generalize g i = gi at *
  cases B
  all_goals
    go_enter Tryz.func115, Tryz.ntmps115
    go_wp2_with fail
    go_quiet (fail)
    go_wp2
    go_ret
    exact ⟨rfl, ⟨rfl, rfl, rfl, Nat.le_refl _, fun _ _ => rfl⟩⟩
set_option maxHeartbeats 2000000 in
theorem behind_any (i a k : Nat) (w : World) (ha : a ≤ 1000000) (hk : k ≤ 1000000) :
    Calls Tryz.prog 114 #[.agg #[.int .i64 (i : Int), .int .i64 (a : Int)], .int .i64 (k : Int)] w fun e w' => e = .returned (.agg #[.int .i64 (i : Int), .int .i64 (a + k : Nat)]) ∧ Below w.heap.size w w' := by
  go_enter Tryz.func114, Tryz.ntmps114
  go_wp2
  refine bodyPost_ret (v := .agg #[.int .i64 (i : Int), .int .i64 ((a : Int) + (k : Int))]) (by simp [results, Tryz.results114, go_sem]) rfl ⟨by simp, ?_⟩
  exact ((Below.refl _ _).alloc (Nat.le_refl _) _).alloc (by simp) _
end Go.Proofs.YtbijfkpilncclaaGreat
