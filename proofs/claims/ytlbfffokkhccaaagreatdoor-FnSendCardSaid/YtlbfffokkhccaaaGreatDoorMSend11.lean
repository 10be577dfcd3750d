/- Texts of the proof of the law FnSend, side by side: part 11. -/
import Derived.Deep.RegionHeld3
import Derived.Test.YtlbfffokkhccaaaGreatDoorMSend10
set_option maxHeartbeats 8000000
set_option maxRecDepth 100000
namespace Go.Proofs.YtlbfffokkhccaaaGreatDoor
open Go.RowKit Go.Deep
theorem mu_str (x : Value) (w : World) : (method 395 168 x "loop.example/quoin/impl.bits").run Tryz.prog w = .ok (234, x) w := by kernel_rfl
theorem mu_lis (x : Value) (w : World) : (method 395 170 x "loop.example/quoin/impl.bits").run Tryz.prog w = .ok (238, x) w := by kernel_rfl
theorem mu_far (x : Value) (w : World) : (method 395 172 x "loop.example/quoin/impl.bits").run Tryz.prog w = .ok (240, x) w := by kernel_rfl
def SetP (base b size : Nat) (ss : Segs) (i a : Nat) (t : List UInt8) (P : Nat → Prop) (w : World) (e : Ending) (w' : World) : Prop :=
 e = .returned (.tuple #[]) ∧ KP P w w' ∧ Bun w' base b size (putS ss i a t) P
theorem there_of_row {w : World} {x : Nat} {cur : Array Value} {T : TypeId} (h : w.heap[x]? = some (.cells cur T (0, 0))) (o n : Nat) (hn : o + n ≤ cur.size) : w.there x o n := fun j hj => by
 refine ⟨?_, row_free h _⟩
 rw [cell_of_row _ _ _ _ _ _ h, Array.getElem?_eq_getElem (by omega)]
 rfl
theorem kcw {V V' : World} {a : Addr} {v : Value} (hb : Below V.heap.size V V') (h : V.cell? a = some v) : V'.cell? a = some v := (hb.cell (World.block_lt_of_cell? V a h)).trans h
theorem set_str (base b size : Nat) (ss : Segs) (P : Nat → Prop) (w : World) (h : Bun w base b size ss P) (hw8 : WdS ss) (i a : Nat) (hi : i < ss.length) (ha : a < wn (sgS ss i)) (ht : totS ss ≤ 100000) (o d p : Int) (h0 : -536870912 ≤ o) (h1 : o ≤ 536870911) (hd0 : 0 ≤ d) (hd1 : d < 65536) (hp0 : 0 ≤ p) (hp1 : p < 65536) :
 Calls Tryz.prog 73 #[.pointer (some ⟨b, 0, none⟩), .agg #[.int .i64 (i : Int), .int .i64 (a : Int)], .iface 168 (.agg #[.int .i64 o, .int .i64 d, .int .i64 p])] w (SetP base b size ss i a (w8 (offN o) (d + 65536 * p)) P w) := by
 obtain ⟨row, g, v, hB, hP⟩ := h
 have hme := mu_str (.agg #[.int .i64 o, .int .i64 d, .int .i64 p])
 have hN0 : 0 ≤ offN o + 4294967296 * (d + 65536 * p) := by have := offN_bd o; omega
 have hN1 : offN o + 4294967296 * (d + 65536 * p) < 18446744073709551616 := by have := offN_bd o; omega
 have hL0 : 0 ≤ offN o := by have := offN_bd o; omega
 have hL1 : offN o < 4294967296 := by have := offN_bd o; omega
 have HW8 : Hid (leB (offN o + 4294967296 * (d + 65536 * p)) 8 = w8 (offN o) (d + 65536 * p)) := Lib.hid (leB_two _ _ hL0 hL1)
 have hlen := wds_len hw8 i
 have hwi := wn_le_totS ss i
 have hb0 : Below w.heap.size w (w.alloc (.cells #[.int .i64 (i : Int), .int .i64 (a : Int)] plT)).drew := ((Below.refl _ w).alloc (Nat.le_refl _) _).drew
 obtain ⟨c0, c1, c2⟩ := cells3 hB.hb
 obtain ⟨r, cap, rfl, hcr⟩ := hB.row hi
 obtain ⟨x, cp, cur, hv, hx⟩ := own_cases (hB.ho i hi) (by omega)
 have hcg : w.cell? ⟨g i, 0, none⟩ = some (v i) := by rw [cell_of_row _ _ _ _ _ _ (hB.hg i hi)]; rfl
 rw [hv] at hcg
 have hcri := hcr i hi
 have hlt : (i : Int) < (ss.length : Int) := by omega
 have hlt2 : (a : Int) < (wn (sgS ss i) : Int) := by omega
 have p0 := kcw hb0 c0
 have p1 := kcw hb0 hcri
 have p2 := kcw hb0 hcg
 obtain ⟨q3, q4⟩ := cell_pair (heap_alloc_new w (.cells #[.int .i64 (i : Int), .int .i64 (a : Int)] plT))
 have p3 : (w.alloc (.cells #[.int .i64 (i : Int), .int .i64 (a : Int)] plT)).drew.cell? ⟨w.heap.size, 0, none⟩ = some (.int .i64 (i : Int)) := q3
 have p4 : (w.alloc (.cells #[.int .i64 (i : Int), .int .i64 (a : Int)] plT)).drew.cell? ⟨w.heap.size, 1, none⟩ = some (.int .i64 (a : Int)) := q4
 have HB := Lib.hid hB
 have HP := Lib.hid hP
 have HV := Lib.hid hv
 have HX := Lib.hid hx
 have HB0 := Lib.hid hb0
 have HLEN := Lib.hid hlen
 obtain ⟨gi, hgi⟩ : ∃ gi, gi = g i := ⟨_, rfl⟩
 rw [← hgi] at p1 p2
 have HGI := Lib.hid hgi
 clear hB hP hv hx hb0 hlen hcr hcg hcri c0 c1 c2 q3 q4 hgi
 go_enter Tryz.func73, Tryz.ntmps73
 go_wp2_with fail
 refine wp_region_held_drew (S := (fun V => (V.cell? ⟨b, 0, none⟩ = some (.slice (some ⟨r, 0, none⟩) ss.length cap) ∧ V.cell? ⟨r, i, none⟩ = some (.pointer (some ⟨gi, 0, none⟩)) ∧ V.cell? ⟨gi, 0, none⟩ = some (.slice (some ⟨x, 0, none⟩) (wn (sgS ss i)) cp)) ∧ (V.cell? ⟨w.heap.size, 0, none⟩ = some (.int .i64 (i : Int)) ∧ V.cell? ⟨w.heap.size, 1, none⟩ = some (.int .i64 (a : Int))))) (by kernel_rfl) ?_ (fun hH0 => ?_)
 · exact ⟨⟨p0, p1, p2⟩, ⟨p3, p4⟩⟩
 refine wpAnyH_take (i := 0) (v := ?v1) rfl (by kernel_rfl) (by kernel_rfl) (by kernel_rfl) (fun _ _ _ h => h) (Or.inl ⟨by rfl, ?hy1⟩) (by assumption) ?rest1
 case hy1 =>
  intro w hSw
  (try dsimp only at hSw)
  go_simp
  with_reducible rfl
 try simp only [List.getElem_toArray, List.getElem_cons_succ, List.getElem_cons_zero, Act.put, List.setIfInBounds_toArray, List.set_cons_zero, List.set_cons_succ]
 refine wpAnyH_take (i := 1) (v := ?v2) rfl (by kernel_rfl) (by kernel_rfl) (by kernel_rfl) (fun _ _ _ h => h) (Or.inl ⟨by rfl, ?hy2⟩) (by assumption) ?rest2
 case hy2 =>
  intro w hSw
  (try dsimp only at hSw)
  go_simp
  with_reducible rfl
 try simp only [List.getElem_toArray, List.getElem_cons_succ, List.getElem_cons_zero, Act.put, List.setIfInBounds_toArray, List.set_cons_zero, List.set_cons_succ]
 refine wpAnyH_take (i := 2) (v := ?v3) rfl (by kernel_rfl) (by kernel_rfl) (by kernel_rfl) (fun _ _ _ h => h) (Or.inl ⟨by rfl, ?hy3⟩) (by assumption) ?rest3
 case hy3 =>
  intro w hSw
  (try dsimp only at hSw)
  go_simp
  with_reducible rfl
 try simp only [List.getElem_toArray, List.getElem_cons_succ, List.getElem_cons_zero, Act.put, List.setIfInBounds_toArray, List.set_cons_zero, List.set_cons_succ]
 refine wpAnyH_take (i := 3) (v := ?v4) rfl (by kernel_rfl) (by kernel_rfl) (by kernel_rfl) (fun _ _ _ h => h) (Or.inl ⟨by rfl, ?hy4⟩) (by assumption) ?rest4
 case hy4 =>
  intro w hSw
  (try dsimp only at hSw)
  go_simp
  with_reducible rfl
 try simp only [List.getElem_toArray, List.getElem_cons_succ, List.getElem_cons_zero, Act.put, List.setIfInBounds_toArray, List.set_cons_zero, List.set_cons_succ]
 refine wpAnyH_take (i := 4) (v := ?v5) rfl (by kernel_rfl) (by kernel_rfl) (by kernel_rfl) (fun _ _ _ h => h) (Or.inl ⟨by rfl, ?hy5⟩) (by assumption) ?rest5
 case hy5 =>
  intro w hSw
  (try dsimp only at hSw)
  go_simp
  with_reducible rfl
 try simp only [List.getElem_toArray, List.getElem_cons_succ, List.getElem_cons_zero, Act.put, List.setIfInBounds_toArray, List.set_cons_zero, List.set_cons_succ]
 refine wpAnyH_take (i := 5) (v := ?v6) rfl (by kernel_rfl) (by kernel_rfl) (by kernel_rfl) (fun _ _ _ h => h) (Or.inl ⟨by rfl, ?hy6⟩) (by assumption) ?rest6
 case hy6 =>
  intro w hSw
  (try dsimp only at hSw)
  go_simp
  with_reducible rfl
 try simp only [List.getElem_toArray, List.getElem_cons_succ, List.getElem_cons_zero, Act.put, List.setIfInBounds_toArray, List.set_cons_zero, List.set_cons_succ]
 refine wpAnyH_take (i := 6) (v := ?v7) rfl (by kernel_rfl) (by kernel_rfl) (by kernel_rfl) (fun _ _ _ h => h) (Or.inl ⟨by rfl, ?hy7⟩) (by assumption) ?rest7
 case hy7 =>
  intro w hSw
  (try dsimp only at hSw)
  go_simp
  with_reducible rfl
 try simp only [List.getElem_toArray, List.getElem_cons_succ, List.getElem_cons_zero, Act.put, List.setIfInBounds_toArray, List.set_cons_zero, List.set_cons_succ]
 refine wpAnyH_take (i := 7) (v := ?v8) rfl (by kernel_rfl) (by kernel_rfl) (by kernel_rfl) (fun _ _ _ h => h) (Or.inl ⟨by rfl, ?hy8⟩) (by assumption) ?rest8
 case hy8 =>
  intro w hSw
  (try dsimp only at hSw)
  go_simp
  with_reducible rfl
 try simp only [List.getElem_toArray, List.getElem_cons_succ, List.getElem_cons_zero, Act.put, List.setIfInBounds_toArray, List.set_cons_zero, List.set_cons_succ]
 refine wpAnyH_take (i := 8) (v := ?v9) rfl (by kernel_rfl) (by kernel_rfl) (by kernel_rfl) (fun _ _ _ h => h) (Or.inl ⟨by rfl, ?hy9⟩) (by assumption) ?rest9
 case hy9 =>
  intro w hSw
  (try dsimp only at hSw)
  go_simp
  with_reducible rfl
 try simp only [List.getElem_toArray, List.getElem_cons_succ, List.getElem_cons_zero, Act.put, List.setIfInBounds_toArray, List.set_cons_zero, List.set_cons_succ]
 refine wpAnyH_take (i := 9) (v := ?v10) rfl (by kernel_rfl) (by kernel_rfl) (by kernel_rfl) (fun _ _ _ h => h) (Or.inl ⟨by rfl, ?hy10⟩) (by assumption) ?rest10
 case hy10 =>
  intro w hSw
  (try dsimp only at hSw)
  go_simp
  with_reducible rfl
 try simp only [List.getElem_toArray, List.getElem_cons_succ, List.getElem_cons_zero, Act.put, List.setIfInBounds_toArray, List.set_cons_zero, List.set_cons_succ]
 refine wpAnyH_take (i := 10) (v := ?v11) rfl (by kernel_rfl) (by kernel_rfl) (by kernel_rfl) (fun _ _ _ h => h) (Or.inl ⟨by rfl, ?hy11⟩) (by assumption) ?rest11
 case hy11 =>
  intro w hSw
  (try dsimp only at hSw)
  go_simp
  with_reducible rfl
 try simp only [List.getElem_toArray, List.getElem_cons_succ, List.getElem_cons_zero, Act.put, List.setIfInBounds_toArray, List.set_cons_zero, List.set_cons_succ]
 refine wpAnyH_take (i := 11) (v := ?v12) rfl (by kernel_rfl) (by kernel_rfl) (by kernel_rfl) (fun _ _ _ h => h) (Or.inl ⟨by rfl, ?hy12⟩) (by assumption) ?rest12
 case hy12 =>
  intro w hSw
  (try dsimp only at hSw)
  go_simp
  with_reducible rfl
 try simp only [List.getElem_toArray, List.getElem_cons_succ, List.getElem_cons_zero, Act.put, List.setIfInBounds_toArray, List.set_cons_zero, List.set_cons_succ]
 refine wpAnyH_take (i := 12) (v := ?v13) rfl (by kernel_rfl) (by kernel_rfl) (by kernel_rfl) (fun _ _ _ h => h) (Or.inl ⟨by rfl, ?hy13⟩) (by assumption) ?rest13
 case hy13 =>
  intro w hSw
  (try dsimp only at hSw)
  go_simp
  with_reducible rfl
 try simp only [List.getElem_toArray, List.getElem_cons_succ, List.getElem_cons_zero, Act.put, List.setIfInBounds_toArray, List.set_cons_zero, List.set_cons_succ]
 refine wpAnyH_take (i := 13) (v := ?v14) rfl (by kernel_rfl) (by kernel_rfl) (by kernel_rfl) (fun _ _ _ h => h) (Or.inl ⟨by rfl, ?hy14⟩) (by assumption) ?rest14
 case hy14 =>
  intro w hSw
  (try dsimp only at hSw)
  go_simp
  with_reducible rfl
 try simp only [List.getElem_toArray, List.getElem_cons_succ, List.getElem_cons_zero, Act.put, List.setIfInBounds_toArray, List.set_cons_zero, List.set_cons_succ]
 refine wpAnyH_ready (rs := [14]) (by kernel_rfl) (by simp) ?_
 refine AllReadyH.cons rfl (fun K hK => ?_) AllReadyH.nil
 go_simp
 go_at_call 234
 refine (bits_strB o d p _ h0 h1 hd0 hd1 hp0 (by omega)).mono ?_
 rintro e w2 ⟨rfl, hb2⟩
 go_wp2_with fail
 refine hK.out _ _ ?_ (fun hH1 => ?_)
 · exact ⟨⟨kcw hb2 p0, kcw hb2 p1, kcw hb2 p2⟩, ⟨kcw hb2 p3, kcw hb2 p4⟩⟩
 clear hK K hH0
 try simp only [List.getElem_toArray, List.getElem_cons_succ, List.getElem_cons_zero, Act.put, List.setIfInBounds_toArray, List.set_cons_zero, List.set_cons_succ]
 refine wpAnyH_ready (rs := [15]) (by kernel_rfl) (by simp) ?_
 refine AllReadyH.cons rfl (fun K hK => ?_) AllReadyH.nil
 go_simp
 go_at_call 57
 refine (wordOf_any _ _ hN0 hN1).mono ?_
 rintro e w3 ⟨rfl, hb3⟩
 rw [HW8.out]
 go_wp2_with fail
 refine hK.out _ _ ?_ (fun hH2 => ?_)
 · exact ⟨⟨kcw hb3 (kcw hb2 p0), kcw hb3 (kcw hb2 p1), kcw hb3 (kcw hb2 p2)⟩, ⟨kcw hb3 (kcw hb2 p3), kcw hb3 (kcw hb2 p4)⟩⟩
 clear hK K hH1
 try simp only [List.getElem_toArray, List.getElem_cons_succ, List.getElem_cons_zero, Act.put, List.setIfInBounds_toArray, List.set_cons_zero, List.set_cons_succ]
 refine wpAnyH_take (i := 16) (v := ?v15) rfl (by kernel_rfl) (by kernel_rfl) (by kernel_rfl) (fun _ _ _ h => h) (Or.inl ⟨by rfl, ?hy15⟩) (by assumption) ?rest15
 case hy15 =>
  intro w hSw
  (try dsimp only at hSw)
  go_simp
  with_reducible rfl
 try simp only [List.getElem_toArray, List.getElem_cons_succ, List.getElem_cons_zero, Act.put, List.setIfInBounds_toArray, List.set_cons_zero, List.set_cons_succ]
 have hx3 : w3.heap[x]? = some (.cells cur wdT (0, 0)) := (hb3.block x (Nat.lt_of_lt_of_le (row_lt ((HB0.out.block x (row_lt HX.out.2.1)).trans HX.out.2.1)) hb2.size)).trans ((hb2.block x (row_lt ((HB0.out.block x (row_lt HX.out.2.1)).trans HX.out.2.1))).trans ((HB0.out.block x (row_lt HX.out.2.1)).trans HX.out.2.1))
 have hcs : 8 * a + 8 ≤ cur.size := by have := HX.out.2.2; omega
 have hth := there_of_row hx3 (8 * a) 8 hcs
 have hsz8 : (wd (w8 (offN o) (d + 65536 * p))).size = 8 := by rw [wd_size, w8_length]
 refine wpAnyH_ready (rs := [17]) (by kernel_rfl) (by simp) ?_
 refine AllReadyH.cons rfl (fun K hK => ?_) AllReadyH.nil
 rw [if_pos (by rfl)]
 refine wp_store_mid wdT (.tmp 22) (.tmp 21) rfl x (a * 8) (wd (w8 (offN o) (d + 65536 * p))) ?e1 rfl ?e2 ?e3 (wd_one _) ?_
 case e1 => rfl
 case e2 => rw [hsz8, Nat.mul_comm]; exact hth
 case e3 => rw [hsz8]; exact size46
 have hst : w3.setCells x (a * 8) (wd (w8 (offN o) (d + 65536 * p))).toList = w3.setCells x (8 * a) (Lib.byteCells (w8 (offN o) (d + 65536 * p))) := by rw [Nat.mul_comm]; simp [wd]
 rw [hst]
 have hb3' := (HB0.out.trans (hb2.mono HB0.out.size)).trans (hb3.mono (Nat.le_trans HB0.out.size hb2.size))
 have hB3 := (HB.out.keep (w' := w3) (fun k hk => hb3'.block k (HB.out.lt k hk).2)).put hi (a := a) (t := w8 (offN o) (d + 65536 * p)) (by rw [w8_length]; have := HLEN.out; omega) x _ _ HV.out
 have hk3 : KP P w (w3.setCells x (8 * a) (Lib.byteCells (w8 (offN o) (d + 65536 * p)))) := (KP.of_below hb3').trans (KP.sets (HP.out x (.inr (.inr ⟨i, hi, .inr (by rw [HV.out]; rfl)⟩))) w3 _ _) (fun _ _ h => h)
 have hfin : Bun (w3.setCells x (8 * a) (Lib.byteCells (w8 (offN o) (d + 65536 * p)))) base b size (putS ss i a (w8 (offN o) (d + 65536 * p))) P := ⟨_, _, _, by rw [put_totS hi (by rw [w8_length]; have := HLEN.out; omega)]; exact hB3, fun k hk => HP.out k (by rwa [putS_length] at hk)⟩
 have HK3 := Lib.hid hk3
 have HF3 := Lib.hid hfin
 have hxx : ∀ {ad : Addr} {u : Value}, w3.cell? ad = some u → ad.block ≠ x → (w3.setCells x (8 * a) (Lib.byteCells (w8 (offN o) (d + 65536 * p)))).cell? ad = some u := fun {ad u} h hp => (World.cell?_of_block (setCells_other _ _ _ _ _ hp)).trans h
 refine hK.out _ _ ?_ (fun hH3 => ?_)
 · refine ⟨⟨hxx (kcw hb3 (kcw hb2 p0)) (ne_T HB.out.hb HX.out.2.1 (by decide)), hxx (kcw hb3 (kcw hb2 p1)) ?_, hxx (kcw hb3 (kcw hb2 p2)) ?_⟩, ⟨hxx (kcw hb3 (kcw hb2 p3)) ?_, hxx (kcw hb3 (kcw hb2 p4)) ?_⟩⟩
   · obtain ⟨c, hc⟩ := own_T HB.out.hr (k := r) rfl
     exact ne_T hc HX.out.2.1 (by decide)
   · rw [HGI.out]; exact ne_T (HB.out.hg i hi) HX.out.2.1 (by decide)
   · have := row_lt HX.out.2.1; show w.heap.size ≠ x; omega
   · have := row_lt HX.out.2.1; show w.heap.size ≠ x; omega
 clear hK K hH2 hB3 hk3 hfin hxx hst hth hx3 hb3'
 generalize w3.setCells x (8 * a) (Lib.byteCells (w8 (offN o) (d + 65536 * p))) = w4 at *
 refine wpAnyH_done (by kernel_rfl) ?_ _
 go_wp2
 go_end0
 exact ⟨rfl, HK3.out, HF3.out⟩
theorem set_lis (base b size : Nat) (ss : Segs) (P : Nat → Prop) (w : World) (h : Bun w base b size ss P) (hw8 : WdS ss) (i a : Nat) (hi : i < ss.length) (ha : a < wn (sgS ss i)) (ht : totS ss ≤ 100000) (o z c : Int) (h0 : -536870912 ≤ o) (h1 : o ≤ 536870911) (hz0 : 0 ≤ z) (hz1 : z < 8) (hc0 : 0 ≤ c) (hc1 : c < 536870912) :
 Calls Tryz.prog 73 #[.pointer (some ⟨b, 0, none⟩), .agg #[.int .i64 (i : Int), .int .i64 (a : Int)], .iface 170 (.agg #[.int .i64 o, .int .i64 z, .int .i64 c])] w (SetP base b size ss i a (w8 (offN o + 1) (c * 8 + z)) P w) := by
 obtain ⟨row, g, v, hB, hP⟩ := h
 have hme := mu_lis (.agg #[.int .i64 o, .int .i64 z, .int .i64 c])
 have hN0 : 0 ≤ offN o + 1 + 4294967296 * (c * 8 + z) := by have := offN_bd o; omega
 have hN1 : offN o + 1 + 4294967296 * (c * 8 + z) < 18446744073709551616 := by have := offN_bd o; omega
 have hL0 : 0 ≤ offN o + 1 := by have := offN_bd o; omega
 have hL1 : offN o + 1 < 4294967296 := by have := offN_bd o; omega
 have HW8 : Hid (leB (offN o + 1 + 4294967296 * (c * 8 + z)) 8 = w8 (offN o + 1) (c * 8 + z)) := Lib.hid (leB_two _ _ hL0 hL1)
 have hlen := wds_len hw8 i
 have hwi := wn_le_totS ss i
 have hb0 : Below w.heap.size w (w.alloc (.cells #[.int .i64 (i : Int), .int .i64 (a : Int)] plT)).drew := ((Below.refl _ w).alloc (Nat.le_refl _) _).drew
 obtain ⟨c0, c1, c2⟩ := cells3 hB.hb
 obtain ⟨r, cap, rfl, hcr⟩ := hB.row hi
 obtain ⟨x, cp, cur, hv, hx⟩ := own_cases (hB.ho i hi) (by omega)
 have hcg : w.cell? ⟨g i, 0, none⟩ = some (v i) := by rw [cell_of_row _ _ _ _ _ _ (hB.hg i hi)]; rfl
 rw [hv] at hcg
 have hcri := hcr i hi
 have hlt : (i : Int) < (ss.length : Int) := by omega
 have hlt2 : (a : Int) < (wn (sgS ss i) : Int) := by omega
 have p0 := kcw hb0 c0
 have p1 := kcw hb0 hcri
 have p2 := kcw hb0 hcg
 obtain ⟨q3, q4⟩ := cell_pair (heap_alloc_new w (.cells #[.int .i64 (i : Int), .int .i64 (a : Int)] plT))
 have p3 : (w.alloc (.cells #[.int .i64 (i : Int), .int .i64 (a : Int)] plT)).drew.cell? ⟨w.heap.size, 0, none⟩ = some (.int .i64 (i : Int)) := q3
 have p4 : (w.alloc (.cells #[.int .i64 (i : Int), .int .i64 (a : Int)] plT)).drew.cell? ⟨w.heap.size, 1, none⟩ = some (.int .i64 (a : Int)) := q4
 have HB := Lib.hid hB
 have HP := Lib.hid hP
 have HV := Lib.hid hv
 have HX := Lib.hid hx
 have HB0 := Lib.hid hb0
 have HLEN := Lib.hid hlen
 obtain ⟨gi, hgi⟩ : ∃ gi, gi = g i := ⟨_, rfl⟩
 rw [← hgi] at p1 p2
 have HGI := Lib.hid hgi
 clear hB hP hv hx hb0 hlen hcr hcg hcri c0 c1 c2 q3 q4 hgi
 go_enter Tryz.func73, Tryz.ntmps73
 go_wp2_with fail
 refine wp_region_held_drew (S := (fun V => (V.cell? ⟨b, 0, none⟩ = some (.slice (some ⟨r, 0, none⟩) ss.length cap) ∧ V.cell? ⟨r, i, none⟩ = some (.pointer (some ⟨gi, 0, none⟩)) ∧ V.cell? ⟨gi, 0, none⟩ = some (.slice (some ⟨x, 0, none⟩) (wn (sgS ss i)) cp)) ∧ (V.cell? ⟨w.heap.size, 0, none⟩ = some (.int .i64 (i : Int)) ∧ V.cell? ⟨w.heap.size, 1, none⟩ = some (.int .i64 (a : Int))))) (by kernel_rfl) ?_ (fun hH0 => ?_)
 · exact ⟨⟨p0, p1, p2⟩, ⟨p3, p4⟩⟩
 refine wpAnyH_take (i := 0) (v := ?v16) rfl (by kernel_rfl) (by kernel_rfl) (by kernel_rfl) (fun _ _ _ h => h) (Or.inl ⟨by rfl, ?hy16⟩) (by assumption) ?rest16
 case hy16 =>
  intro w hSw
  (try dsimp only at hSw)
  go_simp
  with_reducible rfl
 try simp only [List.getElem_toArray, List.getElem_cons_succ, List.getElem_cons_zero, Act.put, List.setIfInBounds_toArray, List.set_cons_zero, List.set_cons_succ]
 refine wpAnyH_take (i := 1) (v := ?v17) rfl (by kernel_rfl) (by kernel_rfl) (by kernel_rfl) (fun _ _ _ h => h) (Or.inl ⟨by rfl, ?hy17⟩) (by assumption) ?rest17
 case hy17 =>
  intro w hSw
  (try dsimp only at hSw)
  go_simp
  with_reducible rfl
 try simp only [List.getElem_toArray, List.getElem_cons_succ, List.getElem_cons_zero, Act.put, List.setIfInBounds_toArray, List.set_cons_zero, List.set_cons_succ]
 refine wpAnyH_take (i := 2) (v := ?v18) rfl (by kernel_rfl) (by kernel_rfl) (by kernel_rfl) (fun _ _ _ h => h) (Or.inl ⟨by rfl, ?hy18⟩) (by assumption) ?rest18
 case hy18 =>
  intro w hSw
  (try dsimp only at hSw)
  go_simp
  with_reducible rfl
 try simp only [List.getElem_toArray, List.getElem_cons_succ, List.getElem_cons_zero, Act.put, List.setIfInBounds_toArray, List.set_cons_zero, List.set_cons_succ]
 refine wpAnyH_take (i := 3) (v := ?v19) rfl (by kernel_rfl) (by kernel_rfl) (by kernel_rfl) (fun _ _ _ h => h) (Or.inl ⟨by rfl, ?hy19⟩) (by assumption) ?rest19
 case hy19 =>
  intro w hSw
  (try dsimp only at hSw)
  go_simp
  with_reducible rfl
 try simp only [List.getElem_toArray, List.getElem_cons_succ, List.getElem_cons_zero, Act.put, List.setIfInBounds_toArray, List.set_cons_zero, List.set_cons_succ]
 refine wpAnyH_take (i := 4) (v := ?v20) rfl (by kernel_rfl) (by kernel_rfl) (by kernel_rfl) (fun _ _ _ h => h) (Or.inl ⟨by rfl, ?hy20⟩) (by assumption) ?rest20
 case hy20 =>
  intro w hSw
  (try dsimp only at hSw)
  go_simp
  with_reducible rfl
 try simp only [List.getElem_toArray, List.getElem_cons_succ, List.getElem_cons_zero, Act.put, List.setIfInBounds_toArray, List.set_cons_zero, List.set_cons_succ]
 refine wpAnyH_take (i := 5) (v := ?v21) rfl (by kernel_rfl) (by kernel_rfl) (by kernel_rfl) (fun _ _ _ h => h) (Or.inl ⟨by rfl, ?hy21⟩) (by assumption) ?rest21
 case hy21 =>
  intro w hSw
  (try dsimp only at hSw)
  go_simp
  with_reducible rfl
 try simp only [List.getElem_toArray, List.getElem_cons_succ, List.getElem_cons_zero, Act.put, List.setIfInBounds_toArray, List.set_cons_zero, List.set_cons_succ]
 refine wpAnyH_take (i := 6) (v := ?v22) rfl (by kernel_rfl) (by kernel_rfl) (by kernel_rfl) (fun _ _ _ h => h) (Or.inl ⟨by rfl, ?hy22⟩) (by assumption) ?rest22
 case hy22 =>
  intro w hSw
  (try dsimp only at hSw)
  go_simp
  with_reducible rfl
 try simp only [List.getElem_toArray, List.getElem_cons_succ, List.getElem_cons_zero, Act.put, List.setIfInBounds_toArray, List.set_cons_zero, List.set_cons_succ]
 refine wpAnyH_take (i := 7) (v := ?v23) rfl (by kernel_rfl) (by kernel_rfl) (by kernel_rfl) (fun _ _ _ h => h) (Or.inl ⟨by rfl, ?hy23⟩) (by assumption) ?rest23
 case hy23 =>
  intro w hSw
  (try dsimp only at hSw)
  go_simp
  with_reducible rfl
 try simp only [List.getElem_toArray, List.getElem_cons_succ, List.getElem_cons_zero, Act.put, List.setIfInBounds_toArray, List.set_cons_zero, List.set_cons_succ]
 refine wpAnyH_take (i := 8) (v := ?v24) rfl (by kernel_rfl) (by kernel_rfl) (by kernel_rfl) (fun _ _ _ h => h) (Or.inl ⟨by rfl, ?hy24⟩) (by assumption) ?rest24
 case hy24 =>
  intro w hSw
  (try dsimp only at hSw)
  go_simp
  with_reducible rfl
 try simp only [List.getElem_toArray, List.getElem_cons_succ, List.getElem_cons_zero, Act.put, List.setIfInBounds_toArray, List.set_cons_zero, List.set_cons_succ]
 refine wpAnyH_take (i := 9) (v := ?v25) rfl (by kernel_rfl) (by kernel_rfl) (by kernel_rfl) (fun _ _ _ h => h) (Or.inl ⟨by rfl, ?hy25⟩) (by assumption) ?rest25
 case hy25 =>
  intro w hSw
  (try dsimp only at hSw)
  go_simp
  with_reducible rfl
 try simp only [List.getElem_toArray, List.getElem_cons_succ, List.getElem_cons_zero, Act.put, List.setIfInBounds_toArray, List.set_cons_zero, List.set_cons_succ]
 refine wpAnyH_take (i := 10) (v := ?v26) rfl (by kernel_rfl) (by kernel_rfl) (by kernel_rfl) (fun _ _ _ h => h) (Or.inl ⟨by rfl, ?hy26⟩) (by assumption) ?rest26
 case hy26 =>
  intro w hSw
  (try dsimp only at hSw)
  go_simp
  with_reducible rfl
 try simp only [List.getElem_toArray, List.getElem_cons_succ, List.getElem_cons_zero, Act.put, List.setIfInBounds_toArray, List.set_cons_zero, List.set_cons_succ]
 refine wpAnyH_take (i := 11) (v := ?v27) rfl (by kernel_rfl) (by kernel_rfl) (by kernel_rfl) (fun _ _ _ h => h) (Or.inl ⟨by rfl, ?hy27⟩) (by assumption) ?rest27
 case hy27 =>
  intro w hSw
  (try dsimp only at hSw)
  go_simp
  with_reducible rfl
 try simp only [List.getElem_toArray, List.getElem_cons_succ, List.getElem_cons_zero, Act.put, List.setIfInBounds_toArray, List.set_cons_zero, List.set_cons_succ]
 refine wpAnyH_take (i := 12) (v := ?v28) rfl (by kernel_rfl) (by kernel_rfl) (by kernel_rfl) (fun _ _ _ h => h) (Or.inl ⟨by rfl, ?hy28⟩) (by assumption) ?rest28
 case hy28 =>
  intro w hSw
  (try dsimp only at hSw)
  go_simp
  with_reducible rfl
 try simp only [List.getElem_toArray, List.getElem_cons_succ, List.getElem_cons_zero, Act.put, List.setIfInBounds_toArray, List.set_cons_zero, List.set_cons_succ]
 refine wpAnyH_take (i := 13) (v := ?v29) rfl (by kernel_rfl) (by kernel_rfl) (by kernel_rfl) (fun _ _ _ h => h) (Or.inl ⟨by rfl, ?hy29⟩) (by assumption) ?rest29
 case hy29 =>
  intro w hSw
  (try dsimp only at hSw)
  go_simp
  with_reducible rfl
 try simp only [List.getElem_toArray, List.getElem_cons_succ, List.getElem_cons_zero, Act.put, List.setIfInBounds_toArray, List.set_cons_zero, List.set_cons_succ]
 refine wpAnyH_ready (rs := [14]) (by kernel_rfl) (by simp) ?_
 refine AllReadyH.cons rfl (fun K hK => ?_) AllReadyH.nil
 go_simp
 go_at_call 238
 refine (bits_lisB o z c _ h0 h1 hz0 hz1 hc0 (by omega)).mono ?_
 rintro e w2 ⟨rfl, hb2⟩
 go_wp2_with fail
 refine hK.out _ _ ?_ (fun hH1 => ?_)
 · exact ⟨⟨kcw hb2 p0, kcw hb2 p1, kcw hb2 p2⟩, ⟨kcw hb2 p3, kcw hb2 p4⟩⟩
 clear hK K hH0
 try simp only [List.getElem_toArray, List.getElem_cons_succ, List.getElem_cons_zero, Act.put, List.setIfInBounds_toArray, List.set_cons_zero, List.set_cons_succ]
 refine wpAnyH_ready (rs := [15]) (by kernel_rfl) (by simp) ?_
 refine AllReadyH.cons rfl (fun K hK => ?_) AllReadyH.nil
 go_simp
 go_at_call 57
 refine (wordOf_any _ _ hN0 hN1).mono ?_
 rintro e w3 ⟨rfl, hb3⟩
 rw [HW8.out]
 go_wp2_with fail
 refine hK.out _ _ ?_ (fun hH2 => ?_)
 · exact ⟨⟨kcw hb3 (kcw hb2 p0), kcw hb3 (kcw hb2 p1), kcw hb3 (kcw hb2 p2)⟩, ⟨kcw hb3 (kcw hb2 p3), kcw hb3 (kcw hb2 p4)⟩⟩
 clear hK K hH1
 try simp only [List.getElem_toArray, List.getElem_cons_succ, List.getElem_cons_zero, Act.put, List.setIfInBounds_toArray, List.set_cons_zero, List.set_cons_succ]
 refine wpAnyH_take (i := 16) (v := ?v30) rfl (by kernel_rfl) (by kernel_rfl) (by kernel_rfl) (fun _ _ _ h => h) (Or.inl ⟨by rfl, ?hy30⟩) (by assumption) ?rest30
 case hy30 =>
  intro w hSw
  (try dsimp only at hSw)
  go_simp
  with_reducible rfl
 try simp only [List.getElem_toArray, List.getElem_cons_succ, List.getElem_cons_zero, Act.put, List.setIfInBounds_toArray, List.set_cons_zero, List.set_cons_succ]
 have hx3 : w3.heap[x]? = some (.cells cur wdT (0, 0)) := (hb3.block x (Nat.lt_of_lt_of_le (row_lt ((HB0.out.block x (row_lt HX.out.2.1)).trans HX.out.2.1)) hb2.size)).trans ((hb2.block x (row_lt ((HB0.out.block x (row_lt HX.out.2.1)).trans HX.out.2.1))).trans ((HB0.out.block x (row_lt HX.out.2.1)).trans HX.out.2.1))
 have hcs : 8 * a + 8 ≤ cur.size := by have := HX.out.2.2; omega
 have hth := there_of_row hx3 (8 * a) 8 hcs
 have hsz8 : (wd (w8 (offN o + 1) (c * 8 + z))).size = 8 := by rw [wd_size, w8_length]
 refine wpAnyH_ready (rs := [17]) (by kernel_rfl) (by simp) ?_
 refine AllReadyH.cons rfl (fun K hK => ?_) AllReadyH.nil
 rw [if_pos (by rfl)]
 refine wp_store_mid wdT (.tmp 22) (.tmp 21) rfl x (a * 8) (wd (w8 (offN o + 1) (c * 8 + z))) ?e1 rfl ?e2 ?e3 (wd_one _) ?_
 case e1 => rfl
 case e2 => rw [hsz8, Nat.mul_comm]; exact hth
 case e3 => rw [hsz8]; exact size46
 have hst : w3.setCells x (a * 8) (wd (w8 (offN o + 1) (c * 8 + z))).toList = w3.setCells x (8 * a) (Lib.byteCells (w8 (offN o + 1) (c * 8 + z))) := by rw [Nat.mul_comm]; simp [wd]
 rw [hst]
 have hb3' := (HB0.out.trans (hb2.mono HB0.out.size)).trans (hb3.mono (Nat.le_trans HB0.out.size hb2.size))
 have hB3 := (HB.out.keep (w' := w3) (fun k hk => hb3'.block k (HB.out.lt k hk).2)).put hi (a := a) (t := w8 (offN o + 1) (c * 8 + z)) (by rw [w8_length]; have := HLEN.out; omega) x _ _ HV.out
 have hk3 : KP P w (w3.setCells x (8 * a) (Lib.byteCells (w8 (offN o + 1) (c * 8 + z)))) := (KP.of_below hb3').trans (KP.sets (HP.out x (.inr (.inr ⟨i, hi, .inr (by rw [HV.out]; rfl)⟩))) w3 _ _) (fun _ _ h => h)
 have hfin : Bun (w3.setCells x (8 * a) (Lib.byteCells (w8 (offN o + 1) (c * 8 + z)))) base b size (putS ss i a (w8 (offN o + 1) (c * 8 + z))) P := ⟨_, _, _, by rw [put_totS hi (by rw [w8_length]; have := HLEN.out; omega)]; exact hB3, fun k hk => HP.out k (by rwa [putS_length] at hk)⟩
 have HK3 := Lib.hid hk3
 have HF3 := Lib.hid hfin
 have hxx : ∀ {ad : Addr} {u : Value}, w3.cell? ad = some u → ad.block ≠ x → (w3.setCells x (8 * a) (Lib.byteCells (w8 (offN o + 1) (c * 8 + z)))).cell? ad = some u := fun {ad u} h hp => (World.cell?_of_block (setCells_other _ _ _ _ _ hp)).trans h
 refine hK.out _ _ ?_ (fun hH3 => ?_)
 · refine ⟨⟨hxx (kcw hb3 (kcw hb2 p0)) (ne_T HB.out.hb HX.out.2.1 (by decide)), hxx (kcw hb3 (kcw hb2 p1)) ?_, hxx (kcw hb3 (kcw hb2 p2)) ?_⟩, ⟨hxx (kcw hb3 (kcw hb2 p3)) ?_, hxx (kcw hb3 (kcw hb2 p4)) ?_⟩⟩
   · obtain ⟨c, hc⟩ := own_T HB.out.hr (k := r) rfl
     exact ne_T hc HX.out.2.1 (by decide)
   · rw [HGI.out]; exact ne_T (HB.out.hg i hi) HX.out.2.1 (by decide)
   · have := row_lt HX.out.2.1; show w.heap.size ≠ x; omega
   · have := row_lt HX.out.2.1; show w.heap.size ≠ x; omega
 clear hK K hH2 hB3 hk3 hfin hxx hst hth hx3 hb3'
 generalize w3.setCells x (8 * a) (Lib.byteCells (w8 (offN o + 1) (c * 8 + z))) = w4 at *
 refine wpAnyH_done (by kernel_rfl) ?_ _
 go_wp2
 go_end0
 exact ⟨rfl, HK3.out, HF3.out⟩
theorem set_far (base b size : Nat) (ss : Segs) (P : Nat → Prop) (w : World) (h : Bun w base b size ss P) (hw8 : WdS ss) (i a : Nat) (hi : i < ss.length) (ha : a < wn (sgS ss i)) (ht : totS ss ≤ 100000) (o q : Int) (h0 : 0 ≤ o) (h1 : o ≤ 536870911) (hg0 : 0 ≤ q) (hg1 : q < 4294967296) :
 Calls Tryz.prog 73 #[.pointer (some ⟨b, 0, none⟩), .agg #[.int .i64 (i : Int), .int .i64 (a : Int)], .iface 172 (.agg #[.int .i64 o, .int .i64 q, .bool false])] w (SetP base b size ss i a (w8 (o * 8 + 2) (q)) P w) := by
 obtain ⟨row, g, v, hB, hP⟩ := h
 have hme := mu_far (.agg #[.int .i64 o, .int .i64 q, .bool false])
 have hN0 : 0 ≤ o * 8 + 2 + 4294967296 * (q) := by omega
 have hN1 : o * 8 + 2 + 4294967296 * (q) < 18446744073709551616 := by omega
 have hL0 : 0 ≤ o * 8 + 2 := by omega
 have hL1 : o * 8 + 2 < 4294967296 := by omega
 have HW8 : Hid (leB (o * 8 + 2 + 4294967296 * (q)) 8 = w8 (o * 8 + 2) (q)) := Lib.hid (leB_two _ _ hL0 hL1)
 have hlen := wds_len hw8 i
 have hwi := wn_le_totS ss i
 have hb0 : Below w.heap.size w (w.alloc (.cells #[.int .i64 (i : Int), .int .i64 (a : Int)] plT)).drew := ((Below.refl _ w).alloc (Nat.le_refl _) _).drew
 obtain ⟨c0, c1, c2⟩ := cells3 hB.hb
 obtain ⟨r, cap, rfl, hcr⟩ := hB.row hi
 obtain ⟨x, cp, cur, hv, hx⟩ := own_cases (hB.ho i hi) (by omega)
 have hcg : w.cell? ⟨g i, 0, none⟩ = some (v i) := by rw [cell_of_row _ _ _ _ _ _ (hB.hg i hi)]; rfl
 rw [hv] at hcg
 have hcri := hcr i hi
 have hlt : (i : Int) < (ss.length : Int) := by omega
 have hlt2 : (a : Int) < (wn (sgS ss i) : Int) := by omega
 have p0 := kcw hb0 c0
 have p1 := kcw hb0 hcri
 have p2 := kcw hb0 hcg
 obtain ⟨q3, q4⟩ := cell_pair (heap_alloc_new w (.cells #[.int .i64 (i : Int), .int .i64 (a : Int)] plT))
 have p3 : (w.alloc (.cells #[.int .i64 (i : Int), .int .i64 (a : Int)] plT)).drew.cell? ⟨w.heap.size, 0, none⟩ = some (.int .i64 (i : Int)) := q3
 have p4 : (w.alloc (.cells #[.int .i64 (i : Int), .int .i64 (a : Int)] plT)).drew.cell? ⟨w.heap.size, 1, none⟩ = some (.int .i64 (a : Int)) := q4
 have HB := Lib.hid hB
 have HP := Lib.hid hP
 have HV := Lib.hid hv
 have HX := Lib.hid hx
 have HB0 := Lib.hid hb0
 have HLEN := Lib.hid hlen
 obtain ⟨gi, hgi⟩ : ∃ gi, gi = g i := ⟨_, rfl⟩
 rw [← hgi] at p1 p2
 have HGI := Lib.hid hgi
 clear hB hP hv hx hb0 hlen hcr hcg hcri c0 c1 c2 q3 q4 hgi
 go_enter Tryz.func73, Tryz.ntmps73
 go_wp2_with fail
 refine wp_region_held_drew (S := (fun V => (V.cell? ⟨b, 0, none⟩ = some (.slice (some ⟨r, 0, none⟩) ss.length cap) ∧ V.cell? ⟨r, i, none⟩ = some (.pointer (some ⟨gi, 0, none⟩)) ∧ V.cell? ⟨gi, 0, none⟩ = some (.slice (some ⟨x, 0, none⟩) (wn (sgS ss i)) cp)) ∧ (V.cell? ⟨w.heap.size, 0, none⟩ = some (.int .i64 (i : Int)) ∧ V.cell? ⟨w.heap.size, 1, none⟩ = some (.int .i64 (a : Int))))) (by kernel_rfl) ?_ (fun hH0 => ?_)
 · exact ⟨⟨p0, p1, p2⟩, ⟨p3, p4⟩⟩
 refine wpAnyH_take (i := 0) (v := ?v31) rfl (by kernel_rfl) (by kernel_rfl) (by kernel_rfl) (fun _ _ _ h => h) (Or.inl ⟨by rfl, ?hy31⟩) (by assumption) ?rest31
 case hy31 =>
  intro w hSw
  (try dsimp only at hSw)
  go_simp
  with_reducible rfl
 try simp only [List.getElem_toArray, List.getElem_cons_succ, List.getElem_cons_zero, Act.put, List.setIfInBounds_toArray, List.set_cons_zero, List.set_cons_succ]
 refine wpAnyH_take (i := 1) (v := ?v32) rfl (by kernel_rfl) (by kernel_rfl) (by kernel_rfl) (fun _ _ _ h => h) (Or.inl ⟨by rfl, ?hy32⟩) (by assumption) ?rest32
 case hy32 =>
  intro w hSw
  (try dsimp only at hSw)
  go_simp
  with_reducible rfl
 try simp only [List.getElem_toArray, List.getElem_cons_succ, List.getElem_cons_zero, Act.put, List.setIfInBounds_toArray, List.set_cons_zero, List.set_cons_succ]
 refine wpAnyH_take (i := 2) (v := ?v33) rfl (by kernel_rfl) (by kernel_rfl) (by kernel_rfl) (fun _ _ _ h => h) (Or.inl ⟨by rfl, ?hy33⟩) (by assumption) ?rest33
 case hy33 =>
  intro w hSw
  (try dsimp only at hSw)
  go_simp
  with_reducible rfl
 try simp only [List.getElem_toArray, List.getElem_cons_succ, List.getElem_cons_zero, Act.put, List.setIfInBounds_toArray, List.set_cons_zero, List.set_cons_succ]
 refine wpAnyH_take (i := 3) (v := ?v34) rfl (by kernel_rfl) (by kernel_rfl) (by kernel_rfl) (fun _ _ _ h => h) (Or.inl ⟨by rfl, ?hy34⟩) (by assumption) ?rest34
 case hy34 =>
  intro w hSw
  (try dsimp only at hSw)
  go_simp
  with_reducible rfl
 try simp only [List.getElem_toArray, List.getElem_cons_succ, List.getElem_cons_zero, Act.put, List.setIfInBounds_toArray, List.set_cons_zero, List.set_cons_succ]
 refine wpAnyH_take (i := 4) (v := ?v35) rfl (by kernel_rfl) (by kernel_rfl) (by kernel_rfl) (fun _ _ _ h => h) (Or.inl ⟨by rfl, ?hy35⟩) (by assumption) ?rest35
 case hy35 =>
  intro w hSw
  (try dsimp only at hSw)
  go_simp
  with_reducible rfl
 try simp only [List.getElem_toArray, List.getElem_cons_succ, List.getElem_cons_zero, Act.put, List.setIfInBounds_toArray, List.set_cons_zero, List.set_cons_succ]
 refine wpAnyH_take (i := 5) (v := ?v36) rfl (by kernel_rfl) (by kernel_rfl) (by kernel_rfl) (fun _ _ _ h => h) (Or.inl ⟨by rfl, ?hy36⟩) (by assumption) ?rest36
 case hy36 =>
  intro w hSw
  (try dsimp only at hSw)
  go_simp
  with_reducible rfl
 try simp only [List.getElem_toArray, List.getElem_cons_succ, List.getElem_cons_zero, Act.put, List.setIfInBounds_toArray, List.set_cons_zero, List.set_cons_succ]
 refine wpAnyH_take (i := 6) (v := ?v37) rfl (by kernel_rfl) (by kernel_rfl) (by kernel_rfl) (fun _ _ _ h => h) (Or.inl ⟨by rfl, ?hy37⟩) (by assumption) ?rest37
 case hy37 =>
  intro w hSw
  (try dsimp only at hSw)
  go_simp
  with_reducible rfl
 try simp only [List.getElem_toArray, List.getElem_cons_succ, List.getElem_cons_zero, Act.put, List.setIfInBounds_toArray, List.set_cons_zero, List.set_cons_succ]
 refine wpAnyH_take (i := 7) (v := ?v38) rfl (by kernel_rfl) (by kernel_rfl) (by kernel_rfl) (fun _ _ _ h => h) (Or.inl ⟨by rfl, ?hy38⟩) (by assumption) ?rest38
 case hy38 =>
  intro w hSw
  (try dsimp only at hSw)
  go_simp
  with_reducible rfl
 try simp only [List.getElem_toArray, List.getElem_cons_succ, List.getElem_cons_zero, Act.put, List.setIfInBounds_toArray, List.set_cons_zero, List.set_cons_succ]
 refine wpAnyH_take (i := 8) (v := ?v39) rfl (by kernel_rfl) (by kernel_rfl) (by kernel_rfl) (fun _ _ _ h => h) (Or.inl ⟨by rfl, ?hy39⟩) (by assumption) ?rest39
 case hy39 =>
  intro w hSw
  (try dsimp only at hSw)
  go_simp
  with_reducible rfl
 try simp only [List.getElem_toArray, List.getElem_cons_succ, List.getElem_cons_zero, Act.put, List.setIfInBounds_toArray, List.set_cons_zero, List.set_cons_succ]
 refine wpAnyH_take (i := 9) (v := ?v40) rfl (by kernel_rfl) (by kernel_rfl) (by kernel_rfl) (fun _ _ _ h => h) (Or.inl ⟨by rfl, ?hy40⟩) (by assumption) ?rest40
 case hy40 =>
  intro w hSw
  (try dsimp only at hSw)
  go_simp
  with_reducible rfl
 try simp only [List.getElem_toArray, List.getElem_cons_succ, List.getElem_cons_zero, Act.put, List.setIfInBounds_toArray, List.set_cons_zero, List.set_cons_succ]
 refine wpAnyH_take (i := 10) (v := ?v41) rfl (by kernel_rfl) (by kernel_rfl) (by kernel_rfl) (fun _ _ _ h => h) (Or.inl ⟨by rfl, ?hy41⟩) (by assumption) ?rest41
 case hy41 =>
  intro w hSw
  (try dsimp only at hSw)
  go_simp
  with_reducible rfl
 try simp only [List.getElem_toArray, List.getElem_cons_succ, List.getElem_cons_zero, Act.put, List.setIfInBounds_toArray, List.set_cons_zero, List.set_cons_succ]
 refine wpAnyH_take (i := 11) (v := ?v42) rfl (by kernel_rfl) (by kernel_rfl) (by kernel_rfl) (fun _ _ _ h => h) (Or.inl ⟨by rfl, ?hy42⟩) (by assumption) ?rest42
 case hy42 =>
  intro w hSw
  (try dsimp only at hSw)
  go_simp
  with_reducible rfl
 try simp only [List.getElem_toArray, List.getElem_cons_succ, List.getElem_cons_zero, Act.put, List.setIfInBounds_toArray, List.set_cons_zero, List.set_cons_succ]
 refine wpAnyH_take (i := 12) (v := ?v43) rfl (by kernel_rfl) (by kernel_rfl) (by kernel_rfl) (fun _ _ _ h => h) (Or.inl ⟨by rfl, ?hy43⟩) (by assumption) ?rest43
 case hy43 =>
  intro w hSw
  (try dsimp only at hSw)
  go_simp
  with_reducible rfl
 try simp only [List.getElem_toArray, List.getElem_cons_succ, List.getElem_cons_zero, Act.put, List.setIfInBounds_toArray, List.set_cons_zero, List.set_cons_succ]
 refine wpAnyH_take (i := 13) (v := ?v44) rfl (by kernel_rfl) (by kernel_rfl) (by kernel_rfl) (fun _ _ _ h => h) (Or.inl ⟨by rfl, ?hy44⟩) (by assumption) ?rest44
 case hy44 =>
  intro w hSw
  (try dsimp only at hSw)
  go_simp
  with_reducible rfl
 try simp only [List.getElem_toArray, List.getElem_cons_succ, List.getElem_cons_zero, Act.put, List.setIfInBounds_toArray, List.set_cons_zero, List.set_cons_succ]
 refine wpAnyH_ready (rs := [14]) (by kernel_rfl) (by simp) ?_
 refine AllReadyH.cons rfl (fun K hK => ?_) AllReadyH.nil
 go_simp
 go_at_call 240
 refine (bits_far0B o q _ h0 h1 hg0 (by omega)).mono ?_
 rintro e w2 ⟨rfl, hb2⟩
 go_wp2_with fail
 refine hK.out _ _ ?_ (fun hH1 => ?_)
 · exact ⟨⟨kcw hb2 p0, kcw hb2 p1, kcw hb2 p2⟩, ⟨kcw hb2 p3, kcw hb2 p4⟩⟩
 clear hK K hH0
 try simp only [List.getElem_toArray, List.getElem_cons_succ, List.getElem_cons_zero, Act.put, List.setIfInBounds_toArray, List.set_cons_zero, List.set_cons_succ]
 refine wpAnyH_ready (rs := [15]) (by kernel_rfl) (by simp) ?_
 refine AllReadyH.cons rfl (fun K hK => ?_) AllReadyH.nil
 go_simp
 go_at_call 57
 refine (wordOf_any _ _ hN0 hN1).mono ?_
 rintro e w3 ⟨rfl, hb3⟩
 rw [HW8.out]
 go_wp2_with fail
 refine hK.out _ _ ?_ (fun hH2 => ?_)
 · exact ⟨⟨kcw hb3 (kcw hb2 p0), kcw hb3 (kcw hb2 p1), kcw hb3 (kcw hb2 p2)⟩, ⟨kcw hb3 (kcw hb2 p3), kcw hb3 (kcw hb2 p4)⟩⟩
 clear hK K hH1
 try simp only [List.getElem_toArray, List.getElem_cons_succ, List.getElem_cons_zero, Act.put, List.setIfInBounds_toArray, List.set_cons_zero, List.set_cons_succ]
 refine wpAnyH_take (i := 16) (v := ?v45) rfl (by kernel_rfl) (by kernel_rfl) (by kernel_rfl) (fun _ _ _ h => h) (Or.inl ⟨by rfl, ?hy45⟩) (by assumption) ?rest45
 case hy45 =>
  intro w hSw
  (try dsimp only at hSw)
  go_simp
  with_reducible rfl
 try simp only [List.getElem_toArray, List.getElem_cons_succ, List.getElem_cons_zero, Act.put, List.setIfInBounds_toArray, List.set_cons_zero, List.set_cons_succ]
 have hx3 : w3.heap[x]? = some (.cells cur wdT (0, 0)) := (hb3.block x (Nat.lt_of_lt_of_le (row_lt ((HB0.out.block x (row_lt HX.out.2.1)).trans HX.out.2.1)) hb2.size)).trans ((hb2.block x (row_lt ((HB0.out.block x (row_lt HX.out.2.1)).trans HX.out.2.1))).trans ((HB0.out.block x (row_lt HX.out.2.1)).trans HX.out.2.1))
 have hcs : 8 * a + 8 ≤ cur.size := by have := HX.out.2.2; omega
 have hth := there_of_row hx3 (8 * a) 8 hcs
 have hsz8 : (wd (w8 (o * 8 + 2) (q))).size = 8 := by rw [wd_size, w8_length]
 refine wpAnyH_ready (rs := [17]) (by kernel_rfl) (by simp) ?_
 refine AllReadyH.cons rfl (fun K hK => ?_) AllReadyH.nil
 rw [if_pos (by rfl)]
 refine wp_store_mid wdT (.tmp 22) (.tmp 21) rfl x (a * 8) (wd (w8 (o * 8 + 2) (q))) ?e1 rfl ?e2 ?e3 (wd_one _) ?_
 case e1 => rfl
 case e2 => rw [hsz8, Nat.mul_comm]; exact hth
 case e3 => rw [hsz8]; exact size46
 have hst : w3.setCells x (a * 8) (wd (w8 (o * 8 + 2) (q))).toList = w3.setCells x (8 * a) (Lib.byteCells (w8 (o * 8 + 2) (q))) := by rw [Nat.mul_comm]; simp [wd]
 rw [hst]
 have hb3' := (HB0.out.trans (hb2.mono HB0.out.size)).trans (hb3.mono (Nat.le_trans HB0.out.size hb2.size))
 have hB3 := (HB.out.keep (w' := w3) (fun k hk => hb3'.block k (HB.out.lt k hk).2)).put hi (a := a) (t := w8 (o * 8 + 2) (q)) (by rw [w8_length]; have := HLEN.out; omega) x _ _ HV.out
 have hk3 : KP P w (w3.setCells x (8 * a) (Lib.byteCells (w8 (o * 8 + 2) (q)))) := (KP.of_below hb3').trans (KP.sets (HP.out x (.inr (.inr ⟨i, hi, .inr (by rw [HV.out]; rfl)⟩))) w3 _ _) (fun _ _ h => h)
 have hfin : Bun (w3.setCells x (8 * a) (Lib.byteCells (w8 (o * 8 + 2) (q)))) base b size (putS ss i a (w8 (o * 8 + 2) (q))) P := ⟨_, _, _, by rw [put_totS hi (by rw [w8_length]; have := HLEN.out; omega)]; exact hB3, fun k hk => HP.out k (by rwa [putS_length] at hk)⟩
 have HK3 := Lib.hid hk3
 have HF3 := Lib.hid hfin
 have hxx : ∀ {ad : Addr} {u : Value}, w3.cell? ad = some u → ad.block ≠ x → (w3.setCells x (8 * a) (Lib.byteCells (w8 (o * 8 + 2) (q)))).cell? ad = some u := fun {ad u} h hp => (World.cell?_of_block (setCells_other _ _ _ _ _ hp)).trans h
 refine hK.out _ _ ?_ (fun hH3 => ?_)
 · refine ⟨⟨hxx (kcw hb3 (kcw hb2 p0)) (ne_T HB.out.hb HX.out.2.1 (by decide)), hxx (kcw hb3 (kcw hb2 p1)) ?_, hxx (kcw hb3 (kcw hb2 p2)) ?_⟩, ⟨hxx (kcw hb3 (kcw hb2 p3)) ?_, hxx (kcw hb3 (kcw hb2 p4)) ?_⟩⟩
   · obtain ⟨c, hc⟩ := own_T HB.out.hr (k := r) rfl
     exact ne_T hc HX.out.2.1 (by decide)
   · rw [HGI.out]; exact ne_T (HB.out.hg i hi) HX.out.2.1 (by decide)
   · have := row_lt HX.out.2.1; show w.heap.size ≠ x; omega
   · have := row_lt HX.out.2.1; show w.heap.size ≠ x; omega
 clear hK K hH2 hB3 hk3 hfin hxx hst hth hx3 hb3'
 generalize w3.setCells x (8 * a) (Lib.byteCells (w8 (o * 8 + 2) (q))) = w4 at *
 refine wpAnyH_done (by kernel_rfl) ?_ _
 go_wp2
 go_end0
 exact ⟨rfl, HK3.out, HF3.out⟩
end Go.Proofs.YtlbfffokkhccaaaGreatDoor
