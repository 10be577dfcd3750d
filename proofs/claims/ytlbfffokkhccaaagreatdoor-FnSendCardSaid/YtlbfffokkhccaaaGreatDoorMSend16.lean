/- Texts of the proof of the law FnSend, side by side: part 16. -/
import Derived.Test.YtlbfffokkhccaaaGreatDoorMSend15
set_option maxHeartbeats 8000000
set_option maxRecDepth 100000
namespace Go.Proofs.YtlbfffokkhccaaaGreatDoor
open Go.RowKit Go.Deep
theorem kcR {V V' : World} {a : Addr} {v : Value} (hb : Below V.heap.size V V') (h : V.cell? a = some v) : V'.cell? a = some v := (hb.cell (World.block_lt_of_cell? V a h)).trans h
theorem al_sz (w : World) (o : Obj) : (w.alloc o).heap.size = w.heap.size + 1 := by simp
theorem al5 (w : World) (x y z u v : Array Value) (T1 T2 T3 T4 T5 : TypeId) (W : World) (hW : W = ((((w.alloc (.cells x T1)).alloc (.cells y T2)).alloc (.cells z T3)).alloc (.cells u T4)).alloc (.cells v T5)) : Below w.heap.size w W ∧ W.heap[w.heap.size]? = some (.cells x T1 (0, 0)) ∧ W.heap[w.heap.size + 1]? = some (.cells y T2 (0, 0)) ∧ W.heap[w.heap.size + 1 + 1]? = some (.cells z T3 (0, 0)) ∧ W.heap[w.heap.size + 1 + 1 + 1]? = some (.cells u T4 (0, 0)) ∧ W.heap[w.heap.size + 1 + 1 + 1 + 1]? = some (.cells v T5 (0, 0)) := by
 obtain ⟨h1, h2, h3, h4⟩ := al3 w x y z T1 T2 T3
 have hs : (((w.alloc (.cells x T1)).alloc (.cells y T2)).alloc (.cells z T3)).heap.size = w.heap.size + 1 + 1 + 1 := by rw [al_sz, al_sz, al_sz]
 generalize ((w.alloc (.cells x T1)).alloc (.cells y T2)).alloc (.cells z T3) = V at *
 have hb := ((Below.refl V.heap.size V).alloc (Nat.le_refl _) (.cells u T4)).alloc (by simp) (.cells v T5)
 rw [← hW] at hb
 have r3 : W.heap[V.heap.size]? = some (.cells u T4 (0, 0)) := by rw [hW]; exact heap_alloc2_old V _ _
 have r4 : W.heap[V.heap.size + 1]? = some (.cells v T5 (0, 0)) := by rw [hW]; exact heap_alloc2_new V _ _
 rw [hs] at r3 r4
 exact ⟨h1.trans (hb.mono (by omega)), (hb.block _ (by omega)).trans h2, (hb.block _ (by omega)).trans h3, (hb.block _ (by omega)).trans h4, r3, r4⟩
theorem mul_two (l ws : Nat) : (((l * ws : Nat) : Int)) = (l : Int) * (ws : Int) := by rw [Int.natCast_mul]
theorem many_a {rb cap d : Nat} {A : Option Addr} {zs : List ByteArray} (hI : InC rb A cap zs d) {w : World} {L : Int} (h : Rdr w rb A cap zs L) {b1 b2 : Nat} (hbx : Bx w rb b1 b2 d) (o : Int) (l : List Nd) (D P j c cst : Nat) {x : Int × Int × Int × Int × Int × Int × Int × Bool} (hj : j < zs.length) (hcz : c + (1 + l.length * (D + P)) ≤ (zs[j]).size / 8) (hx : RdW (((zs[j]).data.toList.drop (8 * c)).take 8) x)
 (hsh : ∀ W : World, Calls Tryz.prog 167 #[ptI x] W fun e w' => e = .returned (.tuple #[.agg #[.int .i64 (l.length : Int), .int .i64 (D : Int), .int .i64 (P : Int)], .bool true]) ∧ Below W.heap.size W w')
 (hy : ∀ k (hk : k < l.length), l[k] = .mk 1 l[k].data l[k].ptrs 0 0 [] ∧ l[k].data.size = 8 * D ∧ l[k].ptrs.length = P ∧ zs[j].extract (8 * (c + 1 + k * (D + P))) (8 * (c + 1 + k * (D + P)) + l[k].data.size) = l[k].data ∧ (∀ p ∈ l[k].ptrs, okN d p = true ∧ wordsN d p ≤ 199) ∧ ∀ i (hi : i < l[k].ptrs.length), RepN (sgz zs) d l[k].ptrs[i] j (c + 1 + k * (D + P) + D + i))
 (hL : L ≤ 1000) (hl : l.length ≤ 1000) (hws : D + P ≤ 300) (hlc : lcZ 7 l.length (1 + (l.length * (D + P) : Nat)) = cst) (hcost : ((cst + (l.map fun y => (y.ptrs.map (costN d)).sum).sum : Nat) : Int) ≤ L) :
 Calls Tryz.prog 132 #[.pointer (some ⟨rb, 0, none⟩), .agg #[.int .i64 o, .int .i64 7, .int .i64 ((l.length * (D + P) : Nat) : Int)], plV j c, .func (.func 84) #[] #[.pointer (some ⟨b1, 0, none⟩), .pointer (some ⟨b2, 0, none⟩)]] w (NdQ (2 * d + 2) rb A cap zs (L - ((cst + (l.map fun y => (y.ptrs.map (costN d)).sum).sum : Nat) : Int)) (.mk 2 { data := #[] } [] 7 l.length l) w) := by
 have hsm := (h.small _ (List.getElem_mem hj)).1
 obtain ⟨cn, hcn⟩ : ∃ cn : Int, ((l.length * (D + P) : Nat) : Int) = cn := ⟨_, rfl⟩
 obtain ⟨ws, hwse⟩ : ∃ ws : Int, (D : Int) + (P : Int) = ws := ⟨_, rfl⟩
 have hcb : 0 ≤ cn ∧ cn ≤ 300000 := by have : l.length * (D + P) ≤ 1000 * 300 := Nat.mul_le_mul hl hws; omega
 have hmm : (l.length : Int) * ws = cn := by rw [← hcn, mul_two, ← hwse]; push_cast; rfl
 rw [hcn] at hlc ⊢
 have HHA : Hid (∀ W : World, Rdr W rb A cap zs L → Calls Tryz.prog 44 #[.pointer (some ⟨rb, 0, none⟩), plV j c, .int .i64 (1 + cn)] W fun e w' => e = .returned (.bool true) ∧ Below W.heap.size W w') := Lib.hid fun W h1 => by
  have := has_a h1 j c (1 + l.length * (D + P)) hj hcz
  rwa [show ((1 + l.length * (D + P) : Nat) : Int) = 1 + cn by rw [← hcn]; push_cast; rfl] at this
 have HPA : Hid (∀ W : World, Rdr W rb A cap zs L → Calls Tryz.prog 85 #[.pointer (some ⟨rb, 0, none⟩), plV j c] W fun e w' => e = .returned (ptI x) ∧ Below W.heap.size W w') := Lib.hid fun W h1 => pointerAt_a h1 j c hj (by omega) hx
 have HSH := Lib.hid hsh
 have HLC : Hid (∀ W : World, Calls Tryz.prog 81 #[.int .i64 7, .int .i64 (l.length : Int), .int .i64 (1 + cn)] W fun e w' => e = .returned (.int .i64 (cst : Int)) ∧ W = w') := Lib.hid fun W => by
  have := listCost_a 7 l.length (1 + cn) W (by omega) (by omega)
  rwa [hlc] at this
 have HSP : Hid (∀ W : World, Rdr W rb A cap zs L → Calls Tryz.prog 165 #[.pointer (some ⟨rb, 0, none⟩), .int .i64 (cst : Int)] W fun e w' => e = .returned .nilIface ∧ Rdr w' rb A cap zs (L - (cst : Int)) ∧ Keeps W.heap.size rb W w') := Lib.hid fun W h1 => spend_a h1 _ (by omega) (by omega) hL
 have HBH := Lib.hid (fun W : World => behind_a j c 1 W (by omega) (by omega) (by omega) (by omega))
 have HE : Hid (∀ (ms : Nat) (W : World), Keeps w.heap.size rb w W → Rdr W rb A cap zs (L - (cst : Int)) → W.heap[w.heap.size]? = some (.cells #[.pointer (some ⟨rb, 0, none⟩)] 64 (0, 0)) → W.heap[ms]? = some (.cells #[.int .i64 (l.length : Int), .int .i64 (D : Int), .int .i64 (P : Int)] 168 (0, 0)) → W.heap[w.heap.size + 1 + 1 + 1]? = some (.cells #[.func (.func 84) #[] #[.pointer (some ⟨b1, 0, none⟩), .pointer (some ⟨b2, 0, none⟩)]] 72 (0, 0)) → Calls Tryz.prog 168 #[plV j ((c : Int) + 1), .int .i64 (l.length : Int), .int .i64 ws, .func (.func 169) #[] #[.pointer (some ⟨w.heap.size, 0, none⟩), .pointer (some ⟨ms, 0, none⟩), .pointer (some ⟨w.heap.size + 1 + 1 + 1, 0, none⟩)]] W (NsQ (2 * d + 1) rb A cap zs (L - ((cst + (l.map fun y => (y.ptrs.map (costN d)).sum).sum : Nat) : Int)) l W)) := Lib.hid fun ms W h1 h2 g1 g2 g3 => by
  have := each_M (fun y => (y.ptrs.map (costN d)).sum) (2 * d + 1) h2 w.heap.size ms (w.heap.size + 1 + 1 + 1) l j (c + 1) (D + P) (by omega) hl (by omega) hws (by omega) (fun k hk L' V q1 q2 q3 q4 => by
   obtain ⟨y1, y2, y3, y4, y5, y6⟩ := hy k hk
   have hne : ∀ b cs T, W.heap[b]? = some (.cells cs T (0, 0)) → cs ≠ #[.slice A zs.length cap, .int .i64 (L - (cst : Int))] → b ≠ rb := fun b cs T hb hc e => by
    rw [e, h2.row] at hb
    injection hb with hb
    injection hb with hb
    exact hc hb.symm
   have n1 : w.heap.size ≠ rb := hne _ _ _ g1 (by simp)
   have n2 : ms ≠ rb := hne _ _ _ g2 (by simp)
   have n3 : w.heap.size + 1 + 1 + 1 ≠ rb := hne _ _ _ g3 (by simp)
   have hbd : 8 * (c + 1 + k * (D + P)) + l[k].data.size ≤ (zs[j]).size := by
    have e1 : (k + 1) * (D + P) ≤ l.length * (D + P) := Nat.mul_le_mul_right _ (by omega)
    rw [Nat.add_mul, Nat.one_mul] at e1
    omega
   have hb' := hbx.keeps h (h1.then h1.size q3)
   have := many1_a hI q4 hb' w.heap.size ms (w.heap.size + 1 + 1 + 1) (l.length : Int) D l[k].data l[k].ptrs j (c + 1 + k * (D + P)) y2 hj hbd y4 y5 y6 q2 (by omega) q1 ((q3.block _ (row_lt g1) n1).trans g1) (by rw [y3]; exact (q3.block _ (row_lt g2) n2).trans g2) ((q3.block _ (row_lt g3) n3).trans g3)
   rw [← y1] at this
   rwa [show ((c + 1 + k * (D + P) : Nat) : Int) = ((c + 1 : Nat) : Int) + (k : Int) * ((D + P : Nat) : Int) by rw [Int.natCast_add, mul_two]] at this)
  rwa [show ((c + 1 : Nat) : Int) = (c : Int) + 1 by omega, show ((D + P : Nat) : Int) = ws by rw [← hwse]; omega, show L - (cst : Int) - ((l.map fun y => (y.ptrs.map (costN d)).sum).sum : Nat) = L - ((cst + (l.map fun y => (y.ptrs.map (costN d)).sum).sum : Nat) : Int) by omega] at this
 have HWS := Lib.hid (w64_sm (n := ws) (by omega) (by omega))
 have HW1 := Lib.hid (w64_sm (n := 1 + cn) (by omega) (by omega))
 have HW3 := Lib.hid (w64_sm (n := cn) (by omega) (by omega))
 have HMM := Lib.hid hmm
 have HSE := Lib.hid hwse
 have hlow := h.low
 have HLOW := Lib.hid hlow
 have HR := Lib.hid h
 have HLM : Hid (l.length ≤ 1000) := Lib.hid hl
 generalize L - ((cst + (l.map fun y => (y.ptrs.map (costN d)).sum).sum : Nat) : Int) = L2 at *
 generalize L - (cst : Int) = L1 at *
 clear hI h hbx hj hcz hx hsh hy hL hl hws hlc hcost hsm hcb hmm hwse hcn hlow
 obtain ⟨W, hW⟩ : ∃ W, W = (((((w.alloc (.cells #[.pointer (some ⟨rb, 0, none⟩)] 64)).alloc (.cells #[.int .i64 o, .int .i64 7, .int .i64 cn] 170)).alloc (.cells #[.int .i64 (j : Int), .int .i64 (c : Int)] 58)).alloc (.cells #[.func (.func 84) #[] #[.pointer (some ⟨b1, 0, none⟩), .pointer (some ⟨b2, 0, none⟩)]] 72)).alloc (.cells #[.int .i64 0, .string { data := #[] }, .slice none 0 0, .int .i64 0, .int .i64 0, .slice none 0 0] nodeT)) := ⟨_, rfl⟩
 obtain ⟨hb0, hr0, hr1, hr2, hr3, hr4⟩ := al5 w #[.pointer (some ⟨rb, 0, none⟩)] #[.int .i64 o, .int .i64 7, .int .i64 cn] #[.int .i64 (j : Int), .int .i64 (c : Int)] #[.func (.func 84) #[] #[.pointer (some ⟨b1, 0, none⟩), .pointer (some ⟨b2, 0, none⟩)]] #[.int .i64 0, .string { data := #[] }, .slice none 0 0, .int .i64 0, .int .i64 0, .slice none 0 0] 64 170 58 72 nodeT W hW
 have HR0 := Lib.hid (HR.out.below hb0)
 have HK0 := Lib.hid (Keeps.of_below (b := rb) hb0)
 have R0 := Lib.hid hr0
 have R1 := Lib.hid hr1
 have R2 := Lib.hid hr2
 have R3 := Lib.hid hr3
 have R4 := Lib.hid hr4
 have HWW := Lib.hid hW
 clear hb0 hr0 hr1 hr2 hr3 hr4 hW
 have w0 : (l.length : Int) ≥ 0 := by omega
 go_enter Tryz.func132, Tryz.ntmps132
 have e1 := HW1.out.1
 have e2 := HW1.out.2
 go_wp2_with fail
 rw [← HWW.out]
 clear e1 e2
 refine (HHA.out _ HR0.out).mono ?_
 rintro e w2 ⟨rfl, hb2⟩
 have HR2 := Lib.hid (HR0.out.below hb2)
 have HK2 := Lib.hid (HK0.out.then HK0.out.size (Keeps.of_below (b := rb) hb2))
 have q0 := (hb2.block _ (row_lt R0.out)).trans R0.out
 have q1 := (hb2.block _ (row_lt R1.out)).trans R1.out
 have q2 := (hb2.block _ (row_lt R2.out)).trans R2.out
 have q3 := (hb2.block _ (row_lt R3.out)).trans R3.out
 have q4 := (hb2.block _ (row_lt R4.out)).trans R4.out
 have Q0 := Lib.hid q0
 have Q1 := Lib.hid q1
 have Q2 := Lib.hid q2
 have Q3 := Lib.hid q3
 have Q4 := Lib.hid q4
 have c0 := cell1 q0
 obtain ⟨t0, t1⟩ := cell_pair q2
 clear q0 q1 q2 q3 q4 hb2 R0 R1 R2 R3 R4 HR0 HK0
 go_wp2_with fail
 refine (HPA.out _ HR2.out).mono ?_
 rintro e w3 ⟨rfl, hb3⟩
 have HR3 := Lib.hid (HR2.out.below hb3)
 have HK3 := Lib.hid (HK2.out.then HK2.out.size (Keeps.of_below (b := rb) hb3))
 go_wp2_with fail
 refine (HSH.out _).mono ?_
 rintro e w4 ⟨rfl, hb4⟩
 have hb24 := hb3.trans (hb4.mono hb3.size)
 have hba := (Below.refl w4.heap.size w4).alloc (Nat.le_refl _) (.cells #[.int .i64 (l.length : Int), .int .i64 (D : Int), .int .i64 (P : Int)] 168)
 have hna := heap_alloc_new w4 (.cells #[.int .i64 (l.length : Int), .int .i64 (D : Int), .int .i64 (P : Int)] 168)
 have hb2a := hb24.trans (hba.mono hb24.size)
 have HR5 := Lib.hid (HR2.out.below hb2a)
 have HK5 := Lib.hid (HK2.out.then HK2.out.size (Keeps.of_below (b := rb) hb2a))
 have q0 := (hb2a.block _ (row_lt Q0.out)).trans Q0.out
 have q1 := (hb2a.block _ (row_lt Q1.out)).trans Q1.out
 have q2 := (hb2a.block _ (row_lt Q2.out)).trans Q2.out
 have q3 := (hb2a.block _ (row_lt Q3.out)).trans Q3.out
 have q4 := (hb2a.block _ (row_lt Q4.out)).trans Q4.out
 have q1' := (hb24.block _ (row_lt Q1.out)).trans Q1.out
 obtain ⟨p0', p1', p2'⟩ := cells3 q1'
 have R0 := Lib.hid q0
 have R1 := Lib.hid q1
 have R2 := Lib.hid q2
 have R3 := Lib.hid q3
 have R4 := Lib.hid q4
 have RS := Lib.hid hna
 have hsz5 : (w4.alloc (.cells #[.int .i64 (l.length : Int), .int .i64 (D : Int), .int .i64 (P : Int)] 168)).heap.size = w4.heap.size + 1 := by simp
 have d0 := cell1 q0
 obtain ⟨p0, p1, p2⟩ := cells3 q1
 obtain ⟨u0, u1⟩ := cell_pair q2
 clear c0 t0 t1 q0 q1 q2 q3 q4 q1' hb3 hb4 hb24 hba hna hb2a Q0 Q1 Q2 Q3 Q4 HR2 HK2 HR3 HK3
 have e1 : IntKind.i64.wrap ((D : Int) + (P : Int)) = ws := by rw [HSE.out]; exact HWS.out.1
 have e2 : wrap64 ((D : Int) + (P : Int)) = ws := by rw [HSE.out]; exact HWS.out.2
 have e3 : IntKind.i64.wrap ((l.length : Int) * ws) = cn := by rw [HMM.out]; exact HW3.out.1
 have e4 : wrap64 ((l.length : Int) * ws) = cn := by rw [HMM.out]; exact HW3.out.2
 obtain ⟨s0, s1, s2⟩ := cells3 RS.out
 go_wp2_with fail
 have hms : w4.heap.size ≠ rb := fun e => by have h1 := RS.out; rw [e, HR5.out.row] at h1; simp at h1
 have hst : w4.heap.size < (w4.alloc (.cells #[.int .i64 (l.length : Int), .int .i64 (D : Int), .int .i64 (P : Int)] 168)).heap.size := by omega
 generalize w4.alloc (.cells #[.int .i64 (l.length : Int), .int .i64 (D : Int), .int .i64 (P : Int)] 168) = V5 at *
 generalize w4.heap.size = ms at *
 clear e1 e2 e3 e4 s1 s2 p0 p1 u0 u1 hsz5
 have e1 := HW1.out.1
 have e2 := HW1.out.2
 have hdr : (V5.drew).heap.size = V5.heap.size := rfl
 have HRD : Hid (Rdr V5.drew rb A cap zs L) := Lib.hid (HR5.out.below (⟨rfl, rfl, rfl, Nat.le_refl _, fun _ _ => rfl⟩ : Below V5.heap.size V5 V5.drew))
 refine wp_region_held_drew (S := (fun V => V.cell? ⟨w.heap.size, 0, none⟩ = some (.pointer (some ⟨rb, 0, none⟩)) ∧ V.cell? ⟨w.heap.size + 1, 2, none⟩ = some (.int .i64 cn) ∧ V.cell? ⟨ms, 0, none⟩ = some (.int .i64 (l.length : Int)))) (by kernel_rfl) ?_ (fun hH0 => ?_)
 · exact ⟨d0, p2, s0⟩
 refine wpAnyH_take (i := 0) (v := ?_) rfl (by kernel_rfl) (by kernel_rfl) (by kernel_rfl) (fun _ _ _ h => h) (Or.inl ⟨by rfl, ?_⟩) (by assumption) ?_
 rotate_left
 · intro w hSw
   (try dsimp only at hSw)
   go_simp
   try with_reducible rfl
 try simp only [List.getElem_toArray, List.getElem_cons_succ, List.getElem_cons_zero, Act.put, List.setIfInBounds_toArray, List.set_cons_zero, List.set_cons_succ]
 refine wpAnyH_take (i := 1) (v := ?_) rfl (by kernel_rfl) (by kernel_rfl) (by kernel_rfl) (fun _ _ _ h => h) (Or.inl ⟨by rfl, ?_⟩) (by assumption) ?_
 rotate_left
 · intro w hSw
   (try dsimp only at hSw)
   go_simp
   try with_reducible rfl
 try simp only [List.getElem_toArray, List.getElem_cons_succ, List.getElem_cons_zero, Act.put, List.setIfInBounds_toArray, List.set_cons_zero, List.set_cons_succ]
 refine wpAnyH_take (i := 2) (v := ?_) rfl (by kernel_rfl) (by kernel_rfl) (by kernel_rfl) (fun _ _ _ h => h) (Or.inl ⟨by rfl, ?_⟩) (by assumption) ?_
 rotate_left
 · intro w hSw
   (try dsimp only at hSw)
   go_simp
   try with_reducible rfl
 try simp only [List.getElem_toArray, List.getElem_cons_succ, List.getElem_cons_zero, Act.put, List.setIfInBounds_toArray, List.set_cons_zero, List.set_cons_succ]
 refine wpAnyH_take (i := 3) (v := ?_) rfl (by kernel_rfl) (by kernel_rfl) (by kernel_rfl) (fun _ _ _ h => h) (Or.inl ⟨by rfl, ?_⟩) (by assumption) ?_
 rotate_left
 · intro w hSw
   (try dsimp only at hSw)
   go_simp
   try with_reducible rfl
 try simp only [List.getElem_toArray, List.getElem_cons_succ, List.getElem_cons_zero, Act.put, List.setIfInBounds_toArray, List.set_cons_zero, List.set_cons_succ]
 refine wpAnyH_take (i := 4) (v := ?_) rfl (by kernel_rfl) (by kernel_rfl) (by kernel_rfl) (fun _ _ _ h => h) (Or.inl ⟨by rfl, ?_⟩) (by assumption) ?_
 rotate_left
 · intro w hSw
   (try dsimp only at hSw)
   go_simp
   try with_reducible rfl
 try simp only [List.getElem_toArray, List.getElem_cons_succ, List.getElem_cons_zero, Act.put, List.setIfInBounds_toArray, List.set_cons_zero, List.set_cons_succ]
 refine wpAnyH_take (i := 5) (v := ?_) rfl (by kernel_rfl) (by kernel_rfl) (by kernel_rfl) (fun _ _ _ h => h) (Or.inl ⟨by rfl, ?_⟩) (by assumption) ?_
 rotate_left
 · intro w hSw
   (try dsimp only at hSw)
   go_simp
   try with_reducible rfl
 try simp only [List.getElem_toArray, List.getElem_cons_succ, List.getElem_cons_zero, Act.put, List.setIfInBounds_toArray, List.set_cons_zero, List.set_cons_succ]
 refine wpAnyH_ready (rs := [6]) (by kernel_rfl) (by simp) ?_
 refine AllReadyH.cons rfl (fun K hK => ?_) AllReadyH.nil
 go_simp
 go_at_call 81
 with_reducible refine (HLC.out _).mono ?_
 rintro e w6 ⟨rfl, rfl⟩
 go_wp2_with fail
 refine hK.out _ _ ?_ (fun hH1 => ?_)
 · exact ⟨d0, p2, s0⟩
 clear hK K hH0
 try simp only [List.getElem_toArray, List.getElem_cons_succ, List.getElem_cons_zero, Act.put, List.setIfInBounds_toArray, List.set_cons_zero, List.set_cons_succ]
 refine wpAnyH_ready (rs := [7]) (by kernel_rfl) (by simp) ?_
 refine AllReadyH.cons rfl (fun K hK => ?_) AllReadyH.nil
 go_simp
 go_at_call 165
 with_reducible refine (HSP.out _ HRD.out).mono ?_
 rintro e w7 ⟨rfl, hrd7, hk7⟩
 have k0 := cell1 ((hk7.block _ (row_lt R0.out) (by have := HLOW.out.rb; omega)).trans R0.out)
 have k1 := (cells3 ((hk7.block _ (row_lt R1.out) (by have := HLOW.out.rb; have := HK5.out.size; omega)).trans R1.out)).2.2
 have k2 := (cells3 ((hk7.block _ (row_lt RS.out) hms).trans RS.out)).1
 go_wp2_with fail
 refine hK.out _ _ ?_ (fun hH2 => ?_)
 · exact ⟨k0, k1, k2⟩
 clear hK K hH1
 try simp only [List.getElem_toArray, List.getElem_cons_succ, List.getElem_cons_zero, Act.put, List.setIfInBounds_toArray, List.set_cons_zero, List.set_cons_succ]
 refine wpAnyH_take (i := 8) (v := ?_) rfl (by kernel_rfl) (by kernel_rfl) (by kernel_rfl) (fun _ _ _ h => h) (Or.inl ⟨by rfl, ?_⟩) (by assumption) ?_
 rotate_left
 · intro w hSw
   (try dsimp only at hSw)
   go_simp
   try with_reducible rfl
 try simp only [List.getElem_toArray, List.getElem_cons_succ, List.getElem_cons_zero, Act.put, List.setIfInBounds_toArray, List.set_cons_zero, List.set_cons_succ]
 refine wpAnyH_done (by kernel_rfl) ?_ _
 clear hH2 k0 k1 k2 e1 e2
 go_wp2_with fail
 have hrl := HLOW.out.rb
 have hz0 := HK5.out.size
 have HK7 := Lib.hid (HK5.out.drew.trans (hk7.mono (show w.heap.size ≤ (V5.drew).heap.size by omega)))
 have HR7 := Lib.hid hrd7
 have q0 := (hk7.block _ (row_lt R0.out) (by omega)).trans R0.out
 have q2 := (hk7.block _ (row_lt R2.out) (by omega)).trans R2.out
 have q3 := (hk7.block _ (row_lt R3.out) (by omega)).trans R3.out
 have q4 := (hk7.block _ (row_lt R4.out) (by omega)).trans R4.out
 have qs := (hk7.block _ (row_lt RS.out) hms).trans RS.out
 have Q0 := Lib.hid q0
 have Q3 := Lib.hid q3
 have Q4 := Lib.hid q4
 have QS := Lib.hid qs
 obtain ⟨t0, t1⟩ := cell_pair q2
 obtain ⟨x0, x1, x2⟩ := cells3 qs
 clear d0 p2 s0 q0 q2 q3 q4 qs hk7 hrd7 R0 R1 R2 R3 R4 RS HRD hdr hst hrl hz0 hms
 have hmf : ∀ (fn : Fn) (first cap : Array Value) (w : World), (Instr.makeFunc fn first cap).run Tryz.prog w = .ok (.func fn first cap) w := fun _ _ _ _ => rfl
 have hdr7 : (w7.drew).heap.size = w7.heap.size := rfl
 have HR7D : Hid (Rdr w7.drew rb A cap zs L1) := Lib.hid (HR7.out.below (⟨rfl, rfl, rfl, Nat.le_refl _, fun _ _ => rfl⟩ : Below w7.heap.size w7 w7.drew))
 have HK7D : Hid (Keeps w.heap.size rb w w7.drew) := Lib.hid HK7.out.drew
 go_wp2_with fail
 refine wp_region_held_drew (S := (fun V => (V.cell? ⟨w.heap.size + 1 + 1, 0, none⟩ = some (.int .i64 (j : Int)) ∧ V.cell? ⟨w.heap.size + 1 + 1, 1, none⟩ = some (.int .i64 (c : Int))) ∧ V.cell? ⟨ms, 0, none⟩ = some (.int .i64 (l.length : Int)))) (by kernel_rfl) ?_ (fun hH0 => ?_)
 · exact ⟨⟨t0, t1⟩, x0⟩
 refine wpAnyH_take (i := 0) (v := ?_) rfl (by kernel_rfl) (by kernel_rfl) (by kernel_rfl) (fun _ _ _ h => h) (Or.inl ⟨by rfl, ?_⟩) (by assumption) ?_
 rotate_left
 · intro w hSw
   (try dsimp only at hSw)
   go_simp
   try with_reducible rfl
 try simp only [List.getElem_toArray, List.getElem_cons_succ, List.getElem_cons_zero, Act.put, List.setIfInBounds_toArray, List.set_cons_zero, List.set_cons_succ]
 refine wpAnyH_take (i := 2) (v := ?_) rfl (by kernel_rfl) (by kernel_rfl) (by kernel_rfl) (fun _ _ _ h => h) (Or.inl ⟨by rfl, ?_⟩) (by assumption) ?_
 rotate_left
 · intro w hSw
   (try dsimp only at hSw)
   go_simp
   try with_reducible rfl
 try simp only [List.getElem_toArray, List.getElem_cons_succ, List.getElem_cons_zero, Act.put, List.setIfInBounds_toArray, List.set_cons_zero, List.set_cons_succ]
 refine wpAnyH_take (i := 3) (v := ?_) rfl (by kernel_rfl) (by kernel_rfl) (by kernel_rfl) (fun _ _ _ h => h) (Or.inl ⟨by rfl, ?_⟩) (by assumption) ?_
 rotate_left
 · intro w hSw
   (try dsimp only at hSw)
   go_simp
   try with_reducible rfl
 try simp only [List.getElem_toArray, List.getElem_cons_succ, List.getElem_cons_zero, Act.put, List.setIfInBounds_toArray, List.set_cons_zero, List.set_cons_succ]
 refine wpAnyH_take (i := 4) (v := ?_) rfl (by kernel_rfl) (by kernel_rfl) (by kernel_rfl) (fun _ _ _ h => h) (Or.inl ⟨by rfl, ?_⟩) (by assumption) ?_
 rotate_left
 · intro w hSw
   (try dsimp only at hSw)
   go_simp
   try with_reducible rfl
 try simp only [List.getElem_toArray, List.getElem_cons_succ, List.getElem_cons_zero, Act.put, List.setIfInBounds_toArray, List.set_cons_zero, List.set_cons_succ]
 refine wpAnyH_take (i := 5) (v := ?_) rfl (by kernel_rfl) (by kernel_rfl) (by kernel_rfl) (fun _ _ _ h => h) (Or.inl ⟨by rfl, ?_⟩) (by assumption) ?_
 rotate_left
 · intro w hSw
   (try dsimp only at hSw)
   go_simp
   try with_reducible rfl
 try simp only [List.getElem_toArray, List.getElem_cons_succ, List.getElem_cons_zero, Act.put, List.setIfInBounds_toArray, List.set_cons_zero, List.set_cons_succ]
 refine wpAnyH_ready (rs := [1]) (by kernel_rfl) (by simp) ?_
 refine AllReadyH.cons rfl (fun K hK => ?_) AllReadyH.nil
 go_simp
 go_at_call 118
 with_reducible refine (HBH.out _).mono ?_
 rintro e w8 ⟨rfl, hb8⟩
 have s8 := (hb8.block _ (row_lt QS.out)).trans QS.out
 have y0 := (cells3 s8).1
 have g0 := (hb8.block _ (row_lt Q0.out)).trans Q0.out
 have g3 := (hb8.block _ (row_lt Q3.out)).trans Q3.out
 have j0 := kcR hb8 t0
 have j1 := kcR hb8 t1
 go_wp2_with fail
 refine hK.out _ _ ?_ (fun hH1 => ?_)
 · exact ⟨⟨j0, j1⟩, y0⟩
 clear hK K hH0
 try simp only [List.getElem_toArray, List.getElem_cons_succ, List.getElem_cons_zero, Act.put, List.setIfInBounds_toArray, List.set_cons_zero, List.set_cons_succ]
 refine wpAnyH_ready (rs := [6]) (by kernel_rfl) (by simp) ?_
 refine AllReadyH.cons rfl (fun K hK => ?_) AllReadyH.nil
 go_simp
 go_at_call 168
 with_reducible refine (HE.out ms _ (HK7D.out.trans (Keeps.of_below (hb8.mono HK7D.out.size))) (HR7D.out.below hb8) g0 s8 g3).mono ?_
 rintro e w9 ⟨A', c', rfl, hnds, hrd9, hk9⟩
 have qs9 := (hk9.block _ (row_lt s8) (fun e => by have h1 := s8; rw [e, (HR7D.out.below hb8).row] at h1; simp at h1)).trans s8
 have z0' := (cells3 qs9).1
 have i0' := keeps_cell hk9 ⟨w.heap.size + 1 + 1, 0, none⟩ (World.block_lt_of_cell? _ _ j0) (by have := HLOW.out.rb; show w.heap.size + 1 + 1 ≠ rb; omega)
 have i1' := keeps_cell hk9 ⟨w.heap.size + 1 + 1, 1, none⟩ (World.block_lt_of_cell? _ _ j1) (by have := HLOW.out.rb; show w.heap.size + 1 + 1 ≠ rb; omega)
 go_wp2_with fail
 refine hK.out _ _ ?_ (fun hH2 => ?_)
 · exact ⟨⟨i0'.trans j0, i1'.trans j1⟩, z0'⟩
 clear hK K hH1
 try simp only [List.getElem_toArray, List.getElem_cons_succ, List.getElem_cons_zero, Act.put, List.setIfInBounds_toArray, List.set_cons_zero, List.set_cons_succ]
 refine wpAnyH_take (i := 7) (v := ?_) rfl (by kernel_rfl) (by kernel_rfl) (by kernel_rfl) (fun _ _ _ h => h) (Or.inl ⟨by rfl, ?_⟩) (by assumption) ?_
 rotate_left
 · intro w hSw
   (try dsimp only at hSw)
   go_simp
   try with_reducible rfl
 try simp only [List.getElem_toArray, List.getElem_cons_succ, List.getElem_cons_zero, Act.put, List.setIfInBounds_toArray, List.set_cons_zero, List.set_cons_succ]
 refine wpAnyH_take (i := 8) (v := ?_) rfl (by kernel_rfl) (by kernel_rfl) (by kernel_rfl) (fun _ _ _ h => h) (Or.inl ⟨by rfl, ?_⟩) (by assumption) ?_
 rotate_left
 · intro w hSw
   (try dsimp only at hSw)
   go_simp
   try with_reducible rfl
 try simp only [List.getElem_toArray, List.getElem_cons_succ, List.getElem_cons_zero, Act.put, List.setIfInBounds_toArray, List.set_cons_zero, List.set_cons_succ]
 refine wpAnyH_take (i := 9) (v := ?_) rfl (by kernel_rfl) (by kernel_rfl) (by kernel_rfl) (fun _ _ _ h => h) (Or.inl ⟨by rfl, ?_⟩) (by assumption) ?_
 rotate_left
 · intro w hSw
   (try dsimp only at hSw)
   go_simp
   try with_reducible rfl
 try simp only [List.getElem_toArray, List.getElem_cons_succ, List.getElem_cons_zero, Act.put, List.setIfInBounds_toArray, List.set_cons_zero, List.set_cons_succ]
 refine wpAnyH_take (i := 10) (v := ?_) rfl (by kernel_rfl) (by kernel_rfl) (by kernel_rfl) (fun _ _ _ h => h) (Or.inl ⟨by rfl, ?_⟩) (by assumption) ?_
 rotate_left
 · intro w hSw
   (try dsimp only at hSw)
   go_simp
   try with_reducible rfl
 try simp only [List.getElem_toArray, List.getElem_cons_succ, List.getElem_cons_zero, Act.put, List.setIfInBounds_toArray, List.set_cons_zero, List.set_cons_succ]
 refine wpAnyH_take (i := 11) (v := ?_) rfl (by kernel_rfl) (by kernel_rfl) (by kernel_rfl) (fun _ _ _ h => h) (Or.inl ⟨by rfl, ?_⟩) (by assumption) ?_
 rotate_left
 · intro w hSw
   (try dsimp only at hSw)
   go_simp
   try with_reducible rfl
 try simp only [List.getElem_toArray, List.getElem_cons_succ, List.getElem_cons_zero, Act.put, List.setIfInBounds_toArray, List.set_cons_zero, List.set_cons_succ]
 refine wpAnyH_done (by kernel_rfl) ?_ _
 clear hH2 z0' i0' i1' j0 j1 y0
 have HK8 : Hid (Keeps w.heap.size rb w w8) := Lib.hid (HK7D.out.trans (Keeps.of_below (hb8.mono HK7D.out.size)))
 have hrow8 := (hb8.block _ (row_lt Q4.out)).trans Q4.out
 have hlt8 := row_lt hrow8
 have hrl := HLOW.out.rb
 have q4 := (hk9.block _ hlt8 (by omega)).trans hrow8
 obtain ⟨z0, z1, z2⟩ := cells3 qs9
 have hnq : NdAt w9 (From w8.heap.size) (2 * d + 2) (.mk 2 { data := #[] } [] 7 l.length l) ⟨none, 0, A', c'⟩ := ⟨Nat.zero_le _, NdsAt.nil _ _ _ _, hnds⟩
 obtain ⟨wf, hwf, hrw, hn5, hrd5, hk5⟩ := NdQ.laid HLOW.out HK8.out ⟨by omega, hlt8⟩ hrow8 hnq hrd9 hk9
 dsimp only [boxN, Nd.kind, Nd.data, Nd.ptrs, Nd.size, Nd.count, Nd.items, List.length_nil] at hwf hrw
 have HF := Lib.hid (And.intro hn5 (And.intro hrd5 hk5))
 have HWF := Lib.hid hwf
 have HRW := Lib.hid hrw
 obtain ⟨c0, c1, c2, c3, c4, c5⟩ := cells6 q4
 have hfz := row_free q4
 clear q4 qs9 hnq hn5 hrd5 hk5 hwf hrw hrl hlt8 hrow8 s8 hnds hrd9 hk9 hb8 x0 x1 x2 t0 t1 z1 z2
 go_wp2
 rw [HWF.out]
 obtain ⟨e0, e1, e2, e3, e4, e5⟩ := cells6 HRW.out
 exact bodyPost_ret (v := .tuple #[.agg #[.int .i64 2, .string { data := #[] }, .slice none 0 0, .int .i64 7, .int .i64 (l.length : Int), .slice A' l.length c'], .nilIface]) (by simp [results, Tryz.results132, go_sem, e0, e1, e2, e3, e4, e5]) rfl ⟨⟨none, 0, A', c'⟩, rfl, HF.out⟩
theorem node_s {M rb cap : Nat} {A : Option Addr} {zs : List ByteArray} {w : World} {L L2 : Int} (h : Rdr w rb A cap zs L) (b1 b2 : Nat) (o p1 p2 : Int) (j c : Nat) (n : Nd)
 (HL : ∀ W : World, Keeps w.heap.size rb w W → Rdr W rb A cap zs L → Calls Tryz.prog 131 #[.pointer (some ⟨rb, 0, none⟩), .agg #[.int .i64 o, .int .i64 p1, .int .i64 p2], plV j c, .func (.func 84) #[] #[.pointer (some ⟨b1, 0, none⟩), .pointer (some ⟨b2, 0, none⟩)]] W (NdQ M rb A cap zs L2 n W)) :
 Calls Tryz.prog 87 #[.pointer (some ⟨rb, 0, none⟩), siV o p1 p2, plV j c, .func (.func 84) #[] #[.pointer (some ⟨b1, 0, none⟩), .pointer (some ⟨b2, 0, none⟩)]] w (NdQ M rb A cap zs L2 n w) := by
 have HLL := Lib.hid HL
 have hlow := h.low
 have HLOW := Lib.hid hlow
 have HR := Lib.hid h
 obtain ⟨hb0, hr0, hr1, hr2⟩ := al3 w #[.int .i64 (j : Int), .int .i64 (c : Int)] #[.int .i64 0, .string { data := #[] }, .slice none 0 0, .int .i64 0, .int .i64 0, .slice none 0 0] #[.int .i64 o, .int .i64 p1, .int .i64 p2] 58 nodeT 168
 have HR0 := Lib.hid (HR.out.below hb0)
 have HK0 := Lib.hid (Keeps.of_below (b := rb) hb0)
 have HC := Lib.hid (HLL.out _ HK0.out HR0.out)
 have R1 := Lib.hid hr1
 obtain ⟨t0, t1⟩ := cell_pair hr0
 obtain ⟨s0, s1, s2⟩ := cells3 hr2
 unfold NdQ at HC
 clear hb0 hr0 hr1 hr2 HL h hlow
 have a1 := ta_str_str
 have a2 := ta_lis_str
 have a3 := ta_lis_lis
 go_enter Tryz.func87, Tryz.ntmps87
 go_wp2_with fail
 refine HC.out.mono ?_
 rintro e w4 ⟨hy, rfl, hny, hrd4, hk4⟩
 have hlt3 := row_lt R1.out
 have q4 := (hk4.block _ hlt3 (by have := HLOW.out.rb; omega)).trans R1.out
 obtain ⟨c0, c1, c2, c3, c4, c5⟩ := cells6 q4
 have hfz := row_free q4
 obtain ⟨wf, hwf, hrw, hn5, hrd5, hk5⟩ := NdQ.laid HLOW.out HK0.out ⟨by omega, hlt3⟩ R1.out hny hrd4 hk4
 have HF := Lib.hid (And.intro hn5 (And.intro hrd5 hk5))
 have HWF := Lib.hid hwf
 have HRW := Lib.hid hrw
 clear q4 t0 t1 s0 s1 s2 HC hny hrd4 hk4 hn5 hrd5 hk5 hwf hrw hlt3 a1 a2 a3
 go_wp2
 rw [HWF.out]
 obtain ⟨e0, e1, e2, e3, e4, e5⟩ := cells6 HRW.out
 exact bodyPost_ret (v := .tuple #[.agg #[.int .i64 n.kind, .string n.data, .slice hy.A n.ptrs.length hy.a, .int .i64 n.size, .int .i64 n.count, .slice hy.B n.items.length hy.b], .nilIface]) (by simp [results, Tryz.results87, go_sem, e0, e1, e2, e3, e4, e5]) rfl ⟨hy, rfl, HF.out⟩
theorem node_m {M rb cap : Nat} {A : Option Addr} {zs : List ByteArray} {w : World} {L L2 : Int} (h : Rdr w rb A cap zs L) (b1 b2 : Nat) (o p2 : Int) (j c : Nat) (n : Nd)
 (HL : ∀ W : World, Keeps w.heap.size rb w W → Rdr W rb A cap zs L → Calls Tryz.prog 132 #[.pointer (some ⟨rb, 0, none⟩), .agg #[.int .i64 o, .int .i64 7, .int .i64 p2], plV j c, .func (.func 84) #[] #[.pointer (some ⟨b1, 0, none⟩), .pointer (some ⟨b2, 0, none⟩)]] W (NdQ M rb A cap zs L2 n W)) :
 Calls Tryz.prog 87 #[.pointer (some ⟨rb, 0, none⟩), liV o 7 p2, plV j c, .func (.func 84) #[] #[.pointer (some ⟨b1, 0, none⟩), .pointer (some ⟨b2, 0, none⟩)]] w (NdQ M rb A cap zs L2 n w) := by
 have HLL := Lib.hid HL
 have hlow := h.low
 have HLOW := Lib.hid hlow
 have HR := Lib.hid h
 obtain ⟨hb0, hr0, hr1, hr2⟩ := al3 w #[.int .i64 (j : Int), .int .i64 (c : Int)] #[.int .i64 0, .string { data := #[] }, .slice none 0 0, .int .i64 0, .int .i64 0, .slice none 0 0] #[.int .i64 o, .int .i64 7, .int .i64 p2] 58 nodeT 170
 have HR0 := Lib.hid (HR.out.below hb0)
 have HK0 := Lib.hid (Keeps.of_below (b := rb) hb0)
 have HC := Lib.hid (HLL.out _ HK0.out HR0.out)
 have R1 := Lib.hid hr1
 obtain ⟨t0, t1⟩ := cell_pair hr0
 obtain ⟨s0, s1, s2⟩ := cells3 hr2
 unfold NdQ at HC
 clear hb0 hr0 hr1 hr2 HL h hlow
 have a1 := ta_str_str
 have a2 := ta_lis_str
 have a3 := ta_lis_lis
 go_enter Tryz.func87, Tryz.ntmps87
 go_wp2_with fail
 refine HC.out.mono ?_
 rintro e w4 ⟨hy, rfl, hny, hrd4, hk4⟩
 have hlt3 := row_lt R1.out
 have q4 := (hk4.block _ hlt3 (by have := HLOW.out.rb; omega)).trans R1.out
 obtain ⟨c0, c1, c2, c3, c4, c5⟩ := cells6 q4
 have hfz := row_free q4
 obtain ⟨wf, hwf, hrw, hn5, hrd5, hk5⟩ := NdQ.laid HLOW.out HK0.out ⟨by omega, hlt3⟩ R1.out hny hrd4 hk4
 have HF := Lib.hid (And.intro hn5 (And.intro hrd5 hk5))
 have HWF := Lib.hid hwf
 have HRW := Lib.hid hrw
 clear q4 t0 t1 s0 s1 s2 HC hny hrd4 hk4 hn5 hrd5 hk5 hwf hrw hlt3 a1 a2 a3
 go_wp2
 rw [HWF.out]
 obtain ⟨e0, e1, e2, e3, e4, e5⟩ := cells6 HRW.out
 exact bodyPost_ret (v := .tuple #[.agg #[.int .i64 n.kind, .string n.data, .slice hy.A n.ptrs.length hy.a, .int .i64 n.size, .int .i64 n.count, .slice hy.B n.items.length hy.b], .nilIface]) (by simp [results, Tryz.results87, go_sem, e0, e1, e2, e3, e4, e5]) rfl ⟨hy, rfl, HF.out⟩
theorem node_l {M rb cap : Nat} {A : Option Addr} {zs : List ByteArray} {w : World} {L L2 : Int} (h : Rdr w rb A cap zs L) (b1 b2 : Nat) (o p1 p2 : Int) (j c : Nat) (n : Nd) (hz7 : (p1 == 7) = false)
 (HL : ∀ W : World, Keeps w.heap.size rb w W → Rdr W rb A cap zs L → Calls Tryz.prog 133 #[.pointer (some ⟨rb, 0, none⟩), .agg #[.int .i64 o, .int .i64 p1, .int .i64 p2], plV j c, .func (.func 84) #[] #[.pointer (some ⟨b1, 0, none⟩), .pointer (some ⟨b2, 0, none⟩)]] W (NdQ M rb A cap zs L2 n W)) :
 Calls Tryz.prog 87 #[.pointer (some ⟨rb, 0, none⟩), liV o p1 p2, plV j c, .func (.func 84) #[] #[.pointer (some ⟨b1, 0, none⟩), .pointer (some ⟨b2, 0, none⟩)]] w (NdQ M rb A cap zs L2 n w) := by
 have HLL := Lib.hid HL
 have hlow := h.low
 have HLOW := Lib.hid hlow
 have HR := Lib.hid h
 obtain ⟨hb0, hr0, hr1, hr2⟩ := al3 w #[.int .i64 (j : Int), .int .i64 (c : Int)] #[.int .i64 0, .string { data := #[] }, .slice none 0 0, .int .i64 0, .int .i64 0, .slice none 0 0] #[.int .i64 o, .int .i64 p1, .int .i64 p2] 58 nodeT 170
 have HR0 := Lib.hid (HR.out.below hb0)
 have HK0 := Lib.hid (Keeps.of_below (b := rb) hb0)
 have HC := Lib.hid (HLL.out _ HK0.out HR0.out)
 have R1 := Lib.hid hr1
 obtain ⟨t0, t1⟩ := cell_pair hr0
 obtain ⟨s0, s1, s2⟩ := cells3 hr2
 unfold NdQ at HC
 clear hb0 hr0 hr1 hr2 HL h hlow
 have a1 := ta_str_str
 have a2 := ta_lis_str
 have a3 := ta_lis_lis
 go_enter Tryz.func87, Tryz.ntmps87
 go_wp2_with fail
 refine HC.out.mono ?_
 rintro e w4 ⟨hy, rfl, hny, hrd4, hk4⟩
 have hlt3 := row_lt R1.out
 have q4 := (hk4.block _ hlt3 (by have := HLOW.out.rb; omega)).trans R1.out
 obtain ⟨c0, c1, c2, c3, c4, c5⟩ := cells6 q4
 have hfz := row_free q4
 obtain ⟨wf, hwf, hrw, hn5, hrd5, hk5⟩ := NdQ.laid HLOW.out HK0.out ⟨by omega, hlt3⟩ R1.out hny hrd4 hk4
 have HF := Lib.hid (And.intro hn5 (And.intro hrd5 hk5))
 have HWF := Lib.hid hwf
 have HRW := Lib.hid hrw
 clear q4 t0 t1 s0 s1 s2 HC hny hrd4 hk4 hn5 hrd5 hk5 hwf hrw hlt3 a1 a2 a3
 go_wp2
 rw [HWF.out]
 obtain ⟨e0, e1, e2, e3, e4, e5⟩ := cells6 HRW.out
 exact bodyPost_ret (v := .tuple #[.agg #[.int .i64 n.kind, .string n.data, .slice hy.A n.ptrs.length hy.a, .int .i64 n.size, .int .i64 n.count, .slice hy.B n.items.length hy.b], .nilIface]) (by simp [results, Tryz.results87, go_sem, e0, e1, e2, e3, e4, e5]) rfl ⟨hy, rfl, HF.out⟩
end Go.Proofs.YtlbfffokkhccaaaGreatDoor
