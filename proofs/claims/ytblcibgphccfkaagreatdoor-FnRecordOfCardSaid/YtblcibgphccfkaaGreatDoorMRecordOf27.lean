/- Texts of the proof of the law FnRecordOf, side by side: part 27. -/
import Derived.Test.YtblcibgphccfkaaGreatDoorMRecordOf26
set_option maxHeartbeats 8000000
set_option maxRecDepth 100000
namespace Go.Proofs.YtblcibgphccfkaaGreatDoor
open Go.RowKit Go.Deep
theorem cellR1 {w : World} {g : Nat} {v0 : Value} {T : TypeId} (h : w.heap[g]? = some (.cells #[v0] T (0, 0))) : w.cell? ⟨g, 0, none⟩ = some v0 := by
 rw [cell_of_row _ _ _ _ _ _ h]; rfl
def RecW (w : World) (g : Nat) (A : Option Addr) (len c : Nat) (l : List Fld) (v1 : Value) (D : ByteArray) (G : Option Addr) (P cp : Nat) : Prop :=
 w.heap[g]? = some (.cells #[.slice A len c, .int .i64 ((layF l ps0).2.ls.words : Int), .int .i64 ((layF l ps0).2.ptrs : Int), v1, .int .i64 (tagL l), .int .i64 1, .string D, .slice G P cp, .int .i64 0, .int .i64 0, .slice none 0 0] recT (0, 0))
theorem set_data {W : World} {g : Nat} {A G : Option Addr} {len c : Nat} {l : List Fld} {v1 : Value} {D : ByteArray} {P cp : Nat} (D' : ByteArray) (h : RecW W g A len c l v1 D G P cp) :
 ∃ wf, W.setCell ⟨g, 6, none⟩ (.string D') = wf ∧ RecW wf g A len c l v1 D' G P cp ∧ OnlyIn [g] W wf :=
 ⟨_, rfl, row_setN h 6 (.string D'), OnlyIn.setCell (p := ⟨g, 6, none⟩) (by simp) _⟩
theorem putBit_a (g : Nat) (A G : Option Addr) (len c : Nat) (l : List Fld) (v1 : Value) (D : ByteArray) (P cp : Nat) (at_ : Int) (xv : Int) (yv : Nd) (hv : Hd) (w : World) (hr : RecW w g A len c l v1 D G P cp) (hd : D.size ≤ maxLen) (hx : -9223372036854775808 ≤ xv ∧ xv ≤ 9223372036854775807) :
 Calls Tryz.prog 97 #[.pointer (some ⟨g, 5, none⟩), .int .i64 at_, .agg #[.int .i64 xv, .int .i64 yv.kind, .string yv.data, .slice hv.A yv.ptrs.length hv.a, .int .i64 yv.size, .int .i64 yv.count, .slice hv.B yv.items.length hv.b]] w fun e w' => e = .returned (.tuple #[]) ∧ RecW w' g A len c l v1 ⟨(bputT D.data.toList at_ xv).toArray⟩ G P cp ∧ OnlyIn [g] w w' := by
 have HR := Lib.hid hr
 have HGL := Lib.hid (row_lt hr)
 have HX := Lib.hid hx
 have hba := (Below.refl w.heap.size w).alloc (Nat.le_refl _) (.cells #[.int .i64 xv, .int .i64 yv.kind, .string yv.data, .slice hv.A yv.ptrs.length hv.a, .int .i64 yv.size, .int .i64 yv.count, .slice hv.B yv.items.length hv.b] valT)
 have HBA := Lib.hid hba
 have HVA := Lib.hid (heap_alloc_new w (.cells #[.int .i64 xv, .int .i64 yv.kind, .string yv.data, .slice hv.A yv.ptrs.length hv.a, .int .i64 yv.size, .int .i64 yv.count, .slice hv.B yv.items.length hv.b] valT))
 clear hr hba hx
 go_enter Tryz.func97, Tryz.ntmps97
 go_wp2_with fail
 obtain ⟨bx, hbx⟩ : ∃ bx, bx = w.heap.size := ⟨_, rfl⟩
 have HBX : Hid (bx = w.heap.size) := Lib.hid hbx
 rw [← hbx] at HVA ⊢
 clear hbx
 generalize w.alloc (.cells #[.int .i64 xv, .int .i64 yv.kind, .string yv.data, .slice hv.A yv.ptrs.length hv.a, .int .i64 yv.size, .int .i64 yv.count, .slice hv.B yv.items.length hv.b] valT) = W at *
 have HDR : Hid (Below W.heap.size W W.drew) := Lib.hid ⟨rfl, rfl, rfl, Nat.le_refl _, fun _ _ => rfl⟩
 have HC0 := Lib.hid (HBA.out.trans (HDR.out.mono HBA.out.size))
 have HU0 : Hid (RecW W.drew g A len c l v1 D G P cp) := Lib.hid ((HC0.out.block _ HGL.out).trans HR.out)
 have u1 := (HDR.out.block _ (row_lt HVA.out)).trans HVA.out
 refine wp_region_held_drew (S := (fun V => V.heap[bx]? = some (.cells #[.int .i64 xv, .int .i64 yv.kind, .string yv.data, .slice hv.A yv.ptrs.length hv.a, .int .i64 yv.size, .int .i64 yv.count, .slice hv.B yv.items.length hv.b] valT (0, 0)))) (by kernel_rfl) ?_ (fun hH0 => ?_)
 · exact u1
 refine wpAnyH_take (i := 0) (v := ?_) rfl (by kernel_rfl) (by kernel_rfl) (by kernel_rfl) (fun _ _ _ h => h) (Or.inl ⟨by rfl, ?_⟩) (by assumption) ?_
 rotate_left
 · intro w hSw
   (try dsimp only at hSw)
   obtain ⟨s0, s1, s2, s3, s4, s5, s6⟩ := cellsV hSw
   go_simp
   try with_reducible rfl
 try simp only [List.getElem_toArray, List.getElem_cons_succ, List.getElem_cons_zero, Act.put, List.setIfInBounds_toArray, List.set_cons_zero, List.set_cons_succ]
 refine wpAnyH_take (i := 1) (v := ?_) rfl (by kernel_rfl) (by kernel_rfl) (by kernel_rfl) (fun _ _ _ h => h) (Or.inl ⟨by rfl, ?_⟩) (by assumption) ?_
 rotate_left
 · intro w hSw
   (try dsimp only at hSw)
   obtain ⟨s0, s1, s2, s3, s4, s5, s6⟩ := cellsV hSw
   go_simp
   try with_reducible rfl
 try simp only [List.getElem_toArray, List.getElem_cons_succ, List.getElem_cons_zero, Act.put, List.setIfInBounds_toArray, List.set_cons_zero, List.set_cons_succ]
 refine wpAnyH_take (i := 2) (v := ?_) rfl (by kernel_rfl) (by kernel_rfl) (by kernel_rfl) (fun _ _ _ h => h) (Or.inl ⟨by rfl, ?_⟩) (by assumption) ?_
 rotate_left
 · intro w hSw
   (try dsimp only at hSw)
   obtain ⟨s0, s1, s2, s3, s4, s5, s6⟩ := cellsV hSw
   go_simp
   try with_reducible rfl
 try simp only [List.getElem_toArray, List.getElem_cons_succ, List.getElem_cons_zero, Act.put, List.setIfInBounds_toArray, List.set_cons_zero, List.set_cons_succ]
 refine wpAnyH_take (i := 3) (v := ?_) rfl (by kernel_rfl) (by kernel_rfl) (by kernel_rfl) (fun _ _ _ h => h) (Or.inl ⟨by rfl, ?_⟩) (by assumption) ?_
 rotate_left
 · intro w hSw
   (try dsimp only at hSw)
   obtain ⟨s0, s1, s2, s3, s4, s5, s6⟩ := cellsV hSw
   go_simp
   try with_reducible rfl
 try simp only [List.getElem_toArray, List.getElem_cons_succ, List.getElem_cons_zero, Act.put, List.setIfInBounds_toArray, List.set_cons_zero, List.set_cons_succ]
 refine wpAnyH_take (i := 5) (v := ?_) rfl (by kernel_rfl) (by kernel_rfl) (by kernel_rfl) (fun _ _ _ h => h) (Or.inl ⟨by rfl, ?_⟩) (by assumption) ?_
 rotate_left
 · intro w hSw
   (try dsimp only at hSw)
   obtain ⟨s0, s1, s2, s3, s4, s5, s6⟩ := cellsV hSw
   go_simp
   try with_reducible rfl
 try simp only [List.getElem_toArray, List.getElem_cons_succ, List.getElem_cons_zero, Act.put, List.setIfInBounds_toArray, List.set_cons_zero, List.set_cons_succ]
 refine wpAnyH_take (i := 6) (v := ?_) rfl (by kernel_rfl) (by kernel_rfl) (by kernel_rfl) (fun _ _ _ h => h) (Or.inl ⟨by rfl, ?_⟩) (by assumption) ?_
 rotate_left
 · intro w hSw
   (try dsimp only at hSw)
   obtain ⟨s0, s1, s2, s3, s4, s5, s6⟩ := cellsV hSw
   go_simp
   try with_reducible rfl
 try simp only [List.getElem_toArray, List.getElem_cons_succ, List.getElem_cons_zero, Act.put, List.setIfInBounds_toArray, List.set_cons_zero, List.set_cons_succ]
 refine wpAnyH_take (i := 7) (v := ?_) rfl (by kernel_rfl) (by kernel_rfl) (by kernel_rfl) (fun _ _ _ h => h) (Or.inl ⟨by rfl, ?_⟩) (by assumption) ?_
 rotate_left
 · intro w hSw
   (try dsimp only at hSw)
   obtain ⟨s0, s1, s2, s3, s4, s5, s6⟩ := cellsV hSw
   go_simp
   try with_reducible rfl
 try simp only [List.getElem_toArray, List.getElem_cons_succ, List.getElem_cons_zero, Act.put, List.setIfInBounds_toArray, List.set_cons_zero, List.set_cons_succ]
 obtain ⟨r0, r1, r2, r3, r4, r5, r6, r7, r8, r9, r10⟩ := cells11 HU0.out
 refine wpAnyH_ready (rs := [4]) (by kernel_rfl) (by simp) ?_
 refine AllReadyH.cons rfl (fun K hK => ?_) AllReadyH.nil
 go_simp
 refine hK.out _ _ u1 (fun hHn => ?_)
 clear hK K hH0 r0 r1 r2 r3 r4 r5 r6 r7 r8 r9 r10
 try simp only [List.getElem_toArray, List.getElem_cons_succ, List.getElem_cons_zero, Act.put, List.setIfInBounds_toArray, List.set_cons_zero, List.set_cons_succ]
 refine wpAnyH_ready (rs := [8]) (by kernel_rfl) (by simp) ?_
 refine AllReadyH.cons rfl (fun K hK => ?_) AllReadyH.nil
 go_simp
 go_at_call 126
 refine (implBitPut_any D at_ xv _ hd).mono ?_
 rintro e w2 ⟨rfl, hb2⟩
 have HC2 := Lib.hid (HC0.out.trans (hb2.mono HC0.out.size))
 have HV0 : Hid (RecW w2 g A len c l v1 D G P cp) := Lib.hid ((HC2.out.block _ HGL.out).trans HR.out)
 have v1' := (hb2.block _ (row_lt u1)).trans u1
 clear hb2 u1
 go_wp2_with fail
 refine hK.out _ _ v1' (fun hHm => ?_)
 clear hK K hHn
 try simp only [List.getElem_toArray, List.getElem_cons_succ, List.getElem_cons_zero, Act.put, List.setIfInBounds_toArray, List.set_cons_zero, List.set_cons_succ]
 refine wpAnyH_take (i := 9) (v := ?_) rfl (by kernel_rfl) (by kernel_rfl) (by kernel_rfl) (fun _ _ _ h => h) (Or.inl ⟨by rfl, ?_⟩) (by assumption) ?_
 rotate_left
 · intro w hSw
   (try dsimp only at hSw)
   obtain ⟨s0, s1, s2, s3, s4, s5, s6⟩ := cellsV hSw
   go_simp
   try with_reducible rfl
 try simp only [List.getElem_toArray, List.getElem_cons_succ, List.getElem_cons_zero, Act.put, List.setIfInBounds_toArray, List.set_cons_zero, List.set_cons_succ]
 refine wpAnyH_take (i := 10) (v := ?_) rfl (by kernel_rfl) (by kernel_rfl) (by kernel_rfl) (fun _ _ _ h => h) (Or.inl ⟨by rfl, ?_⟩) (by assumption) ?_
 rotate_left
 · intro w hSw
   (try dsimp only at hSw)
   obtain ⟨s0, s1, s2, s3, s4, s5, s6⟩ := cellsV hSw
   go_simp
   try with_reducible rfl
 try simp only [List.getElem_toArray, List.getElem_cons_succ, List.getElem_cons_zero, Act.put, List.setIfInBounds_toArray, List.set_cons_zero, List.set_cons_succ]
 refine wpAnyH_take (i := 11) (v := ?_) rfl (by kernel_rfl) (by kernel_rfl) (by kernel_rfl) (fun _ _ _ h => h) (Or.inl ⟨by rfl, ?_⟩) (by assumption) ?_
 rotate_left
 · intro w hSw
   (try dsimp only at hSw)
   obtain ⟨s0, s1, s2, s3, s4, s5, s6⟩ := cellsV hSw
   go_simp
   try with_reducible rfl
 try simp only [List.getElem_toArray, List.getElem_cons_succ, List.getElem_cons_zero, Act.put, List.setIfInBounds_toArray, List.set_cons_zero, List.set_cons_succ]
 refine wpAnyH_take (i := 12) (v := ?_) rfl (by kernel_rfl) (by kernel_rfl) (by kernel_rfl) (fun _ _ _ h => h) (Or.inl ⟨by rfl, ?_⟩) (by assumption) ?_
 rotate_left
 · intro w hSw
   (try dsimp only at hSw)
   obtain ⟨s0, s1, s2, s3, s4, s5, s6⟩ := cellsV hSw
   go_simp
   try with_reducible rfl
 try simp only [List.getElem_toArray, List.getElem_cons_succ, List.getElem_cons_zero, Act.put, List.setIfInBounds_toArray, List.set_cons_zero, List.set_cons_succ]
 refine wpAnyH_take (i := 13) (v := ?_) rfl (by kernel_rfl) (by kernel_rfl) (by kernel_rfl) (fun _ _ _ h => h) (Or.inl ⟨by rfl, ?_⟩) (by assumption) ?_
 rotate_left
 · intro w hSw
   (try dsimp only at hSw)
   obtain ⟨s0, s1, s2, s3, s4, s5, s6⟩ := cellsV hSw
   go_simp
   try with_reducible rfl
 try simp only [List.getElem_toArray, List.getElem_cons_succ, List.getElem_cons_zero, Act.put, List.setIfInBounds_toArray, List.set_cons_zero, List.set_cons_succ]
 obtain ⟨z0, z1, z2, z3, z4, z5, z6, z7, z8, z9, z10⟩ := cells11 HV0.out
 have zf := row_free HV0.out
 refine wpAnyH_ready (rs := [14]) (by kernel_rfl) (by simp) ?_
 refine AllReadyH.cons rfl (fun K hK => ?_) AllReadyH.nil
 go_simp
 obtain ⟨wf, hwf, hrw, hof⟩ := set_data (W := w2) ⟨(bputT D.data.toList at_ xv).toArray⟩ HV0.out
 have HWF := Lib.hid hwf
 have HRW := Lib.hid hrw
 have HOF := Lib.hid ((OnlyIn.of_below (bs := [g]) HC2.out).trans hof)
 have hne : bx ≠ g := by have := HBX.out; have := HGL.out; omega
 have x1 := (hof.block _ (row_lt v1') (by simpa using hne)).trans v1'
 clear hwf hrw hof z0 z1 z2 z3 z4 z5 z6 z7 z8 z9 z10 zf
 rw [HWF.out]
 refine hK.out _ _ x1 (fun hHl => ?_)
 clear hK K hHm
 try simp only [List.getElem_toArray, List.getElem_cons_succ, List.getElem_cons_zero, Act.put, List.setIfInBounds_toArray, List.set_cons_zero, List.set_cons_succ]
 refine wpAnyH_done (by kernel_rfl) ?_ _
 clear hHl
 go_wp2
 go_end0
 exact ⟨rfl, HRW.out, HOF.out⟩
theorem putNum_a (g : Nat) (A G : Option Addr) (len c : Nat) (l : List Fld) (v1 : Value) (D : ByteArray) (P cp : Nat) (at_ : Int) (xv : Int) (yv : Nd) (hv : Hd) (w : World) (hr : RecW w g A len c l v1 D G P cp) (hd : D.size ≤ maxLen) (hx : -9223372036854775808 ≤ xv ∧ xv ≤ 9223372036854775807) (b : Nat) (kz : Int) (hb : w.heap[b]? = some (.cells #[.int .i64 kz] 3 (0, 0))) (hbg : b ≠ g) (h0 : 0 ≤ at_) (h1 : at_ ≤ 10000) (k0 : 0 ≤ kz) (k1 : kz ≤ 8) :
 Calls Tryz.prog 129 #[.pointer (some ⟨g, 5, none⟩), .int .i64 at_, .agg #[.int .i64 xv, .int .i64 yv.kind, .string yv.data, .slice hv.A yv.ptrs.length hv.a, .int .i64 yv.size, .int .i64 yv.count, .slice hv.B yv.items.length hv.b], .pointer (some ⟨b, 0, none⟩)] w fun e w' => e = .returned (.tuple #[]) ∧ RecW w' g A len c l v1 ⟨(putT D.data.toList (at_ * kz) kz xv).toArray⟩ G P cp ∧ OnlyIn [g] w w' := by
 have HR := Lib.hid hr
 have HGL := Lib.hid (row_lt hr)
 have HX := Lib.hid hx
 have HWM : Hid (IntKind.i64.wrap (at_ * kz) = at_ * kz) := Lib.hid (by
  have h2 : 0 ≤ at_ * kz := Int.mul_nonneg h0 k0
  have h3 : at_ * kz ≤ 10000 * 8 := Int.mul_le_mul h1 k1 k0 (by decide)
  generalize at_ * kz = x at *
  rw [IntKind.wrap_i64]; omega)
 have HNE2 := Lib.hid hbg
 have HBL := Lib.hid (row_lt hb)
 have HBB := Lib.hid hb
 clear h0 h1 k0 k1 hb hbg
 have hba := (Below.refl w.heap.size w).alloc (Nat.le_refl _) (.cells #[.int .i64 xv, .int .i64 yv.kind, .string yv.data, .slice hv.A yv.ptrs.length hv.a, .int .i64 yv.size, .int .i64 yv.count, .slice hv.B yv.items.length hv.b] valT)
 have HBA := Lib.hid hba
 have HVA := Lib.hid (heap_alloc_new w (.cells #[.int .i64 xv, .int .i64 yv.kind, .string yv.data, .slice hv.A yv.ptrs.length hv.a, .int .i64 yv.size, .int .i64 yv.count, .slice hv.B yv.items.length hv.b] valT))
 clear hr hba hx
 go_enter Tryz.func129, Tryz.ntmps129
 go_wp2_with fail
 obtain ⟨bx, hbx⟩ : ∃ bx, bx = w.heap.size := ⟨_, rfl⟩
 have HBX : Hid (bx = w.heap.size) := Lib.hid hbx
 rw [← hbx] at HVA ⊢
 clear hbx
 generalize w.alloc (.cells #[.int .i64 xv, .int .i64 yv.kind, .string yv.data, .slice hv.A yv.ptrs.length hv.a, .int .i64 yv.size, .int .i64 yv.count, .slice hv.B yv.items.length hv.b] valT) = W at *
 have HDR : Hid (Below W.heap.size W W.drew) := Lib.hid ⟨rfl, rfl, rfl, Nat.le_refl _, fun _ _ => rfl⟩
 have HC0 := Lib.hid (HBA.out.trans (HDR.out.mono HBA.out.size))
 have HU0 : Hid (RecW W.drew g A len c l v1 D G P cp) := Lib.hid ((HC0.out.block _ HGL.out).trans HR.out)
 have u1 := (HDR.out.block _ (row_lt HVA.out)).trans HVA.out
 have u2 := (HC0.out.block _ HBL.out).trans HBB.out
 refine wp_region_held_drew (S := (fun V => V.heap[bx]? = some (.cells #[.int .i64 xv, .int .i64 yv.kind, .string yv.data, .slice hv.A yv.ptrs.length hv.a, .int .i64 yv.size, .int .i64 yv.count, .slice hv.B yv.items.length hv.b] valT (0, 0)) ∧ V.heap[b]? = some (.cells #[.int .i64 kz] 3 (0, 0)))) (by kernel_rfl) ?_ (fun hH0 => ?_)
 · exact ⟨u1, u2⟩
 refine wpAnyH_take (i := 0) (v := ?_) rfl (by kernel_rfl) (by kernel_rfl) (by kernel_rfl) (fun _ _ _ h => h) (Or.inl ⟨by rfl, ?_⟩) (by assumption) ?_
 rotate_left
 · intro w hSw
   (try dsimp only at hSw)
   obtain ⟨s0, s1, s2, s3, s4, s5, s6⟩ := cellsV hSw.1
   have t0 := cellR1 hSw.2
   have hwm := HWM.out
   go_simp
   try with_reducible rfl
 try simp only [List.getElem_toArray, List.getElem_cons_succ, List.getElem_cons_zero, Act.put, List.setIfInBounds_toArray, List.set_cons_zero, List.set_cons_succ]
 refine wpAnyH_take (i := 1) (v := ?_) rfl (by kernel_rfl) (by kernel_rfl) (by kernel_rfl) (fun _ _ _ h => h) (Or.inl ⟨by rfl, ?_⟩) (by assumption) ?_
 rotate_left
 · intro w hSw
   (try dsimp only at hSw)
   obtain ⟨s0, s1, s2, s3, s4, s5, s6⟩ := cellsV hSw.1
   have t0 := cellR1 hSw.2
   have hwm := HWM.out
   go_simp
   try with_reducible rfl
 try simp only [List.getElem_toArray, List.getElem_cons_succ, List.getElem_cons_zero, Act.put, List.setIfInBounds_toArray, List.set_cons_zero, List.set_cons_succ]
 refine wpAnyH_take (i := 2) (v := ?_) rfl (by kernel_rfl) (by kernel_rfl) (by kernel_rfl) (fun _ _ _ h => h) (Or.inl ⟨by rfl, ?_⟩) (by assumption) ?_
 rotate_left
 · intro w hSw
   (try dsimp only at hSw)
   obtain ⟨s0, s1, s2, s3, s4, s5, s6⟩ := cellsV hSw.1
   have t0 := cellR1 hSw.2
   have hwm := HWM.out
   go_simp
   try with_reducible rfl
 try simp only [List.getElem_toArray, List.getElem_cons_succ, List.getElem_cons_zero, Act.put, List.setIfInBounds_toArray, List.set_cons_zero, List.set_cons_succ]
 refine wpAnyH_take (i := 3) (v := ?_) rfl (by kernel_rfl) (by kernel_rfl) (by kernel_rfl) (fun _ _ _ h => h) (Or.inl ⟨by rfl, ?_⟩) (by assumption) ?_
 rotate_left
 · intro w hSw
   (try dsimp only at hSw)
   obtain ⟨s0, s1, s2, s3, s4, s5, s6⟩ := cellsV hSw.1
   have t0 := cellR1 hSw.2
   have hwm := HWM.out
   go_simp
   try with_reducible rfl
 try simp only [List.getElem_toArray, List.getElem_cons_succ, List.getElem_cons_zero, Act.put, List.setIfInBounds_toArray, List.set_cons_zero, List.set_cons_succ]
 refine wpAnyH_take (i := 5) (v := ?_) rfl (by kernel_rfl) (by kernel_rfl) (by kernel_rfl) (fun _ _ _ h => h) (Or.inl ⟨by rfl, ?_⟩) (by assumption) ?_
 rotate_left
 · intro w hSw
   (try dsimp only at hSw)
   obtain ⟨s0, s1, s2, s3, s4, s5, s6⟩ := cellsV hSw.1
   have t0 := cellR1 hSw.2
   have hwm := HWM.out
   go_simp
   try with_reducible rfl
 try simp only [List.getElem_toArray, List.getElem_cons_succ, List.getElem_cons_zero, Act.put, List.setIfInBounds_toArray, List.set_cons_zero, List.set_cons_succ]
 refine wpAnyH_take (i := 6) (v := ?_) rfl (by kernel_rfl) (by kernel_rfl) (by kernel_rfl) (fun _ _ _ h => h) (Or.inl ⟨by rfl, ?_⟩) (by assumption) ?_
 rotate_left
 · intro w hSw
   (try dsimp only at hSw)
   obtain ⟨s0, s1, s2, s3, s4, s5, s6⟩ := cellsV hSw.1
   have t0 := cellR1 hSw.2
   have hwm := HWM.out
   go_simp
   try with_reducible rfl
 try simp only [List.getElem_toArray, List.getElem_cons_succ, List.getElem_cons_zero, Act.put, List.setIfInBounds_toArray, List.set_cons_zero, List.set_cons_succ]
 refine wpAnyH_take (i := 7) (v := ?_) rfl (by kernel_rfl) (by kernel_rfl) (by kernel_rfl) (fun _ _ _ h => h) (Or.inl ⟨by rfl, ?_⟩) (by assumption) ?_
 rotate_left
 · intro w hSw
   (try dsimp only at hSw)
   obtain ⟨s0, s1, s2, s3, s4, s5, s6⟩ := cellsV hSw.1
   have t0 := cellR1 hSw.2
   have hwm := HWM.out
   go_simp
   try with_reducible rfl
 try simp only [List.getElem_toArray, List.getElem_cons_succ, List.getElem_cons_zero, Act.put, List.setIfInBounds_toArray, List.set_cons_zero, List.set_cons_succ]
 refine wpAnyH_take (i := 8) (v := ?_) rfl (by kernel_rfl) (by kernel_rfl) (by kernel_rfl) (fun _ _ _ h => h) (Or.inl ⟨by rfl, ?_⟩) (by assumption) ?_
 rotate_left
 · intro w hSw
   (try dsimp only at hSw)
   obtain ⟨s0, s1, s2, s3, s4, s5, s6⟩ := cellsV hSw.1
   have t0 := cellR1 hSw.2
   have hwm := HWM.out
   go_simp
   try with_reducible rfl
 try simp only [List.getElem_toArray, List.getElem_cons_succ, List.getElem_cons_zero, Act.put, List.setIfInBounds_toArray, List.set_cons_zero, List.set_cons_succ]
 refine wpAnyH_take (i := 9) (v := ?_) rfl (by kernel_rfl) (by kernel_rfl) (by kernel_rfl) (fun _ _ _ h => h) (Or.inl ⟨by rfl, ?_⟩) (by assumption) ?_
 rotate_left
 · intro w hSw
   (try dsimp only at hSw)
   obtain ⟨s0, s1, s2, s3, s4, s5, s6⟩ := cellsV hSw.1
   have t0 := cellR1 hSw.2
   have hwm := HWM.out
   go_simp
   try with_reducible rfl
 try simp only [List.getElem_toArray, List.getElem_cons_succ, List.getElem_cons_zero, Act.put, List.setIfInBounds_toArray, List.set_cons_zero, List.set_cons_succ]
 refine wpAnyH_take (i := 10) (v := ?_) rfl (by kernel_rfl) (by kernel_rfl) (by kernel_rfl) (fun _ _ _ h => h) (Or.inl ⟨by rfl, ?_⟩) (by assumption) ?_
 rotate_left
 · intro w hSw
   (try dsimp only at hSw)
   obtain ⟨s0, s1, s2, s3, s4, s5, s6⟩ := cellsV hSw.1
   have t0 := cellR1 hSw.2
   have hwm := HWM.out
   go_simp
   try with_reducible rfl
 try simp only [List.getElem_toArray, List.getElem_cons_succ, List.getElem_cons_zero, Act.put, List.setIfInBounds_toArray, List.set_cons_zero, List.set_cons_succ]
 obtain ⟨r0, r1, r2, r3, r4, r5, r6, r7, r8, r9, r10⟩ := cells11 HU0.out
 refine wpAnyH_ready (rs := [4]) (by kernel_rfl) (by simp) ?_
 refine AllReadyH.cons rfl (fun K hK => ?_) AllReadyH.nil
 go_simp
 refine hK.out _ _ ⟨u1, u2⟩ (fun hHn => ?_)
 clear hK K hH0 r0 r1 r2 r3 r4 r5 r6 r7 r8 r9 r10
 try simp only [List.getElem_toArray, List.getElem_cons_succ, List.getElem_cons_zero, Act.put, List.setIfInBounds_toArray, List.set_cons_zero, List.set_cons_succ]
 refine wpAnyH_ready (rs := [11]) (by kernel_rfl) (by simp) ?_
 refine AllReadyH.cons rfl (fun K hK => ?_) AllReadyH.nil
 go_simp
 go_at_call 130
 refine (implPut_any D (at_ * kz) kz xv _ hd HX.out).mono ?_
 rintro e w2 ⟨rfl, hb2⟩
 have HC2 := Lib.hid (HC0.out.trans (hb2.mono HC0.out.size))
 have HV0 : Hid (RecW w2 g A len c l v1 D G P cp) := Lib.hid ((HC2.out.block _ HGL.out).trans HR.out)
 have v1' := (hb2.block _ (row_lt u1)).trans u1
 have v2 := (hb2.block _ (row_lt u2)).trans u2
 clear hb2 u1 u2
 go_wp2_with fail
 refine hK.out _ _ ⟨v1', v2⟩ (fun hHm => ?_)
 clear hK K hHn
 try simp only [List.getElem_toArray, List.getElem_cons_succ, List.getElem_cons_zero, Act.put, List.setIfInBounds_toArray, List.set_cons_zero, List.set_cons_succ]
 refine wpAnyH_take (i := 12) (v := ?_) rfl (by kernel_rfl) (by kernel_rfl) (by kernel_rfl) (fun _ _ _ h => h) (Or.inl ⟨by rfl, ?_⟩) (by assumption) ?_
 rotate_left
 · intro w hSw
   (try dsimp only at hSw)
   obtain ⟨s0, s1, s2, s3, s4, s5, s6⟩ := cellsV hSw.1
   have t0 := cellR1 hSw.2
   have hwm := HWM.out
   go_simp
   try with_reducible rfl
 try simp only [List.getElem_toArray, List.getElem_cons_succ, List.getElem_cons_zero, Act.put, List.setIfInBounds_toArray, List.set_cons_zero, List.set_cons_succ]
 refine wpAnyH_take (i := 13) (v := ?_) rfl (by kernel_rfl) (by kernel_rfl) (by kernel_rfl) (fun _ _ _ h => h) (Or.inl ⟨by rfl, ?_⟩) (by assumption) ?_
 rotate_left
 · intro w hSw
   (try dsimp only at hSw)
   obtain ⟨s0, s1, s2, s3, s4, s5, s6⟩ := cellsV hSw.1
   have t0 := cellR1 hSw.2
   have hwm := HWM.out
   go_simp
   try with_reducible rfl
 try simp only [List.getElem_toArray, List.getElem_cons_succ, List.getElem_cons_zero, Act.put, List.setIfInBounds_toArray, List.set_cons_zero, List.set_cons_succ]
 refine wpAnyH_take (i := 14) (v := ?_) rfl (by kernel_rfl) (by kernel_rfl) (by kernel_rfl) (fun _ _ _ h => h) (Or.inl ⟨by rfl, ?_⟩) (by assumption) ?_
 rotate_left
 · intro w hSw
   (try dsimp only at hSw)
   obtain ⟨s0, s1, s2, s3, s4, s5, s6⟩ := cellsV hSw.1
   have t0 := cellR1 hSw.2
   have hwm := HWM.out
   go_simp
   try with_reducible rfl
 try simp only [List.getElem_toArray, List.getElem_cons_succ, List.getElem_cons_zero, Act.put, List.setIfInBounds_toArray, List.set_cons_zero, List.set_cons_succ]
 refine wpAnyH_take (i := 15) (v := ?_) rfl (by kernel_rfl) (by kernel_rfl) (by kernel_rfl) (fun _ _ _ h => h) (Or.inl ⟨by rfl, ?_⟩) (by assumption) ?_
 rotate_left
 · intro w hSw
   (try dsimp only at hSw)
   obtain ⟨s0, s1, s2, s3, s4, s5, s6⟩ := cellsV hSw.1
   have t0 := cellR1 hSw.2
   have hwm := HWM.out
   go_simp
   try with_reducible rfl
 try simp only [List.getElem_toArray, List.getElem_cons_succ, List.getElem_cons_zero, Act.put, List.setIfInBounds_toArray, List.set_cons_zero, List.set_cons_succ]
 refine wpAnyH_take (i := 16) (v := ?_) rfl (by kernel_rfl) (by kernel_rfl) (by kernel_rfl) (fun _ _ _ h => h) (Or.inl ⟨by rfl, ?_⟩) (by assumption) ?_
 rotate_left
 · intro w hSw
   (try dsimp only at hSw)
   obtain ⟨s0, s1, s2, s3, s4, s5, s6⟩ := cellsV hSw.1
   have t0 := cellR1 hSw.2
   have hwm := HWM.out
   go_simp
   try with_reducible rfl
 try simp only [List.getElem_toArray, List.getElem_cons_succ, List.getElem_cons_zero, Act.put, List.setIfInBounds_toArray, List.set_cons_zero, List.set_cons_succ]
 obtain ⟨z0, z1, z2, z3, z4, z5, z6, z7, z8, z9, z10⟩ := cells11 HV0.out
 have zf := row_free HV0.out
 refine wpAnyH_ready (rs := [17]) (by kernel_rfl) (by simp) ?_
 refine AllReadyH.cons rfl (fun K hK => ?_) AllReadyH.nil
 go_simp
 obtain ⟨wf, hwf, hrw, hof⟩ := set_data (W := w2) ⟨(putT D.data.toList (at_ * kz) kz xv).toArray⟩ HV0.out
 have HWF := Lib.hid hwf
 have HRW := Lib.hid hrw
 have HOF := Lib.hid ((OnlyIn.of_below (bs := [g]) HC2.out).trans hof)
 have hne : bx ≠ g := by have := HBX.out; have := HGL.out; omega
 have x1 := (hof.block _ (row_lt v1') (by simpa using hne)).trans v1'
 have x2 := (hof.block _ (row_lt v2) (by simpa using HNE2.out)).trans v2
 clear hwf hrw hof z0 z1 z2 z3 z4 z5 z6 z7 z8 z9 z10 zf
 rw [HWF.out]
 refine hK.out _ _ ⟨x1, x2⟩ (fun hHl => ?_)
 clear hK K hHm
 try simp only [List.getElem_toArray, List.getElem_cons_succ, List.getElem_cons_zero, Act.put, List.setIfInBounds_toArray, List.set_cons_zero, List.set_cons_succ]
 refine wpAnyH_done (by kernel_rfl) ?_ _
 clear hHl
 go_wp2
 go_end0
 exact ⟨rfl, HRW.out, HOF.out⟩
theorem row_cell {W : World} {G : Nat} {q : List (Nd × Hd)} (k e : Nat) (hk : k < q.length) (he : e < 6) (h : W.heap[G]? = some (.cells (rowOf q).toArray nodeT (0, 0))) : W.cell? ⟨G, k * 6 + e, none⟩ = some (cellE q[k] e) := by
 rw [cell_of_row _ _ _ _ _ _ h, List.getElem?_toArray, rowOf_get, show (k * 6 + e) / 6 = k by omega, show (k * 6 + e) % 6 = e by omega, List.getElem?_eq_getElem hk]
 rfl
theorem set_row {W : World} {G : Nat} {q : List (Nd × Hd)} (k : Nat) (hk : k < q.length) (y : Nd) (hy : Hd) (h : W.heap[G]? = some (.cells (rowOf q).toArray nodeT (0, 0))) :
 ∃ wf, ((((((W.setCell ⟨G, k * 6, none⟩ (.int .i64 y.kind)).setCell ⟨G, k * 6 + 1, none⟩ (.string y.data)).setCell ⟨G, k * 6 + 2, none⟩ (.slice hy.A y.ptrs.length hy.a)).setCell ⟨G, k * 6 + 3, none⟩ (.int .i64 y.size)).setCell ⟨G, k * 6 + 4, none⟩ (.int .i64 y.count)).setCell ⟨G, k * 6 + 5, none⟩ (.slice hy.B y.items.length hy.b)) = wf ∧ wf.heap[G]? = some (.cells (rowOf (q.set k (y, hy))).toArray nodeT (0, 0)) ∧ OnlyIn [G] W wf := by
 refine ⟨_, rfl, ?_, ?_⟩
 · have := row_setN (row_setN (row_setN (row_setN (row_setN (row_setN h (k * 6) (.int .i64 y.kind)) (k * 6 + 1) (.string y.data)) (k * 6 + 2) (.slice hy.A y.ptrs.length hy.a)) (k * 6 + 3) (.int .i64 y.size)) (k * 6 + 4) (.int .i64 y.count)) (k * 6 + 5) (.slice hy.B y.items.length hy.b)
   have e := row_put6 q k hk (y, hy)
   simp only [cellE] at e
   rw [e] at this
   exact this
 · have st : ∀ (V : World) (i : Nat) (v : Value), OnlyIn [G] W V → OnlyIn [G] W (V.setCell ⟨G, i, none⟩ v) := fun V i v hV => hV.trans (OnlyIn.setCell (p := ⟨G, i, none⟩) (by simp) v)
   exact st _ _ _ (st _ _ _ (st _ _ _ (st _ _ _ (st _ _ _ (st _ _ _ (OnlyIn.refl _ _))))))
theorem putNode_a (g G : Nat) (A : Option Addr) (len c : Nat) (l : List Fld) (v1 : Value) (D : ByteArray) (cp : Nat) (k : Nat) (q : List (Nd × Hd)) (hk : k < q.length) (hql : q.length ≤ 1000) (xv : Int) (yv : Nd) (hv : Hd) (w : World) (hr : RecW w g A len c l v1 D (some ⟨G, 0, none⟩) q.length cp) (hG : w.heap[G]? = some (.cells (rowOf q).toArray nodeT (0, 0))) :
 Calls Tryz.prog 100 #[.pointer (some ⟨g, 5, none⟩), .int .i64 (k : Int), .agg #[.int .i64 xv, .int .i64 yv.kind, .string yv.data, .slice hv.A yv.ptrs.length hv.a, .int .i64 yv.size, .int .i64 yv.count, .slice hv.B yv.items.length hv.b]] w fun e w' => e = .returned (.tuple #[]) ∧ w'.heap[G]? = some (.cells (rowOf (q.set k (yv, hv))).toArray nodeT (0, 0)) ∧ OnlyIn [G] w w' := by
 have HR := Lib.hid hr
 have HGL := Lib.hid (row_lt hr)
 have HGG := Lib.hid hG
 have hba := (Below.refl w.heap.size w).alloc (Nat.le_refl _) (.cells #[.int .i64 xv, .int .i64 yv.kind, .string yv.data, .slice hv.A yv.ptrs.length hv.a, .int .i64 yv.size, .int .i64 yv.count, .slice hv.B yv.items.length hv.b] valT)
 have HBA := Lib.hid hba
 obtain ⟨r0, r1, r2, r3, r4, r5, r6, r7, r8, r9, r10⟩ := cells11 ((hba.block _ (row_lt hr)).trans hr)
 obtain ⟨s0, s1, s2, s3, s4, s5, s6⟩ := cellsV (heap_alloc_new w (.cells #[.int .i64 xv, .int .i64 yv.kind, .string yv.data, .slice hv.A yv.ptrs.length hv.a, .int .i64 yv.size, .int .i64 yv.count, .slice hv.B yv.items.length hv.b] valT))
 have hG2 := (hba.block _ (row_lt hG)).trans hG
 have zf := row_free hG2
 have t0 := row_cell k 0 hk (by decide) hG2
 have t1 := row_cell k 1 hk (by decide) hG2
 have t2 := row_cell k 2 hk (by decide) hG2
 have t3 := row_cell k 3 hk (by decide) hG2
 have t4 := row_cell k 4 hk (by decide) hG2
 have t5 := row_cell k 5 hk (by decide) hG2
 rw [Nat.add_zero] at t0
 have HG2 := Lib.hid hG2
 clear hr hba hG hG2
 go_enter Tryz.func100, Tryz.ntmps100
 go_wp2_with fail
 generalize w.alloc (.cells #[.int .i64 xv, .int .i64 yv.kind, .string yv.data, .slice hv.A yv.ptrs.length hv.a, .int .i64 yv.size, .int .i64 yv.count, .slice hv.B yv.items.length hv.b] valT) = W at *
 go_region
 clear r0 r1 r2 r3 r4 r5 r6 r7 r8 r9 r10 s0 s1 s2 s3 s4 s5 s6 t0 t1 t2 t3 t4 t5 zf
 obtain ⟨wf, hwf, hrw, hof⟩ := set_row k hk yv hv HG2.out
 rw [hwf]
 have HRW : Hid (wf.drew.heap[G]? = some (.cells (rowOf (q.set k (yv, hv))).toArray nodeT (0, 0))) := Lib.hid hrw
 have HOF := Lib.hid ((OnlyIn.of_below (bs := [G]) HBA.out).trans hof).drew
 clear hwf hrw hof
 go_wp2
 go_end0
 exact ⟨rfl, HRW.out, HOF.out⟩
end Go.Proofs.YtblcibgphccfkaaGreatDoor
