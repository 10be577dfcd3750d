/- Texts of the proof of the law FnRecordOf, side by side: part 29. -/
import Derived.Test.YtblcibgphccfkaaGreatDoorMRecordOf28
set_option maxHeartbeats 8000000
set_option maxRecDepth 100000
namespace Go.Proofs.YtblcibgphccfkaaGreatDoor
open Go.RowKit Go.Deep
theorem RecW.at_ {w : World} {g : Nat} {A G : Option Addr} {len c : Nat} {l : List Fld} {v1 : Value} {D : ByteArray} {P cp : Nat} (h : RecW w g A len c l v1 D G P cp) : RecAt w g A len c l v1 (recNd D (List.replicate P noneNd)) ⟨G, cp, none, 0⟩ := by
 have e : (List.replicate P noneNd).length = P := by simp
 show w.heap[g]? = some (.cells #[.slice A len c, .int .i64 ((layF l ps0).2.ls.words : Int), .int .i64 ((layF l ps0).2.ptrs : Int), v1, .int .i64 (tagL l), .int .i64 1, .string D, .slice G (List.replicate P noneNd).length cp, .int .i64 0, .int .i64 0, .slice none 0 0] recT (0, 0))
 rw [e]
 exact h
theorem keep_two (W : World) : Calls Tryz.prog 61 #[.int .i64 3] W fun e w' => ∃ b f9, e = .returned (.agg #[f9, nK2 b]) ∧ Below W.heap.size W w' ∧ W.heap.size ≤ b ∧ w'.heap[b]? = some (.cells #[.int .i64 2] 3 (0, 0)) := by
 refine (keeperOf_3 W).mono ?_
 rintro e w' ⟨f, gg, rfl, hb, hk⟩
 have hN : NumK 2 W w' f gg := by
  rcases hk with ⟨h, _⟩ | ⟨h, _⟩ | ⟨h, _⟩ | ⟨_, h⟩ | ⟨h, _⟩ | ⟨h, _⟩ <;> first | exact h | (exact absurd h (by decide))
 obtain ⟨b, rfl, rfl, hge, hx⟩ := hN
 exact ⟨b, _, rfl, hb, hge, hx⟩
theorem set_free (g : Nat) (x : Addr) (c : Nat) (l : List Fld) (v1 : Value) (D : ByteArray) (G : Option Addr) (P cp : Nat) (k : Nat) (hk : k < l.length) (w : World) (hr : RecW w g (some x) l.length c l v1 D G P cp) (hc : l.length ≤ c) (hfl : Flds w (some x) l) (hxg : x.block ≠ g) (hl : l.length ≤ 12) (hd : D.size ≤ maxLen) (xv : Int) (yv : Nd) (hv : Hd) (htb : tellsB l k = false) (X9 : Int) (hX9 : xorI xv (l[k]).els = X9) (Post : World → World → Prop)
 (HPR : ∀ V : World, OnlyIn [g] w V → RecW V g (some x) l.length c l v1 D G P cp → Calls Tryz.prog 77 #[.pointer (some ⟨g, 0, none⟩), .int .i64 (k : Int), .agg #[.int .i64 X9, .int .i64 yv.kind, .string yv.data, .slice hv.A yv.ptrs.length hv.a, .int .i64 yv.size, .int .i64 yv.count, .slice hv.B yv.items.length hv.b]] V fun e w' => e = .returned (.tuple #[]) ∧ Post V w') :
 Calls Tryz.prog 49 #[.pointer (some ⟨g, 0, none⟩), .int .i64 (k : Int), .agg #[.int .i64 xv, .int .i64 yv.kind, .string yv.data, .slice hv.A yv.ptrs.length hv.a, .int .i64 yv.size, .int .i64 yv.count, .slice hv.B yv.items.length hv.b]] w fun e w' => e = .returned (.tuple #[]) ∧ ∃ V, OnlyIn [g] w V ∧ RecW V g (some x) l.length c l v1 D G P cp ∧ Post V w' := by
 have HPP := Lib.hid HPR
 have HR := Lib.hid hr
 have HGL := Lib.hid (row_lt hr)
 have HFL := Lib.hid hfl
 have HXG := Lib.hid hxg
 have hba := (Below.refl w.heap.size w).alloc (Nat.le_refl _) (.cells #[.int .i64 xv, .int .i64 yv.kind, .string yv.data, .slice hv.A yv.ptrs.length hv.a, .int .i64 yv.size, .int .i64 yv.count, .slice hv.B yv.items.length hv.b] valT)
 have HBA := Lib.hid hba
 have HVA := Lib.hid (heap_alloc_new w (.cells #[.int .i64 xv, .int .i64 yv.kind, .string yv.data, .slice hv.A yv.ptrs.length hv.a, .int .i64 yv.size, .int .i64 yv.count, .slice hv.B yv.items.length hv.b] valT))
 have HTL : Hid (∀ V : World, Below w.heap.size w V → Calls Tryz.prog 28 #[.pointer (some ⟨g, 0, none⟩), .int .i64 (k : Int)] V fun e w' => e = .returned (.bool (tellsB l k)) ∧ Below V.heap.size V w') := Lib.hid fun V hV => by
  obtain ⟨x', hx', -, hx2⟩ := (hfl.below hV).at2 hk
  obtain rfl := Option.some.inj hx'
  exact tells_a g x c l v1 (recNd D (List.replicate P noneNd)) ⟨G, cp, none, 0⟩ k hk V (RecW.at_ ((hV.block _ (row_lt hr)).trans hr)) hx2 hl
 have HXE : Hid (X9 = bits .xor .i64 xv (l[k]).els) := Lib.hid hX9.symm
 rw [htb] at HTL
 clear HPR hr hfl hxg hba hd hX9 htb hc
 go_enter Tryz.func49, Tryz.ntmps49
 go_wp2_with fail
 obtain ⟨bx, hbx⟩ : ∃ bx, bx = w.heap.size := ⟨_, rfl⟩
 have HBX : Hid (bx = w.heap.size) := Lib.hid hbx
 rw [← hbx] at HVA ⊢
 clear hbx
 generalize w.alloc (.cells #[.int .i64 xv, .int .i64 yv.kind, .string yv.data, .slice hv.A yv.ptrs.length hv.a, .int .i64 yv.size, .int .i64 yv.count, .slice hv.B yv.items.length hv.b] valT) = W at *
 refine (HTL.out W HBA.out).mono ?_
 rintro e w1 ⟨rfl, hb1⟩
 have HB1 := Lib.hid (HBA.out.trans (hb1.mono HBA.out.size))
 have HV1 := Lib.hid ((hb1.block _ (row_lt HVA.out)).trans HVA.out)
 clear hb1
 have HO := Lib.hid (OnlyIn.of_below (bs := [g]) HB1.out)
 have HRW : Hid (RecW w1 g (some x) l.length c l v1 D G P cp) := Lib.hid ((HB1.out.block _ HGL.out).trans HR.out)
 have HVW := HV1
 have HSX := Lib.hid (row_lt HVW.out)
 obtain ⟨a0, -⟩ := cells11 HRW.out
 obtain ⟨x0, hx0, hxb0, hx2⟩ := HFL.out.at2 hk
 obtain rfl := Option.some.inj hx0
 have hc2 := cell_only HO.out (p := ⟨(x.add (k * 3)).block, (x.add (k * 3)).off + 2, none⟩) (by show (x.add (k * 3)).block ∉ [g]; rw [addr_block]; simpa using HXG.out) hx2.c2
 obtain ⟨z0, z1, z2, z3, z4, z5, z6⟩ := cellsV HVW.out
 have zf := row_free HVW.out
 clear hx2
 go_wp2_with fail
 go_region
 clear a0 hc2 z0 z1 z2 z3 z4 z5 z6 zf
 obtain ⟨wf, hwf, hrw, -, hkf⟩ := setA (w := w1) (R := 0) (.int .i64 (bits .xor .i64 xv (l[k]).els)) HVW.out (Below.refl 0 w1) (Nat.zero_le _)
 rw [hwf]
 have hdr : wf.drew.heap = wf.heap := rfl
 have HOV : Hid (OnlyIn [g] w wf.drew) := Lib.hid ⟨by rw [← hwf]; exact HO.out.os, by rw [← hwf]; exact HO.out.tape, by rw [← hwf]; exact HO.out.output, by rw [← hwf]; show w.heap.size ≤ (World.setCell _ _ _).heap.size; simp [World.setCell]; exact HO.out.size, fun b hb hm => (hkf b (by have := HBX.out; omega)).trans (HO.out.block b hb hm)⟩
 have HRV : Hid (RecW wf.drew g (some x) l.length c l v1 D G P cp) := Lib.hid ((hkf g (by have := HBX.out; have := HGL.out; omega)).trans HRW.out)
 have hrv : wf.drew.heap[bx]? = _ := hrw
 rw [← HXE.out] at hrv ⊢
 obtain ⟨z0, z1, z2, z3, z4, z5, z6⟩ := cellsV hrv
 clear hwf hrw hkf hdr hrv
 generalize wf.drew = W5 at *
 go_wp2_with fail
 refine (HPP.out W5 HOV.out HRV.out).mono ?_
 rintro e w6 ⟨rfl, hpo⟩
 clear z0 z1 z2 z3 z4 z5 z6
 have HPO := Lib.hid hpo
 clear hpo
 go_wp2
 go_end0
 exact ⟨rfl, W5, HOV.out, HRV.out, HPO.out⟩
theorem set_told (g : Nat) (x : Addr) (c : Nat) (l : List Fld) (v1 : Value) (D : ByteArray) (G : Option Addr) (P cp : Nat) (k : Nat) (hk : k < l.length) (w : World) (hr : RecW w g (some x) l.length c l v1 D G P cp) (hc : l.length ≤ c) (hfl : Flds w (some x) l) (hxg : x.block ≠ g) (hl : l.length ≤ 12) (hd : D.size ≤ maxLen) (xv : Int) (yv : Nd) (hv : Hd) (htb : tellsB l k = true) (h0 : 0 ≤ tagL l) (h1 : tagL l ≤ 10000) (X9 : Int) (hX9 : xorI xv (l[k]).els = X9) (Post : World → World → Prop)
 (HPR : ∀ V : World, OnlyIn [g] w V → RecW V g (some x) l.length c l v1 ⟨(putT D.data.toList (tagL l * 2) 2 ((plcN l k : Nat) : Int)).toArray⟩ G P cp → Calls Tryz.prog 77 #[.pointer (some ⟨g, 0, none⟩), .int .i64 (k : Int), .agg #[.int .i64 X9, .int .i64 yv.kind, .string yv.data, .slice hv.A yv.ptrs.length hv.a, .int .i64 yv.size, .int .i64 yv.count, .slice hv.B yv.items.length hv.b]] V fun e w' => e = .returned (.tuple #[]) ∧ Post V w') :
 Calls Tryz.prog 49 #[.pointer (some ⟨g, 0, none⟩), .int .i64 (k : Int), .agg #[.int .i64 xv, .int .i64 yv.kind, .string yv.data, .slice hv.A yv.ptrs.length hv.a, .int .i64 yv.size, .int .i64 yv.count, .slice hv.B yv.items.length hv.b]] w fun e w' => e = .returned (.tuple #[]) ∧ ∃ V, OnlyIn [g] w V ∧ RecW V g (some x) l.length c l v1 ⟨(putT D.data.toList (tagL l * 2) 2 ((plcN l k : Nat) : Int)).toArray⟩ G P cp ∧ Post V w' := by
 have HPP := Lib.hid HPR
 have HR := Lib.hid hr
 have HGL := Lib.hid (row_lt hr)
 have HFL := Lib.hid hfl
 have HXG := Lib.hid hxg
 have hba := (Below.refl w.heap.size w).alloc (Nat.le_refl _) (.cells #[.int .i64 xv, .int .i64 yv.kind, .string yv.data, .slice hv.A yv.ptrs.length hv.a, .int .i64 yv.size, .int .i64 yv.count, .slice hv.B yv.items.length hv.b] valT)
 have HBA := Lib.hid hba
 have HVA := Lib.hid (heap_alloc_new w (.cells #[.int .i64 xv, .int .i64 yv.kind, .string yv.data, .slice hv.A yv.ptrs.length hv.a, .int .i64 yv.size, .int .i64 yv.count, .slice hv.B yv.items.length hv.b] valT))
 have HTL : Hid (∀ V : World, Below w.heap.size w V → Calls Tryz.prog 28 #[.pointer (some ⟨g, 0, none⟩), .int .i64 (k : Int)] V fun e w' => e = .returned (.bool (tellsB l k)) ∧ Below V.heap.size V w') := Lib.hid fun V hV => by
  obtain ⟨x', hx', -, hx2⟩ := (hfl.below hV).at2 hk
  obtain rfl := Option.some.inj hx'
  exact tells_a g x c l v1 (recNd D (List.replicate P noneNd)) ⟨G, cp, none, 0⟩ k hk V (RecW.at_ ((hV.block _ (row_lt hr)).trans hr)) hx2 hl
 have HXE : Hid (X9 = bits .xor .i64 xv (l[k]).els) := Lib.hid hX9.symm
 have HPL := Lib.hid (fun (V : World) (hV : Below w.heap.size w V) => placeOf_a (some x) c l k hk hc V (hfl.below hV) hl)
 have HD := Lib.hid hd
 have HT01 := Lib.hid (And.intro h0 h1)
 have HPB := Lib.hid (plc_le l k)
 have HFK := Lib.hid field_keep1
 rw [htb] at HTL
 clear HPR hr hfl hxg hba hd hX9 htb hc h0 h1
 go_enter Tryz.func49, Tryz.ntmps49
 go_wp2_with fail
 obtain ⟨bx, hbx⟩ : ∃ bx, bx = w.heap.size := ⟨_, rfl⟩
 have HBX : Hid (bx = w.heap.size) := Lib.hid hbx
 rw [← hbx] at HVA ⊢
 clear hbx
 generalize w.alloc (.cells #[.int .i64 xv, .int .i64 yv.kind, .string yv.data, .slice hv.A yv.ptrs.length hv.a, .int .i64 yv.size, .int .i64 yv.count, .slice hv.B yv.items.length hv.b] valT) = W at *
 refine (HTL.out W HBA.out).mono ?_
 rintro e w1 ⟨rfl, hb1⟩
 have HB1 := Lib.hid (HBA.out.trans (hb1.mono HBA.out.size))
 have HV1 := Lib.hid ((hb1.block _ (row_lt HVA.out)).trans HVA.out)
 clear hb1
 have HDR : Hid (Below w1.heap.size w1 w1.drew) := Lib.hid ⟨rfl, rfl, rfl, Nat.le_refl _, fun _ _ => rfl⟩
 have HC0 := Lib.hid (HB1.out.trans (HDR.out.mono HB1.out.size))
 have HVD := Lib.hid ((HDR.out.block _ (row_lt HV1.out)).trans HV1.out)
 have kS : ∀ V : World, Below w.heap.size w V → V.cell? ⟨g, 0, none⟩ = some (.slice (some x) l.length c) ∧ V.cell? ⟨g, 4, none⟩ = some (.int .i64 (tagL l)) := fun V hV => by
  obtain ⟨a0, -, -, -, a4, -⟩ := cells11 HR.out
  exact ⟨(hV.cell (p := ⟨g, 0, none⟩) HGL.out).trans a0, (hV.cell (p := ⟨g, 4, none⟩) HGL.out).trans a4⟩
 have HKS := Lib.hid kS
 clear kS
 go_wp2_with fail
 refine wp_region_held_drew (S := (fun V => V.cell? ⟨g, 0, none⟩ = some (.slice (some x) l.length c) ∧ V.cell? ⟨g, 4, none⟩ = some (.int .i64 (tagL l)))) (by kernel_rfl) ?_ (fun hH0 => ?_)
 · exact HKS.out _ HC0.out
 refine wpAnyH_take (i := 2) (v := ?_) rfl (by kernel_rfl) (by kernel_rfl) (by kernel_rfl) (fun _ _ _ h => h) (Or.inl ⟨by rfl, ?_⟩) (by assumption) ?_
 rotate_left
 · intro w hSw
   (try dsimp only at hSw)
   obtain ⟨r0, r4⟩ := hSw
   go_simp
   try with_reducible rfl
 try simp only [List.getElem_toArray, List.getElem_cons_succ, List.getElem_cons_zero, Act.put, List.setIfInBounds_toArray, List.set_cons_zero, List.set_cons_succ]
 refine wpAnyH_take (i := 3) (v := ?_) rfl (by kernel_rfl) (by kernel_rfl) (by kernel_rfl) (fun _ _ _ h => h) (Or.inl ⟨by rfl, ?_⟩) (by assumption) ?_
 rotate_left
 · intro w hSw
   (try dsimp only at hSw)
   obtain ⟨r0, r4⟩ := hSw
   go_simp
   try with_reducible rfl
 try simp only [List.getElem_toArray, List.getElem_cons_succ, List.getElem_cons_zero, Act.put, List.setIfInBounds_toArray, List.set_cons_zero, List.set_cons_succ]
 refine wpAnyH_take (i := 4) (v := ?_) rfl (by kernel_rfl) (by kernel_rfl) (by kernel_rfl) (fun _ _ _ h => h) (Or.inl ⟨by rfl, ?_⟩) (by assumption) ?_
 rotate_left
 · intro w hSw
   (try dsimp only at hSw)
   obtain ⟨r0, r4⟩ := hSw
   go_simp
   try with_reducible rfl
 try simp only [List.getElem_toArray, List.getElem_cons_succ, List.getElem_cons_zero, Act.put, List.setIfInBounds_toArray, List.set_cons_zero, List.set_cons_succ]
 refine wpAnyH_take (i := 5) (v := ?_) rfl (by kernel_rfl) (by kernel_rfl) (by kernel_rfl) (fun _ _ _ h => h) (Or.inl ⟨by rfl, ?_⟩) (by assumption) ?_
 rotate_left
 · intro w hSw
   (try dsimp only at hSw)
   obtain ⟨r0, r4⟩ := hSw
   go_simp
   try with_reducible rfl
 try simp only [List.getElem_toArray, List.getElem_cons_succ, List.getElem_cons_zero, Act.put, List.setIfInBounds_toArray, List.set_cons_zero, List.set_cons_succ]
 refine wpAnyH_take (i := 6) (v := ?_) rfl (by kernel_rfl) (by kernel_rfl) (by kernel_rfl) (fun _ _ _ h => h) (Or.inl ⟨by rfl, ?_⟩) (by assumption) ?_
 rotate_left
 · intro w hSw
   (try dsimp only at hSw)
   obtain ⟨r0, r4⟩ := hSw
   go_simp
   try with_reducible rfl
 try simp only [List.getElem_toArray, List.getElem_cons_succ, List.getElem_cons_zero, Act.put, List.setIfInBounds_toArray, List.set_cons_zero, List.set_cons_succ]
 refine wpAnyH_take (i := 7) (v := ?_) rfl (by kernel_rfl) (by kernel_rfl) (by kernel_rfl) (fun _ _ _ h => h) (Or.inl ⟨by rfl, ?_⟩) (by assumption) ?_
 rotate_left
 · intro w hSw
   (try dsimp only at hSw)
   obtain ⟨r0, r4⟩ := hSw
   go_simp
   try with_reducible rfl
 try simp only [List.getElem_toArray, List.getElem_cons_succ, List.getElem_cons_zero, Act.put, List.setIfInBounds_toArray, List.set_cons_zero, List.set_cons_succ]
 refine wpAnyH_take (i := 8) (v := ?_) rfl (by kernel_rfl) (by kernel_rfl) (by kernel_rfl) (fun _ _ _ h => h) (Or.inl ⟨by rfl, ?_⟩) (by assumption) ?_
 rotate_left
 · intro w hSw
   (try dsimp only at hSw)
   obtain ⟨r0, r4⟩ := hSw
   go_simp
   try with_reducible rfl
 try simp only [List.getElem_toArray, List.getElem_cons_succ, List.getElem_cons_zero, Act.put, List.setIfInBounds_toArray, List.set_cons_zero, List.set_cons_succ]
 refine wpAnyH_take (i := 9) (v := .int .i64 (tagL l)) rfl (by kernel_rfl) (by kernel_rfl) (by kernel_rfl) (fun _ _ _ h => h) (Or.inl ⟨by rfl, ?_⟩) (by assumption) ?_
 · intro w hSw
   obtain ⟨r0, r4⟩ := hSw
   go_simp
 try simp only [List.getElem_toArray, List.getElem_cons_succ, List.getElem_cons_zero, Act.put, List.setIfInBounds_toArray, List.set_cons_zero, List.set_cons_succ]
 refine wpAnyH_take (i := 10) (v := ?_) rfl (by kernel_rfl) (by kernel_rfl) (by kernel_rfl) (fun _ _ _ h => h) (Or.inl ⟨by rfl, ?_⟩) (by assumption) ?_
 rotate_left
 · intro w hSw
   (try dsimp only at hSw)
   obtain ⟨r0, r4⟩ := hSw
   go_simp
   try with_reducible rfl
 try simp only [List.getElem_toArray, List.getElem_cons_succ, List.getElem_cons_zero, Act.put, List.setIfInBounds_toArray, List.set_cons_zero, List.set_cons_succ]
 refine wpAnyH_take (i := 11) (v := ?_) rfl (by kernel_rfl) (by kernel_rfl) (by kernel_rfl) (fun _ _ _ h => h) (Or.inl ⟨by rfl, ?_⟩) (by assumption) ?_
 rotate_left
 · intro w hSw
   (try dsimp only at hSw)
   obtain ⟨r0, r4⟩ := hSw
   go_simp
   try with_reducible rfl
 try simp only [List.getElem_toArray, List.getElem_cons_succ, List.getElem_cons_zero, Act.put, List.setIfInBounds_toArray, List.set_cons_zero, List.set_cons_succ]
 refine wpAnyH_take (i := 12) (v := ?_) rfl (by kernel_rfl) (by kernel_rfl) (by kernel_rfl) (fun _ _ _ h => h) (Or.inl ⟨by rfl, ?_⟩) (by assumption) ?_
 rotate_left
 · intro w hSw
   (try dsimp only at hSw)
   obtain ⟨r0, r4⟩ := hSw
   go_simp
   try with_reducible rfl
 try simp only [List.getElem_toArray, List.getElem_cons_succ, List.getElem_cons_zero, Act.put, List.setIfInBounds_toArray, List.set_cons_zero, List.set_cons_succ]
 refine wpAnyH_take (i := 13) (v := ?_) rfl (by kernel_rfl) (by kernel_rfl) (by kernel_rfl) (fun _ _ _ h => h) (Or.inl ⟨by rfl, ?_⟩) (by assumption) ?_
 rotate_left
 · intro w hSw
   (try dsimp only at hSw)
   obtain ⟨r0, r4⟩ := hSw
   go_simp
   try with_reducible rfl
 try simp only [List.getElem_toArray, List.getElem_cons_succ, List.getElem_cons_zero, Act.put, List.setIfInBounds_toArray, List.set_cons_zero, List.set_cons_succ]
 refine wpAnyH_take (i := 14) (v := ?_) rfl (by kernel_rfl) (by kernel_rfl) (by kernel_rfl) (fun _ _ _ h => h) (Or.inl ⟨by rfl, ?_⟩) (by assumption) ?_
 rotate_left
 · intro w hSw
   (try dsimp only at hSw)
   obtain ⟨r0, r4⟩ := hSw
   go_simp
   try with_reducible rfl
 try simp only [List.getElem_toArray, List.getElem_cons_succ, List.getElem_cons_zero, Act.put, List.setIfInBounds_toArray, List.set_cons_zero, List.set_cons_succ]
 refine wpAnyH_ready (rs := [0]) (by kernel_rfl) (by simp) ?_
 refine AllReadyH.cons rfl (fun K hK => ?_) AllReadyH.nil
 go_simp
 go_at_call 61
 refine (keep_two _).mono ?_
 rintro e w2 ⟨b, f9, rfl, hb2, hge, hbr⟩
 have HC2 := Lib.hid (HC0.out.trans (hb2.mono HC0.out.size))
 have HV2 := Lib.hid ((hb2.block _ (row_lt HVD.out)).trans HVD.out)
 have HBR2 := Lib.hid hbr
 have HBG : Hid (w.heap.size ≤ b) := Lib.hid (Nat.le_trans HC0.out.size hge)
 clear hb2 hge hbr
 go_wp2_with fail
 refine hK.out _ _ (HKS.out _ HC2.out) (fun hHn => ?_)
 clear hK K hH0
 try simp only [List.getElem_toArray, List.getElem_cons_succ, List.getElem_cons_zero, Act.put, List.setIfInBounds_toArray, List.set_cons_zero, List.set_cons_succ]
 have hfk := HFK.out
 unfold nK2
 refine wpAnyH_take (i := 1) (v := ?_) rfl (by kernel_rfl) (by kernel_rfl) (by kernel_rfl) (fun _ _ _ h => h) (Or.inl ⟨by rfl, ?_⟩) (by assumption) ?_
 rotate_left
 · intro w hSw
   (try dsimp only at hSw)
   obtain ⟨r0, r4⟩ := hSw
   go_simp
   try with_reducible rfl
 try simp only [List.getElem_toArray, List.getElem_cons_succ, List.getElem_cons_zero, Act.put, List.setIfInBounds_toArray, List.set_cons_zero, List.set_cons_succ]
 clear hfk
 refine wpAnyH_ready (rs := [15]) (by kernel_rfl) (by simp) ?_
 refine AllReadyH.cons rfl (fun K hK => ?_) AllReadyH.nil
 go_simp
 go_at_call 30
 refine (HPL.out _ HC2.out).mono ?_
 rintro e w3 ⟨rfl, hb3⟩
 have HC3 := Lib.hid (HC2.out.trans (hb3.mono HC2.out.size))
 have HV3 := Lib.hid ((hb3.block _ (row_lt HV2.out)).trans HV2.out)
 have HBR3 := Lib.hid ((hb3.block _ (row_lt HBR2.out)).trans HBR2.out)
 have HR3 : Hid (RecW w3 g (some x) l.length c l v1 D G P cp) := Lib.hid ((HC3.out.block _ HGL.out).trans HR.out)
 clear hb3
 go_wp2_with fail
 refine hK.out _ _ (HKS.out _ HC3.out) (fun hHm => ?_)
 clear hK K hHn
 try simp only [List.getElem_toArray, List.getElem_cons_succ, List.getElem_cons_zero, Act.put, List.setIfInBounds_toArray, List.set_cons_zero, List.set_cons_succ]
 refine wpAnyH_take (i := 16) (v := .agg #[.int .i64 ((plcN l k : Nat) : Int), .int .i64 0, .string { data := #[] }, .slice none 0 0, .int .i64 0, .int .i64 0, .slice none 0 0]) rfl (by kernel_rfl) (by kernel_rfl) (by kernel_rfl) (fun _ _ _ h => h) (Or.inl ⟨by rfl, ?_⟩) (by assumption) ?_
 · intro w hSw
   obtain ⟨r0, r4⟩ := hSw
   go_simp
 try simp only [List.getElem_toArray, List.getElem_cons_succ, List.getElem_cons_zero, Act.put, List.setIfInBounds_toArray, List.set_cons_zero, List.set_cons_succ]
 refine wpAnyH_ready (rs := [17]) (by kernel_rfl) (by simp) ?_
 refine AllReadyH.cons rfl (fun K hK => ?_) AllReadyH.nil
 go_simp
 go_at_call 129
 refine (putNum_a g (some x) G l.length c l v1 D P cp (tagL l) ((plcN l k : Nat) : Int) noneNd ⟨none, 0, none, 0⟩ w3 HR3.out HD.out (by have := HPB.out; omega) b 2 HBR3.out (by have := HBG.out; have := HGL.out; omega) HT01.out.1 HT01.out.2 (by decide) (by decide)).mono ?_
 rintro e w4 ⟨rfl, hrw4, hon4⟩
 have HRW := Lib.hid hrw4
 have HO := Lib.hid ((OnlyIn.of_below (bs := [g]) HC3.out).trans hon4)
 have HVW := Lib.hid ((hon4.block _ (row_lt HV3.out) (by have := HBX.out; have := HGL.out; simp; omega)).trans HV3.out)
 obtain ⟨a0, -, -, -, a4, -⟩ := cells11 hrw4
 clear hon4 hrw4
 go_wp2_with fail
 refine hK.out _ _ ⟨a0, a4⟩ (fun hHl => ?_)
 clear hK K hHm a0 a4
 try simp only [List.getElem_toArray, List.getElem_cons_succ, List.getElem_cons_zero, Act.put, List.setIfInBounds_toArray, List.set_cons_zero, List.set_cons_succ]
 refine wpAnyH_done (by kernel_rfl) ?_ _
 clear hHl
 have HSX := Lib.hid (row_lt HVW.out)
 obtain ⟨a0, -⟩ := cells11 HRW.out
 obtain ⟨x0, hx0, hxb0, hx2⟩ := HFL.out.at2 hk
 obtain rfl := Option.some.inj hx0
 have hc2 := cell_only HO.out (p := ⟨(x.add (k * 3)).block, (x.add (k * 3)).off + 2, none⟩) (by show (x.add (k * 3)).block ∉ [g]; rw [addr_block]; simpa using HXG.out) hx2.c2
 obtain ⟨z0, z1, z2, z3, z4, z5, z6⟩ := cellsV HVW.out
 have zf := row_free HVW.out
 clear hx2
 go_wp2_with fail
 go_region
 clear a0 hc2 z0 z1 z2 z3 z4 z5 z6 zf
 obtain ⟨wf, hwf, hrw, -, hkf⟩ := setA (w := w4) (R := 0) (.int .i64 (bits .xor .i64 xv (l[k]).els)) HVW.out (Below.refl 0 w4) (Nat.zero_le _)
 rw [hwf]
 have hdr : wf.drew.heap = wf.heap := rfl
 have HOV : Hid (OnlyIn [g] w wf.drew) := Lib.hid ⟨by rw [← hwf]; exact HO.out.os, by rw [← hwf]; exact HO.out.tape, by rw [← hwf]; exact HO.out.output, by rw [← hwf]; show w.heap.size ≤ (World.setCell _ _ _).heap.size; simp [World.setCell]; exact HO.out.size, fun b hb hm => (hkf b (by have := HBX.out; omega)).trans (HO.out.block b hb hm)⟩
 have HRV : Hid (RecW wf.drew g (some x) l.length c l v1 ⟨(putT D.data.toList (tagL l * 2) 2 ((plcN l k : Nat) : Int)).toArray⟩ G P cp) := Lib.hid ((hkf g (by have := HBX.out; have := HGL.out; omega)).trans HRW.out)
 have hrv : wf.drew.heap[bx]? = _ := hrw
 rw [← HXE.out] at hrv ⊢
 obtain ⟨z0, z1, z2, z3, z4, z5, z6⟩ := cellsV hrv
 clear hwf hrw hkf hdr hrv
 generalize wf.drew = W5 at *
 go_wp2_with fail
 refine (HPP.out W5 HOV.out HRV.out).mono ?_
 rintro e w6 ⟨rfl, hpo⟩
 clear z0 z1 z2 z3 z4 z5 z6
 have HPO := Lib.hid hpo
 clear hpo
 go_wp2
 go_end0
 exact ⟨rfl, W5, HOV.out, HRV.out, HPO.out⟩
def Made (w0 : World) (S : Nat → Prop) (m : Nat) (w : World) (g G : Nat) (A : Option Addr) (c : Nat) (l : List Fld) (v1 : Value) (st : RSt) : Prop :=
 ∃ q : List (Nd × Hd), RecW w g A l.length c l v1 ⟨st.d.toArray⟩ (some ⟨G, 0, none⟩) q.length q.length ∧ w.heap[G]? = some (.cells (rowOf q).toArray nodeT (0, 0)) ∧ q.map (·.1) = st.p ∧ ∀ r ∈ q, NdAt w0 S m r.1 r.2
theorem lay_small (l : List Fld) : (layF l ps0).2.ptrs ≤ l.length ∧ (layF l ps0).2.ls.words ≤ 2 * l.length := by
 have h1 := lay_pbd l l.length (Nat.le_refl _)
 rw [List.take_length] at h1
 exact ⟨h1.ptrs, h1.ls.1⟩
theorem ba_list (d : List UInt8) : (⟨d.toArray⟩ : ByteArray).data.toList = d := by simp
theorem ba_sz (d : List UInt8) : (⟨d.toArray⟩ : ByteArray).size = d.length := by simp [ByteArray.size]
theorem putT_lenR {l : List UInt8} {a z n : Int} (h : putB l a z n = true) : (putT l a z n).length = l.length := putT_length h
theorem putT_le (d : List UInt8) (a z n : Int) : (putT d a z n).length ≤ d.length := by
 cases h : putB d a z n
 · unfold putT
   unfold putB at h
   split
   · rename_i hw
     rw [hw, Bool.true_and] at h
     rw [if_neg (by rw [h]; decide)]
     exact Nat.le_refl _
   · exact Nat.zero_le _
 · rw [putT_lenR h]; exact Nat.le_refl _
theorem tgF_le (l : List Fld) (k : Nat) (d : List UInt8) : (tgF l k d).length ≤ d.length := by
 unfold tgF
 split
 · exact putT_le _ _ _ _
 · exact Nat.le_refl _
theorem set_gen (g : Nat) (x : Addr) (c : Nat) (l : List Fld) (v1 : Value) (d : List UInt8) (G : Option Addr) (P cp : Nat) (k : Nat) (hk : k < l.length) (w : World) (hr : RecW w g (some x) l.length c l v1 ⟨d.toArray⟩ G P cp) (hc : l.length ≤ c) (hfl : Flds w (some x) l) (hxg : x.block ≠ g) (hok : fldsOk l = true) (hd : d.length ≤ maxLen) (xv : Int) (yv : Nd) (hv : Hd) (X9 : Int) (hX9 : xorI xv (l[k]).els = X9) (Post : World → World → Prop)
 (HPR : ∀ V : World, OnlyIn [g] w V → RecW V g (some x) l.length c l v1 ⟨(tgF l k d).toArray⟩ G P cp → Calls Tryz.prog 77 #[.pointer (some ⟨g, 0, none⟩), .int .i64 (k : Int), .agg #[.int .i64 X9, .int .i64 yv.kind, .string yv.data, .slice hv.A yv.ptrs.length hv.a, .int .i64 yv.size, .int .i64 yv.count, .slice hv.B yv.items.length hv.b]] V fun e w' => e = .returned (.tuple #[]) ∧ Post V w') :
 Calls Tryz.prog 49 #[.pointer (some ⟨g, 0, none⟩), .int .i64 (k : Int), .agg #[.int .i64 xv, .int .i64 yv.kind, .string yv.data, .slice hv.A yv.ptrs.length hv.a, .int .i64 yv.size, .int .i64 yv.count, .slice hv.B yv.items.length hv.b]] w fun e w' => e = .returned (.tuple #[]) ∧ ∃ V, OnlyIn [g] w V ∧ RecW V g (some x) l.length c l v1 ⟨(tgF l k d).toArray⟩ G P cp ∧ Post V w' := by
 have hl := fldsOk_len hok
 cases htb : tellsB l k
 · have e : tgF l k d = d := by unfold tgF; rw [htb]; rfl
   rw [e] at HPR ⊢
   exact set_free g x c l v1 _ G P cp k hk w hr hc hfl hxg hl (by rw [ba_sz]; exact hd) xv yv hv htb X9 hX9 Post HPR
 · have e : tgF l k d = putT (⟨d.toArray⟩ : ByteArray).data.toList (tagL l * 2) 2 ((plcN l k : Nat) : Int) := by unfold tgF; rw [htb, if_pos rfl, ba_list]
   have hb := tagL_bd hok
   have h0 : 0 ≤ tagL l := by rw [tells_eq hk] at htb; simp at htb; exact htb.2
   rw [e] at HPR ⊢
   exact set_told g x c l v1 _ G P cp k hk w hr hc hfl hxg hl (by rw [ba_sz]; exact hd) xv yv hv htb h0 (by omega) X9 hX9 Post HPR
theorem RecW.cells03 {w w' : World} {g : Nat} {A G G' : Option Addr} {len c : Nat} {l : List Fld} {v1 : Value} {D D' : ByteArray} {P cp P' cp' : Nat} (h : RecW w g A len c l v1 D G P cp) (h' : RecW w' g A len c l v1 D' G' P' cp') : w'.cell? ⟨g, 0, none⟩ = w.cell? ⟨g, 0, none⟩ ∧ w'.cell? ⟨g, 3, none⟩ = w.cell? ⟨g, 3, none⟩ := by
 obtain ⟨a0, -, -, a3, -⟩ := cells11 h
 obtain ⟨b0, -, -, b3, -⟩ := cells11 h'
 exact ⟨b0.trans a0.symm, b3.trans a3.symm⟩
theorem RecW.below {w w' : World} {g : Nat} {A G : Option Addr} {len c : Nat} {l : List Fld} {v1 : Value} {D : ByteArray} {P cp : Nat} (h : RecW w g A len c l v1 D G P cp) (hb : Below w.heap.size w w') : RecW w' g A len c l v1 D G P cp := (hb.block _ (row_lt h)).trans h
theorem keep_any {z : Int} (hz : z = 2 ∨ z = 3 ∨ z = 4 ∨ z = 5) (W : World) : Calls Tryz.prog 61 #[.int .i64 z] W fun e w' => ∃ b f9, e = .returned (.agg #[f9, nK2 b]) ∧ Below W.heap.size W w' ∧ W.heap.size ≤ b ∧ w'.heap[b]? = some (.cells #[.int .i64 (wdF z)] 3 (0, 0)) := by
 refine (keeperOf_any z W (by omega) (by omega)).mono ?_
 rintro e w' ⟨f, gg, rfl, hb, hk⟩
 have hN : NumK (wdF z) W w' f gg := by
  rcases hz with rfl | rfl | rfl | rfl
  · rcases hk with ⟨h, _⟩ | ⟨h, _⟩ | ⟨_, h⟩ | ⟨h, _⟩ | ⟨h, _⟩ | ⟨h, _⟩ <;> first | exact h | (exact absurd h (by decide))
  · rcases hk with ⟨h, _⟩ | ⟨h, _⟩ | ⟨h, _⟩ | ⟨_, h⟩ | ⟨h, _⟩ | ⟨h, _⟩ <;> first | exact h | (exact absurd h (by decide))
  · rcases hk with ⟨h, _⟩ | ⟨h, _⟩ | ⟨h, _⟩ | ⟨h, _⟩ | ⟨_, h⟩ | ⟨h, _⟩ <;> first | exact h | (exact absurd h (by decide))
  · rcases hk with ⟨h, _⟩ | ⟨h, _⟩ | ⟨h, _⟩ | ⟨h, _⟩ | ⟨h, _⟩ | ⟨_, h⟩ <;> first | exact h | (exact absurd h (by decide))
 obtain ⟨b, rfl, rfl, hge, hx⟩ := hN
 exact ⟨b, _, rfl, hb, hge, hx⟩
theorem keep_bit2 (W : World) : Calls Tryz.prog 61 #[.int .i64 1] W fun e w' => ∃ f9, e = .returned (.agg #[f9, fnV 97]) ∧ Below W.heap.size W w' := by
 refine (keeperOf_1 W).mono ?_
 rintro e w' ⟨f, gg, rfl, hb, hk⟩
 obtain rfl : gg = fnV 97 := by
  rcases hk with ⟨_, _, h⟩ | ⟨h, _⟩ | ⟨h, _⟩ | ⟨h, _⟩ | ⟨h, _⟩ | ⟨h, _⟩ <;> first | exact h | (exact absurd h (by decide))
 exact ⟨f, rfl, hb⟩
theorem keep_node2 (W : World) : Calls Tryz.prog 61 #[.int .i64 6] W fun e w' => ∃ f9, e = .returned (.agg #[f9, fnV 100]) ∧ Below W.heap.size W w' := by
 refine (keeperOf_6 W).mono ?_
 rintro e w' ⟨f, gg, rfl, hb, hk⟩
 obtain rfl : gg = fnV 100 := by
  rcases hk with ⟨h, _⟩ | ⟨_, _, h⟩ | ⟨h, _⟩ | ⟨h, _⟩ | ⟨h, _⟩ | ⟨h, _⟩ <;> first | exact h | (exact absurd h (by decide))
 exact ⟨f, rfl, hb⟩
theorem set_any (w0 : World) (S : Nat → Prop) (m : Nat) (g G : Nat) (x y : Addr) (c cy : Nat) (l : List Fld) (st : RSt) (k : Nat) (hk : k < l.length) (w : World) (hM : Made w0 S m w g G (some x) c l (.slice (some y) l.length cy) st) (hgG : g ≠ G) (hc : l.length ≤ c) (hfl : Flds w (some x) l) (hxg : x.block ≠ g ∧ x.block ≠ G) (hyg : y.block ≠ g ∧ y.block ≠ G) (hs : w.cell? (y.add k) = some (.int .i64 (atF l k : Nat))) (hok : fldsOk l = true) (hd : st.d.length ≤ maxLen) (hpl : st.p.length = (layF l ps0).2.ptrs) (v : Vl) (hv : Hd) (hnv : NdAt w0 S m v.nd hv) :
 Calls Tryz.prog 49 #[.pointer (some ⟨g, 0, none⟩), .int .i64 (k : Int), .agg #[.int .i64 v.num, .int .i64 v.nd.kind, .string v.nd.data, .slice hv.A v.nd.ptrs.length hv.a, .int .i64 v.nd.size, .int .i64 v.nd.count, .slice hv.B v.nd.items.length hv.b]] w fun e w' => e = .returned (.tuple #[]) ∧ Made w0 S m w' g G (some x) c l (.slice (some y) l.length cy) (setF l k v st) ∧ OnlyIn [g, G] w w' := by
 obtain ⟨q, hr, hrow, hq, hqn⟩ := hM
 have hl := fldsOk_len hok
 have hat := atF_le hok hk
 obtain ⟨x', hx', hxb, hx2⟩ := hfl.at2 hk
 obtain rfl := Option.some.inj hx'
 have hyb : y.block < w.heap.size := by have := World.block_lt_of_cell? w _ hs; rwa [addr_block] at this
 have hgl := row_lt hr
 have hGl := row_lt hrow
 have hfk := fldK_at hk
 have hsz := fldsOk_at hok k hk
 have hxb2 := xorI_bd v.num (l[k]).els
 have hql : q.length = (layF l ps0).2.ptrs := by rw [← hpl, ← hq, List.length_map]
 have o1 : ∀ {V V' : World}, OnlyIn [g] V V' → OnlyIn [g, G] V V' := fun h => h.mono (fun b hb => .inl (by simp at hb; simp [hb]))
 have o2 : ∀ {V V' : World}, OnlyIn [G] V V' → OnlyIn [g, G] V V' := fun h => h.mono (fun b hb => .inl (by simp at hb; simp [hb]))
 -- what putRaw meets, in a world where the tag is put
 have env : ∀ V : World, OnlyIn [g] w V → x.block < V.heap.size ∧ y.block < V.heap.size ∧ V.cell? (x.add (k * 3)) = some (.int .i64 (l[k]).size) ∧ V.cell? (y.add k) = some (.int .i64 (atF l k : Nat)) ∧ V.heap[G]? = some (.cells (rowOf q).toArray nodeT (0, 0)) := fun V hV =>
  ⟨Nat.lt_of_lt_of_le hxb hV.size, Nat.lt_of_lt_of_le hyb hV.size, cell_only hV (by rw [addr_block]; simpa using hxg.1) hx2.c0, cell_only hV (by rw [addr_block]; simpa using hyg.1) hs, (hV.block _ hGl (by simpa using fun e => hgG e.symm)).trans hrow⟩
 have hz : (l[k]).size = 1 ∨ ((l[k]).size = 2 ∨ (l[k]).size = 3 ∨ (l[k]).size = 4 ∨ (l[k]).size = 5) ∨ (l[k]).size = 6 := by omega
 rcases hz with hz | hz | hz
 · refine (set_gen g x c l _ st.d _ _ _ k hk w hr hc hfl hxg.1 hok hd v.num v.nd hv _ rfl (fun V w' => ∃ V2, Below V.heap.size V V2 ∧ (RecW w' g (some x) l.length c l (.slice (some y) l.length cy) ⟨(bputT (tgF l k st.d) (atF l k : Nat) (xorI v.num (l[k]).els)).toArray⟩ (some ⟨G, 0, none⟩) q.length q.length ∧ OnlyIn [g] V2 w')) (fun V hV hrV => ?_)).mono ?_
   · obtain ⟨e1, e2, e3, e4, e5⟩ := env V hV
     have hP : ∀ V1 V' : World, Below V.heap.size V V1 → (RecW V' g (some x) l.length c l (.slice (some y) l.length cy) ⟨(bputT (tgF l k st.d) (atF l k : Nat) (xorI v.num (l[k]).els)).toArray⟩ (some ⟨G, 0, none⟩) q.length q.length ∧ OnlyIn [g] V1 V') → OnlyIn [g] V1 V' ∧ V'.cell? ⟨g, 0, none⟩ = V1.cell? ⟨g, 0, none⟩ ∧ V'.cell? ⟨g, 3, none⟩ = V1.cell? ⟨g, 3, none⟩ := fun V1 V' hb hp => ⟨hp.2, (hrV.below hb).cells03 hp.1⟩
     exact putRaw_bit g x y c cy l _ _ _ _ k hk _ (atF l k) V hrV e1 e2 e3 e4 hl (xorI v.num (l[k]).els) v.nd hv [g] (fun b hb => by simp at hb; rw [hb]; exact row_lt hrV) (by simpa using hxg.1) (by simpa using hyg.1) _ hP (fun W hW => by
      rw [hz]
      refine (keep_bit2 W).mono fun e w' ⟨f9, he, hb⟩ => ⟨f9, he, hb, fun V2 hV2 => ?_⟩
      have := putBit_a g (some x) (some ⟨G, 0, none⟩) l.length c l (.slice (some y) l.length cy) ⟨(tgF l k st.d).toArray⟩ q.length q.length (atF l k : Nat) (xorI v.num (l[k]).els) v.nd hv V2 (hrV.below (hW.trans ((hb.trans (hV2.mono hb.size)).mono hW.size))) (by rw [ba_sz]; exact Nat.le_trans (tgF_le l k st.d) hd) hxb2
      rw [ba_list] at this
      exact this)
   · rintro e w' ⟨rfl, V, hV, hrV, V2, hb2, hp1, hp2⟩
     have hO : OnlyIn [g] w w' := (hV.trans (OnlyIn.of_below hb2)).trans hp2
     refine ⟨rfl, ⟨q, ?_, (hO.block _ hGl (by simpa using fun e => hgG e.symm)).trans hrow, ?_, hqn⟩, o1 hO⟩
     · unfold setF
       rw [hfk, if_neg (by rw [hz]; decide)]
       unfold wrF
       rw [if_pos hz]
       exact hp1
     · unfold setF
       rw [hfk, if_neg (by rw [hz]; decide)]
       exact hq
 · have h6 : (l[k]).size ≠ 6 := by omega
   have h1 : (l[k]).size ≠ 1 := by omega
   refine (set_gen g x c l _ st.d _ _ _ k hk w hr hc hfl hxg.1 hok hd v.num v.nd hv _ rfl (fun V w' => ∃ V2, Below V.heap.size V V2 ∧ (RecW w' g (some x) l.length c l (.slice (some y) l.length cy) ⟨(putT (tgF l k st.d) ((atF l k : Nat) * wdF (l[k]).size) (wdF (l[k]).size) (xorI v.num (l[k]).els)).toArray⟩ (some ⟨G, 0, none⟩) q.length q.length ∧ OnlyIn [g] V2 w')) (fun V hV hrV => ?_)).mono ?_
   · obtain ⟨e1, e2, e3, e4, e5⟩ := env V hV
     have hP : ∀ V1 V' : World, Below V.heap.size V V1 → (RecW V' g (some x) l.length c l (.slice (some y) l.length cy) ⟨(putT (tgF l k st.d) ((atF l k : Nat) * wdF (l[k]).size) (wdF (l[k]).size) (xorI v.num (l[k]).els)).toArray⟩ (some ⟨G, 0, none⟩) q.length q.length ∧ OnlyIn [g] V1 V') → OnlyIn [g] V1 V' ∧ V'.cell? ⟨g, 0, none⟩ = V1.cell? ⟨g, 0, none⟩ ∧ V'.cell? ⟨g, 3, none⟩ = V1.cell? ⟨g, 3, none⟩ := fun V1 V' hb hp => ⟨hp.2, (hrV.below hb).cells03 hp.1⟩
     exact putRaw_num g x y c cy l _ _ _ _ k hk _ (atF l k) V hrV e1 e2 e3 e4 hl (xorI v.num (l[k]).els) v.nd hv [g] (fun b hb => by simp at hb; rw [hb]; exact row_lt hrV) (by simpa using hxg.1) (by simpa using hyg.1) _ hP (fun W hW => by
      refine (keep_any hz W).mono fun e w' ⟨b, f9, he, hb, hge, hbr⟩ => ⟨b, f9, he, hb, fun V2 hV2 => ?_⟩
      have := putNum_a g (some x) (some ⟨G, 0, none⟩) l.length c l (.slice (some y) l.length cy) ⟨(tgF l k st.d).toArray⟩ q.length q.length (atF l k : Nat) (xorI v.num (l[k]).els) v.nd hv V2 (hrV.below (hW.trans ((hb.trans (hV2.mono hb.size)).mono hW.size))) (by rw [ba_sz]; exact Nat.le_trans (tgF_le l k st.d) hd) hxb2 b (wdF (l[k]).size) ((hV2.block _ (row_lt hbr)).trans hbr) (by have := row_lt hrV; have := hW.size; omega) (by omega) (by omega) (wdF_bd _).1 (wdF_bd _).2
      rw [ba_list] at this
      exact this)
   · rintro e w' ⟨rfl, V, hV, hrV, V2, hb2, hp1, hp2⟩
     have hO : OnlyIn [g] w w' := (hV.trans (OnlyIn.of_below hb2)).trans hp2
     refine ⟨rfl, ⟨q, ?_, (hO.block _ hGl (by simpa using fun e => hgG e.symm)).trans hrow, ?_, hqn⟩, o1 hO⟩
     · unfold setF
       rw [hfk, if_neg h6]
       unfold wrF
       rw [if_neg h1]
       exact hp1
     · unfold setF
       rw [hfk, if_neg h6]
       exact hq
 · have hlt : atF l k < q.length := by rw [hql]; exact (layOk l (fldsOk_at hok)).ptr k hk hz
   have hq1000 : q.length ≤ 1000 := by rw [hql]; have := (lay_small l).1; omega
   refine (set_gen g x c l _ st.d _ _ _ k hk w hr hc hfl hxg.1 hok hd v.num v.nd hv _ rfl (fun V w' => ∃ V2, Below V.heap.size V V2 ∧ (w'.heap[G]? = some (.cells (rowOf (q.set (atF l k) (v.nd, hv))).toArray nodeT (0, 0)) ∧ OnlyIn [G] V2 w')) (fun V hV hrV => ?_)).mono ?_
   · obtain ⟨e1, e2, e3, e4, e5⟩ := env V hV
     have hP : ∀ V1 V' : World, Below V.heap.size V V1 → (V'.heap[G]? = some (.cells (rowOf (q.set (atF l k) (v.nd, hv))).toArray nodeT (0, 0)) ∧ OnlyIn [G] V1 V') → OnlyIn [G] V1 V' ∧ V'.cell? ⟨g, 0, none⟩ = V1.cell? ⟨g, 0, none⟩ ∧ V'.cell? ⟨g, 3, none⟩ = V1.cell? ⟨g, 3, none⟩ := fun V1 V' hb hp => ⟨hp.2, (hrV.below hb).cells03 ((hp.2.block _ (row_lt (hrV.below hb)) (by simpa using hgG)).trans (hrV.below hb))⟩
     exact putRaw_node g x y c cy l _ _ _ _ k hk _ (atF l k) V hrV e1 e2 e3 e4 hl (xorI v.num (l[k]).els) v.nd hv [G] (fun b hb => by simp at hb; rw [hb]; exact row_lt e5) (by simpa using hxg.2) (by simpa using hyg.2) _ hP (fun W hW => by
      rw [hz]
      refine (keep_node2 W).mono fun e w' ⟨f9, he, hb⟩ => ⟨f9, he, hb, fun V2 hV2 => ?_⟩
      have hVV := hW.trans ((hb.trans (hV2.mono hb.size)).mono hW.size)
      exact putNode_a g G (some x) l.length c l (.slice (some y) l.length cy) ⟨(tgF l k st.d).toArray⟩ q.length (atF l k) q hlt hq1000 (xorI v.num (l[k]).els) v.nd hv V2 (hrV.below hVV) ((hVV.block _ (row_lt e5)).trans e5))
   · rintro e w' ⟨rfl, V, hV, hrV, V2, hb2, hp1, hp2⟩
     have hrV2 := hrV.below hb2
     refine ⟨rfl, ⟨q.set (atF l k) (v.nd, hv), ?_, hp1, ?_, ?_⟩, (o1 (hV.trans (OnlyIn.of_below hb2))).trans (o2 hp2)⟩
     · rw [List.length_set]
       unfold setF
       rw [hfk, if_pos hz]
       exact (hp2.block _ (row_lt hrV2) (by simpa using hgG)).trans hrV2
     · unfold setF
       rw [hfk, if_pos hz]
       rw [List.map_set, hq]
     · intro r hr9
       rcases List.mem_or_eq_of_mem_set hr9 with h | rfl
       · exact hqn r h
       · exact hnv
end Go.Proofs.YtblcibgphccfkaaGreatDoor
