/- Texts of the proof of the law FnRecordOf, side by side: part 28. -/
import Derived.Test.YtblcibgphccfkaaGreatDoorMRecordOf27
set_option maxHeartbeats 8000000
set_option maxRecDepth 100000
namespace Go.Proofs.YtblcibgphccfkaaGreatDoor
open Go.RowKit Go.Deep
theorem field_keep1 (f g : Value) (W : World) : (Instr.field 105 (.agg #[f, g]) 1).run Tryz.prog W = .ok g W := by kernel_rfl
theorem sPut {w V : World} {g bx k c cy s ll : Nat} {x y : Addr} {z : Int} {o : Obj} (hg : g < w.heap.size) (hx : (x.add (k * 3)).block < w.heap.size) (hy : (y.add k).block < w.heap.size) (hb : Below w.heap.size w V) (a0 : w.cell? ⟨g, 0, none⟩ = some (.slice (some x) ll c)) (a3 : w.cell? ⟨g, 3, none⟩ = some (.slice (some y) ll cy)) (f : w.cell? (x.add (k * 3)) = some (.int .i64 z)) (q : w.cell? (y.add k) = some (.int .i64 (s : Int))) (v : V.heap[bx]? = some o) :
 V.cell? ⟨g, 0, none⟩ = some (.slice (some x) ll c) ∧ V.cell? ⟨g, 3, none⟩ = some (.slice (some y) ll cy) ∧ V.cell? (x.add (k * 3)) = some (.int .i64 z) ∧ V.cell? (y.add k) = some (.int .i64 (s : Int)) ∧ V.heap[bx]? = some o :=
 ⟨(hb.cell (p := ⟨g, 0, none⟩) hg).trans a0, (hb.cell (p := ⟨g, 3, none⟩) hg).trans a3, (hb.cell (p := x.add (k * 3)) hx).trans f, (hb.cell (p := y.add k) hy).trans q, v⟩
theorem cell_only {bs : List Nat} {V V' : World} (h : OnlyIn bs V V') {p : Addr} {v : Value} (hp : p.block ∉ bs) (hv : V.cell? p = some v) : V'.cell? p = some v := by
 have hl := World.block_lt_of_cell? V _ hv
 have e := h.block p.block hl hp
 unfold World.cell? at hv ⊢
 rw [e]
 exact hv
theorem sPut2 {w V V' : World} {g bx k c cy s ll : Nat} {x y : Addr} {z : Int} {o : Obj} {bs : List Nat} (hx : (x.add (k * 3)).block < w.heap.size ∧ (x.add (k * 3)).block ∉ bs) (hy : (y.add k).block < w.heap.size ∧ (y.add k).block ∉ bs) (hb : Below w.heap.size w V) (hbs : ∀ b ∈ bs, b < w.heap.size) (hg : g < w.heap.size) (hbx : bx = w.heap.size) (ho : OnlyIn bs V V') (e0 : V'.cell? ⟨g, 0, none⟩ = V.cell? ⟨g, 0, none⟩) (e3 : V'.cell? ⟨g, 3, none⟩ = V.cell? ⟨g, 3, none⟩) (a0 : w.cell? ⟨g, 0, none⟩ = some (.slice (some x) ll c)) (a3 : w.cell? ⟨g, 3, none⟩ = some (.slice (some y) ll cy)) (f : w.cell? (x.add (k * 3)) = some (.int .i64 z)) (q : w.cell? (y.add k) = some (.int .i64 (s : Int))) (v : V.heap[bx]? = some o) :
 V'.cell? ⟨g, 0, none⟩ = some (.slice (some x) ll c) ∧ V'.cell? ⟨g, 3, none⟩ = some (.slice (some y) ll cy) ∧ V'.cell? (x.add (k * 3)) = some (.int .i64 z) ∧ V'.cell? (y.add k) = some (.int .i64 (s : Int)) ∧ V'.heap[bx]? = some o := by
 obtain ⟨b0, b3, bf, bq, bv⟩ := sPut hg hx.1 hy.1 hb a0 a3 f q v
 exact ⟨e0.trans b0, e3.trans b3, cell_only ho hx.2 bf, cell_only ho hy.2 bq, (ho.block _ (row_lt v) (fun hm => by have := hbs _ hm; omega)).trans bv⟩
theorem putRaw_bit (g : Nat) (x y : Addr) (c cy : Nat) (l : List Fld) (D : ByteArray) (G : Option Addr) (P cp : Nat) (k : Nat) (hk : k < l.length) (z : Int) (s : Nat) (w : World) (hr : RecW w g (some x) l.length c l (.slice (some y) l.length cy) D G P cp) (hxb : x.block < w.heap.size) (hyb : y.block < w.heap.size) (hf : w.cell? (x.add (k * 3)) = some (.int .i64 z)) (hs : w.cell? (y.add k) = some (.int .i64 (s : Int))) (hl : l.length ≤ 12) (xv : Int) (yv : Nd) (hv : Hd)
 (bs : List Nat) (hbs : ∀ b ∈ bs, b < w.heap.size) (hxn : x.block ∉ bs) (hyn : y.block ∉ bs) (Post : World → World → Prop) (HP : ∀ V V' : World, Below w.heap.size w V → Post V V' → OnlyIn bs V V' ∧ V'.cell? ⟨g, 0, none⟩ = V.cell? ⟨g, 0, none⟩ ∧ V'.cell? ⟨g, 3, none⟩ = V.cell? ⟨g, 3, none⟩)
 (HK : ∀ W : World, Below w.heap.size w W → Calls Tryz.prog 61 #[.int .i64 z] W fun e w' => ∃ f9, e = .returned (.agg #[f9, fnV 97]) ∧ Below W.heap.size W w' ∧ ∀ V : World, Below w'.heap.size w' V → Calls Tryz.prog 97 #[.pointer (some ⟨g, 5, none⟩), .int .i64 (s : Int), .agg #[.int .i64 xv, .int .i64 yv.kind, .string yv.data, .slice hv.A yv.ptrs.length hv.a, .int .i64 yv.size, .int .i64 yv.count, .slice hv.B yv.items.length hv.b]] V fun e w'' => e = .returned (.tuple #[]) ∧ Post V w'') :
 Calls Tryz.prog 77 #[.pointer (some ⟨g, 0, none⟩), .int .i64 (k : Int), .agg #[.int .i64 xv, .int .i64 yv.kind, .string yv.data, .slice hv.A yv.ptrs.length hv.a, .int .i64 yv.size, .int .i64 yv.count, .slice hv.B yv.items.length hv.b]] w fun e w' => e = .returned (.tuple #[]) ∧ ∃ V, Below w.heap.size w V ∧ Post V w' := by
 have HKK := Lib.hid HK
 have HPP := Lib.hid HP
 have HR := Lib.hid hr
 have HGL := Lib.hid (row_lt hr)
 have HXL : Hid ((x.add (k * 3)).block < w.heap.size ∧ (x.add (k * 3)).block ∉ bs) := Lib.hid (by rw [addr_block]; exact ⟨hxb, hxn⟩)
 have HYL : Hid ((y.add k).block < w.heap.size ∧ (y.add k).block ∉ bs) := Lib.hid (by rw [addr_block]; exact ⟨hyb, hyn⟩)
 have HBS := Lib.hid hbs
 have HFC := Lib.hid hf
 have HSC := Lib.hid hs
 have HFK := Lib.hid field_keep1
 have hba := (Below.refl w.heap.size w).alloc (Nat.le_refl _) (.cells #[.int .i64 xv, .int .i64 yv.kind, .string yv.data, .slice hv.A yv.ptrs.length hv.a, .int .i64 yv.size, .int .i64 yv.count, .slice hv.B yv.items.length hv.b] valT)
 have HBA := Lib.hid hba
 have HVA := Lib.hid (heap_alloc_new w (.cells #[.int .i64 xv, .int .i64 yv.kind, .string yv.data, .slice hv.A yv.ptrs.length hv.a, .int .i64 yv.size, .int .i64 yv.count, .slice hv.B yv.items.length hv.b] valT))
 clear HK HP hr hxb hyb hxn hyn hbs hf hs hba
 go_enter Tryz.func77, Tryz.ntmps77
 go_wp2_with fail
 obtain ⟨bx, hbx⟩ : ∃ bx, bx = w.heap.size := ⟨_, rfl⟩
 have HBX : Hid (bx = w.heap.size) := Lib.hid hbx
 rw [← hbx] at HVA ⊢
 clear hbx
 generalize w.alloc (.cells #[.int .i64 xv, .int .i64 yv.kind, .string yv.data, .slice hv.A yv.ptrs.length hv.a, .int .i64 yv.size, .int .i64 yv.count, .slice hv.B yv.items.length hv.b] valT) = W at *
 have HDR : Hid (Below W.heap.size W W.drew) := Lib.hid ⟨rfl, rfl, rfl, Nat.le_refl _, fun _ _ => rfl⟩
 have HC0 := Lib.hid (HBA.out.trans (HDR.out.mono HBA.out.size))
 have HV0 := Lib.hid ((HDR.out.block _ (row_lt HVA.out)).trans HVA.out)
 obtain ⟨a0, -, -, a3, -⟩ := cells11 HR.out
 have HA0 := Lib.hid a0
 have HA3 := Lib.hid a3
 have hS0 := sPut HGL.out HXL.out.1 HYL.out.1 HC0.out HA0.out HA3.out HFC.out HSC.out HV0.out
 clear a0 a3
 refine wp_region_held_drew (S := (fun V => V.cell? ⟨g, 0, none⟩ = some (.slice (some x) l.length c) ∧ V.cell? ⟨g, 3, none⟩ = some (.slice (some y) l.length cy) ∧ V.cell? (x.add (k * 3)) = some (.int .i64 z) ∧ V.cell? (y.add k) = some (.int .i64 (s : Int)) ∧ V.heap[bx]? = some (.cells #[.int .i64 xv, .int .i64 yv.kind, .string yv.data, .slice hv.A yv.ptrs.length hv.a, .int .i64 yv.size, .int .i64 yv.count, .slice hv.B yv.items.length hv.b] valT (0, 0)))) (by kernel_rfl) ?_ (fun hH0 => ?_)
 · exact hS0
 clear hS0
 refine wpAnyH_take (i := 0) (v := ?_) rfl (by kernel_rfl) (by kernel_rfl) (by kernel_rfl) (fun _ _ _ h => h) (Or.inl ⟨by rfl, ?_⟩) (by assumption) ?_
 rotate_left
 · intro w hSw
   (try dsimp only at hSw)
   obtain ⟨r0, r3, s1, s2, hbv⟩ := hSw
   obtain ⟨t0, t1, t2, t3, t4, t5, t6⟩ := cellsV hbv
   go_simp
   try with_reducible rfl
 try simp only [List.getElem_toArray, List.getElem_cons_succ, List.getElem_cons_zero, Act.put, List.setIfInBounds_toArray, List.set_cons_zero, List.set_cons_succ]
 refine wpAnyH_take (i := 1) (v := ?_) rfl (by kernel_rfl) (by kernel_rfl) (by kernel_rfl) (fun _ _ _ h => h) (Or.inl ⟨by rfl, ?_⟩) (by assumption) ?_
 rotate_left
 · intro w hSw
   (try dsimp only at hSw)
   obtain ⟨r0, r3, s1, s2, hbv⟩ := hSw
   obtain ⟨t0, t1, t2, t3, t4, t5, t6⟩ := cellsV hbv
   go_simp
   try with_reducible rfl
 try simp only [List.getElem_toArray, List.getElem_cons_succ, List.getElem_cons_zero, Act.put, List.setIfInBounds_toArray, List.set_cons_zero, List.set_cons_succ]
 refine wpAnyH_take (i := 2) (v := ?_) rfl (by kernel_rfl) (by kernel_rfl) (by kernel_rfl) (fun _ _ _ h => h) (Or.inl ⟨by rfl, ?_⟩) (by assumption) ?_
 rotate_left
 · intro w hSw
   (try dsimp only at hSw)
   obtain ⟨r0, r3, s1, s2, hbv⟩ := hSw
   obtain ⟨t0, t1, t2, t3, t4, t5, t6⟩ := cellsV hbv
   go_simp
   try with_reducible rfl
 try simp only [List.getElem_toArray, List.getElem_cons_succ, List.getElem_cons_zero, Act.put, List.setIfInBounds_toArray, List.set_cons_zero, List.set_cons_succ]
 refine wpAnyH_take (i := 3) (v := ?_) rfl (by kernel_rfl) (by kernel_rfl) (by kernel_rfl) (fun _ _ _ h => h) (Or.inl ⟨by rfl, ?_⟩) (by assumption) ?_
 rotate_left
 · intro w hSw
   (try dsimp only at hSw)
   obtain ⟨r0, r3, s1, s2, hbv⟩ := hSw
   obtain ⟨t0, t1, t2, t3, t4, t5, t6⟩ := cellsV hbv
   go_simp
   try with_reducible rfl
 try simp only [List.getElem_toArray, List.getElem_cons_succ, List.getElem_cons_zero, Act.put, List.setIfInBounds_toArray, List.set_cons_zero, List.set_cons_succ]
 refine wpAnyH_take (i := 4) (v := ?_) rfl (by kernel_rfl) (by kernel_rfl) (by kernel_rfl) (fun _ _ _ h => h) (Or.inl ⟨by rfl, ?_⟩) (by assumption) ?_
 rotate_left
 · intro w hSw
   (try dsimp only at hSw)
   obtain ⟨r0, r3, s1, s2, hbv⟩ := hSw
   obtain ⟨t0, t1, t2, t3, t4, t5, t6⟩ := cellsV hbv
   go_simp
   try with_reducible rfl
 try simp only [List.getElem_toArray, List.getElem_cons_succ, List.getElem_cons_zero, Act.put, List.setIfInBounds_toArray, List.set_cons_zero, List.set_cons_succ]
 refine wpAnyH_take (i := 5) (v := ?_) rfl (by kernel_rfl) (by kernel_rfl) (by kernel_rfl) (fun _ _ _ h => h) (Or.inl ⟨by rfl, ?_⟩) (by assumption) ?_
 rotate_left
 · intro w hSw
   (try dsimp only at hSw)
   obtain ⟨r0, r3, s1, s2, hbv⟩ := hSw
   obtain ⟨t0, t1, t2, t3, t4, t5, t6⟩ := cellsV hbv
   go_simp
   try with_reducible rfl
 try simp only [List.getElem_toArray, List.getElem_cons_succ, List.getElem_cons_zero, Act.put, List.setIfInBounds_toArray, List.set_cons_zero, List.set_cons_succ]
 refine wpAnyH_take (i := 6) (v := ?_) rfl (by kernel_rfl) (by kernel_rfl) (by kernel_rfl) (fun _ _ _ h => h) (Or.inl ⟨by rfl, ?_⟩) (by assumption) ?_
 rotate_left
 · intro w hSw
   (try dsimp only at hSw)
   obtain ⟨r0, r3, s1, s2, hbv⟩ := hSw
   obtain ⟨t0, t1, t2, t3, t4, t5, t6⟩ := cellsV hbv
   go_simp
   try with_reducible rfl
 try simp only [List.getElem_toArray, List.getElem_cons_succ, List.getElem_cons_zero, Act.put, List.setIfInBounds_toArray, List.set_cons_zero, List.set_cons_succ]
 refine wpAnyH_take (i := 7) (v := .int .i64 z) rfl (by kernel_rfl) (by kernel_rfl) (by kernel_rfl) (fun _ _ _ h => h) (Or.inl ⟨by rfl, ?_⟩) (by assumption) ?_
 · intro w hSw
   obtain ⟨r0, r3, s1, s2, hbv⟩ := hSw
   obtain ⟨t0, t1, t2, t3, t4, t5, t6⟩ := cellsV hbv
   go_simp
 try simp only [List.getElem_toArray, List.getElem_cons_succ, List.getElem_cons_zero, Act.put, List.setIfInBounds_toArray, List.set_cons_zero, List.set_cons_succ]
 refine wpAnyH_take (i := 10) (v := ?_) rfl (by kernel_rfl) (by kernel_rfl) (by kernel_rfl) (fun _ _ _ h => h) (Or.inl ⟨by rfl, ?_⟩) (by assumption) ?_
 rotate_left
 · intro w hSw
   (try dsimp only at hSw)
   obtain ⟨r0, r3, s1, s2, hbv⟩ := hSw
   obtain ⟨t0, t1, t2, t3, t4, t5, t6⟩ := cellsV hbv
   go_simp
   try with_reducible rfl
 try simp only [List.getElem_toArray, List.getElem_cons_succ, List.getElem_cons_zero, Act.put, List.setIfInBounds_toArray, List.set_cons_zero, List.set_cons_succ]
 refine wpAnyH_take (i := 11) (v := ?_) rfl (by kernel_rfl) (by kernel_rfl) (by kernel_rfl) (fun _ _ _ h => h) (Or.inl ⟨by rfl, ?_⟩) (by assumption) ?_
 rotate_left
 · intro w hSw
   (try dsimp only at hSw)
   obtain ⟨r0, r3, s1, s2, hbv⟩ := hSw
   obtain ⟨t0, t1, t2, t3, t4, t5, t6⟩ := cellsV hbv
   go_simp
   try with_reducible rfl
 try simp only [List.getElem_toArray, List.getElem_cons_succ, List.getElem_cons_zero, Act.put, List.setIfInBounds_toArray, List.set_cons_zero, List.set_cons_succ]
 refine wpAnyH_take (i := 12) (v := ?_) rfl (by kernel_rfl) (by kernel_rfl) (by kernel_rfl) (fun _ _ _ h => h) (Or.inl ⟨by rfl, ?_⟩) (by assumption) ?_
 rotate_left
 · intro w hSw
   (try dsimp only at hSw)
   obtain ⟨r0, r3, s1, s2, hbv⟩ := hSw
   obtain ⟨t0, t1, t2, t3, t4, t5, t6⟩ := cellsV hbv
   go_simp
   try with_reducible rfl
 try simp only [List.getElem_toArray, List.getElem_cons_succ, List.getElem_cons_zero, Act.put, List.setIfInBounds_toArray, List.set_cons_zero, List.set_cons_succ]
 refine wpAnyH_take (i := 13) (v := ?_) rfl (by kernel_rfl) (by kernel_rfl) (by kernel_rfl) (fun _ _ _ h => h) (Or.inl ⟨by rfl, ?_⟩) (by assumption) ?_
 rotate_left
 · intro w hSw
   (try dsimp only at hSw)
   obtain ⟨r0, r3, s1, s2, hbv⟩ := hSw
   obtain ⟨t0, t1, t2, t3, t4, t5, t6⟩ := cellsV hbv
   go_simp
   try with_reducible rfl
 try simp only [List.getElem_toArray, List.getElem_cons_succ, List.getElem_cons_zero, Act.put, List.setIfInBounds_toArray, List.set_cons_zero, List.set_cons_succ]
 refine wpAnyH_take (i := 14) (v := ?_) rfl (by kernel_rfl) (by kernel_rfl) (by kernel_rfl) (fun _ _ _ h => h) (Or.inl ⟨by rfl, ?_⟩) (by assumption) ?_
 rotate_left
 · intro w hSw
   (try dsimp only at hSw)
   obtain ⟨r0, r3, s1, s2, hbv⟩ := hSw
   obtain ⟨t0, t1, t2, t3, t4, t5, t6⟩ := cellsV hbv
   go_simp
   try with_reducible rfl
 try simp only [List.getElem_toArray, List.getElem_cons_succ, List.getElem_cons_zero, Act.put, List.setIfInBounds_toArray, List.set_cons_zero, List.set_cons_succ]
 refine wpAnyH_take (i := 15) (v := ?_) rfl (by kernel_rfl) (by kernel_rfl) (by kernel_rfl) (fun _ _ _ h => h) (Or.inl ⟨by rfl, ?_⟩) (by assumption) ?_
 rotate_left
 · intro w hSw
   (try dsimp only at hSw)
   obtain ⟨r0, r3, s1, s2, hbv⟩ := hSw
   obtain ⟨t0, t1, t2, t3, t4, t5, t6⟩ := cellsV hbv
   go_simp
   try with_reducible rfl
 try simp only [List.getElem_toArray, List.getElem_cons_succ, List.getElem_cons_zero, Act.put, List.setIfInBounds_toArray, List.set_cons_zero, List.set_cons_succ]
 refine wpAnyH_take (i := 16) (v := ?_) rfl (by kernel_rfl) (by kernel_rfl) (by kernel_rfl) (fun _ _ _ h => h) (Or.inl ⟨by rfl, ?_⟩) (by assumption) ?_
 rotate_left
 · intro w hSw
   (try dsimp only at hSw)
   obtain ⟨r0, r3, s1, s2, hbv⟩ := hSw
   obtain ⟨t0, t1, t2, t3, t4, t5, t6⟩ := cellsV hbv
   go_simp
   try with_reducible rfl
 try simp only [List.getElem_toArray, List.getElem_cons_succ, List.getElem_cons_zero, Act.put, List.setIfInBounds_toArray, List.set_cons_zero, List.set_cons_succ]
 refine wpAnyH_take (i := 17) (v := ?_) rfl (by kernel_rfl) (by kernel_rfl) (by kernel_rfl) (fun _ _ _ h => h) (Or.inl ⟨by rfl, ?_⟩) (by assumption) ?_
 rotate_left
 · intro w hSw
   (try dsimp only at hSw)
   obtain ⟨r0, r3, s1, s2, hbv⟩ := hSw
   obtain ⟨t0, t1, t2, t3, t4, t5, t6⟩ := cellsV hbv
   go_simp
   try with_reducible rfl
 try simp only [List.getElem_toArray, List.getElem_cons_succ, List.getElem_cons_zero, Act.put, List.setIfInBounds_toArray, List.set_cons_zero, List.set_cons_succ]
 refine wpAnyH_take (i := 18) (v := ?_) rfl (by kernel_rfl) (by kernel_rfl) (by kernel_rfl) (fun _ _ _ h => h) (Or.inl ⟨by rfl, ?_⟩) (by assumption) ?_
 rotate_left
 · intro w hSw
   (try dsimp only at hSw)
   obtain ⟨r0, r3, s1, s2, hbv⟩ := hSw
   obtain ⟨t0, t1, t2, t3, t4, t5, t6⟩ := cellsV hbv
   go_simp
   try with_reducible rfl
 try simp only [List.getElem_toArray, List.getElem_cons_succ, List.getElem_cons_zero, Act.put, List.setIfInBounds_toArray, List.set_cons_zero, List.set_cons_succ]
 refine wpAnyH_take (i := 19) (v := ?_) rfl (by kernel_rfl) (by kernel_rfl) (by kernel_rfl) (fun _ _ _ h => h) (Or.inl ⟨by rfl, ?_⟩) (by assumption) ?_
 rotate_left
 · intro w hSw
   (try dsimp only at hSw)
   obtain ⟨r0, r3, s1, s2, hbv⟩ := hSw
   obtain ⟨t0, t1, t2, t3, t4, t5, t6⟩ := cellsV hbv
   go_simp
   try with_reducible rfl
 try simp only [List.getElem_toArray, List.getElem_cons_succ, List.getElem_cons_zero, Act.put, List.setIfInBounds_toArray, List.set_cons_zero, List.set_cons_succ]
 refine wpAnyH_take (i := 20) (v := ?_) rfl (by kernel_rfl) (by kernel_rfl) (by kernel_rfl) (fun _ _ _ h => h) (Or.inl ⟨by rfl, ?_⟩) (by assumption) ?_
 rotate_left
 · intro w hSw
   (try dsimp only at hSw)
   obtain ⟨r0, r3, s1, s2, hbv⟩ := hSw
   obtain ⟨t0, t1, t2, t3, t4, t5, t6⟩ := cellsV hbv
   go_simp
   try with_reducible rfl
 try simp only [List.getElem_toArray, List.getElem_cons_succ, List.getElem_cons_zero, Act.put, List.setIfInBounds_toArray, List.set_cons_zero, List.set_cons_succ]
 refine wpAnyH_take (i := 21) (v := .int .i64 (s : Int)) rfl (by kernel_rfl) (by kernel_rfl) (by kernel_rfl) (fun _ _ _ h => h) (Or.inl ⟨by rfl, ?_⟩) (by assumption) ?_
 · intro w hSw
   obtain ⟨r0, r3, s1, s2, hbv⟩ := hSw
   obtain ⟨t0, t1, t2, t3, t4, t5, t6⟩ := cellsV hbv
   go_simp
 try simp only [List.getElem_toArray, List.getElem_cons_succ, List.getElem_cons_zero, Act.put, List.setIfInBounds_toArray, List.set_cons_zero, List.set_cons_succ]
 refine wpAnyH_take (i := 22) (v := .agg #[.int .i64 xv, .int .i64 yv.kind, .string yv.data, .slice hv.A yv.ptrs.length hv.a, .int .i64 yv.size, .int .i64 yv.count, .slice hv.B yv.items.length hv.b]) rfl (by kernel_rfl) (by kernel_rfl) (by kernel_rfl) (fun _ _ _ h => h) (Or.inl ⟨by rfl, ?_⟩) (by assumption) ?_
 · intro w hSw
   obtain ⟨r0, r3, s1, s2, hbv⟩ := hSw
   obtain ⟨t0, t1, t2, t3, t4, t5, t6⟩ := cellsV hbv
   go_simp
 try simp only [List.getElem_toArray, List.getElem_cons_succ, List.getElem_cons_zero, Act.put, List.setIfInBounds_toArray, List.set_cons_zero, List.set_cons_succ]
 refine wpAnyH_ready (rs := [8]) (by kernel_rfl) (by simp) ?_
 refine AllReadyH.cons rfl (fun K hK => ?_) AllReadyH.nil
 go_simp
 go_at_call 61
 refine (HKK.out _ HC0.out).mono ?_
 rintro e w2 ⟨f9, rfl, hb2, hcl⟩
 have HCL := Lib.hid hcl
 have HC2 := Lib.hid (HC0.out.trans (hb2.mono HC0.out.size))
 have HV2 := Lib.hid ((hb2.block _ (row_lt HV0.out)).trans HV0.out)
 have hS2 := sPut HGL.out HXL.out.1 HYL.out.1 HC2.out HA0.out HA3.out HFC.out HSC.out HV2.out
 clear hb2 hcl
 go_wp2_with fail
 refine hK.out _ _ hS2 (fun hHn => ?_)
 clear hK K hH0 hS2
 try simp only [List.getElem_toArray, List.getElem_cons_succ, List.getElem_cons_zero, Act.put, List.setIfInBounds_toArray, List.set_cons_zero, List.set_cons_succ]
 have hfk := HFK.out
 unfold fnV
 refine wpAnyH_take (i := 9) (v := ?_) rfl (by kernel_rfl) (by kernel_rfl) (by kernel_rfl) (fun _ _ _ h => h) (Or.inl ⟨by rfl, ?_⟩) (by assumption) ?_
 rotate_left
 · intro w hSw
   (try dsimp only at hSw)
   obtain ⟨r0, r3, s1, s2, hbv⟩ := hSw
   obtain ⟨t0, t1, t2, t3, t4, t5, t6⟩ := cellsV hbv
   go_simp
   try with_reducible rfl
 try simp only [List.getElem_toArray, List.getElem_cons_succ, List.getElem_cons_zero, Act.put, List.setIfInBounds_toArray, List.set_cons_zero, List.set_cons_succ]
 clear hfk
 refine wpAnyH_ready (rs := [23]) (by kernel_rfl) (by simp) ?_
 refine AllReadyH.cons rfl (fun K hK => ?_) AllReadyH.nil
 go_simp
 go_at_call 97
 refine (HCL.out _ (Below.refl _ _)).mono ?_
 rintro e w3 ⟨rfl, hpo⟩
 have HPO := Lib.hid hpo
 have hon := HPP.out w2 w3 HC2.out hpo
 have hS3 := sPut2 HXL.out HYL.out HC2.out HBS.out HGL.out HBX.out hon.1 hon.2.1 hon.2.2 HA0.out HA3.out HFC.out HSC.out HV2.out
 clear hpo hon
 go_wp2_with fail
 refine hK.out _ _ hS3 (fun hHm => ?_)
 clear hK K hHn hS3
 try simp only [List.getElem_toArray, List.getElem_cons_succ, List.getElem_cons_zero, Act.put, List.setIfInBounds_toArray, List.set_cons_zero, List.set_cons_succ]
 refine wpAnyH_done (by kernel_rfl) ?_ _
 clear hHm
 go_wp2
 go_end0
 exact ⟨rfl, _, HC2.out, HPO.out⟩
theorem putRaw_node (g : Nat) (x y : Addr) (c cy : Nat) (l : List Fld) (D : ByteArray) (G : Option Addr) (P cp : Nat) (k : Nat) (hk : k < l.length) (z : Int) (s : Nat) (w : World) (hr : RecW w g (some x) l.length c l (.slice (some y) l.length cy) D G P cp) (hxb : x.block < w.heap.size) (hyb : y.block < w.heap.size) (hf : w.cell? (x.add (k * 3)) = some (.int .i64 z)) (hs : w.cell? (y.add k) = some (.int .i64 (s : Int))) (hl : l.length ≤ 12) (xv : Int) (yv : Nd) (hv : Hd)
 (bs : List Nat) (hbs : ∀ b ∈ bs, b < w.heap.size) (hxn : x.block ∉ bs) (hyn : y.block ∉ bs) (Post : World → World → Prop) (HP : ∀ V V' : World, Below w.heap.size w V → Post V V' → OnlyIn bs V V' ∧ V'.cell? ⟨g, 0, none⟩ = V.cell? ⟨g, 0, none⟩ ∧ V'.cell? ⟨g, 3, none⟩ = V.cell? ⟨g, 3, none⟩)
 (HK : ∀ W : World, Below w.heap.size w W → Calls Tryz.prog 61 #[.int .i64 z] W fun e w' => ∃ f9, e = .returned (.agg #[f9, fnV 100]) ∧ Below W.heap.size W w' ∧ ∀ V : World, Below w'.heap.size w' V → Calls Tryz.prog 100 #[.pointer (some ⟨g, 5, none⟩), .int .i64 (s : Int), .agg #[.int .i64 xv, .int .i64 yv.kind, .string yv.data, .slice hv.A yv.ptrs.length hv.a, .int .i64 yv.size, .int .i64 yv.count, .slice hv.B yv.items.length hv.b]] V fun e w'' => e = .returned (.tuple #[]) ∧ Post V w'') :
 Calls Tryz.prog 77 #[.pointer (some ⟨g, 0, none⟩), .int .i64 (k : Int), .agg #[.int .i64 xv, .int .i64 yv.kind, .string yv.data, .slice hv.A yv.ptrs.length hv.a, .int .i64 yv.size, .int .i64 yv.count, .slice hv.B yv.items.length hv.b]] w fun e w' => e = .returned (.tuple #[]) ∧ ∃ V, Below w.heap.size w V ∧ Post V w' := by
 have HKK := Lib.hid HK
 have HPP := Lib.hid HP
 have HR := Lib.hid hr
 have HGL := Lib.hid (row_lt hr)
 have HXL : Hid ((x.add (k * 3)).block < w.heap.size ∧ (x.add (k * 3)).block ∉ bs) := Lib.hid (by rw [addr_block]; exact ⟨hxb, hxn⟩)
 have HYL : Hid ((y.add k).block < w.heap.size ∧ (y.add k).block ∉ bs) := Lib.hid (by rw [addr_block]; exact ⟨hyb, hyn⟩)
 have HBS := Lib.hid hbs
 have HFC := Lib.hid hf
 have HSC := Lib.hid hs
 have HFK := Lib.hid field_keep1
 have hba := (Below.refl w.heap.size w).alloc (Nat.le_refl _) (.cells #[.int .i64 xv, .int .i64 yv.kind, .string yv.data, .slice hv.A yv.ptrs.length hv.a, .int .i64 yv.size, .int .i64 yv.count, .slice hv.B yv.items.length hv.b] valT)
 have HBA := Lib.hid hba
 have HVA := Lib.hid (heap_alloc_new w (.cells #[.int .i64 xv, .int .i64 yv.kind, .string yv.data, .slice hv.A yv.ptrs.length hv.a, .int .i64 yv.size, .int .i64 yv.count, .slice hv.B yv.items.length hv.b] valT))
 clear HK HP hr hxb hyb hxn hyn hbs hf hs hba
 go_enter Tryz.func77, Tryz.ntmps77
 go_wp2_with fail
 obtain ⟨bx, hbx⟩ : ∃ bx, bx = w.heap.size := ⟨_, rfl⟩
 have HBX : Hid (bx = w.heap.size) := Lib.hid hbx
 rw [← hbx] at HVA ⊢
 clear hbx
 generalize w.alloc (.cells #[.int .i64 xv, .int .i64 yv.kind, .string yv.data, .slice hv.A yv.ptrs.length hv.a, .int .i64 yv.size, .int .i64 yv.count, .slice hv.B yv.items.length hv.b] valT) = W at *
 have HDR : Hid (Below W.heap.size W W.drew) := Lib.hid ⟨rfl, rfl, rfl, Nat.le_refl _, fun _ _ => rfl⟩
 have HC0 := Lib.hid (HBA.out.trans (HDR.out.mono HBA.out.size))
 have HV0 := Lib.hid ((HDR.out.block _ (row_lt HVA.out)).trans HVA.out)
 obtain ⟨a0, -, -, a3, -⟩ := cells11 HR.out
 have HA0 := Lib.hid a0
 have HA3 := Lib.hid a3
 have hS0 := sPut HGL.out HXL.out.1 HYL.out.1 HC0.out HA0.out HA3.out HFC.out HSC.out HV0.out
 clear a0 a3
 refine wp_region_held_drew (S := (fun V => V.cell? ⟨g, 0, none⟩ = some (.slice (some x) l.length c) ∧ V.cell? ⟨g, 3, none⟩ = some (.slice (some y) l.length cy) ∧ V.cell? (x.add (k * 3)) = some (.int .i64 z) ∧ V.cell? (y.add k) = some (.int .i64 (s : Int)) ∧ V.heap[bx]? = some (.cells #[.int .i64 xv, .int .i64 yv.kind, .string yv.data, .slice hv.A yv.ptrs.length hv.a, .int .i64 yv.size, .int .i64 yv.count, .slice hv.B yv.items.length hv.b] valT (0, 0)))) (by kernel_rfl) ?_ (fun hH0 => ?_)
 · exact hS0
 clear hS0
 refine wpAnyH_take (i := 0) (v := ?_) rfl (by kernel_rfl) (by kernel_rfl) (by kernel_rfl) (fun _ _ _ h => h) (Or.inl ⟨by rfl, ?_⟩) (by assumption) ?_
 rotate_left
 · intro w hSw
   (try dsimp only at hSw)
   obtain ⟨r0, r3, s1, s2, hbv⟩ := hSw
   obtain ⟨t0, t1, t2, t3, t4, t5, t6⟩ := cellsV hbv
   go_simp
   try with_reducible rfl
 try simp only [List.getElem_toArray, List.getElem_cons_succ, List.getElem_cons_zero, Act.put, List.setIfInBounds_toArray, List.set_cons_zero, List.set_cons_succ]
 refine wpAnyH_take (i := 1) (v := ?_) rfl (by kernel_rfl) (by kernel_rfl) (by kernel_rfl) (fun _ _ _ h => h) (Or.inl ⟨by rfl, ?_⟩) (by assumption) ?_
 rotate_left
 · intro w hSw
   (try dsimp only at hSw)
   obtain ⟨r0, r3, s1, s2, hbv⟩ := hSw
   obtain ⟨t0, t1, t2, t3, t4, t5, t6⟩ := cellsV hbv
   go_simp
   try with_reducible rfl
 try simp only [List.getElem_toArray, List.getElem_cons_succ, List.getElem_cons_zero, Act.put, List.setIfInBounds_toArray, List.set_cons_zero, List.set_cons_succ]
 refine wpAnyH_take (i := 2) (v := ?_) rfl (by kernel_rfl) (by kernel_rfl) (by kernel_rfl) (fun _ _ _ h => h) (Or.inl ⟨by rfl, ?_⟩) (by assumption) ?_
 rotate_left
 · intro w hSw
   (try dsimp only at hSw)
   obtain ⟨r0, r3, s1, s2, hbv⟩ := hSw
   obtain ⟨t0, t1, t2, t3, t4, t5, t6⟩ := cellsV hbv
   go_simp
   try with_reducible rfl
 try simp only [List.getElem_toArray, List.getElem_cons_succ, List.getElem_cons_zero, Act.put, List.setIfInBounds_toArray, List.set_cons_zero, List.set_cons_succ]
 refine wpAnyH_take (i := 3) (v := ?_) rfl (by kernel_rfl) (by kernel_rfl) (by kernel_rfl) (fun _ _ _ h => h) (Or.inl ⟨by rfl, ?_⟩) (by assumption) ?_
 rotate_left
 · intro w hSw
   (try dsimp only at hSw)
   obtain ⟨r0, r3, s1, s2, hbv⟩ := hSw
   obtain ⟨t0, t1, t2, t3, t4, t5, t6⟩ := cellsV hbv
   go_simp
   try with_reducible rfl
 try simp only [List.getElem_toArray, List.getElem_cons_succ, List.getElem_cons_zero, Act.put, List.setIfInBounds_toArray, List.set_cons_zero, List.set_cons_succ]
 refine wpAnyH_take (i := 4) (v := ?_) rfl (by kernel_rfl) (by kernel_rfl) (by kernel_rfl) (fun _ _ _ h => h) (Or.inl ⟨by rfl, ?_⟩) (by assumption) ?_
 rotate_left
 · intro w hSw
   (try dsimp only at hSw)
   obtain ⟨r0, r3, s1, s2, hbv⟩ := hSw
   obtain ⟨t0, t1, t2, t3, t4, t5, t6⟩ := cellsV hbv
   go_simp
   try with_reducible rfl
 try simp only [List.getElem_toArray, List.getElem_cons_succ, List.getElem_cons_zero, Act.put, List.setIfInBounds_toArray, List.set_cons_zero, List.set_cons_succ]
 refine wpAnyH_take (i := 5) (v := ?_) rfl (by kernel_rfl) (by kernel_rfl) (by kernel_rfl) (fun _ _ _ h => h) (Or.inl ⟨by rfl, ?_⟩) (by assumption) ?_
 rotate_left
 · intro w hSw
   (try dsimp only at hSw)
   obtain ⟨r0, r3, s1, s2, hbv⟩ := hSw
   obtain ⟨t0, t1, t2, t3, t4, t5, t6⟩ := cellsV hbv
   go_simp
   try with_reducible rfl
 try simp only [List.getElem_toArray, List.getElem_cons_succ, List.getElem_cons_zero, Act.put, List.setIfInBounds_toArray, List.set_cons_zero, List.set_cons_succ]
 refine wpAnyH_take (i := 6) (v := ?_) rfl (by kernel_rfl) (by kernel_rfl) (by kernel_rfl) (fun _ _ _ h => h) (Or.inl ⟨by rfl, ?_⟩) (by assumption) ?_
 rotate_left
 · intro w hSw
   (try dsimp only at hSw)
   obtain ⟨r0, r3, s1, s2, hbv⟩ := hSw
   obtain ⟨t0, t1, t2, t3, t4, t5, t6⟩ := cellsV hbv
   go_simp
   try with_reducible rfl
 try simp only [List.getElem_toArray, List.getElem_cons_succ, List.getElem_cons_zero, Act.put, List.setIfInBounds_toArray, List.set_cons_zero, List.set_cons_succ]
 refine wpAnyH_take (i := 7) (v := .int .i64 z) rfl (by kernel_rfl) (by kernel_rfl) (by kernel_rfl) (fun _ _ _ h => h) (Or.inl ⟨by rfl, ?_⟩) (by assumption) ?_
 · intro w hSw
   obtain ⟨r0, r3, s1, s2, hbv⟩ := hSw
   obtain ⟨t0, t1, t2, t3, t4, t5, t6⟩ := cellsV hbv
   go_simp
 try simp only [List.getElem_toArray, List.getElem_cons_succ, List.getElem_cons_zero, Act.put, List.setIfInBounds_toArray, List.set_cons_zero, List.set_cons_succ]
 refine wpAnyH_take (i := 10) (v := ?_) rfl (by kernel_rfl) (by kernel_rfl) (by kernel_rfl) (fun _ _ _ h => h) (Or.inl ⟨by rfl, ?_⟩) (by assumption) ?_
 rotate_left
 · intro w hSw
   (try dsimp only at hSw)
   obtain ⟨r0, r3, s1, s2, hbv⟩ := hSw
   obtain ⟨t0, t1, t2, t3, t4, t5, t6⟩ := cellsV hbv
   go_simp
   try with_reducible rfl
 try simp only [List.getElem_toArray, List.getElem_cons_succ, List.getElem_cons_zero, Act.put, List.setIfInBounds_toArray, List.set_cons_zero, List.set_cons_succ]
 refine wpAnyH_take (i := 11) (v := ?_) rfl (by kernel_rfl) (by kernel_rfl) (by kernel_rfl) (fun _ _ _ h => h) (Or.inl ⟨by rfl, ?_⟩) (by assumption) ?_
 rotate_left
 · intro w hSw
   (try dsimp only at hSw)
   obtain ⟨r0, r3, s1, s2, hbv⟩ := hSw
   obtain ⟨t0, t1, t2, t3, t4, t5, t6⟩ := cellsV hbv
   go_simp
   try with_reducible rfl
 try simp only [List.getElem_toArray, List.getElem_cons_succ, List.getElem_cons_zero, Act.put, List.setIfInBounds_toArray, List.set_cons_zero, List.set_cons_succ]
 refine wpAnyH_take (i := 12) (v := ?_) rfl (by kernel_rfl) (by kernel_rfl) (by kernel_rfl) (fun _ _ _ h => h) (Or.inl ⟨by rfl, ?_⟩) (by assumption) ?_
 rotate_left
 · intro w hSw
   (try dsimp only at hSw)
   obtain ⟨r0, r3, s1, s2, hbv⟩ := hSw
   obtain ⟨t0, t1, t2, t3, t4, t5, t6⟩ := cellsV hbv
   go_simp
   try with_reducible rfl
 try simp only [List.getElem_toArray, List.getElem_cons_succ, List.getElem_cons_zero, Act.put, List.setIfInBounds_toArray, List.set_cons_zero, List.set_cons_succ]
 refine wpAnyH_take (i := 13) (v := ?_) rfl (by kernel_rfl) (by kernel_rfl) (by kernel_rfl) (fun _ _ _ h => h) (Or.inl ⟨by rfl, ?_⟩) (by assumption) ?_
 rotate_left
 · intro w hSw
   (try dsimp only at hSw)
   obtain ⟨r0, r3, s1, s2, hbv⟩ := hSw
   obtain ⟨t0, t1, t2, t3, t4, t5, t6⟩ := cellsV hbv
   go_simp
   try with_reducible rfl
 try simp only [List.getElem_toArray, List.getElem_cons_succ, List.getElem_cons_zero, Act.put, List.setIfInBounds_toArray, List.set_cons_zero, List.set_cons_succ]
 refine wpAnyH_take (i := 14) (v := ?_) rfl (by kernel_rfl) (by kernel_rfl) (by kernel_rfl) (fun _ _ _ h => h) (Or.inl ⟨by rfl, ?_⟩) (by assumption) ?_
 rotate_left
 · intro w hSw
   (try dsimp only at hSw)
   obtain ⟨r0, r3, s1, s2, hbv⟩ := hSw
   obtain ⟨t0, t1, t2, t3, t4, t5, t6⟩ := cellsV hbv
   go_simp
   try with_reducible rfl
 try simp only [List.getElem_toArray, List.getElem_cons_succ, List.getElem_cons_zero, Act.put, List.setIfInBounds_toArray, List.set_cons_zero, List.set_cons_succ]
 refine wpAnyH_take (i := 15) (v := ?_) rfl (by kernel_rfl) (by kernel_rfl) (by kernel_rfl) (fun _ _ _ h => h) (Or.inl ⟨by rfl, ?_⟩) (by assumption) ?_
 rotate_left
 · intro w hSw
   (try dsimp only at hSw)
   obtain ⟨r0, r3, s1, s2, hbv⟩ := hSw
   obtain ⟨t0, t1, t2, t3, t4, t5, t6⟩ := cellsV hbv
   go_simp
   try with_reducible rfl
 try simp only [List.getElem_toArray, List.getElem_cons_succ, List.getElem_cons_zero, Act.put, List.setIfInBounds_toArray, List.set_cons_zero, List.set_cons_succ]
 refine wpAnyH_take (i := 16) (v := ?_) rfl (by kernel_rfl) (by kernel_rfl) (by kernel_rfl) (fun _ _ _ h => h) (Or.inl ⟨by rfl, ?_⟩) (by assumption) ?_
 rotate_left
 · intro w hSw
   (try dsimp only at hSw)
   obtain ⟨r0, r3, s1, s2, hbv⟩ := hSw
   obtain ⟨t0, t1, t2, t3, t4, t5, t6⟩ := cellsV hbv
   go_simp
   try with_reducible rfl
 try simp only [List.getElem_toArray, List.getElem_cons_succ, List.getElem_cons_zero, Act.put, List.setIfInBounds_toArray, List.set_cons_zero, List.set_cons_succ]
 refine wpAnyH_take (i := 17) (v := ?_) rfl (by kernel_rfl) (by kernel_rfl) (by kernel_rfl) (fun _ _ _ h => h) (Or.inl ⟨by rfl, ?_⟩) (by assumption) ?_
 rotate_left
 · intro w hSw
   (try dsimp only at hSw)
   obtain ⟨r0, r3, s1, s2, hbv⟩ := hSw
   obtain ⟨t0, t1, t2, t3, t4, t5, t6⟩ := cellsV hbv
   go_simp
   try with_reducible rfl
 try simp only [List.getElem_toArray, List.getElem_cons_succ, List.getElem_cons_zero, Act.put, List.setIfInBounds_toArray, List.set_cons_zero, List.set_cons_succ]
 refine wpAnyH_take (i := 18) (v := ?_) rfl (by kernel_rfl) (by kernel_rfl) (by kernel_rfl) (fun _ _ _ h => h) (Or.inl ⟨by rfl, ?_⟩) (by assumption) ?_
 rotate_left
 · intro w hSw
   (try dsimp only at hSw)
   obtain ⟨r0, r3, s1, s2, hbv⟩ := hSw
   obtain ⟨t0, t1, t2, t3, t4, t5, t6⟩ := cellsV hbv
   go_simp
   try with_reducible rfl
 try simp only [List.getElem_toArray, List.getElem_cons_succ, List.getElem_cons_zero, Act.put, List.setIfInBounds_toArray, List.set_cons_zero, List.set_cons_succ]
 refine wpAnyH_take (i := 19) (v := ?_) rfl (by kernel_rfl) (by kernel_rfl) (by kernel_rfl) (fun _ _ _ h => h) (Or.inl ⟨by rfl, ?_⟩) (by assumption) ?_
 rotate_left
 · intro w hSw
   (try dsimp only at hSw)
   obtain ⟨r0, r3, s1, s2, hbv⟩ := hSw
   obtain ⟨t0, t1, t2, t3, t4, t5, t6⟩ := cellsV hbv
   go_simp
   try with_reducible rfl
 try simp only [List.getElem_toArray, List.getElem_cons_succ, List.getElem_cons_zero, Act.put, List.setIfInBounds_toArray, List.set_cons_zero, List.set_cons_succ]
 refine wpAnyH_take (i := 20) (v := ?_) rfl (by kernel_rfl) (by kernel_rfl) (by kernel_rfl) (fun _ _ _ h => h) (Or.inl ⟨by rfl, ?_⟩) (by assumption) ?_
 rotate_left
 · intro w hSw
   (try dsimp only at hSw)
   obtain ⟨r0, r3, s1, s2, hbv⟩ := hSw
   obtain ⟨t0, t1, t2, t3, t4, t5, t6⟩ := cellsV hbv
   go_simp
   try with_reducible rfl
 try simp only [List.getElem_toArray, List.getElem_cons_succ, List.getElem_cons_zero, Act.put, List.setIfInBounds_toArray, List.set_cons_zero, List.set_cons_succ]
 refine wpAnyH_take (i := 21) (v := .int .i64 (s : Int)) rfl (by kernel_rfl) (by kernel_rfl) (by kernel_rfl) (fun _ _ _ h => h) (Or.inl ⟨by rfl, ?_⟩) (by assumption) ?_
 · intro w hSw
   obtain ⟨r0, r3, s1, s2, hbv⟩ := hSw
   obtain ⟨t0, t1, t2, t3, t4, t5, t6⟩ := cellsV hbv
   go_simp
 try simp only [List.getElem_toArray, List.getElem_cons_succ, List.getElem_cons_zero, Act.put, List.setIfInBounds_toArray, List.set_cons_zero, List.set_cons_succ]
 refine wpAnyH_take (i := 22) (v := .agg #[.int .i64 xv, .int .i64 yv.kind, .string yv.data, .slice hv.A yv.ptrs.length hv.a, .int .i64 yv.size, .int .i64 yv.count, .slice hv.B yv.items.length hv.b]) rfl (by kernel_rfl) (by kernel_rfl) (by kernel_rfl) (fun _ _ _ h => h) (Or.inl ⟨by rfl, ?_⟩) (by assumption) ?_
 · intro w hSw
   obtain ⟨r0, r3, s1, s2, hbv⟩ := hSw
   obtain ⟨t0, t1, t2, t3, t4, t5, t6⟩ := cellsV hbv
   go_simp
 try simp only [List.getElem_toArray, List.getElem_cons_succ, List.getElem_cons_zero, Act.put, List.setIfInBounds_toArray, List.set_cons_zero, List.set_cons_succ]
 refine wpAnyH_ready (rs := [8]) (by kernel_rfl) (by simp) ?_
 refine AllReadyH.cons rfl (fun K hK => ?_) AllReadyH.nil
 go_simp
 go_at_call 61
 refine (HKK.out _ HC0.out).mono ?_
 rintro e w2 ⟨f9, rfl, hb2, hcl⟩
 have HCL := Lib.hid hcl
 have HC2 := Lib.hid (HC0.out.trans (hb2.mono HC0.out.size))
 have HV2 := Lib.hid ((hb2.block _ (row_lt HV0.out)).trans HV0.out)
 have hS2 := sPut HGL.out HXL.out.1 HYL.out.1 HC2.out HA0.out HA3.out HFC.out HSC.out HV2.out
 clear hb2 hcl
 go_wp2_with fail
 refine hK.out _ _ hS2 (fun hHn => ?_)
 clear hK K hH0 hS2
 try simp only [List.getElem_toArray, List.getElem_cons_succ, List.getElem_cons_zero, Act.put, List.setIfInBounds_toArray, List.set_cons_zero, List.set_cons_succ]
 have hfk := HFK.out
 unfold fnV
 refine wpAnyH_take (i := 9) (v := ?_) rfl (by kernel_rfl) (by kernel_rfl) (by kernel_rfl) (fun _ _ _ h => h) (Or.inl ⟨by rfl, ?_⟩) (by assumption) ?_
 rotate_left
 · intro w hSw
   (try dsimp only at hSw)
   obtain ⟨r0, r3, s1, s2, hbv⟩ := hSw
   obtain ⟨t0, t1, t2, t3, t4, t5, t6⟩ := cellsV hbv
   go_simp
   try with_reducible rfl
 try simp only [List.getElem_toArray, List.getElem_cons_succ, List.getElem_cons_zero, Act.put, List.setIfInBounds_toArray, List.set_cons_zero, List.set_cons_succ]
 clear hfk
 refine wpAnyH_ready (rs := [23]) (by kernel_rfl) (by simp) ?_
 refine AllReadyH.cons rfl (fun K hK => ?_) AllReadyH.nil
 go_simp
 go_at_call 100
 refine (HCL.out _ (Below.refl _ _)).mono ?_
 rintro e w3 ⟨rfl, hpo⟩
 have HPO := Lib.hid hpo
 have hon := HPP.out w2 w3 HC2.out hpo
 have hS3 := sPut2 HXL.out HYL.out HC2.out HBS.out HGL.out HBX.out hon.1 hon.2.1 hon.2.2 HA0.out HA3.out HFC.out HSC.out HV2.out
 clear hpo hon
 go_wp2_with fail
 refine hK.out _ _ hS3 (fun hHm => ?_)
 clear hK K hHn hS3
 try simp only [List.getElem_toArray, List.getElem_cons_succ, List.getElem_cons_zero, Act.put, List.setIfInBounds_toArray, List.set_cons_zero, List.set_cons_succ]
 refine wpAnyH_done (by kernel_rfl) ?_ _
 clear hHm
 go_wp2
 go_end0
 exact ⟨rfl, _, HC2.out, HPO.out⟩
theorem putRaw_num (g : Nat) (x y : Addr) (c cy : Nat) (l : List Fld) (D : ByteArray) (G : Option Addr) (P cp : Nat) (k : Nat) (hk : k < l.length) (z : Int) (s : Nat) (w : World) (hr : RecW w g (some x) l.length c l (.slice (some y) l.length cy) D G P cp) (hxb : x.block < w.heap.size) (hyb : y.block < w.heap.size) (hf : w.cell? (x.add (k * 3)) = some (.int .i64 z)) (hs : w.cell? (y.add k) = some (.int .i64 (s : Int))) (hl : l.length ≤ 12) (xv : Int) (yv : Nd) (hv : Hd)
 (bs : List Nat) (hbs : ∀ b ∈ bs, b < w.heap.size) (hxn : x.block ∉ bs) (hyn : y.block ∉ bs) (Post : World → World → Prop) (HP : ∀ V V' : World, Below w.heap.size w V → Post V V' → OnlyIn bs V V' ∧ V'.cell? ⟨g, 0, none⟩ = V.cell? ⟨g, 0, none⟩ ∧ V'.cell? ⟨g, 3, none⟩ = V.cell? ⟨g, 3, none⟩)
 (HK : ∀ W : World, Below w.heap.size w W → Calls Tryz.prog 61 #[.int .i64 z] W fun e w' => ∃ b f9, e = .returned (.agg #[f9, nK2 b]) ∧ Below W.heap.size W w' ∧ ∀ V : World, Below w'.heap.size w' V → Calls Tryz.prog 129 #[.pointer (some ⟨g, 5, none⟩), .int .i64 (s : Int), .agg #[.int .i64 xv, .int .i64 yv.kind, .string yv.data, .slice hv.A yv.ptrs.length hv.a, .int .i64 yv.size, .int .i64 yv.count, .slice hv.B yv.items.length hv.b], .pointer (some ⟨b, 0, none⟩)] V fun e w'' => e = .returned (.tuple #[]) ∧ Post V w'') :
 Calls Tryz.prog 77 #[.pointer (some ⟨g, 0, none⟩), .int .i64 (k : Int), .agg #[.int .i64 xv, .int .i64 yv.kind, .string yv.data, .slice hv.A yv.ptrs.length hv.a, .int .i64 yv.size, .int .i64 yv.count, .slice hv.B yv.items.length hv.b]] w fun e w' => e = .returned (.tuple #[]) ∧ ∃ V, Below w.heap.size w V ∧ Post V w' := by
 have HKK := Lib.hid HK
 have HPP := Lib.hid HP
 have HR := Lib.hid hr
 have HGL := Lib.hid (row_lt hr)
 have HXL : Hid ((x.add (k * 3)).block < w.heap.size ∧ (x.add (k * 3)).block ∉ bs) := Lib.hid (by rw [addr_block]; exact ⟨hxb, hxn⟩)
 have HYL : Hid ((y.add k).block < w.heap.size ∧ (y.add k).block ∉ bs) := Lib.hid (by rw [addr_block]; exact ⟨hyb, hyn⟩)
 have HBS := Lib.hid hbs
 have HFC := Lib.hid hf
 have HSC := Lib.hid hs
 have HFK := Lib.hid field_keep1
 have hba := (Below.refl w.heap.size w).alloc (Nat.le_refl _) (.cells #[.int .i64 xv, .int .i64 yv.kind, .string yv.data, .slice hv.A yv.ptrs.length hv.a, .int .i64 yv.size, .int .i64 yv.count, .slice hv.B yv.items.length hv.b] valT)
 have HBA := Lib.hid hba
 have HVA := Lib.hid (heap_alloc_new w (.cells #[.int .i64 xv, .int .i64 yv.kind, .string yv.data, .slice hv.A yv.ptrs.length hv.a, .int .i64 yv.size, .int .i64 yv.count, .slice hv.B yv.items.length hv.b] valT))
 clear HK HP hr hxb hyb hxn hyn hbs hf hs hba
 go_enter Tryz.func77, Tryz.ntmps77
 go_wp2_with fail
 obtain ⟨bx, hbx⟩ : ∃ bx, bx = w.heap.size := ⟨_, rfl⟩
 have HBX : Hid (bx = w.heap.size) := Lib.hid hbx
 rw [← hbx] at HVA ⊢
 clear hbx
 generalize w.alloc (.cells #[.int .i64 xv, .int .i64 yv.kind, .string yv.data, .slice hv.A yv.ptrs.length hv.a, .int .i64 yv.size, .int .i64 yv.count, .slice hv.B yv.items.length hv.b] valT) = W at *
 have HDR : Hid (Below W.heap.size W W.drew) := Lib.hid ⟨rfl, rfl, rfl, Nat.le_refl _, fun _ _ => rfl⟩
 have HC0 := Lib.hid (HBA.out.trans (HDR.out.mono HBA.out.size))
 have HV0 := Lib.hid ((HDR.out.block _ (row_lt HVA.out)).trans HVA.out)
 obtain ⟨a0, -, -, a3, -⟩ := cells11 HR.out
 have HA0 := Lib.hid a0
 have HA3 := Lib.hid a3
 have hS0 := sPut HGL.out HXL.out.1 HYL.out.1 HC0.out HA0.out HA3.out HFC.out HSC.out HV0.out
 clear a0 a3
 refine wp_region_held_drew (S := (fun V => V.cell? ⟨g, 0, none⟩ = some (.slice (some x) l.length c) ∧ V.cell? ⟨g, 3, none⟩ = some (.slice (some y) l.length cy) ∧ V.cell? (x.add (k * 3)) = some (.int .i64 z) ∧ V.cell? (y.add k) = some (.int .i64 (s : Int)) ∧ V.heap[bx]? = some (.cells #[.int .i64 xv, .int .i64 yv.kind, .string yv.data, .slice hv.A yv.ptrs.length hv.a, .int .i64 yv.size, .int .i64 yv.count, .slice hv.B yv.items.length hv.b] valT (0, 0)))) (by kernel_rfl) ?_ (fun hH0 => ?_)
 · exact hS0
 clear hS0
 refine wpAnyH_take (i := 0) (v := ?_) rfl (by kernel_rfl) (by kernel_rfl) (by kernel_rfl) (fun _ _ _ h => h) (Or.inl ⟨by rfl, ?_⟩) (by assumption) ?_
 rotate_left
 · intro w hSw
   (try dsimp only at hSw)
   obtain ⟨r0, r3, s1, s2, hbv⟩ := hSw
   obtain ⟨t0, t1, t2, t3, t4, t5, t6⟩ := cellsV hbv
   go_simp
   try with_reducible rfl
 try simp only [List.getElem_toArray, List.getElem_cons_succ, List.getElem_cons_zero, Act.put, List.setIfInBounds_toArray, List.set_cons_zero, List.set_cons_succ]
 refine wpAnyH_take (i := 1) (v := ?_) rfl (by kernel_rfl) (by kernel_rfl) (by kernel_rfl) (fun _ _ _ h => h) (Or.inl ⟨by rfl, ?_⟩) (by assumption) ?_
 rotate_left
 · intro w hSw
   (try dsimp only at hSw)
   obtain ⟨r0, r3, s1, s2, hbv⟩ := hSw
   obtain ⟨t0, t1, t2, t3, t4, t5, t6⟩ := cellsV hbv
   go_simp
   try with_reducible rfl
 try simp only [List.getElem_toArray, List.getElem_cons_succ, List.getElem_cons_zero, Act.put, List.setIfInBounds_toArray, List.set_cons_zero, List.set_cons_succ]
 refine wpAnyH_take (i := 2) (v := ?_) rfl (by kernel_rfl) (by kernel_rfl) (by kernel_rfl) (fun _ _ _ h => h) (Or.inl ⟨by rfl, ?_⟩) (by assumption) ?_
 rotate_left
 · intro w hSw
   (try dsimp only at hSw)
   obtain ⟨r0, r3, s1, s2, hbv⟩ := hSw
   obtain ⟨t0, t1, t2, t3, t4, t5, t6⟩ := cellsV hbv
   go_simp
   try with_reducible rfl
 try simp only [List.getElem_toArray, List.getElem_cons_succ, List.getElem_cons_zero, Act.put, List.setIfInBounds_toArray, List.set_cons_zero, List.set_cons_succ]
 refine wpAnyH_take (i := 3) (v := ?_) rfl (by kernel_rfl) (by kernel_rfl) (by kernel_rfl) (fun _ _ _ h => h) (Or.inl ⟨by rfl, ?_⟩) (by assumption) ?_
 rotate_left
 · intro w hSw
   (try dsimp only at hSw)
   obtain ⟨r0, r3, s1, s2, hbv⟩ := hSw
   obtain ⟨t0, t1, t2, t3, t4, t5, t6⟩ := cellsV hbv
   go_simp
   try with_reducible rfl
 try simp only [List.getElem_toArray, List.getElem_cons_succ, List.getElem_cons_zero, Act.put, List.setIfInBounds_toArray, List.set_cons_zero, List.set_cons_succ]
 refine wpAnyH_take (i := 4) (v := ?_) rfl (by kernel_rfl) (by kernel_rfl) (by kernel_rfl) (fun _ _ _ h => h) (Or.inl ⟨by rfl, ?_⟩) (by assumption) ?_
 rotate_left
 · intro w hSw
   (try dsimp only at hSw)
   obtain ⟨r0, r3, s1, s2, hbv⟩ := hSw
   obtain ⟨t0, t1, t2, t3, t4, t5, t6⟩ := cellsV hbv
   go_simp
   try with_reducible rfl
 try simp only [List.getElem_toArray, List.getElem_cons_succ, List.getElem_cons_zero, Act.put, List.setIfInBounds_toArray, List.set_cons_zero, List.set_cons_succ]
 refine wpAnyH_take (i := 5) (v := ?_) rfl (by kernel_rfl) (by kernel_rfl) (by kernel_rfl) (fun _ _ _ h => h) (Or.inl ⟨by rfl, ?_⟩) (by assumption) ?_
 rotate_left
 · intro w hSw
   (try dsimp only at hSw)
   obtain ⟨r0, r3, s1, s2, hbv⟩ := hSw
   obtain ⟨t0, t1, t2, t3, t4, t5, t6⟩ := cellsV hbv
   go_simp
   try with_reducible rfl
 try simp only [List.getElem_toArray, List.getElem_cons_succ, List.getElem_cons_zero, Act.put, List.setIfInBounds_toArray, List.set_cons_zero, List.set_cons_succ]
 refine wpAnyH_take (i := 6) (v := ?_) rfl (by kernel_rfl) (by kernel_rfl) (by kernel_rfl) (fun _ _ _ h => h) (Or.inl ⟨by rfl, ?_⟩) (by assumption) ?_
 rotate_left
 · intro w hSw
   (try dsimp only at hSw)
   obtain ⟨r0, r3, s1, s2, hbv⟩ := hSw
   obtain ⟨t0, t1, t2, t3, t4, t5, t6⟩ := cellsV hbv
   go_simp
   try with_reducible rfl
 try simp only [List.getElem_toArray, List.getElem_cons_succ, List.getElem_cons_zero, Act.put, List.setIfInBounds_toArray, List.set_cons_zero, List.set_cons_succ]
 refine wpAnyH_take (i := 7) (v := .int .i64 z) rfl (by kernel_rfl) (by kernel_rfl) (by kernel_rfl) (fun _ _ _ h => h) (Or.inl ⟨by rfl, ?_⟩) (by assumption) ?_
 · intro w hSw
   obtain ⟨r0, r3, s1, s2, hbv⟩ := hSw
   obtain ⟨t0, t1, t2, t3, t4, t5, t6⟩ := cellsV hbv
   go_simp
 try simp only [List.getElem_toArray, List.getElem_cons_succ, List.getElem_cons_zero, Act.put, List.setIfInBounds_toArray, List.set_cons_zero, List.set_cons_succ]
 refine wpAnyH_take (i := 10) (v := ?_) rfl (by kernel_rfl) (by kernel_rfl) (by kernel_rfl) (fun _ _ _ h => h) (Or.inl ⟨by rfl, ?_⟩) (by assumption) ?_
 rotate_left
 · intro w hSw
   (try dsimp only at hSw)
   obtain ⟨r0, r3, s1, s2, hbv⟩ := hSw
   obtain ⟨t0, t1, t2, t3, t4, t5, t6⟩ := cellsV hbv
   go_simp
   try with_reducible rfl
 try simp only [List.getElem_toArray, List.getElem_cons_succ, List.getElem_cons_zero, Act.put, List.setIfInBounds_toArray, List.set_cons_zero, List.set_cons_succ]
 refine wpAnyH_take (i := 11) (v := ?_) rfl (by kernel_rfl) (by kernel_rfl) (by kernel_rfl) (fun _ _ _ h => h) (Or.inl ⟨by rfl, ?_⟩) (by assumption) ?_
 rotate_left
 · intro w hSw
   (try dsimp only at hSw)
   obtain ⟨r0, r3, s1, s2, hbv⟩ := hSw
   obtain ⟨t0, t1, t2, t3, t4, t5, t6⟩ := cellsV hbv
   go_simp
   try with_reducible rfl
 try simp only [List.getElem_toArray, List.getElem_cons_succ, List.getElem_cons_zero, Act.put, List.setIfInBounds_toArray, List.set_cons_zero, List.set_cons_succ]
 refine wpAnyH_take (i := 12) (v := ?_) rfl (by kernel_rfl) (by kernel_rfl) (by kernel_rfl) (fun _ _ _ h => h) (Or.inl ⟨by rfl, ?_⟩) (by assumption) ?_
 rotate_left
 · intro w hSw
   (try dsimp only at hSw)
   obtain ⟨r0, r3, s1, s2, hbv⟩ := hSw
   obtain ⟨t0, t1, t2, t3, t4, t5, t6⟩ := cellsV hbv
   go_simp
   try with_reducible rfl
 try simp only [List.getElem_toArray, List.getElem_cons_succ, List.getElem_cons_zero, Act.put, List.setIfInBounds_toArray, List.set_cons_zero, List.set_cons_succ]
 refine wpAnyH_take (i := 13) (v := ?_) rfl (by kernel_rfl) (by kernel_rfl) (by kernel_rfl) (fun _ _ _ h => h) (Or.inl ⟨by rfl, ?_⟩) (by assumption) ?_
 rotate_left
 · intro w hSw
   (try dsimp only at hSw)
   obtain ⟨r0, r3, s1, s2, hbv⟩ := hSw
   obtain ⟨t0, t1, t2, t3, t4, t5, t6⟩ := cellsV hbv
   go_simp
   try with_reducible rfl
 try simp only [List.getElem_toArray, List.getElem_cons_succ, List.getElem_cons_zero, Act.put, List.setIfInBounds_toArray, List.set_cons_zero, List.set_cons_succ]
 refine wpAnyH_take (i := 14) (v := ?_) rfl (by kernel_rfl) (by kernel_rfl) (by kernel_rfl) (fun _ _ _ h => h) (Or.inl ⟨by rfl, ?_⟩) (by assumption) ?_
 rotate_left
 · intro w hSw
   (try dsimp only at hSw)
   obtain ⟨r0, r3, s1, s2, hbv⟩ := hSw
   obtain ⟨t0, t1, t2, t3, t4, t5, t6⟩ := cellsV hbv
   go_simp
   try with_reducible rfl
 try simp only [List.getElem_toArray, List.getElem_cons_succ, List.getElem_cons_zero, Act.put, List.setIfInBounds_toArray, List.set_cons_zero, List.set_cons_succ]
 refine wpAnyH_take (i := 15) (v := ?_) rfl (by kernel_rfl) (by kernel_rfl) (by kernel_rfl) (fun _ _ _ h => h) (Or.inl ⟨by rfl, ?_⟩) (by assumption) ?_
 rotate_left
 · intro w hSw
   (try dsimp only at hSw)
   obtain ⟨r0, r3, s1, s2, hbv⟩ := hSw
   obtain ⟨t0, t1, t2, t3, t4, t5, t6⟩ := cellsV hbv
   go_simp
   try with_reducible rfl
 try simp only [List.getElem_toArray, List.getElem_cons_succ, List.getElem_cons_zero, Act.put, List.setIfInBounds_toArray, List.set_cons_zero, List.set_cons_succ]
 refine wpAnyH_take (i := 16) (v := ?_) rfl (by kernel_rfl) (by kernel_rfl) (by kernel_rfl) (fun _ _ _ h => h) (Or.inl ⟨by rfl, ?_⟩) (by assumption) ?_
 rotate_left
 · intro w hSw
   (try dsimp only at hSw)
   obtain ⟨r0, r3, s1, s2, hbv⟩ := hSw
   obtain ⟨t0, t1, t2, t3, t4, t5, t6⟩ := cellsV hbv
   go_simp
   try with_reducible rfl
 try simp only [List.getElem_toArray, List.getElem_cons_succ, List.getElem_cons_zero, Act.put, List.setIfInBounds_toArray, List.set_cons_zero, List.set_cons_succ]
 refine wpAnyH_take (i := 17) (v := ?_) rfl (by kernel_rfl) (by kernel_rfl) (by kernel_rfl) (fun _ _ _ h => h) (Or.inl ⟨by rfl, ?_⟩) (by assumption) ?_
 rotate_left
 · intro w hSw
   (try dsimp only at hSw)
   obtain ⟨r0, r3, s1, s2, hbv⟩ := hSw
   obtain ⟨t0, t1, t2, t3, t4, t5, t6⟩ := cellsV hbv
   go_simp
   try with_reducible rfl
 try simp only [List.getElem_toArray, List.getElem_cons_succ, List.getElem_cons_zero, Act.put, List.setIfInBounds_toArray, List.set_cons_zero, List.set_cons_succ]
 refine wpAnyH_take (i := 18) (v := ?_) rfl (by kernel_rfl) (by kernel_rfl) (by kernel_rfl) (fun _ _ _ h => h) (Or.inl ⟨by rfl, ?_⟩) (by assumption) ?_
 rotate_left
 · intro w hSw
   (try dsimp only at hSw)
   obtain ⟨r0, r3, s1, s2, hbv⟩ := hSw
   obtain ⟨t0, t1, t2, t3, t4, t5, t6⟩ := cellsV hbv
   go_simp
   try with_reducible rfl
 try simp only [List.getElem_toArray, List.getElem_cons_succ, List.getElem_cons_zero, Act.put, List.setIfInBounds_toArray, List.set_cons_zero, List.set_cons_succ]
 refine wpAnyH_take (i := 19) (v := ?_) rfl (by kernel_rfl) (by kernel_rfl) (by kernel_rfl) (fun _ _ _ h => h) (Or.inl ⟨by rfl, ?_⟩) (by assumption) ?_
 rotate_left
 · intro w hSw
   (try dsimp only at hSw)
   obtain ⟨r0, r3, s1, s2, hbv⟩ := hSw
   obtain ⟨t0, t1, t2, t3, t4, t5, t6⟩ := cellsV hbv
   go_simp
   try with_reducible rfl
 try simp only [List.getElem_toArray, List.getElem_cons_succ, List.getElem_cons_zero, Act.put, List.setIfInBounds_toArray, List.set_cons_zero, List.set_cons_succ]
 refine wpAnyH_take (i := 20) (v := ?_) rfl (by kernel_rfl) (by kernel_rfl) (by kernel_rfl) (fun _ _ _ h => h) (Or.inl ⟨by rfl, ?_⟩) (by assumption) ?_
 rotate_left
 · intro w hSw
   (try dsimp only at hSw)
   obtain ⟨r0, r3, s1, s2, hbv⟩ := hSw
   obtain ⟨t0, t1, t2, t3, t4, t5, t6⟩ := cellsV hbv
   go_simp
   try with_reducible rfl
 try simp only [List.getElem_toArray, List.getElem_cons_succ, List.getElem_cons_zero, Act.put, List.setIfInBounds_toArray, List.set_cons_zero, List.set_cons_succ]
 refine wpAnyH_take (i := 21) (v := .int .i64 (s : Int)) rfl (by kernel_rfl) (by kernel_rfl) (by kernel_rfl) (fun _ _ _ h => h) (Or.inl ⟨by rfl, ?_⟩) (by assumption) ?_
 · intro w hSw
   obtain ⟨r0, r3, s1, s2, hbv⟩ := hSw
   obtain ⟨t0, t1, t2, t3, t4, t5, t6⟩ := cellsV hbv
   go_simp
 try simp only [List.getElem_toArray, List.getElem_cons_succ, List.getElem_cons_zero, Act.put, List.setIfInBounds_toArray, List.set_cons_zero, List.set_cons_succ]
 refine wpAnyH_take (i := 22) (v := .agg #[.int .i64 xv, .int .i64 yv.kind, .string yv.data, .slice hv.A yv.ptrs.length hv.a, .int .i64 yv.size, .int .i64 yv.count, .slice hv.B yv.items.length hv.b]) rfl (by kernel_rfl) (by kernel_rfl) (by kernel_rfl) (fun _ _ _ h => h) (Or.inl ⟨by rfl, ?_⟩) (by assumption) ?_
 · intro w hSw
   obtain ⟨r0, r3, s1, s2, hbv⟩ := hSw
   obtain ⟨t0, t1, t2, t3, t4, t5, t6⟩ := cellsV hbv
   go_simp
 try simp only [List.getElem_toArray, List.getElem_cons_succ, List.getElem_cons_zero, Act.put, List.setIfInBounds_toArray, List.set_cons_zero, List.set_cons_succ]
 refine wpAnyH_ready (rs := [8]) (by kernel_rfl) (by simp) ?_
 refine AllReadyH.cons rfl (fun K hK => ?_) AllReadyH.nil
 go_simp
 go_at_call 61
 refine (HKK.out _ HC0.out).mono ?_
 rintro e w2 ⟨b, f9, rfl, hb2, hcl⟩
 have HCL := Lib.hid hcl
 have HC2 := Lib.hid (HC0.out.trans (hb2.mono HC0.out.size))
 have HV2 := Lib.hid ((hb2.block _ (row_lt HV0.out)).trans HV0.out)
 have hS2 := sPut HGL.out HXL.out.1 HYL.out.1 HC2.out HA0.out HA3.out HFC.out HSC.out HV2.out
 clear hb2 hcl
 go_wp2_with fail
 refine hK.out _ _ hS2 (fun hHn => ?_)
 clear hK K hH0 hS2
 try simp only [List.getElem_toArray, List.getElem_cons_succ, List.getElem_cons_zero, Act.put, List.setIfInBounds_toArray, List.set_cons_zero, List.set_cons_succ]
 have hfk := HFK.out
 unfold nK2
 refine wpAnyH_take (i := 9) (v := ?_) rfl (by kernel_rfl) (by kernel_rfl) (by kernel_rfl) (fun _ _ _ h => h) (Or.inl ⟨by rfl, ?_⟩) (by assumption) ?_
 rotate_left
 · intro w hSw
   (try dsimp only at hSw)
   obtain ⟨r0, r3, s1, s2, hbv⟩ := hSw
   obtain ⟨t0, t1, t2, t3, t4, t5, t6⟩ := cellsV hbv
   go_simp
   try with_reducible rfl
 try simp only [List.getElem_toArray, List.getElem_cons_succ, List.getElem_cons_zero, Act.put, List.setIfInBounds_toArray, List.set_cons_zero, List.set_cons_succ]
 clear hfk
 refine wpAnyH_ready (rs := [23]) (by kernel_rfl) (by simp) ?_
 refine AllReadyH.cons rfl (fun K hK => ?_) AllReadyH.nil
 go_simp
 go_at_call 129
 refine (HCL.out _ (Below.refl _ _)).mono ?_
 rintro e w3 ⟨rfl, hpo⟩
 have HPO := Lib.hid hpo
 have hon := HPP.out w2 w3 HC2.out hpo
 have hS3 := sPut2 HXL.out HYL.out HC2.out HBS.out HGL.out HBX.out hon.1 hon.2.1 hon.2.2 HA0.out HA3.out HFC.out HSC.out HV2.out
 clear hpo hon
 go_wp2_with fail
 refine hK.out _ _ hS3 (fun hHm => ?_)
 clear hK K hHn hS3
 try simp only [List.getElem_toArray, List.getElem_cons_succ, List.getElem_cons_zero, Act.put, List.setIfInBounds_toArray, List.set_cons_zero, List.set_cons_succ]
 refine wpAnyH_done (by kernel_rfl) ?_ _
 clear hHm
 go_wp2
 go_end0
 exact ⟨rfl, _, HC2.out, HPO.out⟩
end Go.Proofs.YtblcibgphccfkaaGreatDoor
