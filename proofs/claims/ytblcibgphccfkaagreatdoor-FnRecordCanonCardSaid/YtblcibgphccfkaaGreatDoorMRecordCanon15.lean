/- Texts of the proof of the law FnRecordCanon, side by side: part 15. -/
import Derived.Test.YtblcibgphccfkaaGreatDoorMRecordCanon14
set_option maxHeartbeats 8000000
set_option maxRecDepth 100000
open Go.Lib (hid)
namespace Go.Proofs.YtblcibgphccfkaaGreatDoor
open Go.RowKit Go.Deep
theorem z5n (f g:Value)(W:World):(Instr.field 105 (.agg #[f,g]) 0).run Tryz.prog W= .ok f W:=by kernel_rfl
theorem zn2 (g:Nat)(x y:Addr)(c cy:Nat)(l:List Fld)(n:Nd)(h:Hd)(k:Nat)(hk:k<l.length)(z:Int)(s:Nat)(w:World)(hr:RecAt w g (some x) l.length c l (.slice (some y) l.length cy) n h)(hxb:x.block<w.heap.size)(hyb:y.block<w.heap.size)(hf:w.cell? (x.add (k*3))=some (.int .i64 z))(hs:w.cell? (y.add k)=some (.int .i64 (s:Int)))(hl:l.length≤12)(xv:Int)(yv:Nd)(hv:Hd)
 (HK:∀W:World,Below w.heap.size w W→Calls Tryz.prog 61 #[.int .i64 z] W fun e w'=>∃gg,e= .returned (.agg #[fnV 96,gg])∧Below W.heap.size W w'∧∀V:World,Below w'.heap.size w' V→Calls Tryz.prog 96 #[.agg #[.int .i64 n.kind,.string n.data,.slice h.A n.ptrs.length h.a,.int .i64 n.size,.int .i64 n.count,.slice h.B n.items.length h.b],.int .i64 (s:Int)] V fun e w''=>e= .returned (.agg #[.int .i64 xv,.int .i64 yv.kind,.string yv.data,.slice hv.A yv.ptrs.length hv.a,.int .i64 yv.size,.int .i64 yv.count,.slice hv.B yv.items.length hv.b])∧Below V.heap.size V w'') :
 Calls Tryz.prog 62 #[.pointer (some ⟨g,0,none⟩),.int .i64 (k:Int)] w fun e w'=>e= .returned (.agg #[.int .i64 xv,.int .i64 yv.kind,.string yv.data,.slice hv.A yv.ptrs.length hv.a,.int .i64 yv.size,.int .i64 yv.count,.slice hv.B yv.items.length hv.b])∧Below w.heap.size w w':=by
 have HKK:=hid HK;have HR:=hid hr;unfold RecAt at HR;have HGL:=hid (z00 hr);have HXL:Hid ((x.add (k*3)).block<w.heap.size):=hid (by rw[z05]; exact hxb);have HYL:Hid ((y.add k).block<w.heap.size):=hid (by rw[z05]; exact hyb);have HFC:=hid hf;have HSC:=hid hs;have HFK:=hid z5n;have hba:=(Below.refl w.heap.size w).alloc (Nat.le_refl _) (.cells #[.int .i64 0,.int .i64 0,.string { data:= #[] },.slice none 0 0,.int .i64 0,.int .i64 0,.slice none 0 0] valT);have HBA:=hid hba;have HRA:=hid (heap_alloc_new w (.cells #[.int .i64 0,.int .i64 0,.string { data:= #[] },.slice none 0 0,.int .i64 0,.int .i64 0,.slice none 0 0] valT));clear HK hr hxb hyb hf hs hba;go_enter Tryz.func62,Tryz.ntmps62
 go_wp2_with fail
 generalize w.alloc (.cells #[.int .i64 0,.int .i64 0,.string { data:= #[] },.slice none 0 0,.int .i64 0,.int .i64 0,.slice none 0 0] valT)=W at *;have HDR:Hid (Below W.heap.size W W.drew):=hid ⟨rfl,rfl,rfl,Nat.le_refl _,fun _ _=>rfl⟩;have HC0:=hid (HBA.out.trans (HDR.out.mono HBA.out.size));have v0:=(HC0.out.block _ HGL.out).trans HR.out;have v1:=(HC0.out.cell (p:=x.add (k*3)) HXL.out).trans HFC.out;have v2:=(HC0.out.cell (p:=y.add k) HYL.out).trans HSC.out;have hub:=(HDR.out.block _ (z00 HRA.out)).trans HRA.out;have HUB:=hid hub;clear hub;refine wp_region_held_drew (S:=(fun V=>V.heap[g]? =some (.cells #[.slice (some x) l.length c,.int .i64 ((layF l ps0).2.ls.words:Int),.int .i64 ((layF l ps0).2.ptrs:Int),.slice (some y) l.length cy,.int .i64 (tagL l),.int .i64 n.kind,.string n.data,.slice h.A n.ptrs.length h.a,.int .i64 n.size,.int .i64 n.count,.slice h.B n.items.length h.b] recT (0,0))∧V.cell? (x.add (k*3))=some (.int .i64 z)∧V.cell? (y.add k)=some (.int .i64 (s:Int)))) (by kernel_rfl) ?_ (fun hH0=>?_)
 · exact ⟨v0,v1,v2⟩
 clear v0 v1 v2;refine wpAnyH_take (i:=0) (v:=?_) rfl (by kernel_rfl) (by kernel_rfl) (by kernel_rfl) (fun _ _ _ h=>h) (Or.inl ⟨by rfl,?_⟩) (by assumption) ?_
 rotate_left
 · intro w hSw
   (try dsimp only at hSw)
   obtain ⟨r0,r1,r2,r3,r4,r5,r6,r7,r8,r9,r10⟩:=z08 hSw.1;have s1:=hSw.2.1;have s2:=hSw.2.2
   go_simp
   try with_reducible rfl
 try simp only[List.getElem_toArray,List.getElem_cons_succ,List.getElem_cons_zero,Act.put,List.setIfInBounds_toArray,List.set_cons_zero,List.set_cons_succ]
 refine wpAnyH_take (i:=1) (v:=?_) rfl (by kernel_rfl) (by kernel_rfl) (by kernel_rfl) (fun _ _ _ h=>h) (Or.inl ⟨by rfl,?_⟩) (by assumption) ?_
 rotate_left
 · intro w hSw
   (try dsimp only at hSw)
   obtain ⟨r0,r1,r2,r3,r4,r5,r6,r7,r8,r9,r10⟩:=z08 hSw.1;have s1:=hSw.2.1;have s2:=hSw.2.2
   go_simp
   try with_reducible rfl
 try simp only[List.getElem_toArray,List.getElem_cons_succ,List.getElem_cons_zero,Act.put,List.setIfInBounds_toArray,List.set_cons_zero,List.set_cons_succ]
 refine wpAnyH_take (i:=2) (v:=?_) rfl (by kernel_rfl) (by kernel_rfl) (by kernel_rfl) (fun _ _ _ h=>h) (Or.inl ⟨by rfl,?_⟩) (by assumption) ?_
 rotate_left
 · intro w hSw
   (try dsimp only at hSw)
   obtain ⟨r0,r1,r2,r3,r4,r5,r6,r7,r8,r9,r10⟩:=z08 hSw.1;have s1:=hSw.2.1;have s2:=hSw.2.2
   go_simp
   try with_reducible rfl
 try simp only[List.getElem_toArray,List.getElem_cons_succ,List.getElem_cons_zero,Act.put,List.setIfInBounds_toArray,List.set_cons_zero,List.set_cons_succ]
 refine wpAnyH_take (i:=3) (v:=?_) rfl (by kernel_rfl) (by kernel_rfl) (by kernel_rfl) (fun _ _ _ h=>h) (Or.inl ⟨by rfl,?_⟩) (by assumption) ?_
 rotate_left
 · intro w hSw
   (try dsimp only at hSw)
   obtain ⟨r0,r1,r2,r3,r4,r5,r6,r7,r8,r9,r10⟩:=z08 hSw.1;have s1:=hSw.2.1;have s2:=hSw.2.2
   go_simp
   try with_reducible rfl
 try simp only[List.getElem_toArray,List.getElem_cons_succ,List.getElem_cons_zero,Act.put,List.setIfInBounds_toArray,List.set_cons_zero,List.set_cons_succ]
 refine wpAnyH_take (i:=4) (v:=?_) rfl (by kernel_rfl) (by kernel_rfl) (by kernel_rfl) (fun _ _ _ h=>h) (Or.inl ⟨by rfl,?_⟩) (by assumption) ?_
 rotate_left
 · intro w hSw
   (try dsimp only at hSw)
   obtain ⟨r0,r1,r2,r3,r4,r5,r6,r7,r8,r9,r10⟩:=z08 hSw.1;have s1:=hSw.2.1;have s2:=hSw.2.2
   go_simp
   try with_reducible rfl
 try simp only[List.getElem_toArray,List.getElem_cons_succ,List.getElem_cons_zero,Act.put,List.setIfInBounds_toArray,List.set_cons_zero,List.set_cons_succ]
 refine wpAnyH_take (i:=5) (v:=?_) rfl (by kernel_rfl) (by kernel_rfl) (by kernel_rfl) (fun _ _ _ h=>h) (Or.inl ⟨by rfl,?_⟩) (by assumption) ?_
 rotate_left
 · intro w hSw
   (try dsimp only at hSw)
   obtain ⟨r0,r1,r2,r3,r4,r5,r6,r7,r8,r9,r10⟩:=z08 hSw.1;have s1:=hSw.2.1;have s2:=hSw.2.2
   go_simp
   try with_reducible rfl
 try simp only[List.getElem_toArray,List.getElem_cons_succ,List.getElem_cons_zero,Act.put,List.setIfInBounds_toArray,List.set_cons_zero,List.set_cons_succ]
 refine wpAnyH_take (i:=6) (v:=?_) rfl (by kernel_rfl) (by kernel_rfl) (by kernel_rfl) (fun _ _ _ h=>h) (Or.inl ⟨by rfl,?_⟩) (by assumption) ?_
 rotate_left
 · intro w hSw
   (try dsimp only at hSw)
   obtain ⟨r0,r1,r2,r3,r4,r5,r6,r7,r8,r9,r10⟩:=z08 hSw.1;have s1:=hSw.2.1;have s2:=hSw.2.2
   go_simp
   try with_reducible rfl
 try simp only[List.getElem_toArray,List.getElem_cons_succ,List.getElem_cons_zero,Act.put,List.setIfInBounds_toArray,List.set_cons_zero,List.set_cons_succ]
 refine wpAnyH_take (i:=7) (v:= .int .i64 z) rfl (by kernel_rfl) (by kernel_rfl) (by kernel_rfl) (fun _ _ _ h=>h) (Or.inl ⟨by rfl,?_⟩) (by assumption) ?_
 · intro w hSw
   obtain ⟨r0,r1,r2,r3,r4,r5,r6,r7,r8,r9,r10⟩:=z08 hSw.1;have s1:=hSw.2.1;have s2:=hSw.2.2
   go_simp
 try simp only[List.getElem_toArray,List.getElem_cons_succ,List.getElem_cons_zero,Act.put,List.setIfInBounds_toArray,List.set_cons_zero,List.set_cons_succ]
 refine wpAnyH_take (i:=10) (v:=?_) rfl (by kernel_rfl) (by kernel_rfl) (by kernel_rfl) (fun _ _ _ h=>h) (Or.inl ⟨by rfl,?_⟩) (by assumption) ?_
 rotate_left
 · intro w hSw
   (try dsimp only at hSw)
   obtain ⟨r0,r1,r2,r3,r4,r5,r6,r7,r8,r9,r10⟩:=z08 hSw.1;have s1:=hSw.2.1;have s2:=hSw.2.2
   go_simp
   try with_reducible rfl
 try simp only[List.getElem_toArray,List.getElem_cons_succ,List.getElem_cons_zero,Act.put,List.setIfInBounds_toArray,List.set_cons_zero,List.set_cons_succ]
 refine wpAnyH_take (i:=11) (v:=?_) rfl (by kernel_rfl) (by kernel_rfl) (by kernel_rfl) (fun _ _ _ h=>h) (Or.inl ⟨by rfl,?_⟩) (by assumption) ?_
 rotate_left
 · intro w hSw
   (try dsimp only at hSw)
   obtain ⟨r0,r1,r2,r3,r4,r5,r6,r7,r8,r9,r10⟩:=z08 hSw.1;have s1:=hSw.2.1;have s2:=hSw.2.2
   go_simp
   try with_reducible rfl
 try simp only[List.getElem_toArray,List.getElem_cons_succ,List.getElem_cons_zero,Act.put,List.setIfInBounds_toArray,List.set_cons_zero,List.set_cons_succ]
 refine wpAnyH_take (i:=12) (v:=?_) rfl (by kernel_rfl) (by kernel_rfl) (by kernel_rfl) (fun _ _ _ h=>h) (Or.inl ⟨by rfl,?_⟩) (by assumption) ?_
 rotate_left
 · intro w hSw
   (try dsimp only at hSw)
   obtain ⟨r0,r1,r2,r3,r4,r5,r6,r7,r8,r9,r10⟩:=z08 hSw.1;have s1:=hSw.2.1;have s2:=hSw.2.2
   go_simp
   try with_reducible rfl
 try simp only[List.getElem_toArray,List.getElem_cons_succ,List.getElem_cons_zero,Act.put,List.setIfInBounds_toArray,List.set_cons_zero,List.set_cons_succ]
 refine wpAnyH_take (i:=13) (v:= .agg #[.int .i64 n.kind,.string n.data,.slice h.A n.ptrs.length h.a,.int .i64 n.size,.int .i64 n.count,.slice h.B n.items.length h.b]) rfl (by kernel_rfl) (by kernel_rfl) (by kernel_rfl) (fun _ _ _ h=>h) (Or.inl ⟨by rfl,?_⟩) (by assumption) ?_
 · intro w hSw
   obtain ⟨r0,r1,r2,r3,r4,r5,r6,r7,r8,r9,r10⟩:=z08 hSw.1;have s1:=hSw.2.1;have s2:=hSw.2.2
   go_simp
 try simp only[List.getElem_toArray,List.getElem_cons_succ,List.getElem_cons_zero,Act.put,List.setIfInBounds_toArray,List.set_cons_zero,List.set_cons_succ]
 refine wpAnyH_take (i:=14) (v:=?_) rfl (by kernel_rfl) (by kernel_rfl) (by kernel_rfl) (fun _ _ _ h=>h) (Or.inl ⟨by rfl,?_⟩) (by assumption) ?_
 rotate_left
 · intro w hSw
   (try dsimp only at hSw)
   obtain ⟨r0,r1,r2,r3,r4,r5,r6,r7,r8,r9,r10⟩:=z08 hSw.1;have s1:=hSw.2.1;have s2:=hSw.2.2
   go_simp
   try with_reducible rfl
 try simp only[List.getElem_toArray,List.getElem_cons_succ,List.getElem_cons_zero,Act.put,List.setIfInBounds_toArray,List.set_cons_zero,List.set_cons_succ]
 refine wpAnyH_take (i:=15) (v:=?_) rfl (by kernel_rfl) (by kernel_rfl) (by kernel_rfl) (fun _ _ _ h=>h) (Or.inl ⟨by rfl,?_⟩) (by assumption) ?_
 rotate_left
 · intro w hSw
   (try dsimp only at hSw)
   obtain ⟨r0,r1,r2,r3,r4,r5,r6,r7,r8,r9,r10⟩:=z08 hSw.1;have s1:=hSw.2.1;have s2:=hSw.2.2
   go_simp
   try with_reducible rfl
 try simp only[List.getElem_toArray,List.getElem_cons_succ,List.getElem_cons_zero,Act.put,List.setIfInBounds_toArray,List.set_cons_zero,List.set_cons_succ]
 refine wpAnyH_take (i:=16) (v:=?_) rfl (by kernel_rfl) (by kernel_rfl) (by kernel_rfl) (fun _ _ _ h=>h) (Or.inl ⟨by rfl,?_⟩) (by assumption) ?_
 rotate_left
 · intro w hSw
   (try dsimp only at hSw)
   obtain ⟨r0,r1,r2,r3,r4,r5,r6,r7,r8,r9,r10⟩:=z08 hSw.1;have s1:=hSw.2.1;have s2:=hSw.2.2
   go_simp
   try with_reducible rfl
 try simp only[List.getElem_toArray,List.getElem_cons_succ,List.getElem_cons_zero,Act.put,List.setIfInBounds_toArray,List.set_cons_zero,List.set_cons_succ]
 refine wpAnyH_take (i:=17) (v:=?_) rfl (by kernel_rfl) (by kernel_rfl) (by kernel_rfl) (fun _ _ _ h=>h) (Or.inl ⟨by rfl,?_⟩) (by assumption) ?_
 rotate_left
 · intro w hSw
   (try dsimp only at hSw)
   obtain ⟨r0,r1,r2,r3,r4,r5,r6,r7,r8,r9,r10⟩:=z08 hSw.1;have s1:=hSw.2.1;have s2:=hSw.2.2
   go_simp
   try with_reducible rfl
 try simp only[List.getElem_toArray,List.getElem_cons_succ,List.getElem_cons_zero,Act.put,List.setIfInBounds_toArray,List.set_cons_zero,List.set_cons_succ]
 refine wpAnyH_take (i:=18) (v:=?_) rfl (by kernel_rfl) (by kernel_rfl) (by kernel_rfl) (fun _ _ _ h=>h) (Or.inl ⟨by rfl,?_⟩) (by assumption) ?_
 rotate_left
 · intro w hSw
   (try dsimp only at hSw)
   obtain ⟨r0,r1,r2,r3,r4,r5,r6,r7,r8,r9,r10⟩:=z08 hSw.1;have s1:=hSw.2.1;have s2:=hSw.2.2
   go_simp
   try with_reducible rfl
 try simp only[List.getElem_toArray,List.getElem_cons_succ,List.getElem_cons_zero,Act.put,List.setIfInBounds_toArray,List.set_cons_zero,List.set_cons_succ]
 refine wpAnyH_take (i:=19) (v:=?_) rfl (by kernel_rfl) (by kernel_rfl) (by kernel_rfl) (fun _ _ _ h=>h) (Or.inl ⟨by rfl,?_⟩) (by assumption) ?_
 rotate_left
 · intro w hSw
   (try dsimp only at hSw)
   obtain ⟨r0,r1,r2,r3,r4,r5,r6,r7,r8,r9,r10⟩:=z08 hSw.1;have s1:=hSw.2.1;have s2:=hSw.2.2
   go_simp
   try with_reducible rfl
 try simp only[List.getElem_toArray,List.getElem_cons_succ,List.getElem_cons_zero,Act.put,List.setIfInBounds_toArray,List.set_cons_zero,List.set_cons_succ]
 refine wpAnyH_take (i:=20) (v:=?_) rfl (by kernel_rfl) (by kernel_rfl) (by kernel_rfl) (fun _ _ _ h=>h) (Or.inl ⟨by rfl,?_⟩) (by assumption) ?_
 rotate_left
 · intro w hSw
   (try dsimp only at hSw)
   obtain ⟨r0,r1,r2,r3,r4,r5,r6,r7,r8,r9,r10⟩:=z08 hSw.1;have s1:=hSw.2.1;have s2:=hSw.2.2
   go_simp
   try with_reducible rfl
 try simp only[List.getElem_toArray,List.getElem_cons_succ,List.getElem_cons_zero,Act.put,List.setIfInBounds_toArray,List.set_cons_zero,List.set_cons_succ]
 refine wpAnyH_take (i:=21) (v:=?_) rfl (by kernel_rfl) (by kernel_rfl) (by kernel_rfl) (fun _ _ _ h=>h) (Or.inl ⟨by rfl,?_⟩) (by assumption) ?_
 rotate_left
 · intro w hSw
   (try dsimp only at hSw)
   obtain ⟨r0,r1,r2,r3,r4,r5,r6,r7,r8,r9,r10⟩:=z08 hSw.1;have s1:=hSw.2.1;have s2:=hSw.2.2
   go_simp
   try with_reducible rfl
 try simp only[List.getElem_toArray,List.getElem_cons_succ,List.getElem_cons_zero,Act.put,List.setIfInBounds_toArray,List.set_cons_zero,List.set_cons_succ]
 refine wpAnyH_take (i:=22) (v:= .int .i64 (s:Int)) rfl (by kernel_rfl) (by kernel_rfl) (by kernel_rfl) (fun _ _ _ h=>h) (Or.inl ⟨by rfl,?_⟩) (by assumption) ?_
 · intro w hSw
   obtain ⟨r0,r1,r2,r3,r4,r5,r6,r7,r8,r9,r10⟩:=z08 hSw.1;have s1:=hSw.2.1;have s2:=hSw.2.2
   go_simp
 try simp only[List.getElem_toArray,List.getElem_cons_succ,List.getElem_cons_zero,Act.put,List.setIfInBounds_toArray,List.set_cons_zero,List.set_cons_succ]
 refine wpAnyH_ready (rs:= [8]) (by kernel_rfl) (by simp) ?_;refine AllReadyH.cons rfl (fun K hK=>?_) AllReadyH.nil
 go_simp
 go_at_call 61
 refine (HKK.out _ HC0.out).mono ?_;rintro e w2 ⟨gg,rfl,hb2,hcl⟩;have HCL:=hid hcl;have HC2:=hid (HC0.out.trans (hb2.mono HC0.out.size));have HU2:=hid ((hb2.block _ (z00 HUB.out)).trans HUB.out);have v0:=(HC2.out.block _ HGL.out).trans HR.out;have v1:=(HC2.out.cell (p:=x.add (k*3)) HXL.out).trans HFC.out;have v2:=(HC2.out.cell (p:=y.add k) HYL.out).trans HSC.out;clear hb2 hcl
 go_wp2_with fail
 refine hK.out _ _ ⟨v0,v1,v2⟩ (fun hHn=>?_);clear hK K hH0 v0 v1 v2
 try simp only[List.getElem_toArray,List.getElem_cons_succ,List.getElem_cons_zero,Act.put,List.setIfInBounds_toArray,List.set_cons_zero,List.set_cons_succ]
 have hfk:=HFK.out;unfold fnV;refine wpAnyH_take (i:=9) (v:=?_) rfl (by kernel_rfl) (by kernel_rfl) (by kernel_rfl) (fun _ _ _ h=>h) (Or.inl ⟨by rfl,?_⟩) (by assumption) ?_
 rotate_left
 · intro w hSw
   (try dsimp only at hSw)
   obtain ⟨r0,r1,r2,r3,r4,r5,r6,r7,r8,r9,r10⟩:=z08 hSw.1;have s1:=hSw.2.1;have s2:=hSw.2.2
   go_simp
   try with_reducible rfl
 try simp only[List.getElem_toArray,List.getElem_cons_succ,List.getElem_cons_zero,Act.put,List.setIfInBounds_toArray,List.set_cons_zero,List.set_cons_succ]
 clear hfk;refine wpAnyH_ready (rs:= [23]) (by kernel_rfl) (by simp) ?_;refine AllReadyH.cons rfl (fun K hK=>?_) AllReadyH.nil
 go_simp
 go_at_call 96
 refine (HCL.out _ (Below.refl _ _)).mono ?_;rintro e w3 ⟨rfl,hb3⟩;have HC3:=hid (HC2.out.trans (hb3.mono HC2.out.size));have HU3:=hid ((hb3.block _ (z00 HU2.out)).trans HU2.out);have v0:=(HC3.out.block _ HGL.out).trans HR.out;have v1:=(HC3.out.cell (p:=x.add (k*3)) HXL.out).trans HFC.out;have v2:=(HC3.out.cell (p:=y.add k) HYL.out).trans HSC.out;clear hb3
 go_wp2_with fail
 refine hK.out _ _ ⟨v0,v1,v2⟩ (fun hHm=>?_);clear hK K hHn v0 v1 v2
 try simp only[List.getElem_toArray,List.getElem_cons_succ,List.getElem_cons_zero,Act.put,List.setIfInBounds_toArray,List.set_cons_zero,List.set_cons_succ]
 refine wpAnyH_ready (rs:= [24]) (by kernel_rfl) (by simp) ?_;refine AllReadyH.cons rfl (fun K hK=>?_) AllReadyH.nil;obtain ⟨z0,z1,z2,z3,z4,z5,z6⟩:=z09 HU3.out;have zf:=z03 HU3.out
 go_simp
 obtain ⟨wf,hwf,hrw,hbf,hkf⟩:=finV (w:=w) (R:=w.heap.size) (.int .i64 xv) (.int .i64 yv.kind) (.string yv.data) (.slice hv.A yv.ptrs.length hv.a) (.int .i64 yv.size) (.int .i64 yv.count) (.slice hv.B yv.items.length hv.b) HU3.out HC3.out (Nat.le_refl _);have HWF:=hid hwf;have HRW:=hid hrw;have HC4:=hid hbf;have v0:=(HC4.out.block _ HGL.out).trans HR.out;have v1:=(HC4.out.cell (p:=x.add (k*3)) HXL.out).trans HFC.out;have v2:=(HC4.out.cell (p:=y.add k) HYL.out).trans HSC.out;clear hwf hrw hbf hkf z0 z1 z2 z3 z4 z5 z6 zf;rw[HWF.out];refine hK.out _ _ ⟨v0,v1,v2⟩ (fun hHl=>?_);clear hK K hHm v0 v1 v2
 try simp only[List.getElem_toArray,List.getElem_cons_succ,List.getElem_cons_zero,Act.put,List.setIfInBounds_toArray,List.set_cons_zero,List.set_cons_succ]
 refine wpAnyH_done (by kernel_rfl) ?_ _;clear hHl;go_wp2;obtain ⟨e0,e1,e2,e3,e4,e5,e6⟩:=z09 HRW.out;exact bodyPost_ret (v:= .agg #[.int .i64 xv,.int .i64 yv.kind,.string yv.data,.slice hv.A yv.ptrs.length hv.a,.int .i64 yv.size,.int .i64 yv.count,.slice hv.B yv.items.length hv.b]) (by simp[results,Tryz.results62,go_sem,e0,e1,e2,e3,e4,e5,e6]) rfl ⟨rfl,HC4.out⟩
theorem zkw (g:Nat)(x y:Addr)(c cy:Nat)(l:List Fld)(n:Nd)(h:Hd)(k:Nat)(hk:k<l.length)(z:Int)(s:Nat)(w:World)(hr:RecAt w g (some x) l.length c l (.slice (some y) l.length cy) n h)(hxb:x.block<w.heap.size)(hyb:y.block<w.heap.size)(hf:w.cell? (x.add (k*3))=some (.int .i64 z))(hs:w.cell? (y.add k)=some (.int .i64 (s:Int)))(hl:l.length≤12)(xv:Int)(yv:Nd)(hv:Hd)
 (HK:∀W:World,Below w.heap.size w W→Calls Tryz.prog 61 #[.int .i64 z] W fun e w'=>∃gg,e= .returned (.agg #[fnV 99,gg])∧Below W.heap.size W w'∧∀V:World,Below w'.heap.size w' V→Calls Tryz.prog 99 #[.agg #[.int .i64 n.kind,.string n.data,.slice h.A n.ptrs.length h.a,.int .i64 n.size,.int .i64 n.count,.slice h.B n.items.length h.b],.int .i64 (s:Int)] V fun e w''=>e= .returned (.agg #[.int .i64 xv,.int .i64 yv.kind,.string yv.data,.slice hv.A yv.ptrs.length hv.a,.int .i64 yv.size,.int .i64 yv.count,.slice hv.B yv.items.length hv.b])∧Below V.heap.size V w'') :
 Calls Tryz.prog 62 #[.pointer (some ⟨g,0,none⟩),.int .i64 (k:Int)] w fun e w'=>e= .returned (.agg #[.int .i64 xv,.int .i64 yv.kind,.string yv.data,.slice hv.A yv.ptrs.length hv.a,.int .i64 yv.size,.int .i64 yv.count,.slice hv.B yv.items.length hv.b])∧Below w.heap.size w w':=by
 have HKK:=hid HK;have HR:=hid hr;unfold RecAt at HR;have HGL:=hid (z00 hr);have HXL:Hid ((x.add (k*3)).block<w.heap.size):=hid (by rw[z05]; exact hxb);have HYL:Hid ((y.add k).block<w.heap.size):=hid (by rw[z05]; exact hyb);have HFC:=hid hf;have HSC:=hid hs;have HFK:=hid z5n;have hba:=(Below.refl w.heap.size w).alloc (Nat.le_refl _) (.cells #[.int .i64 0,.int .i64 0,.string { data:= #[] },.slice none 0 0,.int .i64 0,.int .i64 0,.slice none 0 0] valT);have HBA:=hid hba;have HRA:=hid (heap_alloc_new w (.cells #[.int .i64 0,.int .i64 0,.string { data:= #[] },.slice none 0 0,.int .i64 0,.int .i64 0,.slice none 0 0] valT));clear HK hr hxb hyb hf hs hba;go_enter Tryz.func62,Tryz.ntmps62
 go_wp2_with fail
 generalize w.alloc (.cells #[.int .i64 0,.int .i64 0,.string { data:= #[] },.slice none 0 0,.int .i64 0,.int .i64 0,.slice none 0 0] valT)=W at *;have HDR:Hid (Below W.heap.size W W.drew):=hid ⟨rfl,rfl,rfl,Nat.le_refl _,fun _ _=>rfl⟩;have HC0:=hid (HBA.out.trans (HDR.out.mono HBA.out.size));have v0:=(HC0.out.block _ HGL.out).trans HR.out;have v1:=(HC0.out.cell (p:=x.add (k*3)) HXL.out).trans HFC.out;have v2:=(HC0.out.cell (p:=y.add k) HYL.out).trans HSC.out;have hub:=(HDR.out.block _ (z00 HRA.out)).trans HRA.out;have HUB:=hid hub;clear hub;refine wp_region_held_drew (S:=(fun V=>V.heap[g]? =some (.cells #[.slice (some x) l.length c,.int .i64 ((layF l ps0).2.ls.words:Int),.int .i64 ((layF l ps0).2.ptrs:Int),.slice (some y) l.length cy,.int .i64 (tagL l),.int .i64 n.kind,.string n.data,.slice h.A n.ptrs.length h.a,.int .i64 n.size,.int .i64 n.count,.slice h.B n.items.length h.b] recT (0,0))∧V.cell? (x.add (k*3))=some (.int .i64 z)∧V.cell? (y.add k)=some (.int .i64 (s:Int)))) (by kernel_rfl) ?_ (fun hH0=>?_)
 · exact ⟨v0,v1,v2⟩
 clear v0 v1 v2;refine wpAnyH_take (i:=0) (v:=?_) rfl (by kernel_rfl) (by kernel_rfl) (by kernel_rfl) (fun _ _ _ h=>h) (Or.inl ⟨by rfl,?_⟩) (by assumption) ?_
 rotate_left
 · intro w hSw
   (try dsimp only at hSw)
   obtain ⟨r0,r1,r2,r3,r4,r5,r6,r7,r8,r9,r10⟩:=z08 hSw.1;have s1:=hSw.2.1;have s2:=hSw.2.2
   go_simp
   try with_reducible rfl
 try simp only[List.getElem_toArray,List.getElem_cons_succ,List.getElem_cons_zero,Act.put,List.setIfInBounds_toArray,List.set_cons_zero,List.set_cons_succ]
 refine wpAnyH_take (i:=1) (v:=?_) rfl (by kernel_rfl) (by kernel_rfl) (by kernel_rfl) (fun _ _ _ h=>h) (Or.inl ⟨by rfl,?_⟩) (by assumption) ?_
 rotate_left
 · intro w hSw
   (try dsimp only at hSw)
   obtain ⟨r0,r1,r2,r3,r4,r5,r6,r7,r8,r9,r10⟩:=z08 hSw.1;have s1:=hSw.2.1;have s2:=hSw.2.2
   go_simp
   try with_reducible rfl
 try simp only[List.getElem_toArray,List.getElem_cons_succ,List.getElem_cons_zero,Act.put,List.setIfInBounds_toArray,List.set_cons_zero,List.set_cons_succ]
 refine wpAnyH_take (i:=2) (v:=?_) rfl (by kernel_rfl) (by kernel_rfl) (by kernel_rfl) (fun _ _ _ h=>h) (Or.inl ⟨by rfl,?_⟩) (by assumption) ?_
 rotate_left
 · intro w hSw
   (try dsimp only at hSw)
   obtain ⟨r0,r1,r2,r3,r4,r5,r6,r7,r8,r9,r10⟩:=z08 hSw.1;have s1:=hSw.2.1;have s2:=hSw.2.2
   go_simp
   try with_reducible rfl
 try simp only[List.getElem_toArray,List.getElem_cons_succ,List.getElem_cons_zero,Act.put,List.setIfInBounds_toArray,List.set_cons_zero,List.set_cons_succ]
 refine wpAnyH_take (i:=3) (v:=?_) rfl (by kernel_rfl) (by kernel_rfl) (by kernel_rfl) (fun _ _ _ h=>h) (Or.inl ⟨by rfl,?_⟩) (by assumption) ?_
 rotate_left
 · intro w hSw
   (try dsimp only at hSw)
   obtain ⟨r0,r1,r2,r3,r4,r5,r6,r7,r8,r9,r10⟩:=z08 hSw.1;have s1:=hSw.2.1;have s2:=hSw.2.2
   go_simp
   try with_reducible rfl
 try simp only[List.getElem_toArray,List.getElem_cons_succ,List.getElem_cons_zero,Act.put,List.setIfInBounds_toArray,List.set_cons_zero,List.set_cons_succ]
 refine wpAnyH_take (i:=4) (v:=?_) rfl (by kernel_rfl) (by kernel_rfl) (by kernel_rfl) (fun _ _ _ h=>h) (Or.inl ⟨by rfl,?_⟩) (by assumption) ?_
 rotate_left
 · intro w hSw
   (try dsimp only at hSw)
   obtain ⟨r0,r1,r2,r3,r4,r5,r6,r7,r8,r9,r10⟩:=z08 hSw.1;have s1:=hSw.2.1;have s2:=hSw.2.2
   go_simp
   try with_reducible rfl
 try simp only[List.getElem_toArray,List.getElem_cons_succ,List.getElem_cons_zero,Act.put,List.setIfInBounds_toArray,List.set_cons_zero,List.set_cons_succ]
 refine wpAnyH_take (i:=5) (v:=?_) rfl (by kernel_rfl) (by kernel_rfl) (by kernel_rfl) (fun _ _ _ h=>h) (Or.inl ⟨by rfl,?_⟩) (by assumption) ?_
 rotate_left
 · intro w hSw
   (try dsimp only at hSw)
   obtain ⟨r0,r1,r2,r3,r4,r5,r6,r7,r8,r9,r10⟩:=z08 hSw.1;have s1:=hSw.2.1;have s2:=hSw.2.2
   go_simp
   try with_reducible rfl
 try simp only[List.getElem_toArray,List.getElem_cons_succ,List.getElem_cons_zero,Act.put,List.setIfInBounds_toArray,List.set_cons_zero,List.set_cons_succ]
 refine wpAnyH_take (i:=6) (v:=?_) rfl (by kernel_rfl) (by kernel_rfl) (by kernel_rfl) (fun _ _ _ h=>h) (Or.inl ⟨by rfl,?_⟩) (by assumption) ?_
 rotate_left
 · intro w hSw
   (try dsimp only at hSw)
   obtain ⟨r0,r1,r2,r3,r4,r5,r6,r7,r8,r9,r10⟩:=z08 hSw.1;have s1:=hSw.2.1;have s2:=hSw.2.2
   go_simp
   try with_reducible rfl
 try simp only[List.getElem_toArray,List.getElem_cons_succ,List.getElem_cons_zero,Act.put,List.setIfInBounds_toArray,List.set_cons_zero,List.set_cons_succ]
 refine wpAnyH_take (i:=7) (v:= .int .i64 z) rfl (by kernel_rfl) (by kernel_rfl) (by kernel_rfl) (fun _ _ _ h=>h) (Or.inl ⟨by rfl,?_⟩) (by assumption) ?_
 · intro w hSw
   obtain ⟨r0,r1,r2,r3,r4,r5,r6,r7,r8,r9,r10⟩:=z08 hSw.1;have s1:=hSw.2.1;have s2:=hSw.2.2
   go_simp
 try simp only[List.getElem_toArray,List.getElem_cons_succ,List.getElem_cons_zero,Act.put,List.setIfInBounds_toArray,List.set_cons_zero,List.set_cons_succ]
 refine wpAnyH_take (i:=10) (v:=?_) rfl (by kernel_rfl) (by kernel_rfl) (by kernel_rfl) (fun _ _ _ h=>h) (Or.inl ⟨by rfl,?_⟩) (by assumption) ?_
 rotate_left
 · intro w hSw
   (try dsimp only at hSw)
   obtain ⟨r0,r1,r2,r3,r4,r5,r6,r7,r8,r9,r10⟩:=z08 hSw.1;have s1:=hSw.2.1;have s2:=hSw.2.2
   go_simp
   try with_reducible rfl
 try simp only[List.getElem_toArray,List.getElem_cons_succ,List.getElem_cons_zero,Act.put,List.setIfInBounds_toArray,List.set_cons_zero,List.set_cons_succ]
 refine wpAnyH_take (i:=11) (v:=?_) rfl (by kernel_rfl) (by kernel_rfl) (by kernel_rfl) (fun _ _ _ h=>h) (Or.inl ⟨by rfl,?_⟩) (by assumption) ?_
 rotate_left
 · intro w hSw
   (try dsimp only at hSw)
   obtain ⟨r0,r1,r2,r3,r4,r5,r6,r7,r8,r9,r10⟩:=z08 hSw.1;have s1:=hSw.2.1;have s2:=hSw.2.2
   go_simp
   try with_reducible rfl
 try simp only[List.getElem_toArray,List.getElem_cons_succ,List.getElem_cons_zero,Act.put,List.setIfInBounds_toArray,List.set_cons_zero,List.set_cons_succ]
 refine wpAnyH_take (i:=12) (v:=?_) rfl (by kernel_rfl) (by kernel_rfl) (by kernel_rfl) (fun _ _ _ h=>h) (Or.inl ⟨by rfl,?_⟩) (by assumption) ?_
 rotate_left
 · intro w hSw
   (try dsimp only at hSw)
   obtain ⟨r0,r1,r2,r3,r4,r5,r6,r7,r8,r9,r10⟩:=z08 hSw.1;have s1:=hSw.2.1;have s2:=hSw.2.2
   go_simp
   try with_reducible rfl
 try simp only[List.getElem_toArray,List.getElem_cons_succ,List.getElem_cons_zero,Act.put,List.setIfInBounds_toArray,List.set_cons_zero,List.set_cons_succ]
 refine wpAnyH_take (i:=13) (v:= .agg #[.int .i64 n.kind,.string n.data,.slice h.A n.ptrs.length h.a,.int .i64 n.size,.int .i64 n.count,.slice h.B n.items.length h.b]) rfl (by kernel_rfl) (by kernel_rfl) (by kernel_rfl) (fun _ _ _ h=>h) (Or.inl ⟨by rfl,?_⟩) (by assumption) ?_
 · intro w hSw
   obtain ⟨r0,r1,r2,r3,r4,r5,r6,r7,r8,r9,r10⟩:=z08 hSw.1;have s1:=hSw.2.1;have s2:=hSw.2.2
   go_simp
 try simp only[List.getElem_toArray,List.getElem_cons_succ,List.getElem_cons_zero,Act.put,List.setIfInBounds_toArray,List.set_cons_zero,List.set_cons_succ]
 refine wpAnyH_take (i:=14) (v:=?_) rfl (by kernel_rfl) (by kernel_rfl) (by kernel_rfl) (fun _ _ _ h=>h) (Or.inl ⟨by rfl,?_⟩) (by assumption) ?_
 rotate_left
 · intro w hSw
   (try dsimp only at hSw)
   obtain ⟨r0,r1,r2,r3,r4,r5,r6,r7,r8,r9,r10⟩:=z08 hSw.1;have s1:=hSw.2.1;have s2:=hSw.2.2
   go_simp
   try with_reducible rfl
 try simp only[List.getElem_toArray,List.getElem_cons_succ,List.getElem_cons_zero,Act.put,List.setIfInBounds_toArray,List.set_cons_zero,List.set_cons_succ]
 refine wpAnyH_take (i:=15) (v:=?_) rfl (by kernel_rfl) (by kernel_rfl) (by kernel_rfl) (fun _ _ _ h=>h) (Or.inl ⟨by rfl,?_⟩) (by assumption) ?_
 rotate_left
 · intro w hSw
   (try dsimp only at hSw)
   obtain ⟨r0,r1,r2,r3,r4,r5,r6,r7,r8,r9,r10⟩:=z08 hSw.1;have s1:=hSw.2.1;have s2:=hSw.2.2
   go_simp
   try with_reducible rfl
 try simp only[List.getElem_toArray,List.getElem_cons_succ,List.getElem_cons_zero,Act.put,List.setIfInBounds_toArray,List.set_cons_zero,List.set_cons_succ]
 refine wpAnyH_take (i:=16) (v:=?_) rfl (by kernel_rfl) (by kernel_rfl) (by kernel_rfl) (fun _ _ _ h=>h) (Or.inl ⟨by rfl,?_⟩) (by assumption) ?_
 rotate_left
 · intro w hSw
   (try dsimp only at hSw)
   obtain ⟨r0,r1,r2,r3,r4,r5,r6,r7,r8,r9,r10⟩:=z08 hSw.1;have s1:=hSw.2.1;have s2:=hSw.2.2
   go_simp
   try with_reducible rfl
 try simp only[List.getElem_toArray,List.getElem_cons_succ,List.getElem_cons_zero,Act.put,List.setIfInBounds_toArray,List.set_cons_zero,List.set_cons_succ]
 refine wpAnyH_take (i:=17) (v:=?_) rfl (by kernel_rfl) (by kernel_rfl) (by kernel_rfl) (fun _ _ _ h=>h) (Or.inl ⟨by rfl,?_⟩) (by assumption) ?_
 rotate_left
 · intro w hSw
   (try dsimp only at hSw)
   obtain ⟨r0,r1,r2,r3,r4,r5,r6,r7,r8,r9,r10⟩:=z08 hSw.1;have s1:=hSw.2.1;have s2:=hSw.2.2
   go_simp
   try with_reducible rfl
 try simp only[List.getElem_toArray,List.getElem_cons_succ,List.getElem_cons_zero,Act.put,List.setIfInBounds_toArray,List.set_cons_zero,List.set_cons_succ]
 refine wpAnyH_take (i:=18) (v:=?_) rfl (by kernel_rfl) (by kernel_rfl) (by kernel_rfl) (fun _ _ _ h=>h) (Or.inl ⟨by rfl,?_⟩) (by assumption) ?_
 rotate_left
 · intro w hSw
   (try dsimp only at hSw)
   obtain ⟨r0,r1,r2,r3,r4,r5,r6,r7,r8,r9,r10⟩:=z08 hSw.1;have s1:=hSw.2.1;have s2:=hSw.2.2
   go_simp
   try with_reducible rfl
 try simp only[List.getElem_toArray,List.getElem_cons_succ,List.getElem_cons_zero,Act.put,List.setIfInBounds_toArray,List.set_cons_zero,List.set_cons_succ]
 refine wpAnyH_take (i:=19) (v:=?_) rfl (by kernel_rfl) (by kernel_rfl) (by kernel_rfl) (fun _ _ _ h=>h) (Or.inl ⟨by rfl,?_⟩) (by assumption) ?_
 rotate_left
 · intro w hSw
   (try dsimp only at hSw)
   obtain ⟨r0,r1,r2,r3,r4,r5,r6,r7,r8,r9,r10⟩:=z08 hSw.1;have s1:=hSw.2.1;have s2:=hSw.2.2
   go_simp
   try with_reducible rfl
 try simp only[List.getElem_toArray,List.getElem_cons_succ,List.getElem_cons_zero,Act.put,List.setIfInBounds_toArray,List.set_cons_zero,List.set_cons_succ]
 refine wpAnyH_take (i:=20) (v:=?_) rfl (by kernel_rfl) (by kernel_rfl) (by kernel_rfl) (fun _ _ _ h=>h) (Or.inl ⟨by rfl,?_⟩) (by assumption) ?_
 rotate_left
 · intro w hSw
   (try dsimp only at hSw)
   obtain ⟨r0,r1,r2,r3,r4,r5,r6,r7,r8,r9,r10⟩:=z08 hSw.1;have s1:=hSw.2.1;have s2:=hSw.2.2
   go_simp
   try with_reducible rfl
 try simp only[List.getElem_toArray,List.getElem_cons_succ,List.getElem_cons_zero,Act.put,List.setIfInBounds_toArray,List.set_cons_zero,List.set_cons_succ]
 refine wpAnyH_take (i:=21) (v:=?_) rfl (by kernel_rfl) (by kernel_rfl) (by kernel_rfl) (fun _ _ _ h=>h) (Or.inl ⟨by rfl,?_⟩) (by assumption) ?_
 rotate_left
 · intro w hSw
   (try dsimp only at hSw)
   obtain ⟨r0,r1,r2,r3,r4,r5,r6,r7,r8,r9,r10⟩:=z08 hSw.1;have s1:=hSw.2.1;have s2:=hSw.2.2
   go_simp
   try with_reducible rfl
 try simp only[List.getElem_toArray,List.getElem_cons_succ,List.getElem_cons_zero,Act.put,List.setIfInBounds_toArray,List.set_cons_zero,List.set_cons_succ]
 refine wpAnyH_take (i:=22) (v:= .int .i64 (s:Int)) rfl (by kernel_rfl) (by kernel_rfl) (by kernel_rfl) (fun _ _ _ h=>h) (Or.inl ⟨by rfl,?_⟩) (by assumption) ?_
 · intro w hSw
   obtain ⟨r0,r1,r2,r3,r4,r5,r6,r7,r8,r9,r10⟩:=z08 hSw.1;have s1:=hSw.2.1;have s2:=hSw.2.2
   go_simp
 try simp only[List.getElem_toArray,List.getElem_cons_succ,List.getElem_cons_zero,Act.put,List.setIfInBounds_toArray,List.set_cons_zero,List.set_cons_succ]
 refine wpAnyH_ready (rs:= [8]) (by kernel_rfl) (by simp) ?_;refine AllReadyH.cons rfl (fun K hK=>?_) AllReadyH.nil
 go_simp
 go_at_call 61
 refine (HKK.out _ HC0.out).mono ?_;rintro e w2 ⟨gg,rfl,hb2,hcl⟩;have HCL:=hid hcl;have HC2:=hid (HC0.out.trans (hb2.mono HC0.out.size));have HU2:=hid ((hb2.block _ (z00 HUB.out)).trans HUB.out);have v0:=(HC2.out.block _ HGL.out).trans HR.out;have v1:=(HC2.out.cell (p:=x.add (k*3)) HXL.out).trans HFC.out;have v2:=(HC2.out.cell (p:=y.add k) HYL.out).trans HSC.out;clear hb2 hcl
 go_wp2_with fail
 refine hK.out _ _ ⟨v0,v1,v2⟩ (fun hHn=>?_);clear hK K hH0 v0 v1 v2
 try simp only[List.getElem_toArray,List.getElem_cons_succ,List.getElem_cons_zero,Act.put,List.setIfInBounds_toArray,List.set_cons_zero,List.set_cons_succ]
 have hfk:=HFK.out;unfold fnV;refine wpAnyH_take (i:=9) (v:=?_) rfl (by kernel_rfl) (by kernel_rfl) (by kernel_rfl) (fun _ _ _ h=>h) (Or.inl ⟨by rfl,?_⟩) (by assumption) ?_
 rotate_left
 · intro w hSw
   (try dsimp only at hSw)
   obtain ⟨r0,r1,r2,r3,r4,r5,r6,r7,r8,r9,r10⟩:=z08 hSw.1;have s1:=hSw.2.1;have s2:=hSw.2.2
   go_simp
   try with_reducible rfl
 try simp only[List.getElem_toArray,List.getElem_cons_succ,List.getElem_cons_zero,Act.put,List.setIfInBounds_toArray,List.set_cons_zero,List.set_cons_succ]
 clear hfk;refine wpAnyH_ready (rs:= [23]) (by kernel_rfl) (by simp) ?_;refine AllReadyH.cons rfl (fun K hK=>?_) AllReadyH.nil
 go_simp
 go_at_call 99
 refine (HCL.out _ (Below.refl _ _)).mono ?_;rintro e w3 ⟨rfl,hb3⟩;have HC3:=hid (HC2.out.trans (hb3.mono HC2.out.size));have HU3:=hid ((hb3.block _ (z00 HU2.out)).trans HU2.out);have v0:=(HC3.out.block _ HGL.out).trans HR.out;have v1:=(HC3.out.cell (p:=x.add (k*3)) HXL.out).trans HFC.out;have v2:=(HC3.out.cell (p:=y.add k) HYL.out).trans HSC.out;clear hb3
 go_wp2_with fail
 refine hK.out _ _ ⟨v0,v1,v2⟩ (fun hHm=>?_);clear hK K hHn v0 v1 v2
 try simp only[List.getElem_toArray,List.getElem_cons_succ,List.getElem_cons_zero,Act.put,List.setIfInBounds_toArray,List.set_cons_zero,List.set_cons_succ]
 refine wpAnyH_ready (rs:= [24]) (by kernel_rfl) (by simp) ?_;refine AllReadyH.cons rfl (fun K hK=>?_) AllReadyH.nil;obtain ⟨z0,z1,z2,z3,z4,z5,z6⟩:=z09 HU3.out;have zf:=z03 HU3.out
 go_simp
 obtain ⟨wf,hwf,hrw,hbf,hkf⟩:=finV (w:=w) (R:=w.heap.size) (.int .i64 xv) (.int .i64 yv.kind) (.string yv.data) (.slice hv.A yv.ptrs.length hv.a) (.int .i64 yv.size) (.int .i64 yv.count) (.slice hv.B yv.items.length hv.b) HU3.out HC3.out (Nat.le_refl _);have HWF:=hid hwf;have HRW:=hid hrw;have HC4:=hid hbf;have v0:=(HC4.out.block _ HGL.out).trans HR.out;have v1:=(HC4.out.cell (p:=x.add (k*3)) HXL.out).trans HFC.out;have v2:=(HC4.out.cell (p:=y.add k) HYL.out).trans HSC.out;clear hwf hrw hbf hkf z0 z1 z2 z3 z4 z5 z6 zf;rw[HWF.out];refine hK.out _ _ ⟨v0,v1,v2⟩ (fun hHl=>?_);clear hK K hHm v0 v1 v2
 try simp only[List.getElem_toArray,List.getElem_cons_succ,List.getElem_cons_zero,Act.put,List.setIfInBounds_toArray,List.set_cons_zero,List.set_cons_succ]
 refine wpAnyH_done (by kernel_rfl) ?_ _;clear hHl;go_wp2;obtain ⟨e0,e1,e2,e3,e4,e5,e6⟩:=z09 HRW.out;exact bodyPost_ret (v:= .agg #[.int .i64 xv,.int .i64 yv.kind,.string yv.data,.slice hv.A yv.ptrs.length hv.a,.int .i64 yv.size,.int .i64 yv.count,.slice hv.B yv.items.length hv.b]) (by simp[results,Tryz.results62,go_sem,e0,e1,e2,e3,e4,e5,e6]) rfl ⟨rfl,HC4.out⟩
theorem zna (g:Nat)(x y:Addr)(c cy:Nat)(l:List Fld)(n:Nd)(h:Hd)(k:Nat)(hk:k<l.length)(z:Int)(s:Nat)(w:World)(hr:RecAt w g (some x) l.length c l (.slice (some y) l.length cy) n h)(hxb:x.block<w.heap.size)(hyb:y.block<w.heap.size)(hf:w.cell? (x.add (k*3))=some (.int .i64 z))(hs:w.cell? (y.add k)=some (.int .i64 (s:Int)))(hl:l.length≤12)(xv:Int)(yv:Nd)(hv:Hd)
 (HK:∀W:World,Below w.heap.size w W→Calls Tryz.prog 61 #[.int .i64 z] W fun e w'=>∃b gg,e= .returned (.agg #[nK1 b,gg])∧Below W.heap.size W w'∧∀V:World,Below w'.heap.size w' V→Calls Tryz.prog 127 #[.agg #[.int .i64 n.kind,.string n.data,.slice h.A n.ptrs.length h.a,.int .i64 n.size,.int .i64 n.count,.slice h.B n.items.length h.b],.int .i64 (s:Int),.pointer (some ⟨b,0,none⟩)] V fun e w''=>e= .returned (.agg #[.int .i64 xv,.int .i64 yv.kind,.string yv.data,.slice hv.A yv.ptrs.length hv.a,.int .i64 yv.size,.int .i64 yv.count,.slice hv.B yv.items.length hv.b])∧Below V.heap.size V w'') :
 Calls Tryz.prog 62 #[.pointer (some ⟨g,0,none⟩),.int .i64 (k:Int)] w fun e w'=>e= .returned (.agg #[.int .i64 xv,.int .i64 yv.kind,.string yv.data,.slice hv.A yv.ptrs.length hv.a,.int .i64 yv.size,.int .i64 yv.count,.slice hv.B yv.items.length hv.b])∧Below w.heap.size w w':=by
 have HKK:=hid HK;have HR:=hid hr;unfold RecAt at HR;have HGL:=hid (z00 hr);have HXL:Hid ((x.add (k*3)).block<w.heap.size):=hid (by rw[z05]; exact hxb);have HYL:Hid ((y.add k).block<w.heap.size):=hid (by rw[z05]; exact hyb);have HFC:=hid hf;have HSC:=hid hs;have HFK:=hid z5n;have hba:=(Below.refl w.heap.size w).alloc (Nat.le_refl _) (.cells #[.int .i64 0,.int .i64 0,.string { data:= #[] },.slice none 0 0,.int .i64 0,.int .i64 0,.slice none 0 0] valT);have HBA:=hid hba;have HRA:=hid (heap_alloc_new w (.cells #[.int .i64 0,.int .i64 0,.string { data:= #[] },.slice none 0 0,.int .i64 0,.int .i64 0,.slice none 0 0] valT));clear HK hr hxb hyb hf hs hba;go_enter Tryz.func62,Tryz.ntmps62
 go_wp2_with fail
 generalize w.alloc (.cells #[.int .i64 0,.int .i64 0,.string { data:= #[] },.slice none 0 0,.int .i64 0,.int .i64 0,.slice none 0 0] valT)=W at *;have HDR:Hid (Below W.heap.size W W.drew):=hid ⟨rfl,rfl,rfl,Nat.le_refl _,fun _ _=>rfl⟩;have HC0:=hid (HBA.out.trans (HDR.out.mono HBA.out.size));have v0:=(HC0.out.block _ HGL.out).trans HR.out;have v1:=(HC0.out.cell (p:=x.add (k*3)) HXL.out).trans HFC.out;have v2:=(HC0.out.cell (p:=y.add k) HYL.out).trans HSC.out;have hub:=(HDR.out.block _ (z00 HRA.out)).trans HRA.out;have HUB:=hid hub;clear hub;refine wp_region_held_drew (S:=(fun V=>V.heap[g]? =some (.cells #[.slice (some x) l.length c,.int .i64 ((layF l ps0).2.ls.words:Int),.int .i64 ((layF l ps0).2.ptrs:Int),.slice (some y) l.length cy,.int .i64 (tagL l),.int .i64 n.kind,.string n.data,.slice h.A n.ptrs.length h.a,.int .i64 n.size,.int .i64 n.count,.slice h.B n.items.length h.b] recT (0,0))∧V.cell? (x.add (k*3))=some (.int .i64 z)∧V.cell? (y.add k)=some (.int .i64 (s:Int)))) (by kernel_rfl) ?_ (fun hH0=>?_)
 · exact ⟨v0,v1,v2⟩
 clear v0 v1 v2;refine wpAnyH_take (i:=0) (v:=?_) rfl (by kernel_rfl) (by kernel_rfl) (by kernel_rfl) (fun _ _ _ h=>h) (Or.inl ⟨by rfl,?_⟩) (by assumption) ?_
 rotate_left
 · intro w hSw
   (try dsimp only at hSw)
   obtain ⟨r0,r1,r2,r3,r4,r5,r6,r7,r8,r9,r10⟩:=z08 hSw.1;have s1:=hSw.2.1;have s2:=hSw.2.2
   go_simp
   try with_reducible rfl
 try simp only[List.getElem_toArray,List.getElem_cons_succ,List.getElem_cons_zero,Act.put,List.setIfInBounds_toArray,List.set_cons_zero,List.set_cons_succ]
 refine wpAnyH_take (i:=1) (v:=?_) rfl (by kernel_rfl) (by kernel_rfl) (by kernel_rfl) (fun _ _ _ h=>h) (Or.inl ⟨by rfl,?_⟩) (by assumption) ?_
 rotate_left
 · intro w hSw
   (try dsimp only at hSw)
   obtain ⟨r0,r1,r2,r3,r4,r5,r6,r7,r8,r9,r10⟩:=z08 hSw.1;have s1:=hSw.2.1;have s2:=hSw.2.2
   go_simp
   try with_reducible rfl
 try simp only[List.getElem_toArray,List.getElem_cons_succ,List.getElem_cons_zero,Act.put,List.setIfInBounds_toArray,List.set_cons_zero,List.set_cons_succ]
 refine wpAnyH_take (i:=2) (v:=?_) rfl (by kernel_rfl) (by kernel_rfl) (by kernel_rfl) (fun _ _ _ h=>h) (Or.inl ⟨by rfl,?_⟩) (by assumption) ?_
 rotate_left
 · intro w hSw
   (try dsimp only at hSw)
   obtain ⟨r0,r1,r2,r3,r4,r5,r6,r7,r8,r9,r10⟩:=z08 hSw.1;have s1:=hSw.2.1;have s2:=hSw.2.2
   go_simp
   try with_reducible rfl
 try simp only[List.getElem_toArray,List.getElem_cons_succ,List.getElem_cons_zero,Act.put,List.setIfInBounds_toArray,List.set_cons_zero,List.set_cons_succ]
 refine wpAnyH_take (i:=3) (v:=?_) rfl (by kernel_rfl) (by kernel_rfl) (by kernel_rfl) (fun _ _ _ h=>h) (Or.inl ⟨by rfl,?_⟩) (by assumption) ?_
 rotate_left
 · intro w hSw
   (try dsimp only at hSw)
   obtain ⟨r0,r1,r2,r3,r4,r5,r6,r7,r8,r9,r10⟩:=z08 hSw.1;have s1:=hSw.2.1;have s2:=hSw.2.2
   go_simp
   try with_reducible rfl
 try simp only[List.getElem_toArray,List.getElem_cons_succ,List.getElem_cons_zero,Act.put,List.setIfInBounds_toArray,List.set_cons_zero,List.set_cons_succ]
 refine wpAnyH_take (i:=4) (v:=?_) rfl (by kernel_rfl) (by kernel_rfl) (by kernel_rfl) (fun _ _ _ h=>h) (Or.inl ⟨by rfl,?_⟩) (by assumption) ?_
 rotate_left
 · intro w hSw
   (try dsimp only at hSw)
   obtain ⟨r0,r1,r2,r3,r4,r5,r6,r7,r8,r9,r10⟩:=z08 hSw.1;have s1:=hSw.2.1;have s2:=hSw.2.2
   go_simp
   try with_reducible rfl
 try simp only[List.getElem_toArray,List.getElem_cons_succ,List.getElem_cons_zero,Act.put,List.setIfInBounds_toArray,List.set_cons_zero,List.set_cons_succ]
 refine wpAnyH_take (i:=5) (v:=?_) rfl (by kernel_rfl) (by kernel_rfl) (by kernel_rfl) (fun _ _ _ h=>h) (Or.inl ⟨by rfl,?_⟩) (by assumption) ?_
 rotate_left
 · intro w hSw
   (try dsimp only at hSw)
   obtain ⟨r0,r1,r2,r3,r4,r5,r6,r7,r8,r9,r10⟩:=z08 hSw.1;have s1:=hSw.2.1;have s2:=hSw.2.2
   go_simp
   try with_reducible rfl
 try simp only[List.getElem_toArray,List.getElem_cons_succ,List.getElem_cons_zero,Act.put,List.setIfInBounds_toArray,List.set_cons_zero,List.set_cons_succ]
 refine wpAnyH_take (i:=6) (v:=?_) rfl (by kernel_rfl) (by kernel_rfl) (by kernel_rfl) (fun _ _ _ h=>h) (Or.inl ⟨by rfl,?_⟩) (by assumption) ?_
 rotate_left
 · intro w hSw
   (try dsimp only at hSw)
   obtain ⟨r0,r1,r2,r3,r4,r5,r6,r7,r8,r9,r10⟩:=z08 hSw.1;have s1:=hSw.2.1;have s2:=hSw.2.2
   go_simp
   try with_reducible rfl
 try simp only[List.getElem_toArray,List.getElem_cons_succ,List.getElem_cons_zero,Act.put,List.setIfInBounds_toArray,List.set_cons_zero,List.set_cons_succ]
 refine wpAnyH_take (i:=7) (v:= .int .i64 z) rfl (by kernel_rfl) (by kernel_rfl) (by kernel_rfl) (fun _ _ _ h=>h) (Or.inl ⟨by rfl,?_⟩) (by assumption) ?_
 · intro w hSw
   obtain ⟨r0,r1,r2,r3,r4,r5,r6,r7,r8,r9,r10⟩:=z08 hSw.1;have s1:=hSw.2.1;have s2:=hSw.2.2
   go_simp
 try simp only[List.getElem_toArray,List.getElem_cons_succ,List.getElem_cons_zero,Act.put,List.setIfInBounds_toArray,List.set_cons_zero,List.set_cons_succ]
 refine wpAnyH_take (i:=10) (v:=?_) rfl (by kernel_rfl) (by kernel_rfl) (by kernel_rfl) (fun _ _ _ h=>h) (Or.inl ⟨by rfl,?_⟩) (by assumption) ?_
 rotate_left
 · intro w hSw
   (try dsimp only at hSw)
   obtain ⟨r0,r1,r2,r3,r4,r5,r6,r7,r8,r9,r10⟩:=z08 hSw.1;have s1:=hSw.2.1;have s2:=hSw.2.2
   go_simp
   try with_reducible rfl
 try simp only[List.getElem_toArray,List.getElem_cons_succ,List.getElem_cons_zero,Act.put,List.setIfInBounds_toArray,List.set_cons_zero,List.set_cons_succ]
 refine wpAnyH_take (i:=11) (v:=?_) rfl (by kernel_rfl) (by kernel_rfl) (by kernel_rfl) (fun _ _ _ h=>h) (Or.inl ⟨by rfl,?_⟩) (by assumption) ?_
 rotate_left
 · intro w hSw
   (try dsimp only at hSw)
   obtain ⟨r0,r1,r2,r3,r4,r5,r6,r7,r8,r9,r10⟩:=z08 hSw.1;have s1:=hSw.2.1;have s2:=hSw.2.2
   go_simp
   try with_reducible rfl
 try simp only[List.getElem_toArray,List.getElem_cons_succ,List.getElem_cons_zero,Act.put,List.setIfInBounds_toArray,List.set_cons_zero,List.set_cons_succ]
 refine wpAnyH_take (i:=12) (v:=?_) rfl (by kernel_rfl) (by kernel_rfl) (by kernel_rfl) (fun _ _ _ h=>h) (Or.inl ⟨by rfl,?_⟩) (by assumption) ?_
 rotate_left
 · intro w hSw
   (try dsimp only at hSw)
   obtain ⟨r0,r1,r2,r3,r4,r5,r6,r7,r8,r9,r10⟩:=z08 hSw.1;have s1:=hSw.2.1;have s2:=hSw.2.2
   go_simp
   try with_reducible rfl
 try simp only[List.getElem_toArray,List.getElem_cons_succ,List.getElem_cons_zero,Act.put,List.setIfInBounds_toArray,List.set_cons_zero,List.set_cons_succ]
 refine wpAnyH_take (i:=13) (v:= .agg #[.int .i64 n.kind,.string n.data,.slice h.A n.ptrs.length h.a,.int .i64 n.size,.int .i64 n.count,.slice h.B n.items.length h.b]) rfl (by kernel_rfl) (by kernel_rfl) (by kernel_rfl) (fun _ _ _ h=>h) (Or.inl ⟨by rfl,?_⟩) (by assumption) ?_
 · intro w hSw
   obtain ⟨r0,r1,r2,r3,r4,r5,r6,r7,r8,r9,r10⟩:=z08 hSw.1;have s1:=hSw.2.1;have s2:=hSw.2.2
   go_simp
 try simp only[List.getElem_toArray,List.getElem_cons_succ,List.getElem_cons_zero,Act.put,List.setIfInBounds_toArray,List.set_cons_zero,List.set_cons_succ]
 refine wpAnyH_take (i:=14) (v:=?_) rfl (by kernel_rfl) (by kernel_rfl) (by kernel_rfl) (fun _ _ _ h=>h) (Or.inl ⟨by rfl,?_⟩) (by assumption) ?_
 rotate_left
 · intro w hSw
   (try dsimp only at hSw)
   obtain ⟨r0,r1,r2,r3,r4,r5,r6,r7,r8,r9,r10⟩:=z08 hSw.1;have s1:=hSw.2.1;have s2:=hSw.2.2
   go_simp
   try with_reducible rfl
 try simp only[List.getElem_toArray,List.getElem_cons_succ,List.getElem_cons_zero,Act.put,List.setIfInBounds_toArray,List.set_cons_zero,List.set_cons_succ]
 refine wpAnyH_take (i:=15) (v:=?_) rfl (by kernel_rfl) (by kernel_rfl) (by kernel_rfl) (fun _ _ _ h=>h) (Or.inl ⟨by rfl,?_⟩) (by assumption) ?_
 rotate_left
 · intro w hSw
   (try dsimp only at hSw)
   obtain ⟨r0,r1,r2,r3,r4,r5,r6,r7,r8,r9,r10⟩:=z08 hSw.1;have s1:=hSw.2.1;have s2:=hSw.2.2
   go_simp
   try with_reducible rfl
 try simp only[List.getElem_toArray,List.getElem_cons_succ,List.getElem_cons_zero,Act.put,List.setIfInBounds_toArray,List.set_cons_zero,List.set_cons_succ]
 refine wpAnyH_take (i:=16) (v:=?_) rfl (by kernel_rfl) (by kernel_rfl) (by kernel_rfl) (fun _ _ _ h=>h) (Or.inl ⟨by rfl,?_⟩) (by assumption) ?_
 rotate_left
 · intro w hSw
   (try dsimp only at hSw)
   obtain ⟨r0,r1,r2,r3,r4,r5,r6,r7,r8,r9,r10⟩:=z08 hSw.1;have s1:=hSw.2.1;have s2:=hSw.2.2
   go_simp
   try with_reducible rfl
 try simp only[List.getElem_toArray,List.getElem_cons_succ,List.getElem_cons_zero,Act.put,List.setIfInBounds_toArray,List.set_cons_zero,List.set_cons_succ]
 refine wpAnyH_take (i:=17) (v:=?_) rfl (by kernel_rfl) (by kernel_rfl) (by kernel_rfl) (fun _ _ _ h=>h) (Or.inl ⟨by rfl,?_⟩) (by assumption) ?_
 rotate_left
 · intro w hSw
   (try dsimp only at hSw)
   obtain ⟨r0,r1,r2,r3,r4,r5,r6,r7,r8,r9,r10⟩:=z08 hSw.1;have s1:=hSw.2.1;have s2:=hSw.2.2
   go_simp
   try with_reducible rfl
 try simp only[List.getElem_toArray,List.getElem_cons_succ,List.getElem_cons_zero,Act.put,List.setIfInBounds_toArray,List.set_cons_zero,List.set_cons_succ]
 refine wpAnyH_take (i:=18) (v:=?_) rfl (by kernel_rfl) (by kernel_rfl) (by kernel_rfl) (fun _ _ _ h=>h) (Or.inl ⟨by rfl,?_⟩) (by assumption) ?_
 rotate_left
 · intro w hSw
   (try dsimp only at hSw)
   obtain ⟨r0,r1,r2,r3,r4,r5,r6,r7,r8,r9,r10⟩:=z08 hSw.1;have s1:=hSw.2.1;have s2:=hSw.2.2
   go_simp
   try with_reducible rfl
 try simp only[List.getElem_toArray,List.getElem_cons_succ,List.getElem_cons_zero,Act.put,List.setIfInBounds_toArray,List.set_cons_zero,List.set_cons_succ]
 refine wpAnyH_take (i:=19) (v:=?_) rfl (by kernel_rfl) (by kernel_rfl) (by kernel_rfl) (fun _ _ _ h=>h) (Or.inl ⟨by rfl,?_⟩) (by assumption) ?_
 rotate_left
 · intro w hSw
   (try dsimp only at hSw)
   obtain ⟨r0,r1,r2,r3,r4,r5,r6,r7,r8,r9,r10⟩:=z08 hSw.1;have s1:=hSw.2.1;have s2:=hSw.2.2
   go_simp
   try with_reducible rfl
 try simp only[List.getElem_toArray,List.getElem_cons_succ,List.getElem_cons_zero,Act.put,List.setIfInBounds_toArray,List.set_cons_zero,List.set_cons_succ]
 refine wpAnyH_take (i:=20) (v:=?_) rfl (by kernel_rfl) (by kernel_rfl) (by kernel_rfl) (fun _ _ _ h=>h) (Or.inl ⟨by rfl,?_⟩) (by assumption) ?_
 rotate_left
 · intro w hSw
   (try dsimp only at hSw)
   obtain ⟨r0,r1,r2,r3,r4,r5,r6,r7,r8,r9,r10⟩:=z08 hSw.1;have s1:=hSw.2.1;have s2:=hSw.2.2
   go_simp
   try with_reducible rfl
 try simp only[List.getElem_toArray,List.getElem_cons_succ,List.getElem_cons_zero,Act.put,List.setIfInBounds_toArray,List.set_cons_zero,List.set_cons_succ]
 refine wpAnyH_take (i:=21) (v:=?_) rfl (by kernel_rfl) (by kernel_rfl) (by kernel_rfl) (fun _ _ _ h=>h) (Or.inl ⟨by rfl,?_⟩) (by assumption) ?_
 rotate_left
 · intro w hSw
   (try dsimp only at hSw)
   obtain ⟨r0,r1,r2,r3,r4,r5,r6,r7,r8,r9,r10⟩:=z08 hSw.1;have s1:=hSw.2.1;have s2:=hSw.2.2
   go_simp
   try with_reducible rfl
 try simp only[List.getElem_toArray,List.getElem_cons_succ,List.getElem_cons_zero,Act.put,List.setIfInBounds_toArray,List.set_cons_zero,List.set_cons_succ]
 refine wpAnyH_take (i:=22) (v:= .int .i64 (s:Int)) rfl (by kernel_rfl) (by kernel_rfl) (by kernel_rfl) (fun _ _ _ h=>h) (Or.inl ⟨by rfl,?_⟩) (by assumption) ?_
 · intro w hSw
   obtain ⟨r0,r1,r2,r3,r4,r5,r6,r7,r8,r9,r10⟩:=z08 hSw.1;have s1:=hSw.2.1;have s2:=hSw.2.2
   go_simp
 try simp only[List.getElem_toArray,List.getElem_cons_succ,List.getElem_cons_zero,Act.put,List.setIfInBounds_toArray,List.set_cons_zero,List.set_cons_succ]
 refine wpAnyH_ready (rs:= [8]) (by kernel_rfl) (by simp) ?_;refine AllReadyH.cons rfl (fun K hK=>?_) AllReadyH.nil
 go_simp
 go_at_call 61
 refine (HKK.out _ HC0.out).mono ?_;rintro e w2 ⟨b,gg,rfl,hb2,hcl⟩;have HCL:=hid hcl;have HC2:=hid (HC0.out.trans (hb2.mono HC0.out.size));have HU2:=hid ((hb2.block _ (z00 HUB.out)).trans HUB.out);have v0:=(HC2.out.block _ HGL.out).trans HR.out;have v1:=(HC2.out.cell (p:=x.add (k*3)) HXL.out).trans HFC.out;have v2:=(HC2.out.cell (p:=y.add k) HYL.out).trans HSC.out;clear hb2 hcl
 go_wp2_with fail
 refine hK.out _ _ ⟨v0,v1,v2⟩ (fun hHn=>?_);clear hK K hH0 v0 v1 v2
 try simp only[List.getElem_toArray,List.getElem_cons_succ,List.getElem_cons_zero,Act.put,List.setIfInBounds_toArray,List.set_cons_zero,List.set_cons_succ]
 have hfk:=HFK.out;unfold nK1;refine wpAnyH_take (i:=9) (v:=?_) rfl (by kernel_rfl) (by kernel_rfl) (by kernel_rfl) (fun _ _ _ h=>h) (Or.inl ⟨by rfl,?_⟩) (by assumption) ?_
 rotate_left
 · intro w hSw
   (try dsimp only at hSw)
   obtain ⟨r0,r1,r2,r3,r4,r5,r6,r7,r8,r9,r10⟩:=z08 hSw.1;have s1:=hSw.2.1;have s2:=hSw.2.2
   go_simp
   try with_reducible rfl
 try simp only[List.getElem_toArray,List.getElem_cons_succ,List.getElem_cons_zero,Act.put,List.setIfInBounds_toArray,List.set_cons_zero,List.set_cons_succ]
 clear hfk;refine wpAnyH_ready (rs:= [23]) (by kernel_rfl) (by simp) ?_;refine AllReadyH.cons rfl (fun K hK=>?_) AllReadyH.nil
 go_simp
 go_at_call 127
 refine (HCL.out _ (Below.refl _ _)).mono ?_;rintro e w3 ⟨rfl,hb3⟩;have HC3:=hid (HC2.out.trans (hb3.mono HC2.out.size));have HU3:=hid ((hb3.block _ (z00 HU2.out)).trans HU2.out);have v0:=(HC3.out.block _ HGL.out).trans HR.out;have v1:=(HC3.out.cell (p:=x.add (k*3)) HXL.out).trans HFC.out;have v2:=(HC3.out.cell (p:=y.add k) HYL.out).trans HSC.out;clear hb3
 go_wp2_with fail
 refine hK.out _ _ ⟨v0,v1,v2⟩ (fun hHm=>?_);clear hK K hHn v0 v1 v2
 try simp only[List.getElem_toArray,List.getElem_cons_succ,List.getElem_cons_zero,Act.put,List.setIfInBounds_toArray,List.set_cons_zero,List.set_cons_succ]
 refine wpAnyH_ready (rs:= [24]) (by kernel_rfl) (by simp) ?_;refine AllReadyH.cons rfl (fun K hK=>?_) AllReadyH.nil;obtain ⟨z0,z1,z2,z3,z4,z5,z6⟩:=z09 HU3.out;have zf:=z03 HU3.out
 go_simp
 obtain ⟨wf,hwf,hrw,hbf,hkf⟩:=finV (w:=w) (R:=w.heap.size) (.int .i64 xv) (.int .i64 yv.kind) (.string yv.data) (.slice hv.A yv.ptrs.length hv.a) (.int .i64 yv.size) (.int .i64 yv.count) (.slice hv.B yv.items.length hv.b) HU3.out HC3.out (Nat.le_refl _);have HWF:=hid hwf;have HRW:=hid hrw;have HC4:=hid hbf;have v0:=(HC4.out.block _ HGL.out).trans HR.out;have v1:=(HC4.out.cell (p:=x.add (k*3)) HXL.out).trans HFC.out;have v2:=(HC4.out.cell (p:=y.add k) HYL.out).trans HSC.out;clear hwf hrw hbf hkf z0 z1 z2 z3 z4 z5 z6 zf;rw[HWF.out];refine hK.out _ _ ⟨v0,v1,v2⟩ (fun hHl=>?_);clear hK K hHm v0 v1 v2
 try simp only[List.getElem_toArray,List.getElem_cons_succ,List.getElem_cons_zero,Act.put,List.setIfInBounds_toArray,List.set_cons_zero,List.set_cons_succ]
 refine wpAnyH_done (by kernel_rfl) ?_ _;clear hHl;go_wp2;obtain ⟨e0,e1,e2,e3,e4,e5,e6⟩:=z09 HRW.out;exact bodyPost_ret (v:= .agg #[.int .i64 xv,.int .i64 yv.kind,.string yv.data,.slice hv.A yv.ptrs.length hv.a,.int .i64 yv.size,.int .i64 yv.count,.slice hv.B yv.items.length hv.b]) (by simp[results,Tryz.results62,go_sem,e0,e1,e2,e3,e4,e5,e6]) rfl ⟨rfl,HC4.out⟩
end Go.Proofs.YtblcibgphccfkaaGreatDoor
