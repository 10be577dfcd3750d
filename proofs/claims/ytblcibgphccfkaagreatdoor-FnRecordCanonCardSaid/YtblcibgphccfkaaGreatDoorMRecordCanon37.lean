/- Texts of the proof of the law FnRecordCanon, side by side: part 37. -/
import Derived.Test.YtblcibgphccfkaaGreatDoorMRecordCanon36
set_option maxHeartbeats 8000000
set_option maxRecDepth 100000
open Go.Lib (hid)
namespace Go.Proofs.YtblcibgphccfkaaGreatDoor
open Go.RowKit Go.Deep
theorem zhb (x y:Addr)(c cy:Nat)(l:List Fld)(d:List UInt8)(g cp m:Nat)(p:List Nd)(bs:List Nat)(R:Nat)(S0:Nat→Prop)(k:Nat)(hk:k<l.length)(w:World)(hfl:Flds w (some x) l)(hok:z14 l=true)(hd:d.length=8*(layF l ps0).2.ls.words)(hyb:y.block<w.heap.size)(hs:w.cell? (y.add k)=some (.int .i64 (atF l k:Nat)))(xv:Int)(yv:Nd)(hv:Hd)(el:Int)(fc:Bool)(hf:l[k]=⟨6,fc,el⟩)(D1:ByteArray)(hD1:D1=⟨(tgF l k d).toArray⟩)(hOw:OwS w (m+2) (some ⟨g,0,none⟩) cp p bs)(hnd:bs.Nodup)(hkp:atF l k<p.length)(hRw:R≤w.heap.size)(hRb:∀b∈bs,R≤b)(hgb:g∈bs)(hN:NdAt w S0 m yv hv)(hT:totN m yv≤2000000) :
 Calls Tryz.prog 52 #[.slice (some x) l.length c,.agg #[.int .i64 ((layF l ps0).2.ls.words:Int),.int .i64 ((layF l ps0).2.ptrs:Int),.slice (some y) l.length cy,.int .i64 (tagL l)],.agg #[.int .i64 1,.string ⟨d.toArray⟩,.slice (some ⟨g,0,none⟩) p.length cp,.int .i64 0,.int .i64 0,.slice none 0 0],.int .i64 (k:Int),.agg #[.int .i64 xv,.int .i64 yv.kind,.string yv.data,.slice hv.A yv.ptrs.length hv.a,.int .i64 yv.size,.int .i64 yv.count,.slice hv.B yv.items.length hv.b]] w fun e w'=>∃bs',e= .returned (.agg #[.int .i64 1,.string D1,.slice (some ⟨g,0,none⟩) p.length cp,.int .i64 0,.int .i64 0,.slice none 0 0])∧OwS w' (m+2) (some ⟨g,0,none⟩) cp (p.set (atF l k) yv) bs'∧bs'.Nodup∧(∀b∈bs',b∈bs∨w.heap.size≤b)∧g∈bs'∧OnlyIn bs w w':=by
 have hl:=z0n hok;have hsm:=z24 l
 have HTG0:∀W:World,Below w.heap.size w W→Calls Tryz.prog 79 #[.slice (some x) l.length c,.agg #[.int .i64 ((layF l ps0).2.ls.words:Int),.int .i64 ((layF l ps0).2.ptrs:Int),.slice (some y) l.length cy,.int .i64 (tagL l)],.agg #[.int .i64 1,.string ⟨d.toArray⟩,.slice (some ⟨g,0,none⟩) p.length cp,.int .i64 0,.int .i64 0,.slice none 0 0],.int .i64 (k:Int)] W fun e w'=>e= .returned (.agg #[.int .i64 1,.string D1,.slice (some ⟨g,0,none⟩) p.length cp,.int .i64 0,.int .i64 0,.slice none 0 0])∧Below W.heap.size W w':=fun W hW=>by
  rw[hD1];exact zhr x c l (.slice (some y) l.length cy) d (some ⟨g,0,none⟩) p.length cp k hk W (hfl.below hW) hok hd
 have HTG:=hid HTG0;clear HTG0 hD1;have q0:=z0j w (.cells #[.int .i64 ((layF l ps0).2.ls.words:Int),.int .i64 ((layF l ps0).2.ptrs:Int),.slice (some y) l.length cy,.int .i64 (tagL l)] 37);have q1:=z0m q0 (.cells #[.int .i64 1,.string ⟨d.toArray⟩,.slice (some ⟨g,0,none⟩) p.length cp,.int .i64 0,.int .i64 0,.slice none 0 0] nodeT);have q2:=z0m q1 (.cells #[.int .i64 xv,.int .i64 yv.kind,.string yv.data,.slice hv.A yv.ptrs.length hv.a,.int .i64 yv.size,.int .i64 yv.count,.slice hv.B yv.items.length hv.b] valT);have q3:=z0m q2 (.cells #[.int .i64 0,.string { data:= #[] },.slice none 0 0,.int .i64 0,.int .i64 0,.slice none 0 0] nodeT);have r0:=z02 (z02 (z02 (heap_alloc_new w (.cells #[.int .i64 ((layF l ps0).2.ls.words:Int),.int .i64 ((layF l ps0).2.ptrs:Int),.slice (some y) l.length cy,.int .i64 (tagL l)] 37)) (.cells #[.int .i64 1,.string ⟨d.toArray⟩,.slice (some ⟨g,0,none⟩) p.length cp,.int .i64 0,.int .i64 0,.slice none 0 0] nodeT)) (.cells #[.int .i64 xv,.int .i64 yv.kind,.string yv.data,.slice hv.A yv.ptrs.length hv.a,.int .i64 yv.size,.int .i64 yv.count,.slice hv.B yv.items.length hv.b] valT)) (.cells #[.int .i64 0,.string { data:= #[] },.slice none 0 0,.int .i64 0,.int .i64 0,.slice none 0 0] nodeT);have r1:=z02 (z02 (z0s q0 #[.int .i64 1,.string ⟨d.toArray⟩,.slice (some ⟨g,0,none⟩) p.length cp,.int .i64 0,.int .i64 0,.slice none 0 0] nodeT) (.cells #[.int .i64 xv,.int .i64 yv.kind,.string yv.data,.slice hv.A yv.ptrs.length hv.a,.int .i64 yv.size,.int .i64 yv.count,.slice hv.B yv.items.length hv.b] valT)) (.cells #[.int .i64 0,.string { data:= #[] },.slice none 0 0,.int .i64 0,.int .i64 0,.slice none 0 0] nodeT)
 have r2:=z02 (z0s q1 #[.int .i64 xv,.int .i64 yv.kind,.string yv.data,.slice hv.A yv.ptrs.length hv.a,.int .i64 yv.size,.int .i64 yv.count,.slice hv.B yv.items.length hv.b] valT) (.cells #[.int .i64 0,.string { data:= #[] },.slice none 0 0,.int .i64 0,.int .i64 0,.slice none 0 0] nodeT);have r3:=z0s q2 #[.int .i64 0,.string { data:= #[] },.slice none 0 0,.int .i64 0,.int .i64 0,.slice none 0 0] nodeT;rw[show w.heap.size+(1+1)=w.heap.size+2 from rfl] at r2;rw[show w.heap.size+(1+1+1)=w.heap.size+3 from rfl] at r3;have HB0:=hid q3.2;have HS0:=hid q3.1;have R0:=hid r0;have R2:=hid r2;have R3:=hid r3;have HFL:=hid hfl;have HYB:Hid ((y.add k).block<w.heap.size):=hid (by rw[z05]; exact hyb);have HSY:=hid hs;obtain ⟨a0,a1,a2,a3⟩:=z0p r0;obtain ⟨n0,n1,n2,n3,n4,n5⟩:=z04 r1;clear q0 q1 q2 q3 r0 r1 r2 r3;have HCP:=hid (fun (W:World) (hW:Below w.heap.size w W)=>z7k m yv hv W S0 (hN.below hW) hT);have HOW:=hid hOw;have HND:=hid hnd;have HRB:=hid hRb;have HRW:=hid hRw;have HGB:=hid hgb;have HGL:Hid (g<w.heap.size):=hid (hOw.lt _ _ _ _ _ g hgb).1;clear hOw hnd hRb hRw hgb hN hT;clear hfl hs hyb;go_enter Tryz.func52,Tryz.ntmps52
 go_wp2_with fail
 clear a0 a1 a2 a3 n0 n1 n2 n3 n4 n5;generalize (((w.alloc (.cells #[.int .i64 ((layF l ps0).2.ls.words:Int),.int .i64 ((layF l ps0).2.ptrs:Int),.slice (some y) l.length cy,.int .i64 (tagL l)] 37)).alloc (.cells #[.int .i64 1,.string ⟨d.toArray⟩,.slice (some ⟨g,0,none⟩) p.length cp,.int .i64 0,.int .i64 0,.slice none 0 0] nodeT)).alloc (.cells #[.int .i64 xv,.int .i64 yv.kind,.string yv.data,.slice hv.A yv.ptrs.length hv.a,.int .i64 yv.size,.int .i64 yv.count,.slice hv.B yv.items.length hv.b] valT)).alloc (.cells #[.int .i64 0,.string { data:= #[] },.slice none 0 0,.int .i64 0,.int .i64 0,.slice none 0 0] nodeT)=W at *;refine (HTG.out _ HB0.out).mono ?_;rintro e w5 ⟨rfl,hb5⟩;have HB5:=hid (HB0.out.trans (hb5.mono HB0.out.size));have hba:Below w5.heap.size w5 (w5.alloc (.cells #[.int .i64 1,.string D1,.slice (some ⟨g,0,none⟩) p.length cp,.int .i64 0,.int .i64 0,.slice none 0 0] nodeT)):=(Below.refl _ _).alloc (Nat.le_refl _) _;have HB6:=hid (HB5.out.trans (hba.mono HB5.out.size));have X0:=hid ((hba.block _ (z00 ((hb5.block _ (z00 R0.out)).trans R0.out))).trans ((hb5.block _ (z00 R0.out)).trans R0.out));have X2:=hid ((hba.block _ (z00 ((hb5.block _ (z00 R2.out)).trans R2.out))).trans ((hb5.block _ (z00 R2.out)).trans R2.out));have X3:=hid ((hba.block _ (z00 ((hb5.block _ (z00 R3.out)).trans R3.out))).trans ((hb5.block _ (z00 R3.out)).trans R3.out));have XN:=hid (heap_alloc_new w5 (.cells #[.int .i64 1,.string D1,.slice (some ⟨g,0,none⟩) p.length cp,.int .i64 0,.int .i64 0,.slice none 0 0] nodeT))
 have HL5:Hid (w.heap.size+3<w5.heap.size):=hid (z00 ((hb5.block _ (z00 R3.out)).trans R3.out));clear hb5 hba;obtain ⟨x',hx',hxb,hx2⟩:=(HFL.out.below HB6.out).at2 hk;obtain rfl:=Option.some.inj hx';rw[hf] at hx2;have HX2:=hid hx2;obtain ⟨c0,c1,c2⟩:=hx2;obtain ⟨a0,a1,a2,a3⟩:=z0p X0.out;have sy:=(HB6.out.cell (p:=y.add k) HYB.out).trans HSY.out;have HK9:=hid hk;have HFX:Hid (x.block<w.heap.size):=hid (by obtain ⟨x9,hx9,hxb9, -⟩:=HFL.out.at2 hk; obtain rfl:=Option.some.inj hx9; exact hxb9)
 go_upto_region 4 with fail
 obtain ⟨nb,hnb⟩:∃nb,nb=w5.heap.size:=⟨_,rfl⟩
 rw[← hnb] at XN HL5 ⊢;clear hnb c0 c1 c2 a0 a1 a2 a3 sy;generalize w5.alloc (.cells #[.int .i64 1,.string D1,.slice (some ⟨g,0,none⟩) p.length cp,.int .i64 0,.int .i64 0,.slice none 0 0] nodeT)=W6 at *;have HDR:Hid (Below W6.heap.size W6 W6.drew):=hid ⟨rfl,rfl,rfl,Nat.le_refl _,fun _ _=>rfl⟩;have HC0:=hid (HB6.out.trans (HDR.out.mono HB6.out.size))
 have hx9:∀V:World,Below W6.heap.size W6 V→V.heap[w.heap.size+2]? =some (.cells #[.int .i64 xv,.int .i64 yv.kind,.string yv.data,.slice hv.A yv.ptrs.length hv.a,.int .i64 yv.size,.int .i64 yv.count,.slice hv.B yv.items.length hv.b] valT (0,0))∧V.heap[nb]? =some (.cells #[.int .i64 1,.string D1,.slice (some ⟨g,0,none⟩) p.length cp,.int .i64 0,.int .i64 0,.slice none 0 0] nodeT (0,0)):=fun V hV=>⟨(hV.block _ (z00 X2.out)).trans X2.out,(hV.block _ (z00 XN.out)).trans XN.out⟩
 have HX9:=hid hx9;clear hx9;refine wp_region_held_drew (S:=(fun V=>V.heap[w.heap.size+2]? =some (.cells #[.int .i64 xv,.int .i64 yv.kind,.string yv.data,.slice hv.A yv.ptrs.length hv.a,.int .i64 yv.size,.int .i64 yv.count,.slice hv.B yv.items.length hv.b] valT (0,0))∧V.heap[nb]? =some (.cells #[.int .i64 1,.string D1,.slice (some ⟨g,0,none⟩) p.length cp,.int .i64 0,.int .i64 0,.slice none 0 0] nodeT (0,0)))) (by kernel_rfl) ?_ (fun hH0=>?_)
 · exact HX9.out _ HDR.out
 refine wpAnyH_take (i:=0) (v:=?_) rfl (by kernel_rfl) (by kernel_rfl) (by kernel_rfl) (fun _ _ _ h=>h) (Or.inl ⟨by rfl,?_⟩) (by assumption) ?_
 rotate_left
 · intro w hSw
   (try dsimp only at hSw)
   obtain ⟨s3,s4⟩:=hSw;obtain ⟨t0,t1,t2,t3,t4,t5,t6⟩:=z09 s3;obtain ⟨n0,n1,n2,n3,n4,n5⟩:=z04 s4
   go_simp
   try with_reducible rfl
 try simp only[List.getElem_toArray,List.getElem_cons_succ,List.getElem_cons_zero,Act.put,List.setIfInBounds_toArray,List.set_cons_zero,List.set_cons_succ]
 refine wpAnyH_take (i:=1) (v:=?_) rfl (by kernel_rfl) (by kernel_rfl) (by kernel_rfl) (fun _ _ _ h=>h) (Or.inl ⟨by rfl,?_⟩) (by assumption) ?_
 rotate_left
 · intro w hSw
   (try dsimp only at hSw)
   obtain ⟨s3,s4⟩:=hSw;obtain ⟨t0,t1,t2,t3,t4,t5,t6⟩:=z09 s3;obtain ⟨n0,n1,n2,n3,n4,n5⟩:=z04 s4
   go_simp
   try with_reducible rfl
 try simp only[List.getElem_toArray,List.getElem_cons_succ,List.getElem_cons_zero,Act.put,List.setIfInBounds_toArray,List.set_cons_zero,List.set_cons_succ]
 refine wpAnyH_take (i:=2) (v:=?_) rfl (by kernel_rfl) (by kernel_rfl) (by kernel_rfl) (fun _ _ _ h=>h) (Or.inl ⟨by rfl,?_⟩) (by assumption) ?_
 rotate_left
 · intro w hSw
   (try dsimp only at hSw)
   obtain ⟨s3,s4⟩:=hSw;obtain ⟨t0,t1,t2,t3,t4,t5,t6⟩:=z09 s3;obtain ⟨n0,n1,n2,n3,n4,n5⟩:=z04 s4
   go_simp
   try with_reducible rfl
 try simp only[List.getElem_toArray,List.getElem_cons_succ,List.getElem_cons_zero,Act.put,List.setIfInBounds_toArray,List.set_cons_zero,List.set_cons_succ]
 refine wpAnyH_take (i:=3) (v:=?_) rfl (by kernel_rfl) (by kernel_rfl) (by kernel_rfl) (fun _ _ _ h=>h) (Or.inl ⟨by rfl,?_⟩) (by assumption) ?_
 rotate_left
 · intro w hSw
   (try dsimp only at hSw)
   obtain ⟨s3,s4⟩:=hSw;obtain ⟨t0,t1,t2,t3,t4,t5,t6⟩:=z09 s3;obtain ⟨n0,n1,n2,n3,n4,n5⟩:=z04 s4
   go_simp
   try with_reducible rfl
 try simp only[List.getElem_toArray,List.getElem_cons_succ,List.getElem_cons_zero,Act.put,List.setIfInBounds_toArray,List.set_cons_zero,List.set_cons_succ]
 refine wpAnyH_take (i:=4) (v:= .agg #[.int .i64 yv.kind,.string yv.data,.slice hv.A yv.ptrs.length hv.a,.int .i64 yv.size,.int .i64 yv.count,.slice hv.B yv.items.length hv.b]) rfl (by kernel_rfl) (by kernel_rfl) (by kernel_rfl) (fun _ _ _ h=>h) (Or.inl ⟨by rfl,?_⟩) (by assumption) ?_
 · intro w hSw
   obtain ⟨s3,s4⟩:=hSw;obtain ⟨t0,t1,t2,t3,t4,t5,t6⟩:=z09 s3;obtain ⟨n0,n1,n2,n3,n4,n5⟩:=z04 s4
   go_simp
 try simp only[List.getElem_toArray,List.getElem_cons_succ,List.getElem_cons_zero,Act.put,List.setIfInBounds_toArray,List.set_cons_zero,List.set_cons_succ]
 refine wpAnyH_ready (rs:= [5]) (by kernel_rfl) (by simp) ?_;refine AllReadyH.cons rfl (fun K hK=>?_) AllReadyH.nil
 go_simp
 go_at_call 38
 refine (HCP.out _ HC0.out).mono ?_;rintro e w7 ⟨h,cs,rfl,hy1,hy2,hy3,hb7⟩;have HC7:=hid (HDR.out.trans (hb7.mono HDR.out.size));have HNB:Hid (nb<W6.heap.size):=hid (z00 XN.out);have HY3:Hid (∀b∈cs,W6.heap.size≤b):=hid hy3;have HO7:=hid (HOW.out.below (HB6.out.trans (HC7.out.mono HB6.out.size)))
 obtain ⟨g',hg', -,hcl,hfr,wf,hwf,hof,bs',ho',hn',hm',hg2⟩:=zmo HO7.out HND.out hkp yv h cs hy1 hy2 (fun b hb hb2=>by
  have:=(HOW.out.lt _ _ _ _ _ b hb2).1; have:=HY3.out b hb; have:=HNB.out; have:=HL5.out; omega)
 obtain rfl:g=g':=by injection hg' with hg'; injection hg'
 have HHY1:=hid hy1;have HCL:=hid hcl;have HFR:=hid hfr;have HWF:=hid hwf;have HOFF:=hid hof;have HO':=hid ho';have HN':=hid hn';have HM':=hid hm';have HG2:=hid hg2;clear hb7 hy1 hy2 hy3 hg' hcl hfr hwf hof ho' hn' hm' hg2
 go_wp2_with fail
 refine hK.out _ _ (HX9.out _ HC7.out) (fun hHm=>?_);clear hK K hH0
 try simp only[List.getElem_toArray,List.getElem_cons_succ,List.getElem_cons_zero,Act.put,List.setIfInBounds_toArray,List.set_cons_zero,List.set_cons_succ]
 refine wpAnyH_take (i:=6) (v:= .pointer (some ⟨g,atF l k*6,none⟩)) rfl (by kernel_rfl) (by kernel_rfl) (by kernel_rfl) (fun _ _ _ h=>h) (Or.inl ⟨by rfl,?_⟩) (by assumption) ?_
 · intro w hSw
   obtain ⟨s3,s4⟩:=hSw;obtain ⟨t0,t1,t2,t3,t4,t5,t6⟩:=z09 s3;obtain ⟨n0,n1,n2,n3,n4,n5⟩:=z04 s4
   go_simp
 try simp only[List.getElem_toArray,List.getElem_cons_succ,List.getElem_cons_zero,Act.put,List.setIfInBounds_toArray,List.set_cons_zero,List.set_cons_succ]
 obtain ⟨u0,c0⟩:=HCL.out 0 (by decide);obtain ⟨u1,c1⟩:=HCL.out 1 (by decide);obtain ⟨u2,c2⟩:=HCL.out 2 (by decide);obtain ⟨u3,c3⟩:=HCL.out 3 (by decide);obtain ⟨u4,c4⟩:=HCL.out 4 (by decide);obtain ⟨u5,c5⟩:=HCL.out 5 (by decide);rw[Nat.add_zero] at c0;have zf:=HFR.out;refine wpAnyH_ready (rs:= [7]) (by kernel_rfl) (by simp) ?_;refine AllReadyH.cons rfl (fun K hK=>?_) AllReadyH.nil
 go_simp
 rw[HWF.out];obtain ⟨y0,y1⟩:=HX9.out _ HC7.out;have hl5:=HL5.out;have hgl:=HGL.out
 have k9:wf.heap[w.heap.size+2]? =some (.cells #[.int .i64 xv,.int .i64 yv.kind,.string yv.data,.slice hv.A yv.ptrs.length hv.a,.int .i64 yv.size,.int .i64 yv.count,.slice hv.B yv.items.length hv.b] valT (0,0))∧wf.heap[nb]? =some (.cells #[.int .i64 1,.string D1,.slice (some ⟨g,0,none⟩) p.length cp,.int .i64 0,.int .i64 0,.slice none 0 0] nodeT (0,0)):=⟨(HOFF.out.block _ (z00 y0) (by simp; omega)).trans y0,(HOFF.out.block _ (z00 y1) (by simp; omega)).trans y1⟩
 have HRF:=hid k9.2;have HZF:=hid ((HOFF.out.block _ (z00 ((HC7.out.block _ (z00 X3.out)).trans X3.out)) (by simp; omega)).trans ((HC7.out.block _ (z00 X3.out)).trans X3.out));have HRS:Hid (R≤w7.heap.size):=hid (by have:=(HB6.out.trans (HC7.out.mono HB6.out.size)).size; have:=HRW.out; omega);have HOF:=hid ((OnlyIn.of_below (bs:=bs) (HB6.out.trans (HC7.out.mono HB6.out.size))).trans (HOFF.out.mono (fun b hb=> .inl (by simp at hb; rw[hb]; exact HGB.out))))
 have HBB:Hid (∀b∈bs',R≤b∧b≠w.heap.size+3):=hid (fun b hb=>by
  rcases HM'.out b hb with h9 | h9
  · have:=(HOW.out.lt _ _ _ _ _ b h9).1; exact ⟨HRB.out b h9,by omega⟩
  · have:=HY3.out b h9; have:=HNB.out; have:=HRW.out; exact ⟨by omega,by omega⟩)
 have HBC:Hid (∀b∈bs',b∈bs∨w.heap.size≤b):=hid (fun b hb=>by
  rcases HM'.out b hb with h9 | h9
  · exact .inl h9
  · right; have:=HY3.out b h9; have:=HB6.out.size; omega)
 refine hK.out _ _ k9 (fun hHl=>?_);clear hK K hHm c0 c1 c2 c3 c4 c5 zf y0 y1 k9 hl5 hgl
 try simp only[List.getElem_toArray,List.getElem_cons_succ,List.getElem_cons_zero,Act.put,List.setIfInBounds_toArray,List.set_cons_zero,List.set_cons_succ]
 refine wpAnyH_done (by kernel_rfl) ?_ _;clear hHl;obtain ⟨n0,n1,n2,n3,n4,n5⟩:=z04 HRF.out;obtain ⟨z0,z1,z2,z3,z4,z5⟩:=z04 HZF.out;have zf:=z03 HZF.out
 go_wp2_with fail
 obtain ⟨w9,hw9,hr9,ho9⟩:=finN6 (.int .i64 1) (.string D1) (.slice (some ⟨g,0,none⟩) p.length cp) (.int .i64 0) (.int .i64 0) (.slice none 0 0) HZF.out
 try rw[hw9]
 obtain ⟨e0,e1,e2,e3,e4,e5⟩:=z04 hr9;have hl9:=HRW.out
 exact bodyPost_ret (v:= .agg #[.int .i64 1,.string D1,.slice (some ⟨g,0,none⟩) p.length cp,.int .i64 0,.int .i64 0,.slice none 0 0]) (by simp[results,Tryz.results52,go_sem,e0,e1,e2,e3,e4,e5]) rfl ⟨bs',rfl,HO'.out.frame _ _ _ _ _ (fun b hb=>ho9.block b (HO'.out.lt _ _ _ _ _ b hb).1 (by have:=(HBB.out b hb).2; simpa using this)),HN'.out,HBC.out,HG2.out,((HOF.out.mono (bs':=(w.heap.size+3) :: bs) (fun b hb=> .inl (List.mem_cons_of_mem _ hb))).trans (ho9.mono (fun b hb=> .inl (by simp at hb; rw[hb]; exact List.mem_cons_self)))).mono (fun b hb=>by
  rcases List.mem_cons.1 hb with h9 | h9
  · right; omega
  · exact .inl h9)⟩
theorem znh {l:List Fld}(hok:z14 l=true){k:Nat}(hk:k<l.length):fitB (l[k]).size (l[k]).els=true:=by
 unfold z14 at hok;rw[Bool.and_eq_true,List.all_eq_true] at hok;have:=hok.1 l[k] (List.getElem_mem hk);unfold fldOk at this;rw[Bool.and_eq_true] at this;exact this.2
theorem zkf {w:World}{M c:Nat}{A:Option Addr}{p:List Nd}{bs:List Nat}(h:OwS w (M+1) A c p bs)(hp:0<p.length):∃g,A=some ⟨g,0,none⟩∧g∈bs:=by
 obtain ⟨q,hq,ho,hb,hr⟩:=h
 rcases z3d ho with ⟨h1,h2⟩ | ⟨g',cur,hg,_⟩
 · have:q= []:=by simpa using h2.1
   rw[← hq,this] at hp;exact absurd hp (Nat.not_lt_zero _)
 · exact ⟨g',hg,by rw[hb,hg]; exact List.mem_append_left _ (List.mem_singleton.2 rfl)⟩
theorem zmr {l:List Fld}(hok:z14 l=true){k:Nat}(hk:k<l.length){d:List UInt8}(hd:d.length=8*(layF l ps0).2.ls.words):(tgF l k d).length=8*(layF l ps0).2.ls.words:=by
 unfold tgF
 split
 · rw[z7x (by unfold z0w; rw[decide_eq_true_eq]; have:=(z24 l).2; have:=z0n hok; omega),hd]
 · exact hd
theorem z5u (x y:Addr)(c cy:Nat)(l:List Fld)(st:RSt)(G:Option Addr)(cp m:Nat)(k:Nat)(hk:k<l.length)(bs:List Nat)(R:Nat)(S0:Nat→Prop)(w:World)(hfl:Flds w (some x) l)(hok:z14 l=true)(hd:st.d.length=8*(layF l ps0).2.ls.words)(hpl:st.p.length=(layF l ps0).2.ptrs)(hyb:y.block<w.heap.size)(hs:w.cell? (y.add k)=some (.int .i64 (atF l k:Nat)))(v:Vl)(hv:Hd)(hva:valB (fldK l k) v=true)(hrg: -9223372036854775808≤v.num∧v.num≤9223372036854775807)(hOw:OwS w (m+2) G cp st.p bs)(hnd:bs.Nodup)(hRw:R≤w.heap.size)(hRb:∀b∈bs,R≤b)(hN:NdAt w S0 m v.nd hv)(hT:totN m v.nd≤2000000) :
 Calls Tryz.prog 52 #[.slice (some x) l.length c,.agg #[.int .i64 ((layF l ps0).2.ls.words:Int),.int .i64 ((layF l ps0).2.ptrs:Int),.slice (some y) l.length cy,.int .i64 (tagL l)],.agg #[.int .i64 1,.string ⟨st.d.toArray⟩,.slice G st.p.length cp,.int .i64 0,.int .i64 0,.slice none 0 0],.int .i64 (k:Int),.agg #[.int .i64 v.num,.int .i64 v.nd.kind,.string v.nd.data,.slice hv.A v.nd.ptrs.length hv.a,.int .i64 v.nd.size,.int .i64 v.nd.count,.slice hv.B v.nd.items.length hv.b]] w fun e w'=>∃bs',e= .returned (.agg #[.int .i64 1,.string ⟨(setF l k v st).d.toArray⟩,.slice G (setF l k v st).p.length cp,.int .i64 0,.int .i64 0,.slice none 0 0])∧OwS w' (m+2) G cp (setF l k v st).p bs'∧bs'.Nodup∧(∀b∈bs',b∈bs∨w.heap.size≤b)∧OnlyIn bs w w':=by
 have hl:=z0n hok;have hfk:=z1n hk;have hsz:=z2j hok k hk;have hL:=layOk l (z2j hok)
 have hW:(layF l ps0).2.ls.words≤24:=by have:=(z24 l).2; omega
 have hfit:=znh hok hk;have htl:=zmr hok hk hd;rw[hfk] at hva
 have hz:(l[k]).size=1∨((l[k]).size=2∨(l[k]).size=3∨(l[k]).size=4∨(l[k]).size=5)∨(l[k]).size=6:=by omega
 have num:(l[k]).size≠6→(∀W:World,Calls Tryz.prog 80 #[.agg #[.int .i64 (l[k]).size,.bool (l[k]).choice,.int .i64 (l[k]).els],.string ⟨(tgF l k st.d).toArray⟩,.int .i64 (atF l k:Nat),.int .i64 v.num] W fun e w'=>e= .returned (.string ⟨(wrF l[k] (atF l k) v.num (tgF l k st.d)).toArray⟩)∧Below W.heap.size W w')→Calls Tryz.prog 52 #[.slice (some x) l.length c,.agg #[.int .i64 ((layF l ps0).2.ls.words:Int),.int .i64 ((layF l ps0).2.ptrs:Int),.slice (some y) l.length cy,.int .i64 (tagL l)],.agg #[.int .i64 1,.string ⟨st.d.toArray⟩,.slice G st.p.length cp,.int .i64 0,.int .i64 0,.slice none 0 0],.int .i64 (k:Int),.agg #[.int .i64 v.num,.int .i64 v.nd.kind,.string v.nd.data,.slice hv.A v.nd.ptrs.length hv.a,.int .i64 v.nd.size,.int .i64 v.nd.count,.slice hv.B v.nd.items.length hv.b]] w fun e w'=>∃bs',e= .returned (.agg #[.int .i64 1,.string ⟨(setF l k v st).d.toArray⟩,.slice G (setF l k v st).p.length cp,.int .i64 0,.int .i64 0,.slice none 0 0])∧OwS w' (m+2) G cp (setF l k v st).p bs'∧bs'.Nodup∧(∀b∈bs',b∈bs∨w.heap.size≤b)∧OnlyIn bs w w':=fun h6 hw=>by
  have e1:setF l k v st=⟨wrF l[k] (atF l k) v.num (tgF l k st.d),st.p⟩:=by unfold setF; rw[hfk,if_neg h6]
  rw[e1];refine (zgu x y c cy l st.d G st.p.length cp k hk w hfl hok hd hyb hs v.num v.nd hv (l[k]).size (l[k]).els (l[k]).choice rfl (by rw[beq_eq_false_iff_ne]; exact h6) _ _ rfl rfl hw).mono ?_;rintro e w' ⟨rfl,hb⟩;exact ⟨bs,rfl,hOw.below hb,hnd,fun b hb=> .inl hb,OnlyIn.of_below hb⟩
 rcases hz with hz | hz | hz
 · have h6:(l[k]).size≠6:=by omega
   refine num h6 (fun W=>?_)
   have hfv:fitB (l[k]).size v.num=true:=by unfold valB at hva; rw[if_neg h6,Bool.and_eq_true] at hva; exact hva.1
   obtain ⟨h1,h2,h3⟩:=znl hz hfit hfv hrg htl hW (hL.within k hk h6);have:=zdo (l[k]).choice (l[k]).els ⟨(tgF l k st.d).toArray⟩ (atF l k) v.num _ rfl W (by rw[ba_sz,htl]; omega) h2 (by rw[ba_sz]; exact h3);rw[zcn,← h1] at this;rw[hz];unfold wrF;rw[if_pos hz];exact this
 · have h6:(l[k]).size≠6:=by omega
   have h1':(l[k]).size≠1:=by omega
   refine num h6 (fun W=>?_)
   have hfv:fitB (l[k]).size v.num=true:=by unfold valB at hva; rw[if_neg h6,Bool.and_eq_true] at hva; exact hva.1
   obtain ⟨h1,h2,h3⟩:=zo2 hz hfit hfv hrg htl hW (hL.within k hk h6);obtain ⟨q,hq⟩:=Int.eq_ofNat_of_zero_le (zcc (l[k]).size).1;obtain ⟨a,ha⟩:=Int.eq_ofNat_of_zero_le h2;have:=zd4 (l[k]).size hz (l[k]).choice (l[k]).els ⟨(tgF l k st.d).toArray⟩ (atF l k) q a hq (by rw[← hq]; exact ha) v.num _ rfl W (by rw[ba_sz,htl]; omega) (by rw[ba_sz]; omega);rw[zcn] at this
   have e2:wrF l[k] (atF l k) v.num (tgF l k st.d)=putL (tgF l k st.d) a (leB (xorI v.num (l[k]).els) q):=by
    unfold wrF;rw[if_neg h1',zcx h1,ha,hq]
    rfl
   rw[e2];exact this
 · have hkp:atF l k<st.p.length:=by rw[hpl]; exact hL.ptr k hk hz
   obtain ⟨g,rfl,hgb⟩:=zkf hOw (by omega)
   have e1:setF l k v st=⟨tgF l k st.d,st.p.set (atF l k) v.nd⟩:=by unfold setF; rw[hfk,if_pos hz]
   rw[e1];refine (zhb x y c cy l st.d g cp m st.p bs R S0 k hk w hfl hok hd hyb hs v.num v.nd hv (l[k]).els (l[k]).choice (by rw[← hz]) _ rfl hOw hnd hkp hRw hRb hgb hN hT).mono ?_;rintro e w' ⟨bs',rfl,h1,h2,h3, -,h5⟩;exact ⟨bs',by show _=Ending.returned _; rw[List.length_set],h1,h2,h3,h5⟩
theorem zj6 (w:World):Calls Tryz.prog 38 #[.agg #[.int .i64 0,.string { data:= #[] },.slice none 0 0,.int .i64 0,.int .i64 0,.slice none 0 0]] w fun e w'=>e= .returned (.agg #[.int .i64 0,.string { data:= #[] },.slice none 0 0,.int .i64 0,.int .i64 0,.slice none 0 0])∧Below w.heap.size w w':=by
 have q0:=z0j w (.cells #[.int .i64 0,.string { data:= #[] },.slice none 0 0,.int .i64 0,.int .i64 0,.slice none 0 0] nodeT);have q1:=z0m q0 (.cells #[.int .i64 0,.string { data:= #[] },.slice none 0 0,.int .i64 0,.int .i64 0,.slice none 0 0] nodeT);have q2:=z0m q1 (.cells #[.int .i64 0,.string { data:= #[] },.slice none 0 0,.int .i64 0,.int .i64 0,.slice none 0 0] nodeT);have r0:=z02 (z02 (heap_alloc_new w (.cells #[.int .i64 0,.string { data:= #[] },.slice none 0 0,.int .i64 0,.int .i64 0,.slice none 0 0] nodeT)) (.cells #[.int .i64 0,.string { data:= #[] },.slice none 0 0,.int .i64 0,.int .i64 0,.slice none 0 0] nodeT)) (.cells #[.int .i64 0,.string { data:= #[] },.slice none 0 0,.int .i64 0,.int .i64 0,.slice none 0 0] nodeT);have r1:=z02 (z0s q0 #[.int .i64 0,.string { data:= #[] },.slice none 0 0,.int .i64 0,.int .i64 0,.slice none 0 0] nodeT) (.cells #[.int .i64 0,.string { data:= #[] },.slice none 0 0,.int .i64 0,.int .i64 0,.slice none 0 0] nodeT);have r2:=z0s q1 #[.int .i64 0,.string { data:= #[] },.slice none 0 0,.int .i64 0,.int .i64 0,.slice none 0 0] nodeT;have HB0:=hid q2.2;have R1:=hid r1;obtain ⟨a0,a1,a2,a3,a4,a5⟩:=z04 r0;obtain ⟨z0,z1,z2,z3,z4,z5⟩:=z04 r1;obtain ⟨c0,c1,c2,c3,c4,c5⟩:=z04 r2;have zf:=z03 r1;clear q0 q1 q2 r0 r1 r2;go_enter Tryz.func38,Tryz.ntmps38
 go_wp2_with fail
 generalize ((w.alloc (.cells #[.int .i64 0,.string { data:= #[] },.slice none 0 0,.int .i64 0,.int .i64 0,.slice none 0 0] nodeT)).alloc (.cells #[.int .i64 0,.string { data:= #[] },.slice none 0 0,.int .i64 0,.int .i64 0,.slice none 0 0] nodeT)).alloc (.cells #[.int .i64 0,.string { data:= #[] },.slice none 0 0,.int .i64 0,.int .i64 0,.slice none 0 0] nodeT)=W0 at *
 go_loopw [4] (fun i wr=>i= .int .i64 0∧Hid (wr=W0)) (fun i _=>0)
 case atStart=>exact ⟨rfl,hid rfl⟩
 case round =>
  obtain ⟨rfl,H1⟩:=hrel;obtain rfl:=H1.out
  go_wp2_with fail
  go_loopw [5] (fun i wr'=>i= .int .i64 0∧Hid (wr'=wr)) (fun i _=>0)
  case atStart=>exact ⟨rfl,hid rfl⟩
  case round =>
   obtain ⟨rfl,H2⟩:=hrel;obtain rfl:=H2.out
   go_wp2_with fail
   obtain ⟨wf,hwf,hrw,hbf,huw⟩:=fin6 R1.out HB0.out (show w.heap.size≤w.heap.size+1 by omega) (.int .i64 0) (.string { data:= #[] }) (.slice none 0 0) (.int .i64 0) (.int .i64 0) (.slice none 0 0);rw[hwf];obtain ⟨e0,e1,e2,e3,e4,e5⟩:=z04 hrw;exact bodyPost_ret (v:= .agg #[.int .i64 0,.string { data:= #[] },.slice none 0 0,.int .i64 0,.int .i64 0,.slice none 0 0]) (by simp[results,Tryz.results38,go_sem,e0,e1,e2,e3,e4,e5]) rfl ⟨rfl,hbf⟩
end Go.Proofs.YtblcibgphccfkaaGreatDoor
