/- Texts of the proof of the law FnRecordCanon, side by side: part 28. -/
import Derived.Lib.ConvBytes
import Derived.Test.YtblcibgphccfkaaGreatDoorMRecordCanon27
set_option maxHeartbeats 8000000
set_option maxRecDepth 100000
open Go.Lib (hid)
namespace Go.Proofs.YtblcibgphccfkaaGreatDoor
open Go.RowKit Go.Deep
theorem zn6 (A:Option Addr)(c:Nat)(l:List Fld)(m:Nat)(n:Nd)(h:Hd)(w:World)(S:Nat→Prop)(h1w:1<w.heap.size)(hl:Flds w A l)(hll:l.length≤10000000)(hn:NdAt w S m n h)(htn:totN m n≤2000000)(k:Nat)(a:Int)(hak:a=(k:Int))(hyes:recB l n=true)(hk:k<l.length)(z el:Int)(fc:Bool)(hf:l[k]=⟨z,fc,el⟩)(hfc:fc=false)(hz6:(z==6)=true)(hmx:n.ptrs.length≤maxLen)(j:Nat)(yv:Nd)(hv:Hd)(xp:Addr)(hlt:((atF l k:Nat):Int)<n.ptrs.length)(hxp:h.A=some xp)(hcp:NdCell w (xp.add (atF l k*6)) yv hv)(hny:NdAt w S j yv hv)(hty:totN j yv≤2000000) :
 Calls Tryz.prog 9 #[.slice A l.length c,.agg #[.int .i64 n.kind,.string n.data,.slice h.A n.ptrs.length h.a,.int .i64 n.size,.int .i64 n.count,.slice h.B n.items.length h.b],.int .i64 a] w (z0x (j+1) 0 yv true w):=by
 have q0:=z0j w (.cells #[.int .i64 n.kind,.string n.data,.slice h.A n.ptrs.length h.a,.int .i64 n.size,.int .i64 n.count,.slice h.B n.items.length h.b] nodeT);have q1:=z0m q0 (.cells #[.int .i64 0,.int .i64 0,.string { data:= #[] },.slice none 0 0,.int .i64 0,.int .i64 0,.slice none 0 0] valT);have r0:=z02 (heap_alloc_new w (.cells #[.int .i64 n.kind,.string n.data,.slice h.A n.ptrs.length h.a,.int .i64 n.size,.int .i64 n.count,.slice h.B n.items.length h.b] nodeT)) (.cells #[.int .i64 0,.int .i64 0,.string { data:= #[] },.slice none 0 0,.int .i64 0,.int .i64 0,.slice none 0 0] valT);have r1:=z0s q0 #[.int .i64 0,.int .i64 0,.string { data:= #[] },.slice none 0 0,.int .i64 0,.int .i64 0,.slice none 0 0] valT;have HB0:=hid q1.2;have R0:=hid r0;have R1:=hid r1;have HIS:=hid (fun (W:World) (hW:Below w.heap.size w W)=>z4e A c l m n h W S (hl.below hW) hll (hn.below hW) htn);have HL:=hid hl;have HH1:=hid h1w;obtain ⟨a0,a1,a2,a3,a4,a5⟩:=z04 r0;subst hak;rw[hyes] at HIS;have hok9:=(z17 hyes).2.2;have hl12:=z0n hok9;have HD:=hid hn.1;have HIN:Hid (inB (k:Int) 0 ((l.length:Int)-1)=true):=hid (by simp[inB]; omega);have HLY:=hid (fun (W:World) (hW:Below w.heap.size w W)=>z12 A c l W (Nat.lt_of_lt_of_le HH1.out hW.size) (HL.out.below hW) hok9);have HPL:=hid (fun (W:World) (hW:Below w.heap.size w W)=>z1m A c l k hk W (HL.out.below hW) hl12);have HCH:=hid (fun (A1:Option Addr) (ln cp1:Nat) (W:World)=>z1u A1 ln cp1 l n h W HD.out hyes);have HCP:=hid (fun (W:World) (hW:Below w.heap.size w W)=>z7k j yv hv W S (hny.below hW) hty)
 have HNC:=hid hcp;have HXX:=hid hxp;unfold NewO at HCP;clear hcp hxp hny hty;subst hfc;clear q1 q0 r0 r1 hl hn htn h1w;go_enter Tryz.func9,Tryz.ntmps9
 go_wp2_with fail
 clear a0 a1 a2 a3 a4 a5;generalize (w.alloc (.cells #[.int .i64 n.kind,.string n.data,.slice h.A n.ptrs.length h.a,.int .i64 n.size,.int .i64 n.count,.slice h.B n.items.length h.b] nodeT)).alloc (.cells #[.int .i64 0,.int .i64 0,.string { data:= #[] },.slice none 0 0,.int .i64 0,.int .i64 0,.slice none 0 0] valT)=W at *;refine (HIS.out _ HB0.out).mono ?_;rintro e w1 ⟨rfl,hb1⟩;have HB1:=hid (HB0.out.trans (hb1.mono HB0.out.size));have X0:=hid ((hb1.block _ (z00 R0.out)).trans R0.out);have X1:=hid ((hb1.block _ (z00 R1.out)).trans R1.out);clear hb1
 have hl1:1≤l.length:=by omega
 have hk9:((k:Nat):Int)<l.length:=by omega
 go_wp2_with (go_at_call 34; refine (z0t _ _ _ _).mono ?_; rintro e w' ⟨rfl,rfl⟩; rw[HIN.out])
 refine (HLY.out _ HB1.out).mono ?_;rintro e w2 ⟨v1,rfl,hown,hb2⟩;have HB2:=hid (HB1.out.trans (hb2.mono HB1.out.size));have Y0:=hid ((hb2.block _ (z00 X0.out)).trans X0.out);have Y1:=hid ((hb2.block _ (z00 X1.out)).trans X1.out);obtain ⟨A1,cp1,rfl⟩:=z0h hown;obtain ⟨y,rfl,hyb,hsy⟩:=z1f (l:=(layF l ps0).1) (k:=k) (by rw[z0a]; exact hown) (by rw[z0a]; exact hk);have hsy':w2.cell? (y.add k)=some (.int .i64 (atF l k:Nat)):=hsy;obtain ⟨x,rfl,hxb,hx⟩:=(HL.out.below HB2.out).at2 hk;rw[hf] at hx;have p0:=z0j w2 (.cells #[.int .i64 ((layF l ps0).2.ls.words:Int),.int .i64 ((layF l ps0).2.ptrs:Int),.slice (some y) l.length cp1,.int .i64 (tagL l)] 37);have p1:=z0m p0 (.cells #[.int .i64 z,.bool false,.int .i64 el] 41);have hB4:=hid (HB2.out.trans (p1.2.mono HB2.out.size));have HSZ:=hid p1.1;have HLR:=hid (z02 (heap_alloc_new w2 (.cells #[.int .i64 ((layF l ps0).2.ls.words:Int),.int .i64 ((layF l ps0).2.ptrs:Int),.slice (some y) l.length cp1,.int .i64 (tagL l)] 37)) (.cells #[.int .i64 z,.bool false,.int .i64 el] 41));have HFR:=hid (z0s p0 #[.int .i64 z,.bool false,.int .i64 el] 41);have HY0:=hid ((p1.2.block _ (z00 Y0.out)).trans Y0.out);have HY1:=hid ((p1.2.block _ (z00 Y1.out)).trans Y1.out);have HYC:=hid ((p1.2.cell (p:=y.add k) (by rw[z05]; exact hyb)).trans hsy');have HYB:Hid ((y.add k).block<w2.heap.size):=hid (by rw[z05]; exact hyb);have hx4:=hx.below p0.2 (by rw[z05]; exact hxb);obtain ⟨x0,x1,x2⟩:=hx4;obtain ⟨l0,l1,l2,l3⟩:=z0p HLR.out;obtain ⟨f0,f1,f2⟩:=z29 HFR.out;obtain ⟨n0,n1,n2,n3,n4,n5⟩:=z04 HY0.out
 have yk:=HYC.out;have hlv:layV l (.slice (some y) l.length cp1)= .agg #[.int .i64 ((layF l ps0).2.ls.words:Int),.int .i64 ((layF l ps0).2.ptrs:Int),.slice (some y) l.length cp1,.int .i64 (tagL l)]:=rfl;rw[hlv];clear hlv p0 p1 hown hyb hsy hsy' hxb hx hb2 hf hyes hok9;have HLR6:=HLR;have HFR6:=HFR;have HN6:=HY0;have HZ6:=HY1;have HB6:=hB4;obtain ⟨z0,z1,z2,z3,z4,z5,z6⟩:=z09 HZ6.out;have zf:=z03 HZ6.out;have hnc:=HNC.out.block (HB6.out.block _ HNC.out.lt);obtain ⟨d0,d1,d2,d3,d4,d5⟩:=hnc;have hxx:=HXX.out;rw[hxx] at n2
 go_wp2_with fail
 clear l0 l1 l2 l3 f0 f1 f2 n0 n1 n2 n3 n4 n5 yk z0 z1 z2 z3 z4 z5 z6 zf d0 d1 d2 d3 d4 d5 hxx
 try clear x0 x1 x2
 try generalize hW:(w2.alloc (.cells #[.int .i64 ((layF l ps0).2.ls.words:Int),.int .i64 ((layF l ps0).2.ptrs:Int),.slice (some y) l.length cp1,.int .i64 (tagL l)] 37)).alloc (.cells #[.int .i64 z,.bool false,.int .i64 el] 41)=w6 at *
 refine (HCP.out _ HB6.out).mono ?_;rintro e w7 ⟨h5,bs,rfl,ho,hd5,hg5,hb7⟩;have HB7:=hid (HB6.out.trans (hb7.mono HB6.out.size));have HZ7:=hid ((hb7.block _ (z00 HZ6.out)).trans HZ6.out);have HO:=hid ho;have HG:=hid (And.intro hd5 hg5);have HS6:=hid (z00 HZ6.out);clear hb7 ho hd5 hg5;obtain ⟨z0,z1,z2,z3,z4,z5,z6⟩:=z09 HZ7.out;have zf:=z03 HZ7.out
 go_wp2_with fail
 obtain ⟨wf,hwf,hrw,hbf,hkf⟩:=finV (w:=w) (R:=w.heap.size) (.int .i64 0) (.int .i64 yv.kind) (.string yv.data) (.slice h5.A yv.ptrs.length h5.a) (.int .i64 yv.size) (.int .i64 yv.count) (.slice h5.B yv.items.length h5.b) HZ7.out HB7.out (by omega)
 try rw[hwf]
 obtain ⟨e0,e1,e2,e3,e4,e5,e6⟩:=z09 hrw;exact bodyPost_ret (v:= .tuple #[.agg #[.int .i64 0,.int .i64 yv.kind,.string yv.data,.slice h5.A yv.ptrs.length h5.a,.int .i64 yv.size,.int .i64 yv.count,.slice h5.B yv.items.length h5.b],.bool true]) (by simp[results,Tryz.results9,go_sem,e0,e1,e2,e3,e4,e5,e6]) rfl ⟨h5,bs,rfl,HO.out.frame (fun b hb=>hkf b (by have:=HG.out.2 b hb; have:=HS6.out; omega)),HG.out.1,fun b hb=>by have:=HG.out.2 b hb; have:=HS6.out; omega,hbf⟩
theorem zm4 (A:Option Addr)(c:Nat)(l:List Fld)(m:Nat)(n:Nd)(h:Hd)(w:World)(S:Nat→Prop)(h1w:1<w.heap.size)(hl:Flds w A l)(hll:l.length≤10000000)(hn:NdAt w S m n h)(htn:totN m n≤2000000)(k:Nat)(a:Int)(hak:a=(k:Int))(hyes:recB l n=true)(hk:k<l.length)(z el:Int)(fc:Bool)(hf:l[k]=⟨z,fc,el⟩)(hfc:fc=true)(htg:tagL l<0)(hz6:(z==6)=true)(hmx:n.ptrs.length≤maxLen)(j:Nat)(yv:Nd)(hv:Hd)(xp:Addr)(hlt:((atF l k:Nat):Int)<n.ptrs.length)(hxp:h.A=some xp)(hcp:NdCell w (xp.add (atF l k*6)) yv hv)(hny:NdAt w S j yv hv)(hty:totN j yv≤2000000) :
 Calls Tryz.prog 9 #[.slice A l.length c,.agg #[.int .i64 n.kind,.string n.data,.slice h.A n.ptrs.length h.a,.int .i64 n.size,.int .i64 n.count,.slice h.B n.items.length h.b],.int .i64 a] w (z0x (j+1) 0 yv true w):=by
 have q0:=z0j w (.cells #[.int .i64 n.kind,.string n.data,.slice h.A n.ptrs.length h.a,.int .i64 n.size,.int .i64 n.count,.slice h.B n.items.length h.b] nodeT);have q1:=z0m q0 (.cells #[.int .i64 0,.int .i64 0,.string { data:= #[] },.slice none 0 0,.int .i64 0,.int .i64 0,.slice none 0 0] valT);have r0:=z02 (heap_alloc_new w (.cells #[.int .i64 n.kind,.string n.data,.slice h.A n.ptrs.length h.a,.int .i64 n.size,.int .i64 n.count,.slice h.B n.items.length h.b] nodeT)) (.cells #[.int .i64 0,.int .i64 0,.string { data:= #[] },.slice none 0 0,.int .i64 0,.int .i64 0,.slice none 0 0] valT);have r1:=z0s q0 #[.int .i64 0,.int .i64 0,.string { data:= #[] },.slice none 0 0,.int .i64 0,.int .i64 0,.slice none 0 0] valT;have HB0:=hid q1.2;have R0:=hid r0;have R1:=hid r1;have HIS:=hid (fun (W:World) (hW:Below w.heap.size w W)=>z4e A c l m n h W S (hl.below hW) hll (hn.below hW) htn);have HL:=hid hl;have HH1:=hid h1w;obtain ⟨a0,a1,a2,a3,a4,a5⟩:=z04 r0;subst hak;rw[hyes] at HIS;have hok9:=(z17 hyes).2.2;have hl12:=z0n hok9;have HD:=hid hn.1;have HIN:Hid (inB (k:Int) 0 ((l.length:Int)-1)=true):=hid (by simp[inB]; omega);have HLY:=hid (fun (W:World) (hW:Below w.heap.size w W)=>z12 A c l W (Nat.lt_of_lt_of_le HH1.out hW.size) (HL.out.below hW) hok9);have HPL:=hid (fun (W:World) (hW:Below w.heap.size w W)=>z1m A c l k hk W (HL.out.below hW) hl12);have HCH:=hid (fun (A1:Option Addr) (ln cp1:Nat) (W:World)=>z1u A1 ln cp1 l n h W HD.out hyes);have HCP:=hid (fun (W:World) (hW:Below w.heap.size w W)=>z7k j yv hv W S (hny.below hW) hty)
 have HNC:=hid hcp;have HXX:=hid hxp;unfold NewO at HCP;clear hcp hxp hny hty;subst hfc
 have htg2:decide (0≤tagL l)=false:=by simp; omega
 clear q1 q0 r0 r1 hl hn htn h1w;go_enter Tryz.func9,Tryz.ntmps9
 go_wp2_with fail
 clear a0 a1 a2 a3 a4 a5;generalize (w.alloc (.cells #[.int .i64 n.kind,.string n.data,.slice h.A n.ptrs.length h.a,.int .i64 n.size,.int .i64 n.count,.slice h.B n.items.length h.b] nodeT)).alloc (.cells #[.int .i64 0,.int .i64 0,.string { data:= #[] },.slice none 0 0,.int .i64 0,.int .i64 0,.slice none 0 0] valT)=W at *;refine (HIS.out _ HB0.out).mono ?_;rintro e w1 ⟨rfl,hb1⟩;have HB1:=hid (HB0.out.trans (hb1.mono HB0.out.size));have X0:=hid ((hb1.block _ (z00 R0.out)).trans R0.out);have X1:=hid ((hb1.block _ (z00 R1.out)).trans R1.out);clear hb1
 have hl1:1≤l.length:=by omega
 have hk9:((k:Nat):Int)<l.length:=by omega
 go_wp2_with (go_at_call 34; refine (z0t _ _ _ _).mono ?_; rintro e w' ⟨rfl,rfl⟩; rw[HIN.out])
 refine (HLY.out _ HB1.out).mono ?_;rintro e w2 ⟨v1,rfl,hown,hb2⟩;have HB2:=hid (HB1.out.trans (hb2.mono HB1.out.size));have Y0:=hid ((hb2.block _ (z00 X0.out)).trans X0.out);have Y1:=hid ((hb2.block _ (z00 X1.out)).trans X1.out);obtain ⟨A1,cp1,rfl⟩:=z0h hown;obtain ⟨y,rfl,hyb,hsy⟩:=z1f (l:=(layF l ps0).1) (k:=k) (by rw[z0a]; exact hown) (by rw[z0a]; exact hk);have hsy':w2.cell? (y.add k)=some (.int .i64 (atF l k:Nat)):=hsy;obtain ⟨x,rfl,hxb,hx⟩:=(HL.out.below HB2.out).at2 hk;rw[hf] at hx;have p0:=z0j w2 (.cells #[.int .i64 ((layF l ps0).2.ls.words:Int),.int .i64 ((layF l ps0).2.ptrs:Int),.slice (some y) l.length cp1,.int .i64 (tagL l)] 37);have p1:=z0m p0 (.cells #[.int .i64 z,.bool true,.int .i64 el] 41);have hB4:=hid (HB2.out.trans (p1.2.mono HB2.out.size));have HSZ:=hid p1.1;have HLR:=hid (z02 (heap_alloc_new w2 (.cells #[.int .i64 ((layF l ps0).2.ls.words:Int),.int .i64 ((layF l ps0).2.ptrs:Int),.slice (some y) l.length cp1,.int .i64 (tagL l)] 37)) (.cells #[.int .i64 z,.bool true,.int .i64 el] 41));have HFR:=hid (z0s p0 #[.int .i64 z,.bool true,.int .i64 el] 41);have HY0:=hid ((p1.2.block _ (z00 Y0.out)).trans Y0.out);have HY1:=hid ((p1.2.block _ (z00 Y1.out)).trans Y1.out);have HYC:=hid ((p1.2.cell (p:=y.add k) (by rw[z05]; exact hyb)).trans hsy');have HYB:Hid ((y.add k).block<w2.heap.size):=hid (by rw[z05]; exact hyb);have hx4:=hx.below p0.2 (by rw[z05]; exact hxb);obtain ⟨x0,x1,x2⟩:=hx4;obtain ⟨l0,l1,l2,l3⟩:=z0p HLR.out;obtain ⟨f0,f1,f2⟩:=z29 HFR.out;obtain ⟨n0,n1,n2,n3,n4,n5⟩:=z04 HY0.out
 have yk:=HYC.out;have hlv:layV l (.slice (some y) l.length cp1)= .agg #[.int .i64 ((layF l ps0).2.ls.words:Int),.int .i64 ((layF l ps0).2.ptrs:Int),.slice (some y) l.length cp1,.int .i64 (tagL l)]:=rfl;rw[hlv];clear hlv p0 p1 hown hyb hsy hsy' hxb hx hb2 hf hyes hok9;have HLR6:=HLR;have HFR6:=HFR;have HN6:=HY0;have HZ6:=HY1;have HB6:=hB4;obtain ⟨z0,z1,z2,z3,z4,z5,z6⟩:=z09 HZ6.out;have zf:=z03 HZ6.out;have hnc:=HNC.out.block (HB6.out.block _ HNC.out.lt);obtain ⟨d0,d1,d2,d3,d4,d5⟩:=hnc;have hxx:=HXX.out;rw[hxx] at n2
 go_wp2_with fail
 clear l0 l1 l2 l3 f0 f1 f2 n0 n1 n2 n3 n4 n5 yk z0 z1 z2 z3 z4 z5 z6 zf d0 d1 d2 d3 d4 d5 hxx
 try clear x0 x1 x2
 try generalize hW:(w2.alloc (.cells #[.int .i64 ((layF l ps0).2.ls.words:Int),.int .i64 ((layF l ps0).2.ptrs:Int),.slice (some y) l.length cp1,.int .i64 (tagL l)] 37)).alloc (.cells #[.int .i64 z,.bool true,.int .i64 el] 41)=w6 at *
 refine (HCP.out _ HB6.out).mono ?_;rintro e w7 ⟨h5,bs,rfl,ho,hd5,hg5,hb7⟩;have HB7:=hid (HB6.out.trans (hb7.mono HB6.out.size));have HZ7:=hid ((hb7.block _ (z00 HZ6.out)).trans HZ6.out);have HO:=hid ho;have HG:=hid (And.intro hd5 hg5);have HS6:=hid (z00 HZ6.out);clear hb7 ho hd5 hg5;obtain ⟨z0,z1,z2,z3,z4,z5,z6⟩:=z09 HZ7.out;have zf:=z03 HZ7.out
 go_wp2_with fail
 obtain ⟨wf,hwf,hrw,hbf,hkf⟩:=finV (w:=w) (R:=w.heap.size) (.int .i64 0) (.int .i64 yv.kind) (.string yv.data) (.slice h5.A yv.ptrs.length h5.a) (.int .i64 yv.size) (.int .i64 yv.count) (.slice h5.B yv.items.length h5.b) HZ7.out HB7.out (by omega)
 try rw[hwf]
 obtain ⟨e0,e1,e2,e3,e4,e5,e6⟩:=z09 hrw;exact bodyPost_ret (v:= .tuple #[.agg #[.int .i64 0,.int .i64 yv.kind,.string yv.data,.slice h5.A yv.ptrs.length h5.a,.int .i64 yv.size,.int .i64 yv.count,.slice h5.B yv.items.length h5.b],.bool true]) (by simp[results,Tryz.results9,go_sem,e0,e1,e2,e3,e4,e5,e6]) rfl ⟨h5,bs,rfl,HO.out.frame (fun b hb=>hkf b (by have:=HG.out.2 b hb; have:=HS6.out; omega)),HG.out.1,fun b hb=>by have:=HG.out.2 b hb; have:=HS6.out; omega,hbf⟩
theorem zmt (A:Option Addr)(c:Nat)(l:List Fld)(m:Nat)(n:Nd)(h:Hd)(w:World)(S:Nat→Prop)(h1w:1<w.heap.size)(hl:Flds w A l)(hll:l.length≤10000000)(hn:NdAt w S m n h)(htn:totN m n≤2000000)(k:Nat)(a:Int)(hak:a=(k:Int))(hyes:recB l n=true)(hk:k<l.length)(z el:Int)(fc:Bool)(hf:l[k]=⟨z,fc,el⟩)(hfc:fc=true)(htg:0≤tagL l)(heq:choN l n=(plcN l k:Int))(hz6:(z==6)=true)(hmx:n.ptrs.length≤maxLen)(j:Nat)(yv:Nd)(hv:Hd)(xp:Addr)(hlt:((atF l k:Nat):Int)<n.ptrs.length)(hxp:h.A=some xp)(hcp:NdCell w (xp.add (atF l k*6)) yv hv)(hny:NdAt w S j yv hv)(hty:totN j yv≤2000000) :
 Calls Tryz.prog 9 #[.slice A l.length c,.agg #[.int .i64 n.kind,.string n.data,.slice h.A n.ptrs.length h.a,.int .i64 n.size,.int .i64 n.count,.slice h.B n.items.length h.b],.int .i64 a] w (z0x (j+1) 0 yv true w):=by
 have q0:=z0j w (.cells #[.int .i64 n.kind,.string n.data,.slice h.A n.ptrs.length h.a,.int .i64 n.size,.int .i64 n.count,.slice h.B n.items.length h.b] nodeT);have q1:=z0m q0 (.cells #[.int .i64 0,.int .i64 0,.string { data:= #[] },.slice none 0 0,.int .i64 0,.int .i64 0,.slice none 0 0] valT);have r0:=z02 (heap_alloc_new w (.cells #[.int .i64 n.kind,.string n.data,.slice h.A n.ptrs.length h.a,.int .i64 n.size,.int .i64 n.count,.slice h.B n.items.length h.b] nodeT)) (.cells #[.int .i64 0,.int .i64 0,.string { data:= #[] },.slice none 0 0,.int .i64 0,.int .i64 0,.slice none 0 0] valT);have r1:=z0s q0 #[.int .i64 0,.int .i64 0,.string { data:= #[] },.slice none 0 0,.int .i64 0,.int .i64 0,.slice none 0 0] valT;have HB0:=hid q1.2;have R0:=hid r0;have R1:=hid r1;have HIS:=hid (fun (W:World) (hW:Below w.heap.size w W)=>z4e A c l m n h W S (hl.below hW) hll (hn.below hW) htn);have HL:=hid hl;have HH1:=hid h1w;obtain ⟨a0,a1,a2,a3,a4,a5⟩:=z04 r0;subst hak;rw[hyes] at HIS;have hok9:=(z17 hyes).2.2;have hl12:=z0n hok9;have HD:=hid hn.1;have HIN:Hid (inB (k:Int) 0 ((l.length:Int)-1)=true):=hid (by simp[inB]; omega);have HLY:=hid (fun (W:World) (hW:Below w.heap.size w W)=>z12 A c l W (Nat.lt_of_lt_of_le HH1.out hW.size) (HL.out.below hW) hok9);have HPL:=hid (fun (W:World) (hW:Below w.heap.size w W)=>z1m A c l k hk W (HL.out.below hW) hl12);have HCH:=hid (fun (A1:Option Addr) (ln cp1:Nat) (W:World)=>z1u A1 ln cp1 l n h W HD.out hyes);have HCP:=hid (fun (W:World) (hW:Below w.heap.size w W)=>z7k j yv hv W S (hny.below hW) hty)
 have HNC:=hid hcp;have HXX:=hid hxp;unfold NewO at HCP;clear hcp hxp hny hty;subst hfc
 have htg2:decide (0≤tagL l)=true:=by simp; omega
 have HNE:Hid (((choN l n) != ((plcN l k:Nat):Int))=false):=hid (by simpa using heq);clear heq;clear q1 q0 r0 r1 hl hn htn h1w;go_enter Tryz.func9,Tryz.ntmps9
 go_wp2_with fail
 clear a0 a1 a2 a3 a4 a5;generalize (w.alloc (.cells #[.int .i64 n.kind,.string n.data,.slice h.A n.ptrs.length h.a,.int .i64 n.size,.int .i64 n.count,.slice h.B n.items.length h.b] nodeT)).alloc (.cells #[.int .i64 0,.int .i64 0,.string { data:= #[] },.slice none 0 0,.int .i64 0,.int .i64 0,.slice none 0 0] valT)=W at *;refine (HIS.out _ HB0.out).mono ?_;rintro e w1 ⟨rfl,hb1⟩;have HB1:=hid (HB0.out.trans (hb1.mono HB0.out.size));have X0:=hid ((hb1.block _ (z00 R0.out)).trans R0.out);have X1:=hid ((hb1.block _ (z00 R1.out)).trans R1.out);clear hb1
 have hl1:1≤l.length:=by omega
 have hk9:((k:Nat):Int)<l.length:=by omega
 go_wp2_with (go_at_call 34; refine (z0t _ _ _ _).mono ?_; rintro e w' ⟨rfl,rfl⟩; rw[HIN.out])
 refine (HLY.out _ HB1.out).mono ?_;rintro e w2 ⟨v1,rfl,hown,hb2⟩;have HB2:=hid (HB1.out.trans (hb2.mono HB1.out.size));have Y0:=hid ((hb2.block _ (z00 X0.out)).trans X0.out);have Y1:=hid ((hb2.block _ (z00 X1.out)).trans X1.out);obtain ⟨A1,cp1,rfl⟩:=z0h hown;obtain ⟨y,rfl,hyb,hsy⟩:=z1f (l:=(layF l ps0).1) (k:=k) (by rw[z0a]; exact hown) (by rw[z0a]; exact hk);have hsy':w2.cell? (y.add k)=some (.int .i64 (atF l k:Nat)):=hsy;obtain ⟨x,rfl,hxb,hx⟩:=(HL.out.below HB2.out).at2 hk;rw[hf] at hx;have p0:=z0j w2 (.cells #[.int .i64 ((layF l ps0).2.ls.words:Int),.int .i64 ((layF l ps0).2.ptrs:Int),.slice (some y) l.length cp1,.int .i64 (tagL l)] 37);have p1:=z0m p0 (.cells #[.int .i64 z,.bool true,.int .i64 el] 41);have hB4:=hid (HB2.out.trans (p1.2.mono HB2.out.size));have HSZ:=hid p1.1;have HLR:=hid (z02 (heap_alloc_new w2 (.cells #[.int .i64 ((layF l ps0).2.ls.words:Int),.int .i64 ((layF l ps0).2.ptrs:Int),.slice (some y) l.length cp1,.int .i64 (tagL l)] 37)) (.cells #[.int .i64 z,.bool true,.int .i64 el] 41));have HFR:=hid (z0s p0 #[.int .i64 z,.bool true,.int .i64 el] 41);have HY0:=hid ((p1.2.block _ (z00 Y0.out)).trans Y0.out);have HY1:=hid ((p1.2.block _ (z00 Y1.out)).trans Y1.out);have HYC:=hid ((p1.2.cell (p:=y.add k) (by rw[z05]; exact hyb)).trans hsy');have HYB:Hid ((y.add k).block<w2.heap.size):=hid (by rw[z05]; exact hyb);have hx4:=hx.below p0.2 (by rw[z05]; exact hxb);obtain ⟨x0,x1,x2⟩:=hx4;obtain ⟨l0,l1,l2,l3⟩:=z0p HLR.out;obtain ⟨f0,f1,f2⟩:=z29 HFR.out;obtain ⟨n0,n1,n2,n3,n4,n5⟩:=z04 HY0.out
 have yk:=HYC.out;have hlv:layV l (.slice (some y) l.length cp1)= .agg #[.int .i64 ((layF l ps0).2.ls.words:Int),.int .i64 ((layF l ps0).2.ptrs:Int),.slice (some y) l.length cp1,.int .i64 (tagL l)]:=rfl;rw[hlv];clear hlv p0 p1 hown hyb hsy hsy' hxb hx hb2 hf hyes hok9;generalize choN l n=cv at *;generalize ((plcN l k:Nat):Int)=pv at *
 go_wp2_with fail
 generalize (w2.alloc (.cells #[.int .i64 ((layF l ps0).2.ls.words:Int),.int .i64 ((layF l ps0).2.ptrs:Int),.slice (some y) l.length cp1,.int .i64 (tagL l)] 37)).alloc (.cells #[.int .i64 z,.bool true,.int .i64 el] 41)=W4 at *;clear l0 l1 l2 l3 f0 f1 f2 n0 n1 n2 n3 n4 n5 yk;clear x0 x1 x2;unfold layV4 at HCH;refine (HCH.out _ _ _ _).mono ?_;rintro e w5 ⟨rfl,hb5⟩;have HC5:=hid hb5;have HB5:=hid (hB4.out.trans (hb5.mono hB4.out.size));clear hb5
 go_wp2_with fail
 refine (HPL.out _ HB5.out).mono ?_;rintro e w6 ⟨rfl,hb6⟩;have HC6:=hid (HC5.out.trans (hb6.mono HC5.out.size));have HB6:=hid (HB5.out.trans (hb6.mono HB5.out.size));clear hb6;have hne9:=HNE.out;have HLR6:=hid ((HC6.out.block _ (z00 HLR.out)).trans HLR.out);have HFR6:=hid ((HC6.out.block _ (z00 HFR.out)).trans HFR.out);have HN6:=hid ((HC6.out.block _ (z00 HY0.out)).trans HY0.out);have HZ6:=hid ((HC6.out.block _ (z00 HY1.out)).trans HY1.out);have HY6:=hid ((HC6.out.cell (p:=y.add k) (by have:=HYB.out; have:=HSZ.out; omega)).trans HYC.out);obtain ⟨l0,l1,l2,l3⟩:=z0p HLR6.out;obtain ⟨f0,f1,f2⟩:=z29 HFR6.out;obtain ⟨n0,n1,n2,n3,n4,n5⟩:=z04 HN6.out;have yk:=HY6.out;obtain ⟨z0,z1,z2,z3,z4,z5,z6⟩:=z09 HZ6.out;have zf:=z03 HZ6.out;have hnc:=HNC.out.block (HB6.out.block _ HNC.out.lt);obtain ⟨d0,d1,d2,d3,d4,d5⟩:=hnc;have hxx:=HXX.out;rw[hxx] at n2
 go_wp2_with fail
 clear l0 l1 l2 l3 f0 f1 f2 n0 n1 n2 n3 n4 n5 yk z0 z1 z2 z3 z4 z5 z6 zf d0 d1 d2 d3 d4 d5 hxx
 try clear x0 x1 x2
 try generalize hW:w6=w6 at *
 refine (HCP.out _ HB6.out).mono ?_;rintro e w7 ⟨h5,bs,rfl,ho,hd5,hg5,hb7⟩;have HB7:=hid (HB6.out.trans (hb7.mono HB6.out.size));have HZ7:=hid ((hb7.block _ (z00 HZ6.out)).trans HZ6.out);have HO:=hid ho;have HG:=hid (And.intro hd5 hg5);have HS6:=hid (z00 HZ6.out);clear hb7 ho hd5 hg5;obtain ⟨z0,z1,z2,z3,z4,z5,z6⟩:=z09 HZ7.out;have zf:=z03 HZ7.out
 go_wp2_with fail
 obtain ⟨wf,hwf,hrw,hbf,hkf⟩:=finV (w:=w) (R:=w.heap.size) (.int .i64 0) (.int .i64 yv.kind) (.string yv.data) (.slice h5.A yv.ptrs.length h5.a) (.int .i64 yv.size) (.int .i64 yv.count) (.slice h5.B yv.items.length h5.b) HZ7.out HB7.out (by omega)
 try rw[hwf]
 obtain ⟨e0,e1,e2,e3,e4,e5,e6⟩:=z09 hrw;exact bodyPost_ret (v:= .tuple #[.agg #[.int .i64 0,.int .i64 yv.kind,.string yv.data,.slice h5.A yv.ptrs.length h5.a,.int .i64 yv.size,.int .i64 yv.count,.slice h5.B yv.items.length h5.b],.bool true]) (by simp[results,Tryz.results9,go_sem,e0,e1,e2,e3,e4,e5,e6]) rfl ⟨h5,bs,rfl,HO.out.frame (fun b hb=>hkf b (by have:=HG.out.2 b hb; have:=HS6.out; omega)),HG.out.1,fun b hb=>by have:=HG.out.2 b hb; have:=HS6.out; omega,hbf⟩
theorem z80 (A:Option Addr)(c:Nat)(l:List Fld)(m:Nat)(n:Nd)(h:Hd)(w:World)(S:Nat→Prop)(h1w:1<w.heap.size)(hl:Flds w A l)(hll:l.length≤10000000)(hn:NdAt w S m n h)(htn:totN m n≤2000000)(a:Int) :
 Calls Tryz.prog 9 #[.slice A l.length c,.agg #[.int .i64 n.kind,.string n.data,.slice h.A n.ptrs.length h.a,.int .i64 n.size,.int .i64 n.count,.slice h.B n.items.length h.b],.int .i64 a] w (z0x (m+1) (rgN l n a) (rgY l n a) (rgB l n a) w):=by
 have no:rgB l n a=false→z0x (m+1) (rgN l n a) (rgY l n a) (rgB l n a) w=z0x (m+1) 0 z07 false w:=fun hB=>by
  have e1:rgN l n a=0:=by unfold rgN; rw[hB]; rfl
  have e2:rgY l n a=z07:=by unfold rgY; rw[hB]; rfl
  rw[hB,e1,e2]
 cases hyes:recB l n
 · rw[no (by unfold rgB; rw[hyes]; rfl)]
   exact znt A c l m n h w S h1w hl hll hn htn a (m+1) hyes
 cases hw:withB a l.length
 · rw[no (by unfold rgB; rw[hyes,hw]; rfl)]
   exact zm7 A c l m n h w S h1w hl hll hn htn a (m+1) hyes hw
 have hwb:0≤a∧a<l.length:=by simpa [withB] using hw
 obtain ⟨k,rfl⟩:=Int.eq_ofNat_of_zero_le hwb.1
 have hk:k<l.length:=by omega
 have hte:=z43 hk;have hok9:=(z17 hyes).2.2;have hsz:=z2j hok9 k hk;have hfo:=zbg hok9 hk;have hfk:=z1n hk
 obtain ⟨z,fc,el,hf⟩:∃z fc el,l[k]=Fld.mk z fc el:=⟨_,_,_,rfl⟩
 rw[hf] at hte hsz hfo hfk
 dsimp only at hte hsz
 cases hs:seenB l n k
 · rw[no (by unfold rgB; rw[hyes,hw,Int.toNat_natCast,hs]; rfl)]
   have htb:z2v l k=true:=by
    cases hq:z2v l k
    · unfold seenB at hs; rw[hq] at hs; simp at hs
    · rfl
   have hne:choN l n≠(plcN l k:Int):=by unfold seenB at hs; rw[htb] at hs; simpa using hs
   rw[htb] at hte
   have h2:fc=true∧0≤tagL l:=by simpa using hte.symm
   exact zg1 A c l m n h w S h1w hl hll hn htn k _ rfl hyes hk z el fc hf (m+1) h2.1 h2.2 hne
 have hB:rgB l n (k:Int)=true:=by unfold rgB; rw[hyes,hw,Int.toNat_natCast,hs]; rfl
 have e1:rgN l n (k:Int)=fNum l n k:=by unfold rgN; rw[if_pos hB,Int.toNat_natCast]
 have e2:rgY l n (k:Int)=fNod l n k:=by unfold rgY; rw[if_pos hB,Int.toNat_natCast]
 rw[hB,e1,e2]
 have hT:fc=true→0≤tagL l→choN l n=(plcN l k:Int):=by
  intro h1 h2
  have htb:z2v l k=true:=by rw[hte,h1]; simp[h2]
  unfold seenB at hs; rw[htb] at hs; simpa using hs
 have hd:n.data.size≤maxLen:=hn.1;have hat:=zlm hok9 hk;have hby:=zia hyes;have hmx:=ze7 hn htn
 have num:∀xv:Int,(z==6)=false→(∀(W:World) (fc:Bool),Calls Tryz.prog 39 #[.agg #[.int .i64 z,.bool fc,.int .i64 el],.string n.data,.int .i64 (atF l k:Nat)] W fun e w'=>e= .returned (.int .i64 xv)∧Below W.heap.size W w') →
  Calls Tryz.prog 9 #[.slice A l.length c,.agg #[.int .i64 n.kind,.string n.data,.slice h.A n.ptrs.length h.a,.int .i64 n.size,.int .i64 n.count,.slice h.B n.items.length h.b],.int .i64 (k:Int)] w (z0x (m+1) xv z07 true w):=by
  intro xv hz6 HN
  cases hfc:fc
  · exact zk8 A c l m n h w S h1w hl hll hn htn k _ rfl hyes hk z el fc hf hfc (m+1) hz6 xv HN
  · by_cases htg:tagL l<0
    · exact zkp A c l m n h w S h1w hl hll hn htn k _ rfl hyes hk z el fc hf hfc htg (m+1) hz6 xv HN
    · exact zl6 A c l m n h w S h1w hl hll hn htn k _ rfl hyes hk z el fc hf hfc (by omega) (hT hfc (by omega)) (m+1) hz6 xv HN
 have hz:z=1∨(z=2∨z=3∨z=4∨z=5)∨z=6:=by omega
 rcases hz with hz | hz | hz
 · have e3:fNum l n k=xorI (bitI (byR n) (atF l k:Nat)) el:=by unfold fNum rawI; rw[hfk,if_neg (by dsimp only; omega),if_pos (by dsimp only; exact hz)]
   have e4:fNod l n k=z07:=by unfold fNod; rw[hfk,if_neg (by dsimp only; omega)]
   rw[e3,e4]
   refine num _ (by simp; omega) fun W fc=>?_
   rw[hz];exact zb2 fc el n.data _ W hd
 · have e3:fNum l n k=xorI (getI (byR n) ((atF l k:Nat)*wdF z) (wdF z)) el:=by unfold fNum rawI; rw[hfk,if_neg (by dsimp only; omega),if_neg (by dsimp only; omega)]
   have e4:fNod l n k=z07:=by unfold fNod; rw[hfk,if_neg (by dsimp only; omega)]
   rw[e3,e4]
   exact num _ (by simp; omega) fun W fc=>zb3 z hz fc el n.data (atF l k) hat W hd hby
 · have hz6:(z==6)=true:=by simp[hz]
   have e3:fNum l n k=0:=by unfold fNum; rw[hfk,if_pos (by dsimp only; exact hz)]
   rw[e3]
   by_cases hlt:atF l k<n.ptrs.length
   · obtain ⟨j,rfl⟩:=NdsAt.pred hn.2.1 hlt
     obtain ⟨x,hd9,hxe,hc9,hne⟩:=NdsAt.at_ hn.2.1 hlt
     have e4:fNod l n k=n.ptrs[atF l k]:=by
      unfold fNod;rw[hfk,if_pos (by dsimp only; exact hz),List.getElem?_eq_getElem hlt]
      rfl
     rw[e4]
     have hty:totN j n.ptrs[atF l k]≤2000000:=by
      rw[z19 hne];have h1:=z87 hlt;have h2:=z2a n
      have h3:sizN n≤2000000:=by rw[← z19 hn]; exact htn
      omega
     have hlt9:((atF l k:Nat):Int)<n.ptrs.length:=by omega
     refine Calls.mono ?_ (fun _ _ h=>z0x.up h);cases hfc:fc
     · exact zn6 A c l (j+1) n h w S h1w hl hll hn htn k _ rfl hyes hk z el fc hf hfc hz6 hmx j _ hd9 x hlt9 hxe hc9 hne hty
     · by_cases htg:tagL l<0
       · exact zm4 A c l (j+1) n h w S h1w hl hll hn htn k _ rfl hyes hk z el fc hf hfc htg hz6 hmx j _ hd9 x hlt9 hxe hc9 hne hty
       · exact zmt A c l (j+1) n h w S h1w hl hll hn htn k _ rfl hyes hk z el fc hf hfc (by omega) (hT hfc (by omega)) hz6 hmx j _ hd9 x hlt9 hxe hc9 hne hty
   · have hge9:(n.ptrs.length:Int)≤(atF l k:Nat):=by omega
     have e4:fNod l n k=z07:=by
      unfold fNod;rw[hfk,if_pos (by dsimp only; exact hz),List.getElem?_eq_none (by omega)]
      rfl
     rw[e4];cases hfc:fc
     · exact zmy A c l m n h w S h1w hl hll hn htn k _ rfl hyes hk z el fc hf hfc (m+1) hz6 hge9 hmx
     · by_cases htg:tagL l<0
       · exact znd A c l m n h w S h1w hl hll hn htn k _ rfl hyes hk z el fc hf hfc htg (m+1) hz6 hge9 hmx
       · exact zmn A c l m n h w S h1w hl hll hn htn k _ rfl hyes hk z el fc hf hfc (by omega) (hT hfc (by omega)) (m+1) hz6 hge9 hmx
end Go.Proofs.YtblcibgphccfkaaGreatDoor
namespace Go.Proofs.YtblcibgphccfkaaGreatDoor
open Go.RowKit
def SRow (w:World)(g:Nat)(e:TypeId)(cs:Array Value):Prop:=w.heap[g]? =some (.cells cs e (cs.size,cs.size+1))
theorem SRow.cell {w:World}{g:Nat}{e:TypeId}{cs:Array Value}(h:SRow w g e cs)(i:Nat):w.cell? ⟨g,i,none⟩=cs[i]? :=cell_of_row w g i cs e _ h
theorem SRow.frozen {w:World}{g:Nat}{e:TypeId}{cs:Array Value}(h:SRow w g e cs)(i:Nat)(hi:i<cs.size):w.frozen? ⟨g,i,none⟩=false:=by
 unfold SRow at h
 simp[World.frozen?,h]
 omega
theorem SRow.set {w:World}{g:Nat}{e:TypeId}{cs:Array Value}(h:SRow w g e cs)(i:Nat)(u:Value):SRow (w.setCell ⟨g,i,none⟩ u) g e (cs.setIfInBounds i u):=by
 unfold SRow at h ⊢
 simp[World.setCell,Array.getElem?_modify,h]
theorem z89 (w:World)(e:TypeId)(s:ByteArray):(Lib.bytesCells w e s).toList.take s.size=Lib.byteCells s.data.toList:=by
 have hs:s.data.size=s.size:=rfl;rw[Lib.bytesCells,Array.toList_append,List.take_append_of_le_length (by simp[hs]),List.take_of_length_le (by simp[hs])]
 simp[Lib.byteCells]
theorem z73 (w:World)(e:TypeId)(s:ByteArray):Below w.heap.size w (Lib.bytesWorld w e s) :=
 ⟨rfl,rfl,rfl,by rw[Lib.bytesWorld_size]; omega,fun k hk=>Lib.bytesWorld_at_old w e s k hk⟩
theorem zji (l:List Value)(n i:Nat)(v:Value)(h:i<n):(l.set i v).take n=(l.take n).set i v:=by
 apply List.ext_getElem?
 intro j
 by_cases hj:j<n
 · rw[List.getElem?_take_of_lt hj,List.getElem?_set,List.getElem?_set,List.getElem?_take_of_lt hj,List.length_take]
   by_cases hij:i=j
   · subst hij
     by_cases hl:i<l.length
     · simp[hl,show i<min n l.length by omega]
     · simp[hl,show ¬i<min n l.length by omega]
   · simp[hij]
 · rw[List.getElem?_eq_none (by simp; omega),List.getElem?_eq_none (by simp; omega)]
theorem zab (l:List UInt8)(i:Nat)(b:UInt8):(Lib.byteCells l).set i (.int .u8 (b.toNat:Int))=Lib.byteCells (l.set i b):=by simp[Lib.byteCells,List.map_set]
theorem zbr {w:World}{g i:Nat}{e:TypeId}{cs:Array Value}{s:ByteArray}(_h:SRow w g e cs)(ht:cs.toList.take s.size=Lib.byteCells s.data.toList)(hi:i<s.size):i<cs.size:=by
 have h:=congrArg List.length ht;rw[List.length_take,Lib.byteCells_length] at h
 simp at h
 omega
theorem zc7 {w:World}{g i:Nat}{e:TypeId}{cs:Array Value}{s:ByteArray}(h:SRow w g e cs)(ht:cs.toList.take s.size=Lib.byteCells s.data.toList)(hi:i<s.size):w.cell? ⟨g,i,none⟩=some (.int .u8 ((s.data.toList[i]?.getD 0).toNat:Int)):=by
 rw[h.cell];have h:=congrArg (fun x:List Value=>x[i]?) ht
 simp only[List.getElem?_take_of_lt hi,Array.getElem?_toList] at h
 rw[h]
 simp[Lib.byteCells,hi]
theorem z30 {P:Program}{w:World}{ops:Array Oper}{rest:List Oper}{o:Oper}{a:Act}{Q:Exit→Act→World→Prop}(hgd:o.guard=none)(src dst e:TypeId)(x:Operand)(ho:o.op= .convert src dst x)(s:ByteArray)
 (hx:a.eval x= .string s) {u:TypeDesc} (hs:P.underlying src=some u) (hd:P.underlying dst=some (.slice e)) (he:P.underlying e=some (.int .u8))
 (h:∀c w' cs,Hid (SRow w' w.heap.size e cs)→Hid (cs.toList.take s.size=Lib.byteCells s.data.toList)→Hid (Below w.heap.size w w')→Hid (w'.heap.size=w.heap.size+1)→wpList P ops Q rest (a.put o.dst (.slice (some ⟨w.heap.size,0,none⟩) s.size c)) w') :
 wpList P ops Q (o :: rest) a w:=by
 refine wpList_plain hgd fun _ hK=>?_
 have hr:=Lib.run_convert_string_bytes (P:=P) w src dst e s hs hd he;unfold Oper.wp execOp
 simp only[ho,hx,Sem.run_bind,hr,Result.andThen_ok,Sem.run_pure]
 exact hK _ _ (h _ _ _ (Lib.bytesWorld_at_new w e s) (z89 w e s) (z73 w e s) (Lib.bytesWorld_size w e s))
def newB (b:UInt8)(r bit:Nat):UInt8:=UInt8.ofNat ((b.toNat &&& (255-2^r)) ||| (bit*2^r))
def z5v (l:List UInt8)(i bit:Nat):List UInt8:=l.set (i/8) (newB (l[i/8]?.getD 0) (i%8) bit)
theorem z8k (r:Nat):255-2^r<256:=Nat.lt_of_le_of_lt (Nat.sub_le _ _) (by decide)
theorem z4h (r:Nat)(hr:r<8):2^r≤128:=Nat.pow_le_pow_right (by decide) (show r≤7 by omega)
theorem z99 (b:UInt8)(r bit:Nat)(hr:r<8)(hb:bit≤1):(newB b r bit).toNat=((b.toNat &&& (255-2^r)) ||| (bit*2^r)):=by
 have h:=z4h r hr;have h1:b.toNat &&& (255-2^r)<2^8:=Nat.and_lt_two_pow _ (z8k r)
 have h2:bit*2^r<2^8:=by
  have:bit=0∨bit=1:=by omega
  rcases this with rfl | rfl
  · simp
  · rw[Nat.one_mul]; exact Nat.lt_of_le_of_lt h (by decide)
 have h3:=Nat.or_lt_two_pow h1 h2;rw[newB,UInt8.toNat_ofNat',Nat.mod_eq_of_lt h3]
theorem zib (r:Nat)(hr:r<8):(2:Int)^r%256=((2^r:Nat):Int):=by
 have h:=z4h r hr;rw[show (2:Int)^r=((2^r:Nat):Int) by rw[Int.natCast_pow]; rfl];generalize 2^r=m at h ⊢;omega
theorem zo0 (b:UInt8)(r:Nat)(hr:r<8):bits .or .u8 (bits .andNot .u8 (b.toNat:Int) ((2:Int)^r%256)) 0=((newB b r 0).toNat:Int):=by
 have h:=z4h r hr;have h1:b.toNat &&& (255-2^r)<2^8:=Nat.and_lt_two_pow _ (z8k r);rw[zib r hr,u8_andNot_nat _ _ b.toNat_lt (Nat.lt_of_le_of_lt h (by decide)),show (0:Int)=((0:Nat):Int) from rfl,u8_or_nat _ _ h1 (by decide),z99 b r 0 hr (by omega)]
 simp
theorem znz (b:UInt8)(r:Nat)(hr:r<8):bits .or .u8 (bits .andNot .u8 (b.toNat:Int) ((2:Int)^r%256)) ((2:Int)^r%256)=((newB b r 1).toNat:Int):=by
 have h:=z4h r hr;have h1:b.toNat &&& (255-2^r)<2^8:=Nat.and_lt_two_pow _ (z8k r);rw[zib r hr,u8_andNot_nat _ _ b.toNat_lt (Nat.lt_of_le_of_lt h (by decide)),u8_or_nat _ _ h1 (Nat.lt_of_le_of_lt h (by decide)),z99 b r 1 hr (by omega)]
 simp
theorem zkb (r:Nat)(hr:r<8):wrap64 ((2:Int)^r)=(2:Int)^r:=by
 have h:=z4h r hr;rw[show (2:Int)^r=((2^r:Nat):Int) by rw[Int.natCast_pow]; rfl];generalize 2^r=m at h ⊢;exact z2w m (by omega)
end Go.Proofs.YtblcibgphccfkaaGreatDoor
