/- Texts of the proof of the law FnCanonSent, side by side: part 10. -/
import Derived.Test.YtlbfffokkhccaaaGreatDoorMCanonSent09
set_option maxHeartbeats 8000000
set_option maxRecDepth 100000
open Go.Lib (hid)
namespace Go.Proofs.YtlbfffokkhccaaaGreatDoor
open Go.RowKit Go.Deep
theorem zte {M rb cap:Nat}{A:Option Addr}{zs:List ByteArray}{w:World}{L L2:Int}(h:Rdr w rb A cap zs L)(b1 b2:Nat)(o p1 p2:Int)(j c:Nat)(n:Nd)
 (HL:∀W:World,Keeps w.heap.size rb w W→Rdr W rb A cap zs L→Calls Tryz.prog 131 #[.pointer (some ⟨rb,0,none⟩),.agg #[.int .i64 o,.int .i64 p1,.int .i64 p2],plV j c,.func (.func 84) #[] #[.pointer (some ⟨b1,0,none⟩),.pointer (some ⟨b2,0,none⟩)]] W (NdQ M rb A cap zs L2 n W)) :
 Calls Tryz.prog 87 #[.pointer (some ⟨rb,0,none⟩),siV o p1 p2,plV j c,.func (.func 84) #[] #[.pointer (some ⟨b1,0,none⟩),.pointer (some ⟨b2,0,none⟩)]] w (NdQ M rb A cap zs L2 n w):=by
 have HLL:=hid HL;have hlow:=h.low;have HLOW:=hid hlow;have HR:=hid h;obtain ⟨hb0,hr0,hr1,hr2⟩:=al3 w #[.int .i64 (j:Int),.int .i64 (c:Int)] #[.int .i64 0,.string { data:= #[] },.slice none 0 0,.int .i64 0,.int .i64 0,.slice none 0 0] #[.int .i64 o,.int .i64 p1,.int .i64 p2] 58 nodeT 168;have HR0:=hid (HR.out.below hb0);have HK0:=hid (Keeps.of_below (b:=rb) hb0);have HC:=hid (HLL.out _ HK0.out HR0.out);have R1:=hid hr1;obtain ⟨t0,t1⟩:=z04 hr0;obtain ⟨s0,s1,s2⟩:=z0k hr2;unfold NdQ at HC;clear hb0 hr0 hr1 hr2 HL h hlow;have a1:=z3f;have a2:=z4e;have a3:=z4i;go_enter Tryz.func87,Tryz.ntmps87
 go_wp2_with fail
 refine HC.out.mono ?_;rintro e w4 ⟨hy,rfl,hny,hrd4,hk4⟩;have hlt3:=z00 R1.out;have q4:=(hk4.block _ hlt3 (by have:=HLOW.out.rb; omega)).trans R1.out;obtain ⟨c0,c1,c2,c3,c4,c5⟩:=z01 q4;have hfz:=z02 q4;obtain ⟨wf,hwf,hrw,hn5,hrd5,hk5⟩:=NdQ.laid HLOW.out HK0.out ⟨by omega,hlt3⟩ R1.out hny hrd4 hk4;have HF:=hid (And.intro hn5 (And.intro hrd5 hk5));have HWF:=hid hwf;have HRW:=hid hrw;clear q4 t0 t1 s0 s1 s2 HC hny hrd4 hk4 hn5 hrd5 hk5 hwf hrw hlt3 a1 a2 a3;go_wp2;rw[HWF.out];obtain ⟨e0,e1,e2,e3,e4,e5⟩:=z01 HRW.out;exact bodyPost_ret (v:= .tuple #[.agg #[.int .i64 n.kind,.string n.data,.slice hy.A n.ptrs.length hy.a,.int .i64 n.size,.int .i64 n.count,.slice hy.B n.items.length hy.b],.nilIface]) (by simp[results,Tryz.results87,go_sem,e0,e1,e2,e3,e4,e5]) rfl ⟨hy,rfl,HF.out⟩
theorem zsw {M rb cap:Nat}{A:Option Addr}{zs:List ByteArray}{w:World}{L L2:Int}(h:Rdr w rb A cap zs L)(b1 b2:Nat)(o p2:Int)(j c:Nat)(n:Nd)
 (HL:∀W:World,Keeps w.heap.size rb w W→Rdr W rb A cap zs L→Calls Tryz.prog 132 #[.pointer (some ⟨rb,0,none⟩),.agg #[.int .i64 o,.int .i64 7,.int .i64 p2],plV j c,.func (.func 84) #[] #[.pointer (some ⟨b1,0,none⟩),.pointer (some ⟨b2,0,none⟩)]] W (NdQ M rb A cap zs L2 n W)) :
 Calls Tryz.prog 87 #[.pointer (some ⟨rb,0,none⟩),liV o 7 p2,plV j c,.func (.func 84) #[] #[.pointer (some ⟨b1,0,none⟩),.pointer (some ⟨b2,0,none⟩)]] w (NdQ M rb A cap zs L2 n w):=by
 have HLL:=hid HL;have hlow:=h.low;have HLOW:=hid hlow;have HR:=hid h;obtain ⟨hb0,hr0,hr1,hr2⟩:=al3 w #[.int .i64 (j:Int),.int .i64 (c:Int)] #[.int .i64 0,.string { data:= #[] },.slice none 0 0,.int .i64 0,.int .i64 0,.slice none 0 0] #[.int .i64 o,.int .i64 7,.int .i64 p2] 58 nodeT 170;have HR0:=hid (HR.out.below hb0);have HK0:=hid (Keeps.of_below (b:=rb) hb0);have HC:=hid (HLL.out _ HK0.out HR0.out);have R1:=hid hr1;obtain ⟨t0,t1⟩:=z04 hr0;obtain ⟨s0,s1,s2⟩:=z0k hr2;unfold NdQ at HC;clear hb0 hr0 hr1 hr2 HL h hlow;have a1:=z3f;have a2:=z4e;have a3:=z4i;go_enter Tryz.func87,Tryz.ntmps87
 go_wp2_with fail
 refine HC.out.mono ?_;rintro e w4 ⟨hy,rfl,hny,hrd4,hk4⟩;have hlt3:=z00 R1.out;have q4:=(hk4.block _ hlt3 (by have:=HLOW.out.rb; omega)).trans R1.out;obtain ⟨c0,c1,c2,c3,c4,c5⟩:=z01 q4;have hfz:=z02 q4;obtain ⟨wf,hwf,hrw,hn5,hrd5,hk5⟩:=NdQ.laid HLOW.out HK0.out ⟨by omega,hlt3⟩ R1.out hny hrd4 hk4;have HF:=hid (And.intro hn5 (And.intro hrd5 hk5));have HWF:=hid hwf;have HRW:=hid hrw;clear q4 t0 t1 s0 s1 s2 HC hny hrd4 hk4 hn5 hrd5 hk5 hwf hrw hlt3 a1 a2 a3;go_wp2;rw[HWF.out];obtain ⟨e0,e1,e2,e3,e4,e5⟩:=z01 HRW.out;exact bodyPost_ret (v:= .tuple #[.agg #[.int .i64 n.kind,.string n.data,.slice hy.A n.ptrs.length hy.a,.int .i64 n.size,.int .i64 n.count,.slice hy.B n.items.length hy.b],.nilIface]) (by simp[results,Tryz.results87,go_sem,e0,e1,e2,e3,e4,e5]) rfl ⟨hy,rfl,HF.out⟩
theorem zqo {M rb cap:Nat}{A:Option Addr}{zs:List ByteArray}{w:World}{L L2:Int}(h:Rdr w rb A cap zs L)(b1 b2:Nat)(o p1 p2:Int)(j c:Nat)(n:Nd)(hz7:(p1==7)=false)
 (HL:∀W:World,Keeps w.heap.size rb w W→Rdr W rb A cap zs L→Calls Tryz.prog 133 #[.pointer (some ⟨rb,0,none⟩),.agg #[.int .i64 o,.int .i64 p1,.int .i64 p2],plV j c,.func (.func 84) #[] #[.pointer (some ⟨b1,0,none⟩),.pointer (some ⟨b2,0,none⟩)]] W (NdQ M rb A cap zs L2 n W)) :
 Calls Tryz.prog 87 #[.pointer (some ⟨rb,0,none⟩),liV o p1 p2,plV j c,.func (.func 84) #[] #[.pointer (some ⟨b1,0,none⟩),.pointer (some ⟨b2,0,none⟩)]] w (NdQ M rb A cap zs L2 n w):=by
 have HLL:=hid HL;have hlow:=h.low;have HLOW:=hid hlow;have HR:=hid h;obtain ⟨hb0,hr0,hr1,hr2⟩:=al3 w #[.int .i64 (j:Int),.int .i64 (c:Int)] #[.int .i64 0,.string { data:= #[] },.slice none 0 0,.int .i64 0,.int .i64 0,.slice none 0 0] #[.int .i64 o,.int .i64 p1,.int .i64 p2] 58 nodeT 170;have HR0:=hid (HR.out.below hb0);have HK0:=hid (Keeps.of_below (b:=rb) hb0);have HC:=hid (HLL.out _ HK0.out HR0.out);have R1:=hid hr1;obtain ⟨t0,t1⟩:=z04 hr0;obtain ⟨s0,s1,s2⟩:=z0k hr2;unfold NdQ at HC;clear hb0 hr0 hr1 hr2 HL h hlow;have a1:=z3f;have a2:=z4e;have a3:=z4i;go_enter Tryz.func87,Tryz.ntmps87
 go_wp2_with fail
 refine HC.out.mono ?_;rintro e w4 ⟨hy,rfl,hny,hrd4,hk4⟩;have hlt3:=z00 R1.out;have q4:=(hk4.block _ hlt3 (by have:=HLOW.out.rb; omega)).trans R1.out;obtain ⟨c0,c1,c2,c3,c4,c5⟩:=z01 q4;have hfz:=z02 q4;obtain ⟨wf,hwf,hrw,hn5,hrd5,hk5⟩:=NdQ.laid HLOW.out HK0.out ⟨by omega,hlt3⟩ R1.out hny hrd4 hk4;have HF:=hid (And.intro hn5 (And.intro hrd5 hk5));have HWF:=hid hwf;have HRW:=hid hrw;clear q4 t0 t1 s0 s1 s2 HC hny hrd4 hk4 hn5 hrd5 hk5 hwf hrw hlt3 a1 a2 a3;go_wp2;rw[HWF.out];obtain ⟨e0,e1,e2,e3,e4,e5⟩:=z01 HRW.out;exact bodyPost_ret (v:= .tuple #[.agg #[.int .i64 n.kind,.string n.data,.slice hy.A n.ptrs.length hy.a,.int .i64 n.size,.int .i64 n.count,.slice hy.B n.items.length hy.b],.nilIface]) (by simp[results,Tryz.results87,go_sem,e0,e1,e2,e3,e4,e5]) rfl ⟨hy,rfl,HF.out⟩
theorem ptI_1 (o d p:Int):ptI (1,o,d,p,0,0,0,false)=siV o d p:=by simp[ptI,ptif]
theorem ptI_2 (o z c:Int):ptI (2,o,0,0,z,c,0,false)=liV o z c:=by simp[ptI,ptif]
theorem ptI_0:ptI (0,0,0,0,0,0,0,false)= .iface 129 (.agg #[]):=by simp[ptI,ptif]
theorem ptI_3 (o g:Int):ptI (3,o,0,0,0,0,g,false)=fiV o g:=by simp[ptI,ptif]
theorem zng (z:Int)(h0:0≤z)(h5:z≤5):z5d z=bz z:=by
 have h:z=0∨z=1∨z=2∨z=3∨z=4∨z=5:=by omega
 rcases h with rfl | rfl | rfl | rfl | rfl | rfl <;> rfl
theorem ziw (f:Nd→Nat)(l:List Nd):((l.flatMap Nd.ptrs).map f).sum=(l.map fun y=>(y.ptrs.map f).sum).sum:=by
 induction l with
 | nil=>rfl
 | cons a t ih=>rw[List.flatMap_cons,List.map_append,List.sum_append,ih,List.map_cons,List.sum_cons]
theorem zkx {n:Nd}(hl:(n.items.length:Int)=n.count)(W:World):Calls Tryz.prog 167 #[ptI (tgG n)] W fun e w'=>e= .returned (.tuple #[.agg #[.int .i64 (n.items.length:Int),.int .i64 (itD n:Int),.int .i64 (itP n:Int)],.bool true])∧Below W.heap.size W w':=by
 unfold tgG
 by_cases e:n.count=0∧itD n=0∧itP n=0
 · rw[if_pos e,ptI_0,hl,e.1,e.2.1,e.2.2]
   exact zlv W
 · rw[if_neg e,ptI_1,hl]
   exact zk6 _ _ _ W
theorem zl2 {s:Segs}{d:Nat}{n:Nd}(hf:formN n=true)(ho:ownN n=0)(j c:Nat):FillR (RepN s d) s n j c:=by
 unfold FillR
 by_cases e:n.kind=2∧n.size=7
 · have:=(z2p hf e).2.1
   omega
 · rw[if_neg e]
   rw[(z0z hf e).1] at ho;unfold ownB at ho;have hd:=z0n n.data;exact ⟨fun q hq=>by omega,fun k hk=>by omega⟩
theorem zsz {rb cap d:Nat}{A:Option Addr}{zs:List ByteArray}(hI:InC rb A cap zs d){w:World}{L:Int}(h:Rdr w rb A cap zs L){b1 b2:Nat}(hbx:Bx w rb b1 b2 d){n:Nd}(hok:okN (d+1) n=true)(hw:z03 (d+1) n≤199)(hk:n.kind≠0)(off:Int)(j c:Nat)(hj:j<zs.length)(hcz:c+ownN n≤(zs[j]).size/8)(hf:FillR (RepN (sgz zs) d) (sgz zs) n j c)(hL:L≤1000)(hcost:(costN (d+1) n:Int)≤L) :
 Calls Tryz.prog 87 #[.pointer (some ⟨rb,0,none⟩),ptI (ptG n off),plV j c,.func (.func 84) #[] #[.pointer (some ⟨b1,0,none⟩),.pointer (some ⟨b2,0,none⟩)]] w (NdQ (2*d+2) rb A cap zs (L-(costN (d+1) n:Nat)) n w):=by
 have fn:=z1m hok
 have hpk:∀p∈ptrsL n,okN d p=true∧z03 d p≤199:=fun p hp=>⟨z1n hok hk p hp,Nat.le_trans (z9a hok hp) hw⟩
 have hck:=z95 hok;rw[Nat.add_sub_cancel] at hck;have hwk:=z1c hok;have hlc:=zk0 fn;have hsm:=h.small _ (List.getElem_mem hj);unfold FillR at hf
 rcases z0d fn with hc | hc | ⟨hc1,hc2,hc⟩
 · omega
 · obtain ⟨k1,k2,k3,k4,k5⟩:=hc
   have hpl:ptrsL n=n.ptrs:=by unfold ptrsL; rw[z06 k5]; simp
   have hn:n= .mk 1 n.data n.ptrs 0 0 []:=z5i k1 rfl rfl k3 k4 (z06 k5);rw[if_neg (by omega)] at hf;have hob:=(z0z fn (by omega)).1;rw[if_neg (by omega)] at hlc;rw[hpl] at hpk hck
   have hds:n.data.size=8*(n.data.size/8):=by omega
   have how:ownN n=n.data.size/8+n.ptrs.length:=by rw[hob]; unfold ownB; omega
   have hpt:ptI (ptG n off)=siV off (n.data.size/8:Nat) (n.ptrs.length:Nat):=by unfold ptG; rw[if_pos k1,ptI_1]
   rw[hpt];refine (zte h b1 b2 off (n.data.size/8:Nat) (n.ptrs.length:Nat) j c n (fun W hK hR=>?_)).mono (fun _ _ h=>NdQ.up h);have:=ztf hI hR (hbx.keeps h hK) off (n.data.size/8) n.data n.ptrs j c hds hj (by omega) (zc2 hj hf.1) hpk (fun k hk=>by have:=hf.2 k hk; rwa [show (n.data.size+7)/8=n.data.size/8 by omega] at this) hL (by omega);rw[← hn] at this
   rwa [show ((n.data.size/8+n.ptrs.length+(n.ptrs.map (costN d)).sum:Nat):Int)=(costN (d+1) n:Nat) by omega] at this
 · rcases hc with hc | hc | hc
   · obtain ⟨k1,k2,k3,k4,k5⟩:=hc
     have hpl:ptrsL n= []:=by unfold ptrsL; rw[z06 k4,z06 k5]; rfl
     have hn:n= .mk 2 n.data [] n.size n.count []:=z5i hc1 rfl (z06 k4) rfl rfl (z06 k5);rw[if_neg (by omega)] at hf;have hob:=(z0z fn (by omega)).1;rw[if_pos hc1] at hlc;rw[hpl] at hck
     simp only[List.map_nil,List.sum_nil] at hck
     have how:ownN n=(n.data.size+7)/8:=by rw[hob]; unfold ownB; omega
     unfold bitsB at k3;rw[Bool.and_eq_true,decide_eq_true_eq,Bool.or_eq_true,decide_eq_true_eq,decide_eq_true_eq] at k3;have hbz:=bz_le n.size;have hbb:0≤n.count*bz n.size:=Int.mul_nonneg hc2.1 hbz.1;have hcut:=(zma hbb k3.1).2 k3.2
     have hwf:wfI n.size n.count=(ownN n:Nat):=by
      unfold wfI;rw[zng _ k1 k2,Int.mul_comm];have:=k3.1;omega
     have hpt:ptI (ptG n off)=liV off n.size n.count:=by unfold ptG; rw[if_neg (by omega),if_neg (by omega),ptI_2]
     rw[hpt];refine (zqo h b1 b2 off n.size n.count j c n (by simp; omega) (fun W hK hR=>?_)).mono (fun _ _ h=>NdQ.up h);have:=zri (d:=d) hR b1 b2 off n.size n.count (lcN n:Nat) (ownN n) n.data j c hj k1 k2 hc2.1 (by omega) hwf hlc.symm hcz (by omega) k3.1 (zc2 hj hf.1) hcut hL (by omega) (by omega);rw[← hn] at this
     rwa [show ((lcN n:Nat):Int)=(costN (d+1) n:Nat) by omega] at this
   · obtain ⟨k1,k2,k3,k4⟩:=hc
     have hpl:ptrsL n=n.ptrs:=by unfold ptrsL; rw[z06 k4]; simp
     have hn:n= .mk 2 { data:= #[] } n.ptrs 6 n.ptrs.length []:=z5i hc1 (z9i k2 rfl) rfl k1 k3.symm (z06 k4);rw[if_neg (by omega)] at hf;have hob:=(z0z fn (by omega)).1
     have how:ownN n=n.ptrs.length:=by rw[hob]; unfold ownB; omega
     rw[if_pos hc1,k1,← k3,how,show lcZ 6 (n.ptrs.length:Int) (n.ptrs.length:Nat)=n.ptrs.length by unfold lcZ; simp] at hlc;rw[hpl] at hpk hck
     have hpt:ptI (ptG n off)=liV off 6 (n.ptrs.length:Int):=by unfold ptG; rw[if_neg (by omega),if_neg (by omega),ptI_2,k1,k3]
     rw[hpt];refine (zqo h b1 b2 off 6 (n.ptrs.length:Int) j c n (by rfl) (fun W hK hR=>?_)).mono (fun _ _ h=>NdQ.up h);have:=zr4 hI hR (hbx.keeps h hK) off n.ptrs j c hj (by omega) hpk (fun k hk=>by have:=hf.2 k hk; rwa [show c+(n.data.size+7)/8+k=c+k by omega] at this) hL (by omega);rw[← hn] at this
     rwa [show ((n.ptrs.length+(n.ptrs.map (costN d)).sum:Nat):Int)=(costN (d+1) n:Nat) by omega] at this
   · obtain ⟨k1,k2,k3,k4,k5⟩:=hc
     have hn:n= .mk 2 { data:= #[] } [] 7 n.items.length n.items:=z5i hc1 (z9i k2 rfl) (z06 k3) k1 k4.symm rfl;rw[if_pos ⟨hc1,k1⟩] at hf;obtain ⟨g1,g2,g3⟩:=z2p fn ⟨hc1,k1⟩
     have hpl:ptrsL n=n.items.flatMap Nd.ptrs:=by unfold ptrsL; rw[g3]; rfl
     rw[if_pos hc1,k1,← k4,g2] at hlc;rw[hpl,ziw] at hck
     have hl0:n.items.length=0→itD n=0∧itP n=0:=fun e=>by unfold itD itP; rw[z06 e]; exact ⟨rfl,rfl⟩
     have hmul:n.items.length≠0→itD n+itP n≤n.items.length*(itD n+itP n):=fun e=>by
      have:1*(itD n+itP n)≤n.items.length*(itD n+itP n):=Nat.mul_le_mul_right _ (by omega);omega
     have hws:itD n+itP n≤300:=by
      by_cases e:n.items.length=0
      · have:=hl0 e; omega
      · have:=hmul e; omega
     have hle:n.items.length≤1000:=by
      by_cases e:itD n+itP n=0
      · rw[e,Nat.mul_zero] at hlc
        unfold lcZ at hlc;rw[if_neg (by decide),if_pos ⟨rfl,rfl⟩] at hlc;omega
      · have:n.items.length*1≤n.items.length*(itD n+itP n):=Nat.mul_le_mul_left _ (by omega)
        omega
     have hbd:itD n≤300∧itP n≤300:=by omega
     have hpt:ptI (ptG n off)=liV off 7 ((n.items.length*(itD n+itP n):Nat):Int):=by
      unfold ptG;rw[if_neg (by omega),if_pos k1,ptI_2,k1,g2,show (((1+n.items.length*(itD n+itP n):Nat):Int))-1=((n.items.length*(itD n+itP n):Nat):Int) by omega]
     rw[hpt];refine zsw h b1 b2 off ((n.items.length*(itD n+itP n):Nat):Int) j c n (fun W hK hR=>?_)
     have hxw:RdW (((zs[j]).data.toList.drop (8*c)).take 8) (tgG n):=by
      have h1:=zi8 hf.1 (z0x n);rw[z7c hj] at h1;rw[h1];exact zt5 hc2 hbd
     have:=zss hI hR (hbx.keeps h hK) off n.items (itD n) (itP n) j c (lcN n) hj (by omega) hxw (zkx k4) (fun k hk=>by
      have hm:=List.getElem_mem hk;obtain ⟨u1,u2,u3,u4,u5,u6,u7⟩:=z19 g1 _ hm;have hb:=hf.2 k hk
      have hds:n.items[k].data.size=8*itD n:=by unfold itD; omega
      refine ⟨z5i u1 rfl rfl u3 u4 u5,hds,by unfold itP; exact u7,zc2 hj hb.1,fun p hp=>hpk p (by rw[hpl]; exact List.mem_flatMap.2 ⟨_,hm,hp⟩),fun i hi=>?_⟩;have:=hb.2 i hi
      rwa [show (n.items[k].data.size+7)/8=itD n by omega] at this) hL hle hws (by rw[hlc]; push_cast; rfl) (by omega)
     rw[← hn] at this
     rwa [show ((lcN n+(n.items.map fun y=>(y.ptrs.map (costN d)).sum).sum:Nat):Int)=(costN (d+1) n:Nat) by omega] at this
theorem zdj (rb:Nat)(k:Int)(w:World) :
 Calls Tryz.prog 45 #[.pointer (some ⟨rb,0,none⟩),.int .i64 k] w fun e w'=>e= .returned (.func (.func 84) #[] #[.pointer (some ⟨w.heap.size,0,none⟩),.pointer (some ⟨w.heap.size+1,0,none⟩)])∧Below w.heap.size w w'∧w'.heap[w.heap.size]? =some (.cells #[.pointer (some ⟨rb,0,none⟩)] 64 (0,0))∧w'.heap[w.heap.size+1]? =some (.cells #[.int .i64 k] 3 (0,0)):=by
 have hmf:∀(fn:Fn) (first cap:Array Value) (w:World),(Instr.makeFunc fn first cap).run Tryz.prog w= .ok (.func fn first cap) w:=fun _ _ _ _=>rfl
 go_enter Tryz.func45,Tryz.ntmps45;go_wp2;go_ret;exact ⟨rfl,((Below.refl _ _).alloc (Nat.le_refl _) _).alloc (by simp) _,heap_alloc2_old w _ _,heap_alloc2_new w _ _⟩
theorem z7r {rb cap:Nat}{A:Option Addr}{zs:List ByteArray}{w:World}{L:Int}(h:Rdr w rb A cap zs L){b1 b2 d:Nat}(hbx:Bx w rb b1 b2 d)(M i a:Nat)(HPA:∀W:World,Rdr W rb A cap zs L→Calls Tryz.prog 85 #[.pointer (some ⟨rb,0,none⟩),plV i a] W fun e w'=>e= .returned (.iface 129 (.agg #[]))∧Below W.heap.size W w') :
 Calls Tryz.prog 84 #[plV i a,.pointer (some ⟨b1,0,none⟩),.pointer (some ⟨b2,0,none⟩)] w (NdQ M rb A cap zs L (.mk 0 { data:= #[] } [] 0 0 []) w):=by
 have HP:=hid HPA;have hlow:=h.low;have HLOW:=hid hlow;have HR:=hid h;have hb0:=((Below.refl w.heap.size w).alloc (Nat.le_refl _) (.cells #[.int .i64 (i:Int),.int .i64 (a:Int)] 58)).alloc (by simp) (.cells #[.int .i64 0,.string { data:= #[] },.slice none 0 0,.int .i64 0,.int .i64 0,.slice none 0 0] nodeT);have hr1:((w.alloc (.cells #[.int .i64 (i:Int),.int .i64 (a:Int)] 58)).alloc (.cells #[.int .i64 0,.string { data:= #[] },.slice none 0 0,.int .i64 0,.int .i64 0,.slice none 0 0] nodeT)).heap[w.heap.size+1]? =some (.cells #[.int .i64 0,.string { data:= #[] },.slice none 0 0,.int .i64 0,.int .i64 0,.slice none 0 0] nodeT (0,0)):=heap_alloc2_new w _ _;have hr0:((w.alloc (.cells #[.int .i64 (i:Int),.int .i64 (a:Int)] 58)).alloc (.cells #[.int .i64 0,.string { data:= #[] },.slice none 0 0,.int .i64 0,.int .i64 0,.slice none 0 0] nodeT)).heap[w.heap.size]? =some (.cells #[.int .i64 (i:Int),.int .i64 (a:Int)] 58 (0,0)):=heap_alloc2_old w _ _;have HR0:=hid (h.below hb0);have HB0:=hid hb0;have R1:=hid hr1;have g1:=cell1 ((hb0.block _ (z00 hbx.r1)).trans hbx.r1);obtain ⟨t0,t1⟩:=z04 hr0;clear hb0 hr0 hr1 HPA h hlow hbx;have a1:=zbv;go_enter Tryz.func84,Tryz.ntmps84
 go_wp2_with fail
 generalize ((w.alloc (.cells #[.int .i64 (i:Int),.int .i64 (a:Int)] 58)).alloc (.cells #[.int .i64 0,.string { data:= #[] },.slice none 0 0,.int .i64 0,.int .i64 0,.slice none 0 0] nodeT))=W at *;refine (HP.out _ HR0.out).mono ?_;rintro e w4 ⟨rfl,hb4⟩;have hba:=hb4.alloc hb4.size (.cells #[] 129);have q4:=(hba.block _ (z00 R1.out)).trans R1.out;obtain ⟨c0,c1,c2,c3,c4,c5⟩:=z01 q4;have hfz:=z02 q4;have HBA:=hid hba;have Q4:=hid q4;clear g1 t0 t1 hb4 hba q4;go_wp2;obtain ⟨wf,hwf,hrw,hkf⟩:=z79 Q4.out (.int .i64 0) (.string { data:= #[] }) (.slice none 0 0) (.int .i64 0) (.int .i64 0) (.slice none 0 0);rw[hwf];obtain ⟨e0,e1,e2,e3,e4,e5⟩:=z01 hrw;have hbf:Below w.heap.size w wf:=(HB0.out.trans (HBA.out.mono HB0.out.size)).trans (hkf.below (by have h1:=HBA.out.size; have h2:=HB0.out.size; omega) (by omega));exact bodyPost_ret (v:= .tuple #[.agg #[.int .i64 0,.string { data:= #[] },.slice none 0 0,.int .i64 0,.int .i64 0,.slice none 0 0],.nilIface]) (by simp[results,Tryz.results84,go_sem,e0,e1,e2,e3,e4,e5]) rfl ⟨⟨none,0,none,0⟩,rfl,⟨Nat.zero_le _,NdsAt.nil _ _ _ _,NdsAt.nil _ _ _ _⟩,HR.out.below hbf,Keeps.of_below hbf⟩
theorem z6e {M rb cap d:Nat}{A:Option Addr}{zs:List ByteArray}{w:World}{L L2:Int}(h:Rdr w rb A cap zs L){b1 b2:Nat}(hbx:Bx w rb b1 b2 (d+1))(hd:d≤7)(n:Nd)(i a j c:Nat)(PV PV2:Value)
 (HPA:∀W:World,Rdr W rb A cap zs L→Calls Tryz.prog 85 #[.pointer (some ⟨rb,0,none⟩),plV i a] W fun e w'=>e= .returned PV∧Below W.heap.size W w')
 (hta:∀w:World,(Instr.typeAssert PV 91 129 true).run Tryz.prog w= .ok (.tuple #[.agg #[],.bool false]) w)
 (HFO:∀W:World,Rdr W rb A cap zs L→Calls Tryz.prog 86 #[.pointer (some ⟨rb,0,none⟩),PV,plV i a] W fun e w'=>e= .returned (.tuple #[PV2,plV j c,.nilIface])∧Below W.heap.size W w')
 (HNO:∀(W:World) (x y:Nat),Keeps w.heap.size rb w W→Rdr W rb A cap zs L→Bx W rb x y d→Calls Tryz.prog 87 #[.pointer (some ⟨rb,0,none⟩),PV2,plV j c,.func (.func 84) #[] #[.pointer (some ⟨x,0,none⟩),.pointer (some ⟨y,0,none⟩)]] W (NdQ M rb A cap zs L2 n W)) :
 Calls Tryz.prog 84 #[plV i a,.pointer (some ⟨b1,0,none⟩),.pointer (some ⟨b2,0,none⟩)] w (NdQ M rb A cap zs L2 n w):=by
 have HP:=hid HPA;have HFF:=hid HFO;have HN:=hid HNO;have hlow:=h.low;have HLOW:=hid hlow;have HR:=hid h;have HPD:=hid (zdj rb)
 obtain ⟨dd,hdd⟩:∃dd:Int,9-((d+1:Nat):Int)=dd:=⟨_,rfl⟩
 have hbr2:=hbx.r2;rw[hdd] at hbr2;have HNE:Hid (b1≠rb∧b2≠rb):=hid ⟨fun e=>by have:=hbx.r1; rw[e,h.row] at this; simp at this,fun e=>by have:=hbr2; rw[e,h.row] at this; simp at this⟩;have HB12:Hid (b1<w.heap.size∧b2<w.heap.size):=hid ⟨z00 hbx.r1,z00 hbr2⟩
 have hd8:¬dd>8:=by omega
 have HDD:Hid (dd+1=9-(d:Int)):=hid (by omega);have HWD:=hid (z1u (n:=dd+1) (by omega) (by omega));have hb0:=((Below.refl w.heap.size w).alloc (Nat.le_refl _) (.cells #[.int .i64 (i:Int),.int .i64 (a:Int)] 58)).alloc (by simp) (.cells #[.int .i64 0,.string { data:= #[] },.slice none 0 0,.int .i64 0,.int .i64 0,.slice none 0 0] nodeT);have hr1:((w.alloc (.cells #[.int .i64 (i:Int),.int .i64 (a:Int)] 58)).alloc (.cells #[.int .i64 0,.string { data:= #[] },.slice none 0 0,.int .i64 0,.int .i64 0,.slice none 0 0] nodeT)).heap[w.heap.size+1]? =some (.cells #[.int .i64 0,.string { data:= #[] },.slice none 0 0,.int .i64 0,.int .i64 0,.slice none 0 0] nodeT (0,0)):=heap_alloc2_new w _ _;have hr0:((w.alloc (.cells #[.int .i64 (i:Int),.int .i64 (a:Int)] 58)).alloc (.cells #[.int .i64 0,.string { data:= #[] },.slice none 0 0,.int .i64 0,.int .i64 0,.slice none 0 0] nodeT)).heap[w.heap.size]? =some (.cells #[.int .i64 (i:Int),.int .i64 (a:Int)] 58 (0,0)):=heap_alloc2_old w _ _;have HR0:=hid (h.below hb0);have HB0:=hid hb0;have R0:=hid hr0;have R1:=hid hr1;have hx1:=(hb0.block _ (z00 hbx.r1)).trans hbx.r1;have hx2:=(hb0.block _ (z00 hbr2)).trans hbr2;have X1:=hid hx1;have X2:=hid hx2;have g1:=cell1 hx1;obtain ⟨t0,t1⟩:=z04 hr0;clear hb0 hr0 hr1 HPA HFO HNO h hlow hbx hbr2 hx1 hx2 hdd;go_enter Tryz.func84,Tryz.ntmps84
 go_wp2_with fail
 generalize ((w.alloc (.cells #[.int .i64 (i:Int),.int .i64 (a:Int)] 58)).alloc (.cells #[.int .i64 0,.string { data:= #[] },.slice none 0 0,.int .i64 0,.int .i64 0,.slice none 0 0] nodeT))=W at *;refine (HP.out _ HR0.out).mono ?_;rintro e w4 ⟨rfl,hb4⟩;have hba:=hb4.alloc hb4.size (.cells #[] 129);have HR4:=hid (HR0.out.below hba);have HB4:=hid (HB0.out.trans (hba.mono HB0.out.size));have q0:=(hba.block _ (z00 R0.out)).trans R0.out;have q1:=(hba.block _ (z00 R1.out)).trans R1.out;have y1:=(hba.block _ (z00 X1.out)).trans X1.out;have y2:=(hba.block _ (z00 X2.out)).trans X2.out;have Q1:=hid q1;have Y1:=hid y1;have Y2:=hid y2;have g1':=cell1 y1;obtain ⟨t0',t1'⟩:=z04 q0;have k4:=cell1 ((hb4.block _ (z00 X1.out)).trans X1.out);obtain ⟨k0,k1⟩:=z04 ((hb4.block _ (z00 R0.out)).trans R0.out);clear g1 t0 t1 hb4 hba q0 q1 y1 y2 HR0 HB0 R0 R1 X1 X2
 go_wp2_with fail
 refine (HFF.out _ HR4.out).mono ?_;rintro e w5 ⟨rfl,hb5⟩
 have hpb:w.heap.size+1<w5.heap.size∧rb<w5.heap.size:=by have h1:=hb5.size; have h2:=z00 Q1.out; have h3:=HLOW.out.rb; omega
 have HPB:=hid hpb;clear hpb;have hba:=hb5.alloc hb5.size (.cells #[.int .i64 (j:Int),.int .i64 (c:Int)] 58);have hna:=heap_alloc_new w5 (.cells #[.int .i64 (j:Int),.int .i64 (c:Int)] 58);have HR5:=hid (HR4.out.below hba);have HB5:=hid (HB4.out.trans (hba.mono HB4.out.size));have q1:=(hba.block _ (z00 Q1.out)).trans Q1.out;have y1:=(hba.block _ (z00 Y1.out)).trans Y1.out;have y2:=(hba.block _ (z00 Y2.out)).trans Y2.out;have Q5:=hid q1;have Y5:=hid y1;have Y6:=hid y2;have NA:=hid hna;have g1:=cell1 y1;have g2:=cell1 y2;have g2':=cell1 ((hb5.block _ (z00 Y2.out)).trans Y2.out);obtain ⟨n0,n1⟩:=z04 hna;clear hb5 hba hna q1 y1 y2 HR4 HB4 Q1 Y1 Y2 t0' t1' g1' k0 k1 k4;have hdr:((w5.alloc (.cells #[.int .i64 (j:Int),.int .i64 (c:Int)] 58)).drew).heap.size=(w5.alloc (.cells #[.int .i64 (j:Int),.int .i64 (c:Int)] 58)).heap.size:=rfl
 go_wp2_with fail
 generalize w5.alloc (.cells #[.int .i64 (j:Int),.int .i64 (c:Int)] 58)=W5 at *;generalize w5.heap.size=pb at *;have e1:=HWD.out.1;have e2:=HWD.out.2;have HR5D:Hid (Rdr W5.drew rb A cap zs L):=hid (HR5.out.below (⟨rfl,rfl,rfl,Nat.le_refl _,fun _ _=>rfl⟩:Below W5.heap.size W5 W5.drew));have HB5D:Hid (Below w.heap.size w W5.drew):=hid HB5.out.drew;refine wp_region_held_drew (S:=(fun V=>V.cell? ⟨b1,0,none⟩=some (.pointer (some ⟨rb,0,none⟩))∧V.cell? ⟨b2,0,none⟩=some (.int .i64 dd)∧V.cell? ⟨pb,0,none⟩=some (.int .i64 (j:Int))∧V.cell? ⟨pb,1,none⟩=some (.int .i64 (c:Int)))) (by kernel_rfl) ?_ (fun hH0=>?_)
 · exact ⟨g1,g2,n0,n1⟩
 refine wpAnyH_take (i:=0) (v:=?_) rfl (by kernel_rfl) (by kernel_rfl) (by kernel_rfl) (fun _ _ _ h=>h) (Or.inl ⟨by rfl,?_⟩) (by assumption) ?_
 rotate_left
 · intro w hSw
   (try dsimp only at hSw)
   go_simp
   try with_reducible rfl
 try simp only[List.getElem_toArray,List.getElem_cons_succ,List.getElem_cons_zero,Act.put,List.setIfInBounds_toArray,List.set_cons_zero,List.set_cons_succ]
 refine wpAnyH_take (i:=1) (v:=?_) rfl (by kernel_rfl) (by kernel_rfl) (by kernel_rfl) (fun _ _ _ h=>h) (Or.inl ⟨by rfl,?_⟩) (by assumption) ?_
 rotate_left
 · intro w hSw
   (try dsimp only at hSw)
   go_simp
   try with_reducible rfl
 try simp only[List.getElem_toArray,List.getElem_cons_succ,List.getElem_cons_zero,Act.put,List.setIfInBounds_toArray,List.set_cons_zero,List.set_cons_succ]
 refine wpAnyH_take (i:=2) (v:=?_) rfl (by kernel_rfl) (by kernel_rfl) (by kernel_rfl) (fun _ _ _ h=>h) (Or.inl ⟨by rfl,?_⟩) (by assumption) ?_
 rotate_left
 · intro w hSw
   (try dsimp only at hSw)
   go_simp
   try with_reducible rfl
 try simp only[List.getElem_toArray,List.getElem_cons_succ,List.getElem_cons_zero,Act.put,List.setIfInBounds_toArray,List.set_cons_zero,List.set_cons_succ]
 refine wpAnyH_take (i:=3) (v:=?_) rfl (by kernel_rfl) (by kernel_rfl) (by kernel_rfl) (fun _ _ _ h=>h) (Or.inl ⟨by rfl,?_⟩) (by assumption) ?_
 rotate_left
 · intro w hSw
   (try dsimp only at hSw)
   go_simp
   try with_reducible rfl
 try simp only[List.getElem_toArray,List.getElem_cons_succ,List.getElem_cons_zero,Act.put,List.setIfInBounds_toArray,List.set_cons_zero,List.set_cons_succ]
 refine wpAnyH_take (i:=4) (v:=?_) rfl (by kernel_rfl) (by kernel_rfl) (by kernel_rfl) (fun _ _ _ h=>h) (Or.inl ⟨by rfl,?_⟩) (by assumption) ?_
 rotate_left
 · intro w hSw
   (try dsimp only at hSw)
   go_simp
   try with_reducible rfl
 try simp only[List.getElem_toArray,List.getElem_cons_succ,List.getElem_cons_zero,Act.put,List.setIfInBounds_toArray,List.set_cons_zero,List.set_cons_succ]
 refine wpAnyH_take (i:=5) (v:=?_) rfl (by kernel_rfl) (by kernel_rfl) (by kernel_rfl) (fun _ _ _ h=>h) (Or.inl ⟨by rfl,?_⟩) (by assumption) ?_
 rotate_left
 · intro w hSw
   (try dsimp only at hSw)
   go_simp
   try with_reducible rfl
 try simp only[List.getElem_toArray,List.getElem_cons_succ,List.getElem_cons_zero,Act.put,List.setIfInBounds_toArray,List.set_cons_zero,List.set_cons_succ]
 refine wpAnyH_ready (rs:= [6]) (by kernel_rfl) (by simp) ?_;refine AllReadyH.cons rfl (fun K hK=>?_) AllReadyH.nil
 go_simp
 go_at_call 45
 refine (HPD.out _ _).mono ?_;rintro e w8 ⟨rfl,hb8,hv1,hv2⟩;have z1:=kcR hb8 g1;have z2:=kcR hb8 g2;have z3:=kcR hb8 n0;have z4:=kcR hb8 n1;have hq8:=(hb8.block _ (z00 Q5.out)).trans Q5.out
 go_wp2_with fail
 refine hK.out _ _ ?_ (fun hH1=>?_)
 · exact ⟨z1,z2,z3,z4⟩
 clear hK K hH0
 try simp only[List.getElem_toArray,List.getElem_cons_succ,List.getElem_cons_zero,Act.put,List.setIfInBounds_toArray,List.set_cons_zero,List.set_cons_succ]
 refine wpAnyH_ready (rs:= [7]) (by kernel_rfl) (by simp) ?_;refine AllReadyH.cons rfl (fun K hK=>?_) AllReadyH.nil
 go_simp
 go_at_call 87
 refine (HN.out _ _ _ (Keeps.of_below (HB5D.out.trans (hb8.mono HB5D.out.size))) (HR5D.out.below hb8) ⟨hv1,by rw[← HDD.out]; exact hv2⟩).mono ?_;rintro e w9 ⟨hy,rfl,hny,hrd9,hk9⟩;have hrl:=HLOW.out.rb;have q9:=(hk9.block _ (z00 hq8) (by omega)).trans hq8;have y1:=(z0y hk9 ⟨b1,0,none⟩ (World.block_lt_of_cell? _ _ z1) HNE.out.1).trans z1;have y2:=(z0y hk9 ⟨b2,0,none⟩ (World.block_lt_of_cell? _ _ z2) HNE.out.2).trans z2;have y3:=(z0y hk9 ⟨pb,0,none⟩ (World.block_lt_of_cell? _ _ z3) (by have:=HPB.out; show pb≠rb; omega)).trans z3;have y4:=(z0y hk9 ⟨pb,1,none⟩ (World.block_lt_of_cell? _ _ z4) (by have:=HPB.out; show pb≠rb; omega)).trans z4;obtain ⟨c0,c1,c2,c3,c4,c5⟩:=z01 q9;have hfz:=z02 q9
 go_wp2_with fail
 refine hK.out _ _ ?_ (fun hH2=>?_)
 · exact ⟨y1,y2,y3,y4⟩
 clear hK K hH1
 try simp only[List.getElem_toArray,List.getElem_cons_succ,List.getElem_cons_zero,Act.put,List.setIfInBounds_toArray,List.set_cons_zero,List.set_cons_succ]
 refine wpAnyH_take (i:=8) (v:=?_) rfl (by kernel_rfl) (by kernel_rfl) (by kernel_rfl) (fun _ _ _ h=>h) (Or.inl ⟨by rfl,?_⟩) (by assumption) ?_
 rotate_left
 · intro w hSw
   (try dsimp only at hSw)
   go_simp
   try with_reducible rfl
 try simp only[List.getElem_toArray,List.getElem_cons_succ,List.getElem_cons_zero,Act.put,List.setIfInBounds_toArray,List.set_cons_zero,List.set_cons_succ]
 refine wpAnyH_take (i:=9) (v:=?_) rfl (by kernel_rfl) (by kernel_rfl) (by kernel_rfl) (fun _ _ _ h=>h) (Or.inl ⟨by rfl,?_⟩) (by assumption) ?_
 rotate_left
 · intro w hSw
   (try dsimp only at hSw)
   go_simp
   try with_reducible rfl
 try simp only[List.getElem_toArray,List.getElem_cons_succ,List.getElem_cons_zero,Act.put,List.setIfInBounds_toArray,List.set_cons_zero,List.set_cons_succ]
 have HK8:=(Keeps.of_below (b:=rb) (HB5D.out.trans (hb8.mono HB5D.out.size)))
 obtain ⟨wf,hwf,hrw,hn5,hrd5,hk5⟩:=NdQ.laid HLOW.out HK8 ⟨by omega,z00 hq8⟩ hq8 hny hrd9 hk9;obtain ⟨wf2,hwf2,_,hkf⟩:=z79 q9 (.int .i64 n.kind) (.string n.data) (.slice hy.A n.ptrs.length hy.a) (.int .i64 n.size) (.int .i64 n.count) (.slice hy.B n.items.length hy.b);obtain rfl:wf2=wf:=hwf2.symm.trans hwf;have v1:=(z0y hkf ⟨b1,0,none⟩ (World.block_lt_of_cell? _ _ y1) (by have:=HB12.out.1; show b1≠w.heap.size+1; omega)).trans y1;have v2:=(z0y hkf ⟨b2,0,none⟩ (World.block_lt_of_cell? _ _ y2) (by have:=HB12.out.2; show b2≠w.heap.size+1; omega)).trans y2;have v3:=(z0y hkf ⟨pb,0,none⟩ (World.block_lt_of_cell? _ _ y3) (by have:=HPB.out; show pb≠w.heap.size+1; omega)).trans y3;have v4:=(z0y hkf ⟨pb,1,none⟩ (World.block_lt_of_cell? _ _ y4) (by have:=HPB.out; show pb≠w.heap.size+1; omega)).trans y4;have HF:=hid (And.intro hn5 (And.intro hrd5 hk5));have HRW:=hid hrw;have HWF:=hid hwf;clear hwf hwf2 hrw hn5 hrd5 hk5 HK8 hkf hny hrd9 hk9 hb8 hv1 hv2 hq8 q9 e1 e2 hrl;refine wpAnyH_ready (rs:= [10]) (by kernel_rfl) (by simp) ?_;refine AllReadyH.cons rfl (fun K hK=>?_) AllReadyH.nil
 go_simp
 rw[HWF.out];refine hK.out _ _ ?_ (fun hH3=>?_)
 · exact ⟨v1,v2,v3,v4⟩
 clear hK K hH2 y1 y2 y3 y4 v1 v2 v3 v4 c0 c1 c2 c3 c4 c5 hfz z1 z2 z3 z4 g1 g2 n0 n1;refine wpAnyH_take (i:=11) (v:=?_) rfl (by kernel_rfl) (by kernel_rfl) (by kernel_rfl) (fun _ _ _ h=>h) (Or.inl ⟨by rfl,?_⟩) (by assumption) ?_
 rotate_left
 · intro w hSw
   (try dsimp only at hSw)
   go_simp
   try with_reducible rfl
 try simp only[List.getElem_toArray,List.getElem_cons_succ,List.getElem_cons_zero,Act.put,List.setIfInBounds_toArray,List.set_cons_zero,List.set_cons_succ]
 refine wpAnyH_done (by kernel_rfl) ?_ _;clear hH3;go_wp2;obtain ⟨e0,e1,e2,e3,e4,e5⟩:=z01 HRW.out;exact bodyPost_ret (v:= .tuple #[.agg #[.int .i64 n.kind,.string n.data,.slice hy.A n.ptrs.length hy.a,.int .i64 n.size,.int .i64 n.count,.slice hy.B n.items.length hy.b],.nilIface]) (by simp[results,Tryz.results84,go_sem,e0,e1,e2,e3,e4,e5]) rfl ⟨hy,rfl,HF.out⟩
def noneV:Nd:= .mk 0 { data:= #[] } [] 0 0 []
theorem zbg:formN noneV=true:=by rfl
theorem zll {n:Nd}(hf:formN n=true)(hk:n.kind=0):n=noneV:=zj8 hf zbg hk rfl
theorem zef (d:Nat):costN d noneV=0:=by
 cases d with
 | zero=>rfl
 | succ d=>rw[z95 (z3h zbg rfl).1]; rfl
theorem zq6 (n:Nd)(off:Int)(w:World):(Instr.typeAssert (ptI (ptG n off)) 91 129 true).run Tryz.prog w= .ok (.tuple #[.agg #[],.bool false]) w:=by
 unfold ptG
 split
 · rw[ptI_1]; exact zb6 _ w
 · rw[ptI_2]; exact zj0 _ w
theorem zb3 (rb:Nat)(n:Nd)(off s a:Int)(W:World)(h0: -100000≤a)(h1:a≤100000)(k0: -100000≤off)(k1:off≤100000) :
 Calls Tryz.prog 86 #[.pointer (some ⟨rb,0,none⟩),ptI (ptG n off),plV s a] W fun e w'=>e= .returned (.tuple #[ptI (ptG n off),plV s (a+(1+off)),.nilIface])∧Below W.heap.size W w':=by
 unfold ptG
 split
 · rw[ptI_1]; exact zo8 rb off _ _ s a h0 h1 k0 k1
 · rw[ptI_2]; exact zoq rb off _ _ s a h0 h1 k0 k1
theorem zqu {w:World}{rb cap:Nat}{A:Option Addr}{zs:List ByteArray}{L:Int}(h:Rdr w rb A cap zs L)(n:Nd)(s a:Int)(j c:Nat)(hj:j<zs.length)(hc:8*c+8≤(zs[j]).size)(hx:RdW (((zs[j]).data.toList.drop (8*c)).take 8) (ptG n 0)) :
 Calls Tryz.prog 86 #[.pointer (some ⟨rb,0,none⟩),fiV c j,plV s a] w fun e w'=>e= .returned (.tuple #[ptI (ptG n 0),plV j (c+(1+0)),.nilIface])∧Below w.heap.size w w':=by
 by_cases hk:n.kind=1
 · have e:ptI (ptG n 0)=siV 0 (n.data.size/8:Nat) (n.ptrs.length:Nat):=by unfold ptG; rw[if_pos hk,ptI_1]
   rw[e];exact zfo h 0 _ _ s a j c hj hc hx e (by decide) (by decide)
 · have e:ptI (ptG n 0)=liV 0 n.size (if n.size=7 then (ownN n:Int)-1 else n.count):=by unfold ptG; rw[if_neg hk,ptI_2]
   rw[e];exact zfs h 0 _ _ s a j c hj hc hx e (by decide) (by decide)
theorem z7g {w:World}{rb cap:Nat}{A:Option Addr}{zs:List ByteArray}{L:Int}(h:Rdr w rb A cap zs L){i a:Nat}{t:List UInt8}{x:Int×Int×Int×Int×Int×Int×Int×Bool}(ht:HasT (sgz zs) i (8*a) t)(hx:RdW t x) :
 ∃hi:i<zs.length,8*a+8≤(zs[i]).size∧RdW (((zs[i]).data.toList.drop (8*a)).take 8) x:=by
 have h1:=ht.le (by have:=hx.1; omega);have hi:=zq8 (zs:=zs) (j:=i) (p:=8*a) (by have:=hx.1; omega);have h2:=zi8 ht hx.1;rw[z7c hi] at h1 h2;rw[z0n,hx.1] at h1;exact ⟨hi,h1,by rw[h2]; exact hx⟩
theorem zn8 {rb cap:Nat}{A:Option Addr}{zs:List ByteArray} :∀d,d≤8→InC rb A cap zs d
 | 0,_=>fun n i a L W b1 b2 hok hw hr hc hL hR hbx=>by
   have hn:=zll (z1m hok) hr.1;subst hn;obtain ⟨hi,h1,h2⟩:=z7g hR hr.2 zl3;have:=z7r hR hbx (2*0) i a (fun V hV=>by have:=z21 hV i a hi h1 h2; rwa [ptI_0] at this);rw[zef]
   rwa [show L-((0:Nat):Int)=L by omega]
 | d+1,hd=>fun n i a L W b1 b2 hok hw hr hc hL hR hbx=>by
   have fn:=z1m hok
   have hsS:∀j,(sgS (sgz zs) j).length%8=0∧(sgS (sgz zs) j).length≤1600:=fun j=>by
    by_cases e:j<zs.length
    · rw[z7c e,z0n]; have:=hR.small _ (List.getElem_mem e); omega
    · rw[z9c (by unfold sgz; rw[List.length_map]; omega)]; simp
   have hz6:=hR.len;have hIn:=zn8 (rb:=rb) (cap:=cap) (A:=A) (zs:=zs) d (by omega);have hwk:=z1c hok
   have hpo:n.kind≠0→PtOk n:=fun hk=>pt_ok fn (by omega) hk
   have hnode:∀(off:Int) (j c:Nat),n.kind≠0→(hj:j<zs.length)→c+ownN n≤(zs[j]).size/8→FillR (RepN (sgz zs) d) (sgz zs) n j c→∀(V:World) (x y:Nat),Keeps W.heap.size rb W V→Rdr V rb A cap zs L→Bx V rb x y d→Calls Tryz.prog 87 #[.pointer (some ⟨rb,0,none⟩),ptI (ptG n off),plV j c,.func (.func 84) #[] #[.pointer (some ⟨x,0,none⟩),.pointer (some ⟨y,0,none⟩)]] V (NdQ (2*(d+1)) rb A cap zs (L-(costN (d+1) n:Nat)) n V) :=
    fun off j c hk hj hcz hf V x y hK hV hB=>zsz hIn hV hB hok hw hk off j c hj hcz hf hL hc
   rcases hr with ⟨h0,h⟩ | ⟨h0,h1,h⟩ | ⟨h0,h1,j,c,h,hf⟩
   · have hn:=zll fn h0
     subst hn;obtain ⟨hi,h1,h2⟩:=z7g hR h zl3;have:=z7r hR hbx (2*(d+1)) i a (fun V hV=>by have:=z21 hV i a hi h1 h2; rwa [ptI_0] at this);rw[zef]
     rwa [show L-((0:Nat):Int)=L by omega]
   · have pn:=hpo h0
     obtain ⟨off,hoff⟩:∃off:Int,(if n.kind=1 then -1 else 0)=off:=⟨_,rfl⟩
     rw[hoff] at h
     have hob: -1≤off∧off≤0:=by rw[← hoff]; split <;> omega
     obtain ⟨hi,g1,g2⟩:=z7g hR h (zlm pn (by omega) (fun x=>by rw[if_pos x.1] at hoff; omega));have hsi:=hR.small _ (List.getElem_mem hi)
     obtain ⟨c,hcc⟩:∃c:Nat,(c:Int)=(a:Int)+(1+off):=⟨((a:Int)+(1+off)).toNat,by omega⟩
     refine z6e hR hbx (by omega) n i a i c (ptI (ptG n off)) (ptI (ptG n off)) (fun V hV=>z21 hV i a hi g1 g2) (zq6 n off) (fun V hV=>?_) (hnode off i c h0 hi (by omega) (zl2 fn h1 i c));have:=zb3 rb n off i a V (by omega) (by omega) (by omega) (by omega)
     rwa [← hcc] at this
   · have pn:=hpo h0
     have hfi:=zr3 (hsS j).1 fn hf h1;have hle:=zs7 fn hf h1;have hjz:=zq8 hle;have hsj:=hR.small _ (List.getElem_mem hjz)
     have hwnj:wn (sgS (sgz zs) j)=(zs[j]).size/8:=by unfold wn; rw[z7c hjz,z0n]
     rw[hwnj] at hfi
     rcases h with ⟨e,h⟩ | ⟨pad,e,h,h'⟩
     · subst e
       have hal:=h.le (by rw[z0f]; omega);rw[z0f] at hal;have hl2:=(hsS j).2;obtain ⟨hi,g1,g2⟩:=z7g hR h (zlm pn (by omega) (fun x=>by rw[(z0z fn (by omega)).1] at h1; unfold ownB at h1; rcases z0d fn with q | q | q <;> omega));refine z6e hR hbx (by omega) n j a j c (ptI (ptG n ((c:Int)-a-1))) (ptI (ptG n ((c:Int)-a-1))) (fun V hV=>z21 hV j a hi g1 g2) (zq6 n _) (fun V hV=>?_) (hnode _ j c h0 hjz hfi hf);have:=zb3 rb n ((c:Int)-a-1) j a V (by omega) (by omega) (by omega) (by omega)
       rwa [show (a:Int)+(1+((c:Int)-a-1))=c by omega] at this
     · have hl2:=(hsS j).2
       obtain ⟨hi,g1,g2⟩:=z7g hR h (zsr (pad:=pad) (j:=j) (by omega) (by omega));obtain ⟨hj',g3,g4⟩:=z7g hR h' (zlm pn (by omega) (fun x=>by rw[(z0z fn (by omega)).1] at h1; unfold ownB at h1; rcases z0d fn with q | q | q <;> omega));have hsi:=hR.small _ (List.getElem_mem hi);refine z6e hR hbx (by omega) n i a j c (fiV pad j) (ptI (ptG n 0)) (fun V hV=>by have:=z21 hV i a hi g1 g2; rwa [ptI_3] at this) (zj2 _) (fun V hV=>?_) (hnode 0 j c h0 hjz hfi hf);have:=zqu hV n i a j pad hj' g3 g4
       rwa [show (pad:Int)+(1+0)=(c:Int) by omega] at this
end Go.Proofs.YtlbfffokkhccaaaGreatDoor
namespace Go.Proofs.YtlbfffokkhccaaaGreatDoor
open Go.RowKit
def frOk (ss:List ByteArray):Bool:=decide (1≤ss.length∧ss.length≤6)&&(ss.all (fun s=>decide (s.size%8=0))&&decide (tot ss≤1600))
def wds (ss:List ByteArray):Nat:=(ss.map (·.size/8)).sum
theorem zo9 (ss:List ByteArray)(k:Nat)(h:k<ss.length):wds (ss.take (k+1))=wds (ss.take k)+(ss[k]).size/8:=by
 rw[List.take_succ_eq_append_getElem h,wds,wds,List.map_append,List.sum_append]
 simp
theorem zfl:∀(ss:List ByteArray),ss.all (fun s=>decide (s.size%8=0))=true→8*wds ss=tot ss
 | [],_=>rfl
 | s :: r,h=>by
   simp only[List.all_cons,Bool.and_eq_true,decide_eq_true_eq] at h
   have:=zfl r h.2
   simp only[wds,tot,List.map_cons,List.sum_cons] at this ⊢
   omega
theorem zt3 (ss:List ByteArray):wds ss≤tot ss:=by
 induction ss with
 | nil=>exact Nat.le_refl _
 | cons s r ih=>simp only[wds,tot,List.map_cons,List.sum_cons] at ih ⊢; omega
theorem ziq {ss:List ByteArray}{k:Nat}(h:k<ss.length)(hn:¬(ss[k]).size%8=0):ss.all (fun s=>decide (s.size%8=0))=false:=by
 rw[List.all_eq_false];exact ⟨ss[k],List.getElem_mem h,by simpa using hn⟩
theorem zhi {ss:List ByteArray}{k:Nat}(hk:k<ss.length)(h:(ss.take k).all (fun s=>decide (s.size%8=0))=true)(hm:(ss[k]).size%8=0):(ss.take (k+1)).all (fun s=>decide (s.size%8=0))=true:=by
 rw[List.take_succ_eq_append_getElem hk,List.all_append,h]
 simpa using hm
theorem z3m (A:Option Addr)(cap:Nat)(ss:List ByteArray)(w:World)(h:Strs w A ss)(hn:ss.length≤1048576)(ht:tot ss≤1099511627776) :
 Calls Tryz.prog 80 #[.slice A ss.length cap] w fun e w'=>e= .returned (.bool (frOk ss))∧w=w':=by
 have H:=hid h;clear h;go_enter Tryz.func80,Tryz.ntmps80;go_wp2
 go_loop [3,4] (fun m i=>∃k:Nat,k≤ss.length∧i= .int .i64 k∧m= .int .i64 (wds (ss.take k):Nat)∧Hid ((ss.take k).all (fun s=>decide (s.size%8=0))=true)) (fun _ i=>ss.length-(intOf i).toNat)
 case atStart=>exact ⟨0,by omega,rfl,by simp[wds],by simp[Hid]⟩
 case round =>
  obtain ⟨k,hk,rfl,rfl,HA⟩:=hrel;have hw1:wds (ss.take k)≤1099511627776:=Nat.le_trans (zt3 _) (Nat.le_trans (z1y ss k) ht)
  by_cases hk1:k<ss.length
  · obtain ⟨a,rfl,_,hc⟩:=H.out.2.resolve_left (by intro h; rw[h] at hk1; simp at hk1)
    have hck:=hc k hk1;have hsz:=H.out.1 ss[k] (List.getElem_mem hk1);unfold maxLen at hsz
    have hsz2:(ss[k]).size≤1099511627776:=by
     have h1:=z8e ss k hk1;have h2:=z1y ss (k+1);omega
    clear hc
    by_cases hm:(ss[k]).size%8=0
    · have hA':=zhi hk1 HA.out hm
      have HA':=hid hA';have hwt:=zo9 ss k hk1;have HW:=hid hwt
      have hm0:(((ss[k]).size:Int)%8 != 0)=false:=by simp; omega
      clear hA' hwt hm;go_wp2
      go_round
      case rel=>exact ⟨k+1,by omega,by go_num,by rw[HW.out]; go_num,HA'.out⟩
      case measure=>simp[intOf]; omega
    · have hm0:(((ss[k]).size:Int)%8 != 0)=true:=by simp; omega
      have hf:=ziq hk1 hm;have HF:=hid hf;clear hf hm;go_wp2;go_ret;exact ⟨z0j (by rw[frOk,HF.out]; simp),rfl⟩
  · obtain rfl:k=ss.length:=by omega
    have hall:ss.all (fun s=>decide (s.size%8=0))=true:=by have:=HA.out; rwa [List.take_of_length_le (Nat.le_refl _)] at this
    have hwt:=zfl ss hall;rw[List.take_of_length_le (Nat.le_refl _)] at hw1
    have hfin:frOk ss=(inB ss.length 1 6&&decide ((wds ss:Int)≤200)):=by
     rw[frOk,hall,Bool.true_and,inB,Bool.eq_iff_iff]
     simp
     omega
    have HF:=hid hfin;clear hall hwt hfin;cases hin:inB ss.length 1 6
    all_goals
     go_wp2_with (go_at_call 39; refine (z33 _ _ _ _).mono ?_; rintro e w' ⟨rfl,rfl⟩)
     all_goals go_ret
     all_goals refine ⟨z0j ?_,rfl⟩
     all_goals (rw[HF.out,hin]; simp; try assumption)
theorem z3p (A:Option Addr)(cap:Nat)(ss:List ByteArray)(w:World)(h:Strs w A ss)(hn:ss.length≤1048576) :
 Calls Tryz.prog 17 #[.slice A ss.length cap] w fun e w'=>e= .returned (.bool (frOk ss))∧w=w':=by
 have H:=hid h;clear h
 by_cases h1:ss.length<1
 · have hf:frOk ss=false:=by rw[frOk,decide_eq_false (by omega),Bool.false_and]
   rw[hf];clear hf;go_enter Tryz.func17,Tryz.ntmps17;go_wp2;go_ret;exact ⟨rfl,rfl⟩
 have h1:1≤ss.length:=by omega
 by_cases h6:6<ss.length
 · have hf:frOk ss=false:=by rw[frOk,decide_eq_false (by omega),Bool.false_and]
   rw[hf];clear hf;go_enter Tryz.func17,Tryz.ntmps17;go_wp2;go_ret;exact ⟨rfl,rfl⟩
 have h6:ss.length≤6:=by omega
 go_enter Tryz.func17,Tryz.ntmps17;go_wp2
 go_loop [3,5,16] (fun m _ i=>∃k:Nat,k≤ss.length∧i= .int .i64 k∧m= .int .i64 (tot (ss.take k):Nat)∧tot (ss.take k)≤1600*k∧Hid ((ss.take k).all (fun s=>decide (s.size%8=0))=true)) (fun _ _ i=>ss.length-(intOf i).toNat)
 case atStart=>exact ⟨0,by omega,rfl,by simp[tot],by simp[tot],by simp[Hid]⟩
 case round =>
  obtain ⟨k,hk,rfl,rfl,hT,HA⟩:=hrel
  by_cases hk1:k<ss.length
  · obtain ⟨a,rfl,_,hc⟩:=H.out.2.resolve_left (by intro h; rw[h] at hk1; simp at hk1)
    have hck:=hc k hk1;have hsz:=H.out.1 ss[k] (List.getElem_mem hk1);clear hc;cases hw:z1d (ss[k]).size
    · have hf:frOk ss=false:=by
       rw[Bool.eq_false_iff]
       intro hok
       simp only[frOk,Bool.and_eq_true,decide_eq_true_eq] at hok
       obtain ⟨_,ha,ht⟩:=hok
       have hm:(ss[k]).size%8=0:=by simpa using List.all_eq_true.1 ha ss[k] (List.getElem_mem hk1)
       have h1:=z8e ss k hk1;have h2:=z1y ss (k+1)
       have:z1d (ss[k]).size=true:=by rw[z1d,decide_eq_true]; omega
       rw[this] at hw;cases hw
      have HF:=hid hf;clear hf
      go_wp2_with (go_at_call 48; refine (z2v _ _ hsz).mono ?_; rintro e w' ⟨rfl,rfl⟩)
      go_ret;exact ⟨z0j HF.out.symm,rfl⟩
    · have hw8:(ss[k]).size%8=0∧(ss[k]).size≤1600:=by simpa [z1d] using hw
      obtain ⟨hm,hle⟩:=hw8;have hA':=zhi hk1 HA.out hm;have HA':=hid hA';have htt:=z8e ss k hk1
      have hT':tot (ss.take (k+1))≤1600*(k+1):=by omega
      have HT':=hid hT';have HTT:=hid htt;clear hA' htt hm hT'
      go_wp2_with (go_at_call 48; refine (z2v _ _ hsz).mono ?_; rintro e w' ⟨rfl,rfl⟩)
      go_round
      case rel=>exact ⟨k+1,by omega,by go_num,by rw[HTT.out]; go_num,HT'.out,HA'.out⟩
      case measure=>simp[intOf]; omega
  · obtain rfl:k=ss.length:=by omega
    have hall:ss.all (fun s=>decide (s.size%8=0))=true:=by have:=HA.out; rwa [List.take_of_length_le (Nat.le_refl _)] at this
    have hfin:frOk ss=decide ((tot ss:Int)≤1600):=by
     rw[frOk,hall,Bool.true_and,decide_eq_true (show 1≤ss.length∧ss.length≤6 by omega),Bool.true_and,Bool.eq_iff_iff]
     simp
     omega
    have HF:=hid hfin;clear hall hfin;go_wp2;go_ret;refine ⟨z0j ?_,rfl⟩;rw[HF.out]
open Go.RowKit Go.Deep
theorem zst (T:TypeId)(x:Value)(w:World):Calls Tryz.prog 46 #[.nilIface,.iface T x] w fun e w'=>e= .returned (.bool false)∧Below w.heap.size w w':=by
 go_enter Tryz.func46,Tryz.ntmps46;go_wp2;go_ret;exact ⟨rfl,by repeat (first | exact Below.refl _ _ | refine Below.alloc ?_ (by simp) _)⟩
theorem zky:∀(zs:List ByteArray) (s:ByteArray),s∈zs→s.size≤tot zs
 | [],_,h=>by cases h
 | z :: t,s,h=>by
   have e:tot (z :: t)=z.size+tot t:=by unfold tot; rw[List.map_cons,List.sum_cons]
   rcases List.mem_cons.1 h with rfl | h
   · omega
   · have:=zky t s h; omega
def ReadQ (n:Nd)(w:World)(e:Ending)(w':World):Prop:=∃h:Hd,e= .returned (.tuple #[.agg #[.int .i64 n.kind,.string n.data,.slice h.A n.ptrs.length h.a,.int .i64 n.size,.int .i64 n.count,.slice h.B n.items.length h.b],.int .i64 0])∧NdAt w' (From w.heap.size) 16 n h∧Below w.heap.size w w'
theorem zis (A:Option Addr)(cap:Nat)(zs:List ByteArray)(limit:Int)(w:World)(n:Nd)(h:Strs w A zs)(hok:frOk zs=true)(hl0:0≤limit)(hl1:limit≤1000)(hn:okN 8 n=true)(hwn:z03 8 n≤199)(hrep:RepN (sgz zs) 8 n 0 0)(hc:(costN 8 n:Int)≤limit) :
 Calls Tryz.prog 15 #[.slice A zs.length cap,.int .i64 limit] w (ReadQ n w):=by
 have hfo:=hok;unfold frOk at hfo;rw[Bool.and_eq_true,Bool.and_eq_true,decide_eq_true_eq,List.all_eq_true,decide_eq_true_eq] at hfo;obtain ⟨f1,f2,f3⟩:=hfo
 have hsm:∀s∈zs,s.size≤1600∧s.size%8=0:=fun s hs=>⟨Nat.le_trans (zky zs s hs) f3,by have:=f2 s hs; simpa using this⟩
 have h0:0<zs.length:=by omega
 have hle:=hrep.le;rw[z7c h0,z0n] at hle
 have HFO:Hid (∀W:World,Below w.heap.size w W→Calls Tryz.prog 17 #[.slice A zs.length cap] W fun e w'=>e= .returned (.bool true)∧W=w'):=hid fun W hW=>by
  have:=z3p A cap zs W (h.below hW) (by omega)
  rwa [hok] at this
 have HWI:Hid (∀W:World,Calls Tryz.prog 43 #[.int .i64 limit,.int .i64 1001] W fun e w'=>e= .returned (.bool true)∧W=w'):=hid fun W=>by
  have:=z0v limit 1001 W
  rwa [show wiB limit 1001=true by simp[wiB]; omega] at this
 have hb0:=((Below.refl w.heap.size w).alloc (Nat.le_refl _) (.cells #[.int .i64 0,.string { data:= #[] },.slice none 0 0,.int .i64 0,.int .i64 0,.slice none 0 0] nodeT)).alloc (by simp) (.cells #[.slice A zs.length cap,.int .i64 limit] rdrT);have hr1:((w.alloc (.cells #[.int .i64 0,.string { data:= #[] },.slice none 0 0,.int .i64 0,.int .i64 0,.slice none 0 0] nodeT)).alloc (.cells #[.slice A zs.length cap,.int .i64 limit] rdrT)).heap[w.heap.size+1]? =some (.cells #[.slice A zs.length cap,.int .i64 limit] rdrT (0,0)):=heap_alloc2_new w _ _;have hr0:((w.alloc (.cells #[.int .i64 0,.string { data:= #[] },.slice none 0 0,.int .i64 0,.int .i64 0,.slice none 0 0] nodeT)).alloc (.cells #[.slice A zs.length cap,.int .i64 limit] rdrT)).heap[w.heap.size]? =some (.cells #[.int .i64 0,.string { data:= #[] },.slice none 0 0,.int .i64 0,.int .i64 0,.slice none 0 0] nodeT (0,0)):=heap_alloc2_old w _ _
 have hrdr:Rdr ((w.alloc (.cells #[.int .i64 0,.string { data:= #[] },.slice none 0 0,.int .i64 0,.int .i64 0,.slice none 0 0] nodeT)).alloc (.cells #[.slice A zs.length cap,.int .i64 limit] rdrT)) (w.heap.size+1) A cap zs limit:=⟨hr1,h.below hb0,fun a ha=>by
  rcases h.2 with e | ⟨a',ha',hlt,_⟩
  · rw[e] at h0; cases h0
  · rw[ha] at ha'; injection ha' with ha'; subst ha'; omega,f1.2,hsm⟩
 have HRD:=hid hrdr;have HB0:=hid hb0;have R0:=hid hr0
 have HHA:Hid (∀W:World,Rdr W (w.heap.size+1) A cap zs limit→Calls Tryz.prog 44 #[.pointer (some ⟨w.heap.size+1,0,none⟩),plV 0 0,.int .i64 1] W fun e w'=>e= .returned (.bool true)∧Below W.heap.size W w'):=hid fun W h1=>has_a h1 0 0 1 h0 (by omega)
 have HPD:=hid (zdj (w.heap.size+1) 1)
 have HCL:Hid (∀(W:World) (x y:Nat),Rdr W (w.heap.size+1) A cap zs limit→W.heap[x]? =some (.cells #[.pointer (some ⟨w.heap.size+1,0,none⟩)] 64 (0,0))→W.heap[y]? =some (.cells #[.int .i64 1] 3 (0,0))→Calls Tryz.prog 84 #[plV 0 0,.pointer (some ⟨x,0,none⟩),.pointer (some ⟨y,0,none⟩)] W (NdQ 16 (w.heap.size+1) A cap zs (limit-(costN 8 n:Nat)) n W)):=hid fun W x y h1 h2 h3=>zn8 8 (by decide) n 0 0 limit W x y hn hwn hrep hc hl1 h1 ⟨h2,h3⟩
 have HAS:=hid zst;clear h hok hl0 hl1 hn hwn hrep hc f1 f2 f3 hsm h0 hle hb0 hr1 hr0 hrdr;generalize limit-(costN 8 n:Nat)=L2 at *;have hba1:=(Below.refl w.heap.size w).alloc (Nat.le_refl _) (.cells #[.int .i64 0,.string { data:= #[] },.slice none 0 0,.int .i64 0,.int .i64 0,.slice none 0 0] nodeT);go_enter Tryz.func15,Tryz.ntmps15
 go_wp2_with (first | (go_at_call 17; (with_reducible refine (HFO.out _ hba1).mono ?_); rintro e w1 ⟨rfl,rfl⟩) | (go_at_call 43; (with_reducible refine (HWI.out _).mono ?_); rintro e w1 ⟨rfl,rfl⟩) | fail)
 generalize ((w.alloc (.cells #[.int .i64 0,.string { data:= #[] },.slice none 0 0,.int .i64 0,.int .i64 0,.slice none 0 0] nodeT)).alloc (.cells #[.slice A zs.length cap,.int .i64 limit] rdrT))=W at *;refine (HHA.out _ HRD.out).mono ?_;rintro e w2 ⟨rfl,hb2⟩;have HR2:=hid (HRD.out.below hb2);have HB2:=hid (HB0.out.trans (hb2.mono HB0.out.size));have q0:=(hb2.block _ (z00 R0.out)).trans R0.out;have Q0:=hid q0;clear q0 hb2 hba1 HRD HB0 R0
 go_wp2_with fail
 refine (HPD.out _).mono ?_;rintro e w3 ⟨rfl,hb3,hv1,hv2⟩;have HC3:=hid (HCL.out w3 _ _ (HR2.out.below hb3) hv1 hv2);have HB3:=hid (HB2.out.trans (hb3.mono HB2.out.size));have q0:=(hb3.block _ (z00 Q0.out)).trans Q0.out;have Q3:=hid q0;have HS3:Hid (w.heap.size+1<w3.heap.size):=hid (Nat.lt_of_lt_of_le HR2.out.lt hb3.size);clear q0 hb3 hv1 hv2 HR2 HB2 Q0;unfold NdQ at HC3
 go_wp2_with fail
 refine HC3.out.mono ?_;rintro e w4 ⟨hy,rfl,hny,hrd4,hk4⟩;have hba:=((Below.refl w4.heap.size w4).alloc (Nat.le_refl _) (.cells #[.int .i64 n.kind,.string n.data,.slice hy.A n.ptrs.length hy.a,.int .i64 n.size,.int .i64 n.count,.slice hy.B n.items.length hy.b] nodeT)).alloc (by simp) (.cells #[.int .i64 0] 75);have y0:=heap_alloc2_old w4 (.cells #[.int .i64 n.kind,.string n.data,.slice hy.A n.ptrs.length hy.a,.int .i64 n.size,.int .i64 n.count,.slice hy.B n.items.length hy.b] nodeT) (.cells #[.int .i64 0] 75);have Y0:=hid y0;have q4:=(hba.block _ (by have:=hk4.size; have:=z00 Q3.out; omega)).trans ((hk4.block _ (z00 Q3.out) (by omega)).trans Q3.out);have Q4:=hid q4;have HN4:=hid (hny.below hba);have HB4:Hid (Below w.heap.size w4 ((w4.alloc (.cells #[.int .i64 n.kind,.string n.data,.slice hy.A n.ptrs.length hy.a,.int .i64 n.size,.int .i64 n.count,.slice hy.B n.items.length hy.b] nodeT)).alloc (.cells #[.int .i64 0] 75))):=hid (hba.mono (by have:=hk4.size; have:=HS3.out; omega));have HK4:Hid (Below w.heap.size w3 w4):=hid (hk4.below (by have:=HS3.out; omega) (by omega));clear hny hrd4 hk4 hba y0 q4 HC3
 go_wp2_with fail
 generalize (w4.alloc (.cells #[.int .i64 n.kind,.string n.data,.slice hy.A n.ptrs.length hy.a,.int .i64 n.size,.int .i64 n.count,.slice hy.B n.items.length hy.b] nodeT)).alloc (.cells #[.int .i64 0] 75)=W5 at *;refine (HAS.out _ _ _).mono ?_;rintro e w6 ⟨rfl,hb6⟩;have y6:=(hb6.block _ (z00 Y0.out)).trans Y0.out;have q6:=(hb6.block _ (z00 Q4.out)).trans Q4.out;have Q6:=hid q6;have HN6:=hid (HN4.out.below hb6)
 have hs5:w.heap.size≤W5.heap.size:=by have:=z00 Q4.out; omega
 have HB6:=hid (((HB3.out.trans HK4.out).trans HB4.out).trans (hb6.mono hs5));obtain ⟨m0,m1,m2,m3,m4,m5⟩:=z01 y6;obtain ⟨c0,c1,c2,c3,c4,c5⟩:=z01 q6;have hfz:=z02 q6;clear y6 q6 hb6 hs5;go_wp2;obtain ⟨wf,hwf,hrw,hkf⟩:=z79 Q6.out (.int .i64 n.kind) (.string n.data) (.slice hy.A n.ptrs.length hy.a) (.int .i64 n.size) (.int .i64 n.count) (.slice hy.B n.items.length hy.b);rw[hwf];obtain ⟨e0,e1,e2,e3,e4,e5⟩:=z01 hrw;have hbf:Below w.heap.size w6 wf:=hkf.below (by have:=HB6.out.size; omega) (by omega);exact bodyPost_ret (v:= .tuple #[.agg #[.int .i64 n.kind,.string n.data,.slice hy.A n.ptrs.length hy.a,.int .i64 n.size,.int .i64 n.count,.slice hy.B n.items.length hy.b],.int .i64 0]) (by simp[results,Tryz.results15,go_sem,e0,e1,e2,e3,e4,e5]) rfl ⟨hy,rfl,(HN6.out.keepsR hkf (fun k (hk:w3.heap.size≤k)=>by have:=HS3.out; omega)).weak (fun k (hk:w3.heap.size≤k)=>by have:=HS3.out; show w.heap.size≤k; omega),HB6.out.trans hbf⟩
end Go.Proofs.YtlbfffokkhccaaaGreatDoor
