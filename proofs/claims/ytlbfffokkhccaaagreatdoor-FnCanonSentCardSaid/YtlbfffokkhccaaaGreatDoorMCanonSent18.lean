/- Texts of the proof of the law FnCanonSent, side by side: part 18. -/
import Derived.Test.YtlbfffokkhccaaaGreatDoorMCanonSent17
set_option maxHeartbeats 8000000
set_option maxRecDepth 100000
open Go.Lib (hid)
namespace Go.Proofs.YtlbfffokkhccaaaGreatDoor
open Go.RowKit Go.Deep
theorem zb6 {x:Nat} :∀ {l:List Nat},x∈l→x≤l.sum
 | [],h=>by cases h
 | y :: t,h=>by
   rw[List.sum_cons]
   rcases List.mem_cons.1 h with rfl | h
   · omega
   · have:=zb6 h; omega
def WrQ (base b size:Nat)(P:Nat→Prop)(w:World)(r:Option Segs)(e:Ending)(w':World):Prop :=
 (r=none∧Too P w e w')∨∃s1,r=some s1∧e= .returned (.tuple #[])∧KP P w w'∧Bun w' base b size s1 (fun k=>P k∨w.heap.size≤k)
def WrD (size d:Nat):Prop:=∀(base b:Nat) (ss:Segs) (P:Nat→Prop) (w:World) (i a m:Nat) (n:Nd) (h1:Hd),Bun w base b size ss P→(∀k,P k→base≤k∧k<w.heap.size)→SOk 200 ss→i<ss.length→a<wn (sgS ss i) →
 NdAt w (fun k=>k<base) m n h1→okN d n=true→totN m n≤2000000→z03 d n≤300 →
 Calls Tryz.prog 34 #[.pointer (some ⟨b,0,none⟩),.agg #[.int .i64 n.kind,.string n.data,.slice h1.A n.ptrs.length h1.a,.int .i64 n.size,.int .i64 n.count,.slice h1.B n.items.length h1.b],.agg #[.int .i64 (i:Int),.int .i64 (a:Int)]] w (WrQ base b size P w (wrP 200 size d n ss i a))
theorem zhh (size d:Nat)(IH:WrD size d)(base b:Nat)(ss:Segs)(P:Nat→Prop)(w:World)(i a m:Nat)(n:Nd)(h1:Hd)(h:Bun w base b size ss P)(hP0:∀k,P k→base≤k∧k<w.heap.size)(hk:SOk 200 ss)(hi:i<ss.length)(ha:a+ownB n≤wn (sgS ss i))(hw1:1≤wn (sgS ss i))
 (hn:NdAt w (fun k=>k<base) m n h1) (ho:∀p∈n.ptrs,okN d p=true) (hm:totN m n≤2000000) (hws:(n.ptrs.map (z03 d)).sum≤300) :
 Calls Tryz.prog 117 #[.pointer (some ⟨b,0,none⟩),.agg #[.int .i64 n.kind,.string n.data,.slice h1.A n.ptrs.length h1.a,.int .i64 n.size,.int .i64 n.count,.slice h1.B n.items.length h1.b],.agg #[.int .i64 (i:Int),.int .i64 (a:Int)]] w (WrQ base b size P w (bodyP (wrP 200 size d) n ss i a)):=by
 obtain ⟨qA,qa,qB,qb⟩:=h1
 dsimp only at hn ⊢
 have hwi:=z09 ss i;have hto:=hk.totS
 have hbd:(n.data.size+7)/8+n.ptrs.length≤200:=by unfold ownB at ha; omega
 have hb0:Below w.heap.size w ((w.alloc (.cells #[.int .i64 n.kind,.string n.data,.slice qA n.ptrs.length qa,.int .i64 n.size,.int .i64 n.count,.slice qB n.items.length qb] nodeT)).alloc (.cells #[.int .i64 (i:Int),.int .i64 (a:Int)] plT)):=((Below.refl _ w).alloc (Nat.le_refl _) _).alloc (by simp) _;have r0:((w.alloc (.cells #[.int .i64 n.kind,.string n.data,.slice qA n.ptrs.length qa,.int .i64 n.size,.int .i64 n.count,.slice qB n.items.length qb] nodeT)).alloc (.cells #[.int .i64 (i:Int),.int .i64 (a:Int)] plT)).heap[w.heap.size]? =some (.cells #[.int .i64 n.kind,.string n.data,.slice qA n.ptrs.length qa,.int .i64 n.size,.int .i64 n.count,.slice qB n.items.length qb] nodeT (0,0)):=z05 (heap_alloc_new w _) _
 have r1:((w.alloc (.cells #[.int .i64 n.kind,.string n.data,.slice qA n.ptrs.length qa,.int .i64 n.size,.int .i64 n.count,.slice qB n.items.length qb] nodeT)).alloc (.cells #[.int .i64 (i:Int),.int .i64 (a:Int)] plT)).heap[w.heap.size+1]? =some (.cells #[.int .i64 (i:Int),.int .i64 (a:Int)] plT (0,0)):=by
  have:=heap_alloc_new (w.alloc (.cells #[.int .i64 n.kind,.string n.data,.slice qA n.ptrs.length qa,.int .i64 n.size,.int .i64 n.count,.slice qB n.items.length qb] nodeT)) (.cells #[.int .i64 (i:Int),.int .i64 (a:Int)] plT)
  simpa using this
 have hs0:((w.alloc (.cells #[.int .i64 n.kind,.string n.data,.slice qA n.ptrs.length qa,.int .i64 n.size,.int .i64 n.count,.slice qB n.items.length qb] nodeT)).alloc (.cells #[.int .i64 (i:Int),.int .i64 (a:Int)] plT)).heap.size=w.heap.size+2:=by simp
 obtain ⟨row,g,v,hB,hP⟩:=h;obtain ⟨x,cp,cur,hv,hx1,hx2,hx3,hx4,hx5,hx6⟩:=z2s (hB.ho i hi) (by omega);obtain ⟨r,cap,hrow,hcr⟩:=(hB.keep (fun k hk=>hb0.block k (hB.lt k hk).2)).row hi;obtain ⟨c0,c1,c2⟩:=z0k (hB.keep (fun k hk=>hb0.block k (hB.lt k hk).2)).hb;obtain ⟨A,cp',hv',hcg,hfg⟩:=(hB.keep (fun k hk=>hb0.block k (hB.lt k hk).2)).seg hi;have hcri:=hcr i hi;have hgi:=z00 (hB.hg i hi);rw[hv] at hcg;rw[hrow] at c0
 have hlt:(i:Int)<(ss.length:Int):=by omega
 have HB:=hid hB;have HP:=hid hP;have HV:=hid hv;have HN:=hid hn;have HB0:=hid hb0;have R0:=hid r0;have R1:=hid r1;have HP0:=hid hP0;have HS0:=hid hs0;have HX:=hid (And.intro hx2 (And.intro hx3 hx5));have HO:=hid ho;obtain ⟨n0,n1,n2,n3,n4,n5⟩:=z01 r0;obtain ⟨t0,t1⟩:=z04 r1
 have hle:(a:Int)≤(wn (sgS ss i):Int):=by unfold ownB at ha; omega
 have hcpc:(wn (sgS ss i):Int)≤(cp:Int):=by omega
 clear hn hb0 r0 r1 hP0 hs0 hB hP hv hv' hrow hcr hx1 hx2 hx3 hx4 hx5 hx6 hfg ho
 obtain ⟨gi,hgie⟩:∃gi,g i=gi:=⟨_,rfl⟩
 rw[hgie] at hcri hcg hgi;have HGI:=hid hgie;clear hgie;have HSZ:Hid (n.data.size=0∨¬cp=a):=hid (by unfold ownB at ha; omega);have HFIT:=hid (z3q hk.wds ha);have hs8:=z10 hk.wds i
 by_cases hz:cp=a
 all_goals
  go_enter Tryz.func117,Tryz.ntmps117
  go_wp2_with fail
  generalize (w.alloc (.cells #[.int .i64 n.kind,.string n.data,.slice qA n.ptrs.length qa,.int .i64 n.size,.int .i64 n.count,.slice qB n.items.length qb] nodeT)).alloc (.cells #[.int .i64 (i:Int),.int .i64 (a:Int)] plT)=W0 at *
  go_quiet (fail)
  go_wp2_with fail
  have hW1:Below w.heap.size w (W0.drewN nq):=⟨HB0.out.os,HB0.out.tape,HB0.out.output,HB0.out.size,HB0.out.block⟩
  have HW1:=hid hW1;have S0:Hid ((W0.drewN nq).heap[w.heap.size]? =some (.cells #[.int .i64 n.kind,.string n.data,.slice qA n.ptrs.length qa,.int .i64 n.size,.int .i64 n.count,.slice qB n.items.length qb] nodeT (0,0))):=hid R0.out;have S1:Hid ((W0.drewN nq).heap[w.heap.size+1]? =some (.cells #[.int .i64 (i:Int),.int .i64 (a:Int)] plT (0,0))):=hid R1.out;have HS1:Hid ((W0.drewN nq).heap.size=w.heap.size+2):=hid HS0.out;clear hW1 n0 n1 n2 n3 n4 n5 t0 t1 c0 c1 c2 hcri hcg HB0 R0 R1 HS0;generalize W0.drewN nq=W1 at *
  go_loopw [28] (fun c wr=>∃k:Nat,c= .int .i64 k∧k≤n.data.size∧Hid (KP P W1 wr∧Bu wr base b size (totS ss) (putS ss i a (n.data.data.toList.take k)) row g v)) (fun c _=>n.data.size-(intOf c).toNat)
  case atStart=>exact ⟨0,rfl,by omega,hid ⟨KP.refl _ _,by rw[List.take_zero,zhz]; exact HB.out.keep (fun k hk=>HW1.out.block k (HB.out.lt k hk).2)⟩⟩
  case round =>
   obtain ⟨k,rfl,hkk,HR⟩:=hrel;have hr0:=HR.out.1.row S0.out (fun hp=>by have:=HP0.out _ hp; omega);obtain ⟨m0,m1,m2,m3,m4,m5⟩:=z01 hr0
   by_cases hlt2:k<n.data.size
   · rcases HSZ.out with hz0 | hz0
     · omega
     · try exact absurd hz hz0
       all_goals
        obtain ⟨q,t,hqt,ht8⟩:∃q t:Nat,k=8*q+t∧t<8:=⟨k/8,k%8,by omega,by omega⟩
        have hq1:(k:Int)/8=(q:Int):=by omega
        have hq2:(k:Int).tdiv 8=(q:Int):=by rw[Int.tdiv_eq_ediv_of_nonneg (by omega)]; omega
        have hq3:(k:Int).tmod 8=(t:Int):=by rw[Int.tmod_eq_emod_of_nonneg (by omega)]; omega
        have hqb:(q:Int)<((wn (sgS ss i)-a:Nat):Int):=by
         have:=HFIT.out;rw[z0l] at this;omega
        have hq8:(t:Int)<8:=by omega
        have hx:∃cu,wr.heap[x]? =some (.cells cu wdT (0,0))∧a*8+q*8+t<cu.size:=by
         have h1:=HR.out.2.ho i (by rw[z0a]; exact hi);rw[HV.out] at h1;obtain ⟨x',cp',cu,e1,e2,e3,e4,e5,e6,e7⟩:=z2s h1 (by rw[← (z0s hi (by have:=HFIT.out; rw[List.length_take]; omega)).wn]; omega)
         injection e1 with e1
         injection e1 with e1
         injection e1 with e1
         subst e1;refine ⟨cu,e3,?_⟩
         have h2:(cu.toList.take (wn (sgS (putS ss i a (List.take k n.data.data.toList)) i)*8)).length≤cu.size:=by rw[List.length_take]; simp; omega
         have h3:=HFIT.out;rw[z0l] at h3;have h4:wn (sgS (putS ss i a (List.take k n.data.data.toList)) i)=wn (sgS ss i):=(z0s hi (by have:=HFIT.out; rw[List.length_take]; omega)).wn i |>.symm;rw[h4] at e4;omega
        obtain ⟨cu,hx1,hx2⟩:=hx
        have hxc:wr.cell? ⟨x,a*8+q*8+t,none⟩=some (cu[a*8+q*8+t]'hx2):=by rw[cell_of_row _ _ _ _ _ _ hx1,Array.getElem?_eq_getElem hx2]
        have hxf:=z02 hx1 (a*8+q*8+t);have HX1:=hid hx1;have HQT:=hid hqt;generalize cu[a*8+q*8+t]'hx2=u at hxc;clear hx1 hx2 hr0 hqt
        have hkl:k<n.data.data.toList.length:=by rw[z0l]; exact hlt2
        have hbu:=HR.out.2.putAt (by rw[z0a]; exact hi) (o:=8*a+k) (t:= [n.data.data.toList[k]'hkl]) (by
         have h3:=HFIT.out;have h4:(sgS ss i).length=(sgS (putS ss i a (List.take k n.data.data.toList)) i).length:=(z0s hi (by rw[List.length_take]; omega)).2 i;rw[← h4,List.length_singleton]
         omega) x _ _ HV.out
        rw[zkj ss i a k _ hi hkl HFIT.out] at hbu;have hval:Lib.byteCells [n.data.data.toList[k]'hkl]= [.int .u8 (n.data[k].toNat:Int)]:=rfl;rw[hval,show 8*a+k=a*8+q*8+t by have:=HQT.out; omega] at hbu
        have HNX:Hid (∀W:World,W=wr.setCell ⟨x,a*8+q*8+t,none⟩ (.int .u8 (n.data[k].toNat:Int))→Hid (KP P W1 W.drew∧Bu W.drew base b size (totS ss) (putS ss i a (n.data.data.toList.take (k+1))) row g v)):=hid (fun W hW=>by
         subst hW;refine hid ⟨?_,hbu.keep (fun _ _=>rfl)⟩;have k1:=HR.out.1.trans (KP.set (HP.out x (.inr (.inr ⟨i,hi,.inr (by rw[HV.out]; rfl)⟩))) wr (a*8+q*8+t) (.int .u8 (n.data[k].toNat:Int))) (fun _ _ h=>h)
         exact ⟨k1.os,k1.tape,k1.output,k1.size,k1.block⟩)
        clear hbu hval
        go_wp2_with fail
        go_region
        have HN2:=HNX.out _ rfl;clear hxc hxf hq1 hq2 hq3 hqb hq8
        go_wp2_with fail
        go_roundw
        case rel=>exact ⟨k+1,by go_num,by omega,HN2⟩
        case measure=>simp[intOf]; omega
   · obtain rfl:k=n.data.size:=by omega
     have hfull:n.data.data.toList.take n.data.size=n.data.data.toList:=List.take_of_length_le (by rw[z0l]; exact Nat.le_refl _);rw[hfull] at HR;clear hfull;have HBUN:Hid (Bun wr base b size (putS ss i a n.data.data.toList) P):=hid ⟨row,g,v,by rw[z1j hi HFIT.out]; exact HR.out.2,fun k hk=>HP.out k (by rwa [z0a] at hk)⟩;have HKP:Hid (KP P w wr):=hid ((KP.of_below HW1.out).trans HR.out.1 (fun _ _ h=>h));have HSS:Hid (SOk 200 (putS ss i a n.data.data.toList)):=hid (hk.put hi HFIT.out);have HQ0:=hid hr0;have HQ1:=hid (HR.out.1.row S1.out (fun hp=>by have:=HP0.out _ hp; omega));have HSW:Hid (w.heap.size+2≤wr.heap.size):=hid (by have:=HR.out.1.size; have:=HS1.out; omega);clear hr0;have HWF:Hid (wfI 2 (n.data.size:Int)=(((n.data.size+7)/8:Nat):Int)):=hid (by unfold wfI z58; simp; omega)
     obtain ⟨dw,hdw⟩:∃dw,(n.data.size+7)/8=dw:=⟨_,rfl⟩
     rw[hdw] at HWF hbd;have HE:Hid (bodyP (wrP 200 size d) n ss i a=ptrsP (wrP 200 size d) n.ptrs (putS ss i a n.data.data.toList) i (a+dw)):=hid (by unfold bodyP; rw[hdw]);have HDW:=hid hdw;clear hdw
     have hdl:n.data.size≤2000:=by have:=HDW.out; omega
     go_wp2_with fail
     refine (z5b 2 (n.data.size:Int) wr (by omega) (by omega) (by omega) (by omega)).mono ?_;rintro e w5 ⟨rfl,rfl⟩;rw[HWF.out];obtain ⟨z0,z1,z2,z3,z4,z5⟩:=z01 HQ0.out
     go_wp2_with fail
     have HDX:Hid (a+dw+n.ptrs.length≤wn (sgS (putS ss i a n.data.data.toList) i)):=hid (by rw[← (z0s hi HFIT.out).wn]; have:=HDW.out; unfold ownB at ha; omega)
     have hii:i<(putS ss i a n.data.data.toList).length:=by rw[z0a]; exact hi
     have hpl:n.ptrs.length≤200:=by omega
     have hbb:base≤w.heap.size:=by have:=HB.out.lt b (.inl rfl); omega
     clear z0 z1 z2 z3 z4 z5 m0 m1 m2 m3 m4 m5 hlt2 HR hkk HX HFIT HSZ HS1 hs8
     go_loopw [50] (fun c wr=>∃k:Nat,c= .int .i64 k∧k≤n.ptrs.length∧Hid (∃s1,ptrsP (wrP 200 size d) (n.ptrs.take k) (putS ss i a n.data.data.toList) i (a+dw)=some s1∧SOk 200 s1∧Grew (putS ss i a n.data.data.toList) s1∧KP P w wr∧Bun wr base b size s1 (fun k=>P k∨w.heap.size+2≤k)∧w.heap.size+2≤wr.heap.size∧wr.heap[w.heap.size]? =some (.cells #[.int .i64 n.kind,.string n.data,.slice qA n.ptrs.length qa,.int .i64 n.size,.int .i64 n.count,.slice qB n.items.length qb] nodeT (0,0))∧wr.heap[w.heap.size+1]? =some (.cells #[.int .i64 (i:Int),.int .i64 (a:Int)] plT (0,0)))) (fun c _=>n.ptrs.length-(intOf c).toNat)
     case atStart=>exact ⟨0,rfl,by omega,hid ⟨_,rfl,HSS.out,Grew.refl _,HKP.out,HBUN.out.weak (fun _ h=> .inl h),HSW.out,HQ0.out,HQ1.out⟩⟩
     case round =>
      rename_i wst _ _
      obtain ⟨k,rfl,hkk,HZ⟩:=hrel;obtain ⟨s1,zr,zk,zg,zp,zb,zs,zq0,zq1⟩:=HZ.out;have ZR:=hid zr;have ZK:=hid zk;have ZG:=hid zg;have ZP:=hid zp;have ZB:=hid zb;have ZQ0:=hid zq0;have ZQ1:=hid zq1;clear zr zk zg zp zb HZ
      by_cases hlt3:k<n.ptrs.length
      · obtain ⟨m',rfl⟩:=HN.out.2.1.pred hlt3
        obtain ⟨xx,hdp,hqa,hc,hp⟩:=(HN.out.2.1).at_ hlt3;obtain rfl:qA=some xx:=hqa;have hbw:=ZP.out.below hbb (fun k hp=>(HP0.out k hp).1)
        have hcb:(xx.add (k*6)).block<base:=by
         obtain ⟨_,q,hq,hcq,_⟩:=HN.out.2.1
         rcases hcq with h | ⟨x2,e2,hs2,_⟩
         · rw[h] at hq; rw[← hq] at hlt3; cases hlt3
         · injection e2 with e2; rw[z0r,e2]; exact hs2
        obtain ⟨d0,d1,d2,d3,d4,d5⟩:=hc.block (hbw.block _ hcb);have hmem:=List.getElem_mem hlt3;have HOK:=hid (HO.out _ hmem);have HTP:Hid (totN m' n.ptrs[k]≤2000000):=hid (by have:=z1y (m:=m') hlt3; unfold totN at hm; omega);have HWP:Hid (z03 d n.ptrs[k]≤300):=hid (Nat.le_trans (zb6 (List.mem_map_of_mem hmem)) hws);have HSTEP:=hid (z7k (wrP 200 size d) n.ptrs k hlt3 (putS ss i a n.data.data.toList) i (a+dw));have HCUT:=hid (z9c (wrP 200 size d) n.ptrs (k+1) (putS ss i a n.data.data.toList) i (a+dw));have HNP:=hid hp;generalize n.ptrs[k]=p at *;have hbx:Below wr.heap.size wr (wr.alloc (.cells #[.int .i64 p.kind,.string p.data,.slice hdp.A p.ptrs.length hdp.a,.int .i64 p.size,.int .i64 p.count,.slice hdp.B p.items.length hdp.b] nodeT)).drew:=((Below.refl _ _).alloc (Nat.le_refl _) _).drew;have g0:=heap_alloc_new wr (.cells #[.int .i64 p.kind,.string p.data,.slice hdp.A p.ptrs.length hdp.a,.int .i64 p.size,.int .i64 p.count,.slice hdp.B p.items.length hdp.b] nodeT);obtain ⟨n0,n1,n2,n3,n4,n5⟩:=z01 g0;obtain ⟨t0,t1⟩:=z04 ((hbx.block _ (z00 zq1)).trans zq1)
        replace n0:(wr.alloc (.cells #[.int .i64 p.kind,.string p.data,.slice hdp.A p.ptrs.length hdp.a,.int .i64 p.size,.int .i64 p.count,.slice hdp.B p.items.length hdp.b] nodeT)).drew.cell? ⟨wr.heap.size,0,none⟩=some (.int .i64 p.kind):=n0
        replace n1:(wr.alloc (.cells #[.int .i64 p.kind,.string p.data,.slice hdp.A p.ptrs.length hdp.a,.int .i64 p.size,.int .i64 p.count,.slice hdp.B p.items.length hdp.b] nodeT)).drew.cell? ⟨wr.heap.size,1,none⟩=some (.string p.data):=n1
        replace n2:(wr.alloc (.cells #[.int .i64 p.kind,.string p.data,.slice hdp.A p.ptrs.length hdp.a,.int .i64 p.size,.int .i64 p.count,.slice hdp.B p.items.length hdp.b] nodeT)).drew.cell? ⟨wr.heap.size,2,none⟩=some (.slice hdp.A p.ptrs.length hdp.a):=n2
        replace n3:(wr.alloc (.cells #[.int .i64 p.kind,.string p.data,.slice hdp.A p.ptrs.length hdp.a,.int .i64 p.size,.int .i64 p.count,.slice hdp.B p.items.length hdp.b] nodeT)).drew.cell? ⟨wr.heap.size,3,none⟩=some (.int .i64 p.size):=n3
        replace n4:(wr.alloc (.cells #[.int .i64 p.kind,.string p.data,.slice hdp.A p.ptrs.length hdp.a,.int .i64 p.size,.int .i64 p.count,.slice hdp.B p.items.length hdp.b] nodeT)).drew.cell? ⟨wr.heap.size,4,none⟩=some (.int .i64 p.count):=n4
        replace n5:(wr.alloc (.cells #[.int .i64 p.kind,.string p.data,.slice hdp.A p.ptrs.length hdp.a,.int .i64 p.size,.int .i64 p.count,.slice hdp.B p.items.length hdp.b] nodeT)).drew.cell? ⟨wr.heap.size,5,none⟩=some (.slice hdp.B p.items.length hdp.b):=n5
        have HBX:=hid hbx;have HND:=hid (z2v HNP.out (hbw.trans (HBX.out.mono (by omega))))
        have hwr:IntKind.i64.wrap ((dw:Int)+(k:Int))=((dw+k:Nat):Int):=by rw[IntKind.wrap_i64]; omega
        have hii1:i<s1.length:=Nat.lt_of_lt_of_le hii ZG.out.1
        have haa1:a+(dw+k)<wn (sgS s1 i):=by have h1:=ZG.out.wn i; have h2:=HDX.out; omega
        have hbig:a+(dw+k)≤1000000:=by have h1:=z09 s1 i; have h2:=ZK.out.totS; omega
        clear zq0 zq1 g0 hbx hc hp hmem
        go_wp2_with fail
        refine wp_region_held_drew (S:=(fun V=>(V.cell? ⟨wr.heap.size,0,none⟩=some (.int .i64 p.kind)∧V.cell? ⟨wr.heap.size,1,none⟩=some (.string p.data)∧V.cell? ⟨wr.heap.size,2,none⟩=some (.slice hdp.A p.ptrs.length hdp.a)∧V.cell? ⟨wr.heap.size,3,none⟩=some (.int .i64 p.size)∧V.cell? ⟨wr.heap.size,4,none⟩=some (.int .i64 p.count)∧V.cell? ⟨wr.heap.size,5,none⟩=some (.slice hdp.B p.items.length hdp.b))∧(V.cell? ⟨w.heap.size+1,0,none⟩=some (.int .i64 (i:Int))∧V.cell? ⟨w.heap.size+1,1,none⟩=some (.int .i64 (a:Int))))) (by kernel_rfl) ?_ (fun hH0=>?_)
        · exact ⟨⟨n0,n1,n2,n3,n4,n5⟩,⟨t0,t1⟩⟩
        refine wpAnyH_take (i:=0) (v:=?_) rfl (by kernel_rfl) (by kernel_rfl) (by kernel_rfl) (fun _ _ _ h=>h) (Or.inl ⟨by rfl,?_⟩) (by assumption) ?_
        rotate_left
        · intro w hSw
          (try dsimp only at hSw)
          go_simp
          try with_reducible rfl
        try simp only[List.getElem_toArray,List.getElem_cons_succ,List.getElem_cons_zero,Act.put,List.setIfInBounds_toArray,List.set_cons_zero,List.set_cons_succ]
        refine wpAnyH_take (i:=1) (v:=?_) rfl (by kernel_rfl) (by kernel_rfl) (by kernel_rfl) (fun _ _ _ h=>h) (Or.inl ⟨by rfl,?_⟩) (by assumption) ?_
        rotate_left
        · intro w hSw
          (try dsimp only at hSw)
          go_simp
          try with_reducible rfl
        try simp only[List.getElem_toArray,List.getElem_cons_succ,List.getElem_cons_zero,Act.put,List.setIfInBounds_toArray,List.set_cons_zero,List.set_cons_succ]
        refine wpAnyH_take (i:=2) (v:=?_) rfl (by kernel_rfl) (by kernel_rfl) (by kernel_rfl) (fun _ _ _ h=>h) (Or.inl ⟨by rfl,?_⟩) (by assumption) ?_
        rotate_left
        · intro w hSw
          (try dsimp only at hSw)
          go_simp
          try with_reducible rfl
        try simp only[List.getElem_toArray,List.getElem_cons_succ,List.getElem_cons_zero,Act.put,List.setIfInBounds_toArray,List.set_cons_zero,List.set_cons_succ]
        refine wpAnyH_take (i:=3) (v:=?_) rfl (by kernel_rfl) (by kernel_rfl) (by kernel_rfl) (fun _ _ _ h=>h) (Or.inl ⟨by rfl,?_⟩) (by assumption) ?_
        rotate_left
        · intro w hSw
          (try dsimp only at hSw)
          go_simp
          try with_reducible rfl
        try simp only[List.getElem_toArray,List.getElem_cons_succ,List.getElem_cons_zero,Act.put,List.setIfInBounds_toArray,List.set_cons_zero,List.set_cons_succ]
        refine wpAnyH_take (i:=4) (v:=?_) rfl (by kernel_rfl) (by kernel_rfl) (by kernel_rfl) (fun _ _ _ h=>h) (Or.inl ⟨by rfl,?_⟩) (by assumption) ?_
        rotate_left
        · intro w hSw
          (try dsimp only at hSw)
          go_simp
          try with_reducible rfl
        try simp only[List.getElem_toArray,List.getElem_cons_succ,List.getElem_cons_zero,Act.put,List.setIfInBounds_toArray,List.set_cons_zero,List.set_cons_succ]
        refine wpAnyH_take (i:=5) (v:=?_) rfl (by kernel_rfl) (by kernel_rfl) (by kernel_rfl) (fun _ _ _ h=>h) (Or.inl ⟨by rfl,?_⟩) (by assumption) ?_
        rotate_left
        · intro w hSw
          (try dsimp only at hSw)
          go_simp
          try with_reducible rfl
        try simp only[List.getElem_toArray,List.getElem_cons_succ,List.getElem_cons_zero,Act.put,List.setIfInBounds_toArray,List.set_cons_zero,List.set_cons_succ]
        refine wpAnyH_ready (rs:= [6]) (by kernel_rfl) (by simp) ?_;refine AllReadyH.cons rfl (fun K hK=>?_) AllReadyH.nil
        go_simp
        go_at_call 118
        refine (z7m i a (dw+k) _ (by omega) (by omega)).mono ?_;rintro e w6 ⟨rfl,hb6⟩
        go_wp2_with fail
        refine hK.out _ _ ?_ (fun hH1=>?_)
        · exact ⟨⟨kcw hb6 n0,kcw hb6 n1,kcw hb6 n2,kcw hb6 n3,kcw hb6 n4,kcw hb6 n5⟩,⟨kcw hb6 t0,kcw hb6 t1⟩⟩
        clear hK K hH0
        try simp only[List.getElem_toArray,List.getElem_cons_succ,List.getElem_cons_zero,Act.put,List.setIfInBounds_toArray,List.set_cons_zero,List.set_cons_succ]
        have HB6:=hid hb6;have hs6:=hb6.size;have hsx:=HBX.out.size;have HCALL:=hid (IH base b s1 _ w6 i (a+(dw+k)) m' p hdp ((ZB.out.tight.low (w':=w6) (HBX.out.trans (hb6.mono HBX.out.size)))) (fun x hx=>⟨hx.2.1,Nat.lt_of_lt_of_le hx.2.2 (Nat.le_trans hsx hs6)⟩) ZK.out hii1 haa1 (z2v HND.out (hb6.mono (by simp; omega))) HOK.out HTP.out HWP.out);have N0:=hid (And.intro n0 (And.intro n1 (And.intro n2 (And.intro n3 (And.intro n4 (And.intro n5 (And.intro t0 t1)))))));clear n0 n1 n2 n3 n4 n5 t0 t1 hwr hb6;refine wpAnyH_ready (rs:= [7]) (by kernel_rfl) (by simp) ?_;refine AllReadyH.cons rfl (fun K hK=>?_) AllReadyH.nil
        go_simp
        go_at_call 34
        refine HCALL.out.mono ?_
        have HNP7:Hid (∀x,(w.heap.size≤x∧x<w.heap.size+2)∨x=wr.heap.size→¬((P x∨w.heap.size+2≤x)∧base≤x∧x<wr.heap.size)):=hid (fun x hx hp=>by
         rcases hx with hx | hx
         · rcases hp.1 with h | h
           · have:=HP0.out x h; omega
           · omega
         · omega)
        have HPW:Hid (∀x,x<w.heap.size→((P x∨w.heap.size+2≤x)∧base≤x∧x<wr.heap.size)→P x):=hid (fun x hx hp=>by
         rcases hp.1 with h | h
         · exact h
         · omega)
        have HK6:=hid (ZP.out.trans (KP.of_below (HBX.out.trans (HB6.out.mono HBX.out.size))) (fun _ _ h=>h):KP P w w6);rintro e w7 (⟨hnone,rfl,hk7⟩ | ⟨s2,hsome,rfl,hk7,hB7⟩)
        · have HE9:Hid (bodyP (wrP 200 size d) n ss i a=none):=hid (by rw[HE.out]; exact HCUT.out (by rw[HSTEP.out,ZR.out,Option.bind_some,Nat.add_assoc]; exact hnone))
          have HK7:=hid (HK6.out.trans hk7 HPW.out);clear hk7 hnone hK;go_wp2;exact ⟨rfl,.inl ⟨HE9.out,rfl,HK7.out⟩⟩
        · obtain ⟨k7a,k7b⟩:=z2b 200 size d p s1 i (a+(dw+k)) s2 HOK.out ZK.out hii1 haa1 hsome
          have HSOME:Hid (ptrsP (wrP 200 size d) (n.ptrs.take (k+1)) (putS ss i a n.data.data.toList) i (a+dw)=some s2):=hid (by rw[HSTEP.out,ZR.out,Option.bind_some,Nat.add_assoc]; exact hsome);have HK7:=hid (HK6.out.trans hk7 HPW.out);have HQ7:=hid (hk7.row ((HB6.out.block _ (Nat.lt_of_lt_of_le (z00 ZQ0.out) hsx)).trans ((HBX.out.block _ (z00 ZQ0.out)).trans ZQ0.out)) (HNP7.out _ (.inl (by omega))));have HQ8:=hid (hk7.row ((HB6.out.block _ (Nat.lt_of_lt_of_le (z00 ZQ1.out) hsx)).trans ((HBX.out.block _ (z00 ZQ1.out)).trans ZQ1.out)) (HNP7.out _ (.inl (by omega))))
          have HB7:=hid (hB7.weak (Q:=fun k=>P k∨w.heap.size+2≤k) (fun x hx=>by
           rcases hx with hx | hx
           · exact hx.1
           · exact .inr (by have h1:=Nat.le_trans hsx hs6; omega)))
          have HZN:Hid (∃s1,ptrsP (wrP 200 size d) (n.ptrs.take (k+1)) (putS ss i a n.data.data.toList) i (a+dw)=some s1∧SOk 200 s1∧Grew (putS ss i a n.data.data.toList) s1∧KP P w w7∧Bun w7 base b size s1 (fun k=>P k∨w.heap.size+2≤k)∧w.heap.size+2≤w7.heap.size∧w7.heap[w.heap.size]? =some (.cells #[.int .i64 n.kind,.string n.data,.slice (some xx) n.ptrs.length qa,.int .i64 n.size,.int .i64 n.count,.slice qB n.items.length qb] nodeT (0,0))∧w7.heap[w.heap.size+1]? =some (.cells #[.int .i64 (i:Int),.int .i64 (a:Int)] plT (0,0))):=hid ⟨s2,HSOME.out,k7a,ZG.out.trans k7b,HK7.out,HB7.out,by have h1:=hk7.size; have h2:=Nat.le_trans hsx hs6; omega,HQ7.out,HQ8.out⟩;obtain ⟨v0,v1,v2,v3,v4,v5⟩:=z01 (hk7.row ((HB6.out.block _ (by simp)).trans (heap_alloc_new wr (.cells #[.int .i64 p.kind,.string p.data,.slice hdp.A p.ptrs.length hdp.a,.int .i64 p.size,.int .i64 p.count,.slice hdp.B p.items.length hdp.b] nodeT))) (HNP7.out _ (.inr rfl)));obtain ⟨x0,x1⟩:=z04 HQ8.out;refine hK.out _ _ ?_ (fun hH2=>?_)
          · exact ⟨⟨v0,v1,v2,v3,v4,v5⟩,⟨x0,x1⟩⟩
          clear hK K hH1 hk7 hB7 v0 v1 v2 v3 v4 v5 x0 x1 hsome d0 d1 d2 d3 d4 d5;refine wpAnyH_done (by kernel_rfl) ?_ _;clear hH2
          go_wp2_with fail
          go_roundw
          case rel=>exact ⟨k+1,by go_num,by omega,HZN⟩
          case measure=>simp[intOf]; omega
      · obtain rfl:k=n.ptrs.length:=by omega
        rw[List.take_of_length_le (Nat.le_refl _)] at ZR;have HE9:Hid (bodyP (wrP 200 size d) n ss i a=some s1):=hid (by rw[HE.out]; exact ZR.out);have HBF:=hid (ZB.out.weak (Q:=fun k=>P k∨w.heap.size≤k) (fun x hx=>hx.imp id (fun h=>by omega)));clear zq0 zq1;go_wp2
        go_end0
        exact .inr ⟨s1,HE9.out,rfl,ZP.out,HBF.out⟩
abbrev spT:TypeId:=168
theorem zjn (size d:Nat)(IH:WrD size d)(base b:Nat)(ss:Segs)(P:Nat→Prop)(w:World)(i a m:Nat)(n:Nd)(h1:Hd)(h:Bun w base b size ss P)(hP0:∀k,P k→base≤k∧k<w.heap.size)(hk:SOk 200 ss)(hi:i<ss.length)(ha:a+ownN n≤wn (sgS ss i))(hw1:1≤ownN n)
 (hn:NdAt w (fun k=>k<base) m n h1) (hf:formN n=true) (ho:∀p∈ptrsL n,okN d p=true) (hm:totN m n≤2000000) (hws:((ptrsL n).map (z03 d)).sum≤300) (hmany:¬(n.kind=2∧n.size=7)) :
 Calls Tryz.prog 71 #[.pointer (some ⟨b,0,none⟩),.agg #[.int .i64 n.kind,.string n.data,.slice h1.A n.ptrs.length h1.a,.int .i64 n.size,.int .i64 n.count,.slice h1.B n.items.length h1.b],.agg #[.int .i64 (i:Int),.int .i64 (a:Int)]] w (WrQ base b size P w (fillP (wrP 200 size d) n ss i a)):=by
 obtain ⟨qA,qa,qB,qb⟩:=h1
 dsimp only at hn ⊢
 have hb0:Below w.heap.size w ((w.alloc (.cells #[.int .i64 n.kind,.string n.data,.slice qA n.ptrs.length qa,.int .i64 n.size,.int .i64 n.count,.slice qB n.items.length qb] nodeT)).alloc (.cells #[.int .i64 (i:Int),.int .i64 (a:Int)] plT)):=((Below.refl _ w).alloc (Nat.le_refl _) _).alloc (by simp) _;have r0:((w.alloc (.cells #[.int .i64 n.kind,.string n.data,.slice qA n.ptrs.length qa,.int .i64 n.size,.int .i64 n.count,.slice qB n.items.length qb] nodeT)).alloc (.cells #[.int .i64 (i:Int),.int .i64 (a:Int)] plT)).heap[w.heap.size]? =some (.cells #[.int .i64 n.kind,.string n.data,.slice qA n.ptrs.length qa,.int .i64 n.size,.int .i64 n.count,.slice qB n.items.length qb] nodeT (0,0)):=z05 (heap_alloc_new w _) _
 have r1:((w.alloc (.cells #[.int .i64 n.kind,.string n.data,.slice qA n.ptrs.length qa,.int .i64 n.size,.int .i64 n.count,.slice qB n.items.length qb] nodeT)).alloc (.cells #[.int .i64 (i:Int),.int .i64 (a:Int)] plT)).heap[w.heap.size+1]? =some (.cells #[.int .i64 (i:Int),.int .i64 (a:Int)] plT (0,0)):=by
  have:=heap_alloc_new (w.alloc (.cells #[.int .i64 n.kind,.string n.data,.slice qA n.ptrs.length qa,.int .i64 n.size,.int .i64 n.count,.slice qB n.items.length qb] nodeT)) (.cells #[.int .i64 (i:Int),.int .i64 (a:Int)] plT)
  simpa using this
 have hs0:((w.alloc (.cells #[.int .i64 n.kind,.string n.data,.slice qA n.ptrs.length qa,.int .i64 n.size,.int .i64 n.count,.slice qB n.items.length qb] nodeT)).alloc (.cells #[.int .i64 (i:Int),.int .i64 (a:Int)] plT)).heap.size=w.heap.size+2:=by simp
 have hbb:base≤w.heap.size:=by obtain ⟨_,_,_,hX,_⟩:=h; have:=(hX.lt b (.inl rfl)); omega
 have HH:=hid h;have HN:=hid hn;have HB0:=hid hb0;have R0:=hid r0;have R1:=hid r1;have HP0:=hid hP0;have HS0:=hid hs0;have HO:=hid ho;obtain ⟨ho1,ho2⟩:=z0z hf hmany;have HE:Hid (fillP (wrP 200 size d) n ss i a=bodyP (wrP 200 size d) n ss i a):=hid (by unfold fillP; rw[if_neg hmany]);have HCALL:=hid (fun (W:World) (hW:Below w.heap.size w W)=>zhh size d IH base b ss P W i a m n ⟨qA,qa,qB,qb⟩ (HH.out.low hW) (fun k hk=>⟨(HP0.out k hk).1,Nat.lt_of_lt_of_le (HP0.out k hk).2 hW.size⟩) hk hi (by omega) (by omega) (z2v HN.out (hW.mono hbb)) (fun p hp=>HO.out p (List.mem_append_left _ hp)) hm (Nat.le_trans (by unfold ptrsL; rw[List.map_append,List.sum_append]; omega) hws))
 dsimp only at HCALL
 by_cases k2:n.kind=2
 · have hkb:(n.kind != 2)=false:=by rw[k2]; rfl
   have hsb:(n.size != 7)=true:=by simp; omega
   clear hn h hb0 r0 r1 hP0 hs0 ho hf hk ho2 hmany k2;go_enter Tryz.func71,Tryz.ntmps71
   go_wp2_with fail
   refine (HCALL.out _ HB0.out).mono ?_;rintro e w1 (⟨hnone,rfl,hk1⟩ | ⟨s1,hsome,rfl,hk1,hB1⟩)
   · have HK1:=hid ((KP.of_below HB0.out).trans hk1 (fun _ _ h=>h))
     have HN1:=hid hnone;clear hk1 hnone;go_wp2;exact ⟨rfl,.inl ⟨by rw[HE.out]; exact HN1.out,rfl,HK1.out⟩⟩
   · have HK1:=hid ((KP.of_below HB0.out).trans hk1 (fun _ _ h=>h))
     have HN1:=hid hsome;have HB1:=hid (hB1.weak (Q:=fun k=>P k∨w.heap.size≤k) (fun x hx=>hx.imp id (fun h=>by have:=HB0.out.size; omega)));clear hk1 hsome hB1;go_wp2
     go_end0
     exact .inr ⟨s1,by rw[HE.out]; exact HN1.out,rfl,HK1.out,HB1.out⟩
 · have hkb:(n.kind != 2)=true:=by simpa using k2
   clear hn h hb0 r0 r1 hP0 hs0 ho hf hk ho2 hmany k2;go_enter Tryz.func71,Tryz.ntmps71
   go_wp2_with fail
   refine (HCALL.out _ HB0.out).mono ?_;rintro e w1 (⟨hnone,rfl,hk1⟩ | ⟨s1,hsome,rfl,hk1,hB1⟩)
   · have HK1:=hid ((KP.of_below HB0.out).trans hk1 (fun _ _ h=>h))
     have HN1:=hid hnone;clear hk1 hnone;go_wp2;exact ⟨rfl,.inl ⟨by rw[HE.out]; exact HN1.out,rfl,HK1.out⟩⟩
   · have HK1:=hid ((KP.of_below HB0.out).trans hk1 (fun _ _ h=>h))
     have HN1:=hid hsome;have HB1:=hid (hB1.weak (Q:=fun k=>P k∨w.heap.size≤k) (fun x hx=>hx.imp id (fun h=>by have:=HB0.out.size; omega)));clear hk1 hsome hB1;go_wp2
     go_end0
     exact .inr ⟨s1,by rw[HE.out]; exact HN1.out,rfl,HK1.out,HB1.out⟩
theorem zlb (size d:Nat)(IH:WrD size d)(base b:Nat)(ss:Segs)(P:Nat→Prop)(w:World)(i a m:Nat)(n:Nd)(h1:Hd)(h:Bun w base b size ss P)(hP0:∀k,P k→base≤k∧k<w.heap.size)(hk:SOk 200 ss)(hi:i<ss.length)(ha:a+ownN n≤wn (sgS ss i))(hw1:1≤ownN n)
 (hn:NdAt w (fun k=>k<base) m n h1) (hf:formN n=true) (ho:∀p∈ptrsL n,okN d p=true) (hm:totN m n≤2000000) (hws:((ptrsL n).map (z03 d)).sum≤300) (hmany:n.kind=2∧n.size=7) :
 Calls Tryz.prog 71 #[.pointer (some ⟨b,0,none⟩),.agg #[.int .i64 n.kind,.string n.data,.slice h1.A n.ptrs.length h1.a,.int .i64 n.size,.int .i64 n.count,.slice h1.B n.items.length h1.b],.agg #[.int .i64 (i:Int),.int .i64 (a:Int)]] w (WrQ base b size P w (fillP (wrP 200 size d) n ss i a)):=by
 obtain ⟨qA,qa,qB,qb⟩:=h1
 dsimp only at hn ⊢
 have hb0:Below w.heap.size w ((w.alloc (.cells #[.int .i64 n.kind,.string n.data,.slice qA n.ptrs.length qa,.int .i64 n.size,.int .i64 n.count,.slice qB n.items.length qb] nodeT)).alloc (.cells #[.int .i64 (i:Int),.int .i64 (a:Int)] plT)):=((Below.refl _ w).alloc (Nat.le_refl _) _).alloc (by simp) _;have r0:((w.alloc (.cells #[.int .i64 n.kind,.string n.data,.slice qA n.ptrs.length qa,.int .i64 n.size,.int .i64 n.count,.slice qB n.items.length qb] nodeT)).alloc (.cells #[.int .i64 (i:Int),.int .i64 (a:Int)] plT)).heap[w.heap.size]? =some (.cells #[.int .i64 n.kind,.string n.data,.slice qA n.ptrs.length qa,.int .i64 n.size,.int .i64 n.count,.slice qB n.items.length qb] nodeT (0,0)):=z05 (heap_alloc_new w _) _
 have r1:((w.alloc (.cells #[.int .i64 n.kind,.string n.data,.slice qA n.ptrs.length qa,.int .i64 n.size,.int .i64 n.count,.slice qB n.items.length qb] nodeT)).alloc (.cells #[.int .i64 (i:Int),.int .i64 (a:Int)] plT)).heap[w.heap.size+1]? =some (.cells #[.int .i64 (i:Int),.int .i64 (a:Int)] plT (0,0)):=by
  have:=heap_alloc_new (w.alloc (.cells #[.int .i64 n.kind,.string n.data,.slice qA n.ptrs.length qa,.int .i64 n.size,.int .i64 n.count,.slice qB n.items.length qb] nodeT)) (.cells #[.int .i64 (i:Int),.int .i64 (a:Int)] plT)
  simpa using this
 have hs0:((w.alloc (.cells #[.int .i64 n.kind,.string n.data,.slice qA n.ptrs.length qa,.int .i64 n.size,.int .i64 n.count,.slice qB n.items.length qb] nodeT)).alloc (.cells #[.int .i64 (i:Int),.int .i64 (a:Int)] plT)).heap.size=w.heap.size+2:=by simp
 have hbb:base≤w.heap.size:=by obtain ⟨_,_,_,hX,_⟩:=h; have:=(hX.lt b (.inl rfl)); omega
 have HH:=hid h;have HN:=hid hn;have HB0:=hid hb0;have R0:=hid r0;have R1:=hid r1;have HP0:=hid hP0;have HS0:=hid hs0;have HO:=hid ho;obtain ⟨hib,how,hpn⟩:=z2l hf hmany;obtain ⟨k2,k7⟩:=hmany
 have hkb:(n.kind != 2)=false:=by rw[k2]; rfl
 have hsb:(n.size != 7)=false:=by rw[k7]; rfl
 have HE:Hid (fillP (wrP 200 size d) n ss i a=z16 (wrP 200 size d) (itD n+itP n) n.items (putS ss i a (tagW n)) i (a+1)):=hid (by unfold fillP; rw[if_pos ⟨k2,k7⟩]);have hwi:=z09 ss i;have hto:=hk.totS;obtain ⟨_,_,hil,_,hcc,h77,_⟩:=z49 hf (by omega);have hct:=hcc k2;have hlc:=(h77 k2 k7).2.1;have HIT:=hid (z3a hib)
 have hdb:n.items≠ []→itD n≤200∧itP n≤200:=fun hne=>by
  have h1:1≤n.items.length:=List.length_pos_iff.2 hne;have h2:1*(itD n+itP n)≤n.items.length*(itD n+itP n):=Nat.mul_le_mul_right _ h1;omega
 have HPUT:Hid (8*a+(tagW n).length≤(sgS ss i).length):=hid (by have:=room8 (k:=1) hk.wds (i:=i) (a:=a) (by omega); rw[z0x]; omega)
 have HTAG:Hid (∀(W:World),Bun W base b size ss P→Calls Tryz.prog 73 #[.pointer (some ⟨b,0,none⟩),.agg #[.int .i64 (i:Int),.int .i64 (a:Int)],.iface spT (.agg #[.int .i64 n.count,.int .i64 (itD n:Nat),.int .i64 (itP n:Nat)])] W (SetP base b size ss i a (tagW n) P W)):=hid (fun W hW=>by
  by_cases hne:n.items= []
  · have e1:itD n=0∧itP n=0:=by unfold itD itP; rw[hne]; exact ⟨rfl,rfl⟩
    exact zgc base b size ss P W hW hk.wds i a hi (by omega) (by omega) n.count (itD n:Nat) (itP n:Nat) (by omega) (by omega) (by omega) (by omega) (by omega) (by omega)
  · have:=hdb hne
    exact zgc base b size ss P W hW hk.wds i a hi (by omega) (by omega) n.count (itD n:Nat) (itP n:Nat) (by omega) (by omega) (by omega) (by omega) (by omega) (by omega))
 have HHOW:Hid (a+1+n.items.length*(itD n+itP n)≤wn (sgS ss i)):=hid (by omega);obtain ⟨n0,n1,n2,n3,n4,n5⟩:=z01 r0;obtain ⟨t0,t1⟩:=z04 r1;have HK:=hid hk
 by_cases hne:n.items= []
 · have hil0:n.items.length=0:=by rw[hne]; rfl
   have e1:itD n=0∧itP n=0:=by unfold itD itP; rw[hne]; exact ⟨rfl,rfl⟩
   have hcd:decide ((0:Int)<n.count)=false:=decide_eq_false (by omega)
   have HTAG0:Hid (∀(W:World),Bun W base b size ss P→Calls Tryz.prog 73 #[.pointer (some ⟨b,0,none⟩),.agg #[.int .i64 (i:Int),.int .i64 (a:Int)],.iface spT (.agg #[.int .i64 n.count,.int .i64 0,.int .i64 0])] W (SetP base b size ss i a (tagW n) P W)):=hid (fun W hW=>by
    have:=HTAG.out W hW;rw[e1.1,e1.2] at this
    exact this)
   have HE0:Hid (fillP (wrP 200 size d) n ss i a=some (putS ss i a (tagW n))):=hid (by rw[HE.out,hne]; rfl);have hb2:Below w.heap.size w (((w.alloc (.cells #[.int .i64 n.kind,.string n.data,.slice qA n.ptrs.length qa,.int .i64 n.size,.int .i64 n.count,.slice qB n.items.length qb] nodeT)).alloc (.cells #[.int .i64 (i:Int),.int .i64 (a:Int)] plT)).alloc (.cells #[.int .i64 n.count,.int .i64 0,.int .i64 0] spT)):=HB0.out.alloc HB0.out.size _;have g0:=z05 R0.out (.cells #[.int .i64 n.count,.int .i64 0,.int .i64 0] spT);have g1:=z05 R1.out (.cells #[.int .i64 n.count,.int .i64 0,.int .i64 0] spT)
   have g2:(((w.alloc (.cells #[.int .i64 n.kind,.string n.data,.slice qA n.ptrs.length qa,.int .i64 n.size,.int .i64 n.count,.slice qB n.items.length qb] nodeT)).alloc (.cells #[.int .i64 (i:Int),.int .i64 (a:Int)] plT)).alloc (.cells #[.int .i64 n.count,.int .i64 0,.int .i64 0] spT)).heap[w.heap.size+2]? =some (.cells #[.int .i64 n.count,.int .i64 0,.int .i64 0] spT (0,0)):=by
    have:=heap_alloc_new ((w.alloc (.cells #[.int .i64 n.kind,.string n.data,.slice qA n.ptrs.length qa,.int .i64 n.size,.int .i64 n.count,.slice qB n.items.length qb] nodeT)).alloc (.cells #[.int .i64 (i:Int),.int .i64 (a:Int)] plT)) (.cells #[.int .i64 n.count,.int .i64 0,.int .i64 0] spT)
    simpa using this
   have hdl:decide ((0:Int)<(n.items.length:Int))=false:=decide_eq_false (by omega);have hdl2:decide (0<n.items.length)=false:=decide_eq_false (by omega)
   have hdl3:¬0<n.items.length:=by omega
   clear hpn hn h hb0 r0 r1 hP0 hs0 ho hf hib hdb e1 hcc h77 k2 k7 hct hil0 hne hlc;go_enter Tryz.func71,Tryz.ntmps71
   go_wp2_with fail
   clear n0 n1 n2 n3 n4 n5 t0 t1;generalize ((w.alloc (.cells #[.int .i64 n.kind,.string n.data,.slice qA n.ptrs.length qa,.int .i64 n.size,.int .i64 n.count,.slice qB n.items.length qb] nodeT)).alloc (.cells #[.int .i64 (i:Int),.int .i64 (a:Int)] plT)).alloc (.cells #[.int .i64 n.count,.int .i64 0,.int .i64 0] spT)=W2 at *;obtain ⟨n0,n1,n2,n3,n4,n5⟩:=z01 g0;obtain ⟨t0,t1⟩:=z04 g1;obtain ⟨s0,s1,s2⟩:=z0k g2;have G0:=hid g0;have QB:=hid hb2;clear g0 g1 g2 hb2
   go_wp2_with fail
   refine (HTAG0.out W2 (HH.out.low QB.out)).mono ?_;rintro e w4 ⟨rfl,hk4,hB4⟩;have HQ0:=hid (hk4.row G0.out (fun hp=>by have:=HP0.out _ hp; omega));have HKP:Hid (KP P w w4):=hid ((KP.of_below QB.out).trans hk4 (fun _ _ h=>h));have HBUN:=hid (hB4.weak (Q:=fun k=>P k∨w.heap.size≤k) (fun _ h=> .inl h));clear hk4 hB4 s0 s1 s2 t0 t1 n0 n1 n2 n3 n4 n5;obtain ⟨n0,n1,n2,n3,n4,n5⟩:=z01 HQ0.out
   go_wp2_with fail
   go_loopw [50] (fun c wr=>c= .int .i64 0∧wr=w4) (fun c _=>0)
   case atStart=>exact ⟨rfl,rfl⟩
   case round =>
    obtain ⟨rfl,rfl⟩:=hrel;go_wp2
    go_goals
    go_outline
    go_end0
    exact .inr ⟨_,HE0.out,rfl,HKP.out,HBUN.out⟩
 · have hil0:0<n.items.length:=List.length_pos_iff.2 hne
   have hc1:decide ((0:Int)<n.count)=true:=decide_eq_true (by omega);obtain ⟨hd1,hd2⟩:=hdb hne;obtain ⟨m',rfl⟩:=HN.out.2.2.pred hil0;obtain ⟨xx,hd0,hqb,hc, -⟩:=(HN.out.2.2).at_ hil0;obtain rfl:qB=some xx:=hqb;rw[z6r,zcs hil0] at hc
   have hbx0:xx.block<base:=by
    obtain ⟨_,q,hq,hcq,_⟩:=HN.out.2.2
    rcases hcq with h | ⟨x2,e2,hs2,_⟩
    · rw[h] at hq; exact absurd hq.symm hne
    · injection e2 with e2; rw[e2]; exact hs2
   have hcw:=hc.block (HB0.out.block _ (Nat.lt_of_lt_of_le hbx0 hbb))
   have e8:((n.items.headD default).data.size:Int)/8=(itD n:Nat):=by unfold itD; omega
   have ep:((n.items.headD default).ptrs.length:Int)=(itP n:Nat):=by unfold itP; rfl
   have HBX0:=hid hbx0
   obtain ⟨D,hD⟩:∃D,itD n=D:=⟨_,rfl⟩
   obtain ⟨Q,hQ⟩:∃Q,itP n=Q:=⟨_,rfl⟩
   rw[hD] at hd1 HE HTAG HHOW HIT e8;rw[hQ] at hd2 HE HTAG HHOW HIT ep;generalize n.items.headD default=y0 at hcw e8 ep;obtain ⟨y0c,y1c,y2c,y3c,y4c,y5c⟩:=hcw
   have h0i:(0:Int)<(n.items.length:Int):=by omega
   have hb3:∀o,Below ((w.alloc (.cells #[.int .i64 n.kind,.string n.data,.slice qA n.ptrs.length qa,.int .i64 n.size,.int .i64 n.count,.slice (some xx) n.items.length qb] nodeT)).alloc (.cells #[.int .i64 (i:Int),.int .i64 (a:Int)] plT)).heap.size ((w.alloc (.cells #[.int .i64 n.kind,.string n.data,.slice qA n.ptrs.length qa,.int .i64 n.size,.int .i64 n.count,.slice (some xx) n.items.length qb] nodeT)).alloc (.cells #[.int .i64 (i:Int),.int .i64 (a:Int)] plT)) (((w.alloc (.cells #[.int .i64 n.kind,.string n.data,.slice qA n.ptrs.length qa,.int .i64 n.size,.int .i64 n.count,.slice (some xx) n.items.length qb] nodeT)).alloc (.cells #[.int .i64 (i:Int),.int .i64 (a:Int)] plT)).alloc o):=fun o=>(Below.refl _ _).alloc (Nat.le_refl _) o
   have l1:∀o,(((w.alloc (.cells #[.int .i64 n.kind,.string n.data,.slice qA n.ptrs.length qa,.int .i64 n.size,.int .i64 n.count,.slice (some xx) n.items.length qb] nodeT)).alloc (.cells #[.int .i64 (i:Int),.int .i64 (a:Int)] plT)).alloc o).cell? ⟨xx.block,xx.off+1,none⟩=some (.string y0.data):=fun o=>kcw (hb3 o) y1c
   have l2:∀o,(((w.alloc (.cells #[.int .i64 n.kind,.string n.data,.slice qA n.ptrs.length qa,.int .i64 n.size,.int .i64 n.count,.slice (some xx) n.items.length qb] nodeT)).alloc (.cells #[.int .i64 (i:Int),.int .i64 (a:Int)] plT)).alloc o).cell? ⟨xx.block,xx.off+2,none⟩=some (.slice hd0.A y0.ptrs.length hd0.a):=fun o=>kcw (hb3 o) y2c
   have l5:∀o,(((w.alloc (.cells #[.int .i64 n.kind,.string n.data,.slice qA n.ptrs.length qa,.int .i64 n.size,.int .i64 n.count,.slice (some xx) n.items.length qb] nodeT)).alloc (.cells #[.int .i64 (i:Int),.int .i64 (a:Int)] plT)).alloc o).cell? ⟨w.heap.size,5,none⟩=some (.slice (some xx) n.items.length qb):=fun o=>kcw (hb3 o) n5
   have l4:∀o,(((w.alloc (.cells #[.int .i64 n.kind,.string n.data,.slice qA n.ptrs.length qa,.int .i64 n.size,.int .i64 n.count,.slice (some xx) n.items.length qb] nodeT)).alloc (.cells #[.int .i64 (i:Int),.int .i64 (a:Int)] plT)).alloc o).cell? ⟨w.heap.size,4,none⟩=some (.int .i64 n.count):=fun o=>kcw (hb3 o) n4
   clear hpn hn h hb0 r0 r1 hP0 hs0 ho hf hib hc y0c y3c y4c y5c hdb hb3 hbx0 hct hcc h77 k2 k7;go_enter Tryz.func71,Tryz.ntmps71
   go_wp2_with fail
   have hb2:Below w.heap.size w (((w.alloc (.cells #[.int .i64 n.kind,.string n.data,.slice qA n.ptrs.length qa,.int .i64 n.size,.int .i64 n.count,.slice (some xx) n.items.length qb] nodeT)).alloc (.cells #[.int .i64 (i:Int),.int .i64 (a:Int)] plT)).alloc (.cells #[.int .i64 n.count,.int .i64 0,.int .i64 0] spT)):=HB0.out.alloc HB0.out.size _;have g0:=z05 R0.out (.cells #[.int .i64 n.count,.int .i64 0,.int .i64 0] spT);have g1:=z05 R1.out (.cells #[.int .i64 n.count,.int .i64 0,.int .i64 0] spT)
   have g2:(((w.alloc (.cells #[.int .i64 n.kind,.string n.data,.slice qA n.ptrs.length qa,.int .i64 n.size,.int .i64 n.count,.slice (some xx) n.items.length qb] nodeT)).alloc (.cells #[.int .i64 (i:Int),.int .i64 (a:Int)] plT)).alloc (.cells #[.int .i64 n.count,.int .i64 0,.int .i64 0] spT)).heap[w.heap.size+2]? =some (.cells #[.int .i64 n.count,.int .i64 0,.int .i64 0] spT (0,0)):=by
    have:=heap_alloc_new ((w.alloc (.cells #[.int .i64 n.kind,.string n.data,.slice qA n.ptrs.length qa,.int .i64 n.size,.int .i64 n.count,.slice (some xx) n.items.length qb] nodeT)).alloc (.cells #[.int .i64 (i:Int),.int .i64 (a:Int)] plT)) (.cells #[.int .i64 n.count,.int .i64 0,.int .i64 0] spT)
    simpa using this
   have f1:=l1 (.cells #[.int .i64 n.count,.int .i64 0,.int .i64 0] spT);have f2:=l2 (.cells #[.int .i64 n.count,.int .i64 0,.int .i64 0] spT)
   have hsz2:(((w.alloc (.cells #[.int .i64 n.kind,.string n.data,.slice qA n.ptrs.length qa,.int .i64 n.size,.int .i64 n.count,.slice (some xx) n.items.length qb] nodeT)).alloc (.cells #[.int .i64 (i:Int),.int .i64 (a:Int)] plT)).alloc (.cells #[.int .i64 n.count,.int .i64 0,.int .i64 0] spT)).heap.size=w.heap.size+3:=by simp
   clear n0 n1 n2 n3 n4 n5 t0 t1 l1 l2 l4 l5 y1c y2c;generalize ((w.alloc (.cells #[.int .i64 n.kind,.string n.data,.slice qA n.ptrs.length qa,.int .i64 n.size,.int .i64 n.count,.slice (some xx) n.items.length qb] nodeT)).alloc (.cells #[.int .i64 (i:Int),.int .i64 (a:Int)] plT)).alloc (.cells #[.int .i64 n.count,.int .i64 0,.int .i64 0] spT)=W2 at *;obtain ⟨s0,s1,s2⟩:=z0k g2;have sf1:=z02 g2 1;have sf2:=z02 g2 2;obtain ⟨n0,n1,n2,n3,n4,n5⟩:=z01 g0;have G0:=hid g0;have G1:=hid g1;have G2:=hid g2;have HB2:=hid hb2;have HSZ2:=hid hsz2
   have hx3:xx.block≠w.heap.size+2:=by have:=HBX0.out; omega
   clear g0 g1 g2 hb2 hsz2 R0 R1 HB0 HS0
   go_region
   have hz:w.heap.size+1+1=w.heap.size+2:=rfl;have q2:(((W2.setCell ⟨w.heap.size+1+1,1,none⟩ (.int .i64 (D:Int))).setCell ⟨w.heap.size+1+1,2,none⟩ (.int .i64 (Q:Int))).drew).heap[w.heap.size+2]? =some (.cells #[.int .i64 n.count,.int .i64 (D:Int),.int .i64 (Q:Int)] spT (0,0)):=z08 (z08 G2.out 1 _) 2 _;have qb3:Below w.heap.size w (((W2.setCell ⟨w.heap.size+1+1,1,none⟩ (.int .i64 (D:Int))).setCell ⟨w.heap.size+1+1,2,none⟩ (.int .i64 (Q:Int))).drew):=((HB2.out.setCell (p:=⟨w.heap.size+1+1,1,none⟩) (by show w.heap.size≤w.heap.size+1+1; omega) _).setCell (p:=⟨w.heap.size+1+1,2,none⟩) (by show w.heap.size≤w.heap.size+1+1; omega) _).drew
   have qk:KP (fun k=>k=w.heap.size+2) W2 (((W2.setCell ⟨w.heap.size+1+1,1,none⟩ (.int .i64 (D:Int))).setCell ⟨w.heap.size+1+1,2,none⟩ (.int .i64 (Q:Int))).drew):=by
    have h1:=(KP.set (P:=fun k=>k=w.heap.size+2) rfl W2 1 (.int .i64 (D:Int))).trans (KP.set (P:=fun k=>k=w.heap.size+2) rfl _ 2 (.int .i64 (Q:Int))) (fun _ _ h=>h);exact ⟨h1.os,h1.tape,h1.output,h1.size,h1.block⟩
   have q0:=qk.row G0.out (by omega);have q1:=qk.row G1.out (by omega);have qs:=qk.size
   have qsz:w.heap.size+3≤(((W2.setCell ⟨w.heap.size+1+1,1,none⟩ (.int .i64 (D:Int))).setCell ⟨w.heap.size+1+1,2,none⟩ (.int .i64 (Q:Int))).drew).heap.size:=by have:=HSZ2.out; omega
   clear s0 s1 s2 sf1 sf2 n0 n1 n2 n3 n4 n5 f1 f2 qk qs hz G0 G1 G2 HB2 HSZ2;generalize (((W2.setCell ⟨w.heap.size+1+1,1,none⟩ (.int .i64 (D:Int))).setCell ⟨w.heap.size+1+1,2,none⟩ (.int .i64 (Q:Int))).drew)=W3 at *;obtain ⟨s0,s1,s2⟩:=z0k q2;obtain ⟨t0,t1⟩:=z04 q1;have Q0:=hid q0;have Q1:=hid q1;have Q2:=hid q2;have QB:=hid qb3;have QS:=hid qsz;clear q0 q1 q2 qb3 qsz
   go_wp2_with fail
   refine (HTAG.out W3 (HH.out.low QB.out)).mono ?_;rintro e w4 ⟨rfl,hk4,hB4⟩;have HQ1:=hid (hk4.row Q1.out (fun hp=>by have:=HP0.out _ hp; omega));have HQ2:=hid (hk4.row Q2.out (fun hp=>by have:=HP0.out _ hp; omega));have HQ0:=hid (hk4.row Q0.out (fun hp=>by have:=HP0.out _ hp; omega));have HKP:Hid (KP P w w4):=hid ((KP.of_below QB.out).trans hk4 (fun _ _ h=>h));have HBUN:=hid hB4;have HSW:Hid (w.heap.size+3≤w4.heap.size):=hid (Nat.le_trans QS.out hk4.size);have HSS:Hid (SOk 200 (putS ss i a (tagW n))):=hid (HK.out.put hi HPUT.out)
   have hii:i<(putS ss i a (tagW n)).length:=by rw[z0a]; exact hi
   have HHO2:Hid (a+1+n.items.length*(D+Q)≤wn (sgS (putS ss i a (tagW n)) i)):=hid (by rw[← (z0s hi HPUT.out).wn]; exact HHOW.out);clear hk4 hB4 s0 s1 s2 t0 t1;obtain ⟨n0,n1,n2,n3,n4,n5⟩:=z01 HQ0.out;have HD':=hid hD;have HQ':=hid hQ;clear hD hQ
   go_wp2_with fail
   clear n0 n1 n2 n3 n4 n5
   go_loopw [50] (fun c wr=>∃k:Nat,c= .int .i64 k∧k≤n.items.length∧Hid (∃s1,z16 (wrP 200 size d) (D+Q) (n.items.take k) (putS ss i a (tagW n)) i (a+1)=some s1∧SOk 200 s1∧Grew (putS ss i a (tagW n)) s1∧KP P w wr∧Bun wr base b size s1 (fun k=>P k∨w.heap.size+3≤k)∧w.heap.size+3≤wr.heap.size∧wr.heap[w.heap.size+1]? =some (.cells #[.int .i64 (i:Int),.int .i64 (a:Int)] plT (0,0))∧wr.heap[w.heap.size+2]? =some (.cells #[.int .i64 n.count,.int .i64 (D:Int),.int .i64 (Q:Int)] spT (0,0)))) (fun c _=>n.items.length-(intOf c).toNat)
   case atStart=>exact ⟨0,rfl,by omega,hid ⟨_,rfl,HSS.out,Grew.refl _,HKP.out,HBUN.out.weak (fun _ h=> .inl h),HSW.out,HQ1.out,HQ2.out⟩⟩
   case round =>
    obtain ⟨k,rfl,hkk,HZ⟩:=hrel;obtain ⟨s1,zr,zk,zg,zp,zb,zs,zq1,zq2⟩:=HZ.out;have ZR:=hid zr;have ZK:=hid zk;have ZG:=hid zg;have ZP:=hid zp;have ZB:=hid zb;have ZQ1:=hid zq1;have ZQ2:=hid zq2;clear zr zk zg zp zb HZ
    by_cases hlt3:k<n.items.length
    · obtain ⟨xy,hdp,hqa,hc,hp⟩:=(HN.out.2.2).at_ hlt3
      obtain rfl:xx=xy:=Option.some.inj hqa;have hbw:=ZP.out.below hbb (fun k hp=>(HP0.out k hp).1);obtain ⟨d0,d1,d2,d3,d4,d5⟩:=hc.block (hbw.block _ (by rw[z0r]; exact HBX0.out));have hmem:=List.getElem_mem hlt3;have HOY:=hid (HIT.out _ hmem);have HOK:Hid (∀q∈(n.items[k]).ptrs,okN d q=true):=hid (fun q hq=>HO.out q (List.mem_append_right _ (List.mem_flatMap.2 ⟨_,hmem,hq⟩)));have HTP:Hid (totN m' n.items[k]≤2000000):=hid (by have:=z1y (m:=m') hlt3; unfold totN at hm; omega);have HWP:Hid (((n.items[k]).ptrs.map (z03 d)).sum≤300):=hid (Nat.le_trans (zgt hmem (z03 d)) hws);have HSTEP:=hid (z9a (wrP 200 size d) (D+Q) n.items k hlt3 (putS ss i a (tagW n)) i (a+1));have HCUT:=hid (zbq (wrP 200 size d) (D+Q) n.items (k+1) (putS ss i a (tagW n)) i (a+1));have HNP:=hid hp
      have hkl:k*(D+Q)+(D+Q)≤n.items.length*(D+Q):=by
       have:=Nat.mul_le_mul_right (D+Q) (show k+1≤n.items.length from hlt3);rw[Nat.add_mul,Nat.one_mul] at this;exact this
      generalize n.items[k]=p at *;have hbx:Below wr.heap.size wr (wr.alloc (.cells #[.int .i64 p.kind,.string p.data,.slice hdp.A p.ptrs.length hdp.a,.int .i64 p.size,.int .i64 p.count,.slice hdp.B p.items.length hdp.b] nodeT)).drew:=((Below.refl _ _).alloc (Nat.le_refl _) _).drew;have g0:=heap_alloc_new wr (.cells #[.int .i64 p.kind,.string p.data,.slice hdp.A p.ptrs.length hdp.a,.int .i64 p.size,.int .i64 p.count,.slice hdp.B p.items.length hdp.b] nodeT);obtain ⟨n0,n1,n2,n3,n4,n5⟩:=z01 g0;obtain ⟨t0,t1⟩:=z04 ((hbx.block _ (z00 zq1)).trans zq1);obtain ⟨s0,u1,u2⟩:=z0k ((hbx.block _ (z00 zq2)).trans zq2)
      replace n0:(wr.alloc (.cells #[.int .i64 p.kind,.string p.data,.slice hdp.A p.ptrs.length hdp.a,.int .i64 p.size,.int .i64 p.count,.slice hdp.B p.items.length hdp.b] nodeT)).drew.cell? ⟨wr.heap.size,0,none⟩=some (.int .i64 p.kind):=n0
      replace n1:(wr.alloc (.cells #[.int .i64 p.kind,.string p.data,.slice hdp.A p.ptrs.length hdp.a,.int .i64 p.size,.int .i64 p.count,.slice hdp.B p.items.length hdp.b] nodeT)).drew.cell? ⟨wr.heap.size,1,none⟩=some (.string p.data):=n1
      replace n2:(wr.alloc (.cells #[.int .i64 p.kind,.string p.data,.slice hdp.A p.ptrs.length hdp.a,.int .i64 p.size,.int .i64 p.count,.slice hdp.B p.items.length hdp.b] nodeT)).drew.cell? ⟨wr.heap.size,2,none⟩=some (.slice hdp.A p.ptrs.length hdp.a):=n2
      replace n3:(wr.alloc (.cells #[.int .i64 p.kind,.string p.data,.slice hdp.A p.ptrs.length hdp.a,.int .i64 p.size,.int .i64 p.count,.slice hdp.B p.items.length hdp.b] nodeT)).drew.cell? ⟨wr.heap.size,3,none⟩=some (.int .i64 p.size):=n3
      replace n4:(wr.alloc (.cells #[.int .i64 p.kind,.string p.data,.slice hdp.A p.ptrs.length hdp.a,.int .i64 p.size,.int .i64 p.count,.slice hdp.B p.items.length hdp.b] nodeT)).drew.cell? ⟨wr.heap.size,4,none⟩=some (.int .i64 p.count):=n4
      replace n5:(wr.alloc (.cells #[.int .i64 p.kind,.string p.data,.slice hdp.A p.ptrs.length hdp.a,.int .i64 p.size,.int .i64 p.count,.slice hdp.B p.items.length hdp.b] nodeT)).drew.cell? ⟨wr.heap.size,5,none⟩=some (.slice hdp.B p.items.length hdp.b):=n5
      have HBX:=hid hbx;have HND:=hid (z2v HNP.out (hbw.trans (HBX.out.mono (by omega))))
      obtain ⟨E,hE⟩:∃E,D+Q=E:=⟨_,rfl⟩
      rw[hE] at HSTEP HCUT HOY hkl;have HEE:=hid hE
      have he1:IntKind.i64.wrap ((D:Int)+(Q:Int))=(E:Int):=by rw[IntKind.wrap_i64]; omega
      have hkE:k*E≤100000:=by have:=z09 (putS ss i a (tagW n)) i; have:=HSS.out.totS; have:=HHO2.out; rw[hE] at this; omega
      obtain ⟨F,hF⟩:∃F,k*E=F:=⟨_,rfl⟩
      have he2:IntKind.i64.wrap ((k:Int)*(E:Int))=(F:Int):=by
       have:(k:Int)*(E:Int)=(F:Int):=by rw[← hF]; simp
       rw[this,IntKind.wrap_i64]; omega
      have he3:IntKind.i64.wrap (1+(F:Int))=((1+F:Nat):Int):=by rw[IntKind.wrap_i64]; omega
      rw[hF] at hkE hkl HSTEP;have HFF:=hid hF;have hii1:i<s1.length:=Nat.lt_of_lt_of_le hii ZG.out.1
      have haa1:a+(1+F)+E≤wn (sgS s1 i):=by have h1:=ZG.out.wn i; have h2:=HHO2.out; rw[hE] at h2; omega
      have haa2:1≤wn (sgS s1 i):=by omega
      have hbig:a+(1+F)≤1000000:=by have h1:=z09 s1 i; have h2:=ZK.out.totS; omega
      clear zq1 zq2 g0 hbx hc hp hmem hE hF s0
      go_wp2_with fail
      refine wp_region_held_drew (S:=(fun V=>(V.cell? ⟨wr.heap.size,0,none⟩=some (.int .i64 p.kind)∧V.cell? ⟨wr.heap.size,1,none⟩=some (.string p.data)∧V.cell? ⟨wr.heap.size,2,none⟩=some (.slice hdp.A p.ptrs.length hdp.a)∧V.cell? ⟨wr.heap.size,3,none⟩=some (.int .i64 p.size)∧V.cell? ⟨wr.heap.size,4,none⟩=some (.int .i64 p.count)∧V.cell? ⟨wr.heap.size,5,none⟩=some (.slice hdp.B p.items.length hdp.b))∧(V.cell? ⟨w.heap.size+1,0,none⟩=some (.int .i64 (i:Int))∧V.cell? ⟨w.heap.size+1,1,none⟩=some (.int .i64 (a:Int))∧V.cell? ⟨w.heap.size+2,1,none⟩=some (.int .i64 (D:Int))∧V.cell? ⟨w.heap.size+2,2,none⟩=some (.int .i64 (Q:Int))))) (by kernel_rfl) ?_ (fun hH0=>?_)
      · exact ⟨⟨n0,n1,n2,n3,n4,n5⟩,⟨t0,t1,u1,u2⟩⟩
      refine wpAnyH_take (i:=0) (v:=?_) rfl (by kernel_rfl) (by kernel_rfl) (by kernel_rfl) (fun _ _ _ h=>h) (Or.inl ⟨by rfl,?_⟩) (by assumption) ?_
      rotate_left
      · intro w hSw
        (try dsimp only at hSw)
        go_simp
        try with_reducible rfl
      try simp only[List.getElem_toArray,List.getElem_cons_succ,List.getElem_cons_zero,Act.put,List.setIfInBounds_toArray,List.set_cons_zero,List.set_cons_succ]
      refine wpAnyH_take (i:=1) (v:=?_) rfl (by kernel_rfl) (by kernel_rfl) (by kernel_rfl) (fun _ _ _ h=>h) (Or.inl ⟨by rfl,?_⟩) (by assumption) ?_
      rotate_left
      · intro w hSw
        (try dsimp only at hSw)
        go_simp
        try with_reducible rfl
      try simp only[List.getElem_toArray,List.getElem_cons_succ,List.getElem_cons_zero,Act.put,List.setIfInBounds_toArray,List.set_cons_zero,List.set_cons_succ]
      refine wpAnyH_take (i:=2) (v:=?_) rfl (by kernel_rfl) (by kernel_rfl) (by kernel_rfl) (fun _ _ _ h=>h) (Or.inl ⟨by rfl,?_⟩) (by assumption) ?_
      rotate_left
      · intro w hSw
        (try dsimp only at hSw)
        go_simp
        try with_reducible rfl
      try simp only[List.getElem_toArray,List.getElem_cons_succ,List.getElem_cons_zero,Act.put,List.setIfInBounds_toArray,List.set_cons_zero,List.set_cons_succ]
      refine wpAnyH_take (i:=3) (v:=?_) rfl (by kernel_rfl) (by kernel_rfl) (by kernel_rfl) (fun _ _ _ h=>h) (Or.inl ⟨by rfl,?_⟩) (by assumption) ?_
      rotate_left
      · intro w hSw
        (try dsimp only at hSw)
        go_simp
        try with_reducible rfl
      try simp only[List.getElem_toArray,List.getElem_cons_succ,List.getElem_cons_zero,Act.put,List.setIfInBounds_toArray,List.set_cons_zero,List.set_cons_succ]
      refine wpAnyH_take (i:=4) (v:=?_) rfl (by kernel_rfl) (by kernel_rfl) (by kernel_rfl) (fun _ _ _ h=>h) (Or.inl ⟨by rfl,?_⟩) (by assumption) ?_
      rotate_left
      · intro w hSw
        (try dsimp only at hSw)
        go_simp
        try with_reducible rfl
      try simp only[List.getElem_toArray,List.getElem_cons_succ,List.getElem_cons_zero,Act.put,List.setIfInBounds_toArray,List.set_cons_zero,List.set_cons_succ]
      refine wpAnyH_take (i:=5) (v:=?_) rfl (by kernel_rfl) (by kernel_rfl) (by kernel_rfl) (fun _ _ _ h=>h) (Or.inl ⟨by rfl,?_⟩) (by assumption) ?_
      rotate_left
      · intro w hSw
        (try dsimp only at hSw)
        go_simp
        try with_reducible rfl
      try simp only[List.getElem_toArray,List.getElem_cons_succ,List.getElem_cons_zero,Act.put,List.setIfInBounds_toArray,List.set_cons_zero,List.set_cons_succ]
      refine wpAnyH_take (i:=6) (v:=?_) rfl (by kernel_rfl) (by kernel_rfl) (by kernel_rfl) (fun _ _ _ h=>h) (Or.inl ⟨by rfl,?_⟩) (by assumption) ?_
      rotate_left
      · intro w hSw
        (try dsimp only at hSw)
        go_simp
        try with_reducible rfl
      try simp only[List.getElem_toArray,List.getElem_cons_succ,List.getElem_cons_zero,Act.put,List.setIfInBounds_toArray,List.set_cons_zero,List.set_cons_succ]
      refine wpAnyH_take (i:=7) (v:=?_) rfl (by kernel_rfl) (by kernel_rfl) (by kernel_rfl) (fun _ _ _ h=>h) (Or.inl ⟨by rfl,?_⟩) (by assumption) ?_
      rotate_left
      · intro w hSw
        (try dsimp only at hSw)
        go_simp
        try with_reducible rfl
      try simp only[List.getElem_toArray,List.getElem_cons_succ,List.getElem_cons_zero,Act.put,List.setIfInBounds_toArray,List.set_cons_zero,List.set_cons_succ]
      refine wpAnyH_take (i:=8) (v:=?_) rfl (by kernel_rfl) (by kernel_rfl) (by kernel_rfl) (fun _ _ _ h=>h) (Or.inl ⟨by rfl,?_⟩) (by assumption) ?_
      rotate_left
      · intro w hSw
        (try dsimp only at hSw)
        go_simp
        try with_reducible rfl
      try simp only[List.getElem_toArray,List.getElem_cons_succ,List.getElem_cons_zero,Act.put,List.setIfInBounds_toArray,List.set_cons_zero,List.set_cons_succ]
      refine wpAnyH_take (i:=9) (v:=?_) rfl (by kernel_rfl) (by kernel_rfl) (by kernel_rfl) (fun _ _ _ h=>h) (Or.inl ⟨by rfl,?_⟩) (by assumption) ?_
      rotate_left
      · intro w hSw
        (try dsimp only at hSw)
        go_simp
        try with_reducible rfl
      try simp only[List.getElem_toArray,List.getElem_cons_succ,List.getElem_cons_zero,Act.put,List.setIfInBounds_toArray,List.set_cons_zero,List.set_cons_succ]
      refine wpAnyH_take (i:=10) (v:=?_) rfl (by kernel_rfl) (by kernel_rfl) (by kernel_rfl) (fun _ _ _ h=>h) (Or.inl ⟨by rfl,?_⟩) (by assumption) ?_
      rotate_left
      · intro w hSw
        (try dsimp only at hSw)
        go_simp
        try with_reducible rfl
      try simp only[List.getElem_toArray,List.getElem_cons_succ,List.getElem_cons_zero,Act.put,List.setIfInBounds_toArray,List.set_cons_zero,List.set_cons_succ]
      refine wpAnyH_ready (rs:= [11]) (by kernel_rfl) (by simp) ?_;refine AllReadyH.cons rfl (fun K hK=>?_) AllReadyH.nil
      go_simp
      go_at_call 118
      refine (z7m i a (1+F) _ (by omega) (by omega)).mono ?_;rintro e w6 ⟨rfl,hb6⟩
      go_wp2_with fail
      refine hK.out _ _ ?_ (fun hH1=>?_)
      · exact ⟨⟨kcw hb6 n0,kcw hb6 n1,kcw hb6 n2,kcw hb6 n3,kcw hb6 n4,kcw hb6 n5⟩,⟨kcw hb6 t0,kcw hb6 t1,kcw hb6 u1,kcw hb6 u2⟩⟩
      clear hK K hH0
      try simp only[List.getElem_toArray,List.getElem_cons_succ,List.getElem_cons_zero,Act.put,List.setIfInBounds_toArray,List.set_cons_zero,List.set_cons_succ]
      have HB6:=hid hb6;have hs6:=hb6.size;have hsx:=HBX.out.size;have HCALL:=hid (zhh size d IH base b s1 _ w6 i (a+(1+F)) m' p hdp ((ZB.out.tight.low (w':=w6) (HBX.out.trans (hb6.mono HBX.out.size)))) (fun x hx=>⟨hx.2.1,Nat.lt_of_lt_of_le hx.2.2 (Nat.le_trans hsx hs6)⟩) ZK.out hii1 (by rw[HOY.out]; exact haa1) haa2 (z2v HND.out (hb6.mono (by simp; omega))) HOK.out HTP.out HWP.out);clear n0 n1 n2 n3 n4 n5 t0 t1 u1 u2 he1 he2 he3 hb6;refine wpAnyH_ready (rs:= [12]) (by kernel_rfl) (by simp) ?_;refine AllReadyH.cons rfl (fun K hK=>?_) AllReadyH.nil
      go_simp
      go_at_call 117
      refine HCALL.out.mono ?_
      have HNP7:Hid (∀x,(w.heap.size≤x∧x<w.heap.size+3)∨x=wr.heap.size→¬((P x∨w.heap.size+3≤x)∧base≤x∧x<wr.heap.size)):=hid (fun x hx hp=>by
       rcases hx with hx | hx
       · rcases hp.1 with h | h
         · have:=HP0.out x h; omega
         · omega
       · omega)
      have HPW:Hid (∀x,x<w.heap.size→((P x∨w.heap.size+3≤x)∧base≤x∧x<wr.heap.size)→P x):=hid (fun x hx hp=>by
       rcases hp.1 with h | h
       · exact h
       · omega)
      have HK6:=hid (ZP.out.trans (KP.of_below (HBX.out.trans (HB6.out.mono HBX.out.size))) (fun _ _ h=>h):KP P w w6);rintro e w7 (⟨hnone,rfl,hk7⟩ | ⟨s2,hsome,rfl,hk7,hB7⟩)
      · have HE9:Hid (fillP (wrP 200 size d) n ss i a=none):=hid (by rw[HE.out,HEE.out]; rw[HEE.out] at ZR; exact HCUT.out (by rw[HSTEP.out,ZR.out,Option.bind_some,Nat.add_assoc]; exact hnone))
        have HK7:=hid (HK6.out.trans hk7 HPW.out);clear hk7 hnone hK;go_wp2;exact ⟨rfl,.inl ⟨HE9.out,rfl,HK7.out⟩⟩
      · obtain ⟨k7a,k7b⟩:=z3n (z2b 200 size d) HOK.out ZK.out hii1 (by rw[HOY.out]; exact haa1) hsome
        have HSOME:Hid (z16 (wrP 200 size d) (D+Q) (n.items.take (k+1)) (putS ss i a (tagW n)) i (a+1)=some s2):=hid (by rw[HEE.out]; rw[HEE.out] at ZR; rw[HSTEP.out,ZR.out,Option.bind_some,Nat.add_assoc]; exact hsome);have HK7:=hid (HK6.out.trans hk7 HPW.out);have HQ8:=hid (hk7.row ((HB6.out.block _ (Nat.lt_of_lt_of_le (z00 ZQ1.out) hsx)).trans ((HBX.out.block _ (z00 ZQ1.out)).trans ZQ1.out)) (HNP7.out _ (.inl (by omega))));have HQ9:=hid (hk7.row ((HB6.out.block _ (Nat.lt_of_lt_of_le (z00 ZQ2.out) hsx)).trans ((HBX.out.block _ (z00 ZQ2.out)).trans ZQ2.out)) (HNP7.out _ (.inl (by omega))))
        have HB7:=hid (hB7.weak (Q:=fun k=>P k∨w.heap.size+3≤k) (fun x hx=>by
         rcases hx with hx | hx
         · exact hx.1
         · exact .inr (by have h1:=Nat.le_trans hsx hs6; omega)))
        have HZN:Hid (∃s1,z16 (wrP 200 size d) (D+Q) (n.items.take (k+1)) (putS ss i a (tagW n)) i (a+1)=some s1∧SOk 200 s1∧Grew (putS ss i a (tagW n)) s1∧KP P w w7∧Bun w7 base b size s1 (fun k=>P k∨w.heap.size+3≤k)∧w.heap.size+3≤w7.heap.size∧w7.heap[w.heap.size+1]? =some (.cells #[.int .i64 (i:Int),.int .i64 (a:Int)] plT (0,0))∧w7.heap[w.heap.size+2]? =some (.cells #[.int .i64 n.count,.int .i64 (D:Int),.int .i64 (Q:Int)] spT (0,0))):=hid ⟨s2,HSOME.out,k7a,ZG.out.trans k7b,HK7.out,HB7.out,by have h1:=hk7.size; have h2:=Nat.le_trans hsx hs6; omega,HQ8.out,HQ9.out⟩;obtain ⟨v0,v1,v2,v3,v4,v5⟩:=z01 (hk7.row ((HB6.out.block _ (by simp)).trans (heap_alloc_new wr (.cells #[.int .i64 p.kind,.string p.data,.slice hdp.A p.ptrs.length hdp.a,.int .i64 p.size,.int .i64 p.count,.slice hdp.B p.items.length hdp.b] nodeT))) (HNP7.out _ (.inr rfl)));obtain ⟨x0,x1⟩:=z04 HQ8.out;obtain ⟨-,y1,y2⟩:=z0k HQ9.out;refine hK.out _ _ ?_ (fun hH2=>?_)
        · exact ⟨⟨v0,v1,v2,v3,v4,v5⟩,⟨x0,x1,y1,y2⟩⟩
        clear hK K hH1 hk7 hB7 v0 v1 v2 v3 v4 v5 x0 x1 y1 y2 hsome d0 d1 d2 d3 d4 d5;refine wpAnyH_done (by kernel_rfl) ?_ _;clear hH2
        go_wp2_with fail
        go_roundw
        case rel=>exact ⟨k+1,by go_num,by omega,HZN⟩
        case measure=>simp[intOf]; omega
    · obtain rfl:k=n.items.length:=by omega
      rw[List.take_of_length_le (Nat.le_refl _)] at ZR;have HE9:Hid (fillP (wrP 200 size d) n ss i a=some s1):=hid (by rw[HE.out]; exact ZR.out);have HBF:=hid (ZB.out.weak (Q:=fun k=>P k∨w.heap.size≤k) (fun x hx=>hx.imp id (fun h=>by omega)));clear zq1 zq2;go_wp2
      go_end0
      exact .inr ⟨s1,HE9.out,rfl,ZP.out,HBF.out⟩
end Go.Proofs.YtlbfffokkhccaaaGreatDoor
