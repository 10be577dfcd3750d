/- Texts of the proof of the law FnCanonSent, side by side: part 15. -/
import Derived.Test.YtlbfffokkhccaaaGreatDoorMCanonSent14
set_option maxHeartbeats 8000000
set_option maxRecDepth 100000
open Go.Lib (hid)
namespace Go.Proofs.YtlbfffokkhccaaaGreatDoor
open Go.RowKit Go.Deep
theorem SWrQ.from {base b size:Nat}{P:Nat→Prop}{w W:World}{r:Option Segs}{e:Ending}{w':World}(hb:Below w.heap.size w W)(h:SWrQ base b size P W r e w'):SWrQ base b size P w r e w':=by
 obtain ⟨h1,h2,h3⟩:=h;have hs:=hb.size
 have hq:∀k,P k∨W.heap.size≤k→P k∨w.heap.size≤k:=fun k hk=>hk.imp id (fun h=>by omega)
 refine ⟨h1,(KP.of_below hb).trans h2 (fun _ _ h=>h),?_⟩
 rcases h3 with ⟨h3,s1,h4⟩ | ⟨s1,h3,h4⟩
 · exact .inl ⟨h3,s1,h4.weak hq⟩
 · exact .inr ⟨s1,h3,h4.weak hq⟩
theorem za4 {n:Nd}(h:n.items= []):ptrsL n=n.ptrs:=by unfold ptrsL; rw[h]; simp
theorem zdi (size d:Nat)(IH:SWrD size d)(base b:Nat)(ss:Segs)(P:Nat→Prop)(w:World)(i a m:Nat)(n:Nd)(h1:Hd)(h:Sb w base b size ss false P)(hP0:∀k,P k→base≤k∧k<w.heap.size)(hk:SOk LS ss)(hi:i<ss.length)(ha:a+ownN n≤wn (sgS ss i))
 (hn:NdAt w (fun k=>k<base) m n h1) (hf:formN n=true) (ho:∀p∈ptrsL n,okN d p=true) (hm:totN m n≤2000000) (hws:((ptrsL n).map (z03 d)).sum≤300) (htt:totS ss+2*((ptrsL n).map (z03 d)).sum≤LS) (hk1:n.kind=1) :
 Calls Tryz.prog 128 #[.pointer (some ⟨b,0,none⟩),.agg #[.int .i64 n.kind,.string n.data,.slice h1.A n.ptrs.length h1.a,.int .i64 n.size,.int .i64 n.count,.slice h1.B n.items.length h1.b],.int .i64 (i:Int),.int .i64 (a:Int)] w (SWrQ base b size P w (fillP (wrP LS size d) n ss i a)):=by
 have hmany:¬(n.kind=2∧n.size=7):=by omega
 obtain ⟨qA,qa,qB,qb⟩:=h1
 dsimp only at hn ⊢
 have hwi:=z09 ss i;have hto:=hk.totS;obtain ⟨ho1,ho2⟩:=z0z hf hmany;have hpl:=za4 ho2;rw[hpl] at ho hws htt;have HE:Hid (fillP (wrP LS size d) n ss i a=bodyP (wrP LS size d) n ss i a):=hid (by unfold fillP; rw[if_neg hmany]);have hb0:Below w.heap.size w (w.alloc (.cells #[.int .i64 n.kind,.string n.data,.slice qA n.ptrs.length qa,.int .i64 n.size,.int .i64 n.count,.slice qB n.items.length qb] nodeT)):=(Below.refl _ w).alloc (Nat.le_refl _) _;have HB0:=hid hb0
 have hP1:∀k,P k→base≤k∧k<((w.alloc (.cells #[.int .i64 n.kind,.string n.data,.slice qA n.ptrs.length qa,.int .i64 n.size,.int .i64 n.count,.slice qB n.items.length qb] nodeT))).heap.size:=fun k hk=>⟨(hP0 k hk).1,Nat.lt_of_lt_of_le (hP0 k hk).2 hb0.size⟩
 have hbb:base≤w.heap.size:=by have:=h.base; omega
 have h8:n.data.size%8=0:=(z0d hf).elim (fun h=>by omega) (fun h=>h.elim (fun h=>by omega) (fun h=>by omega));have HCALL:=hid (zdq size d IH base b ss P (w.alloc (.cells #[.int .i64 n.kind,.string n.data,.slice qA n.ptrs.length qa,.int .i64 n.size,.int .i64 n.count,.slice qB n.items.length qb] nodeT)) i a m n ⟨qA,qa,qB,qb⟩ (h.low hb0) hP1 hk hi (by omega) h8 (z2o hn (hb0.mono hbb)) ho hm hws htt)
 dsimp only at HCALL
 have hkb:(n.kind==1)=true:=by rw[hk1]; rfl
 rw[HE.out];clear hn h hb0 hP0 hP1 ho hf hk ho2 hmany hk1 h8 hws htt hpl ho1 HE;go_enter Tryz.func128,Tryz.ntmps128
 go_wp2_with fail
 refine HCALL.out.mono ?_;rintro e w1 ⟨rfl,hk1,hor⟩;have HQ:=hid (SWrQ.from HB0.out ⟨rfl,hk1,hor⟩);clear hk1 hor;go_wp2
 go_end0
 exact HQ.out
theorem zfv (size d:Nat)(IH:SWrD size d)(base b:Nat)(ss:Segs)(P:Nat→Prop)(w:World)(i a m:Nat)(n:Nd)(h1:Hd)(h:Sb w base b size ss false P)(hP0:∀k,P k→base≤k∧k<w.heap.size)(hk:SOk LS ss)(hi:i<ss.length)(ha:a+ownN n≤wn (sgS ss i))
 (hn:NdAt w (fun k=>k<base) m n h1) (hf:formN n=true) (ho:∀p∈ptrsL n,okN d p=true) (hm:totN m n≤2000000) (hws:((ptrsL n).map (z03 d)).sum≤300) (htt:totS ss+2*((ptrsL n).map (z03 d)).sum≤LS) (hk1:n.kind=2) (hs5:n.size≤5) :
 Calls Tryz.prog 128 #[.pointer (some ⟨b,0,none⟩),.agg #[.int .i64 n.kind,.string n.data,.slice h1.A n.ptrs.length h1.a,.int .i64 n.size,.int .i64 n.count,.slice h1.B n.items.length h1.b],.int .i64 (i:Int),.int .i64 (a:Int)] w (SWrQ base b size P w (fillP (wrP LS size d) n ss i a)):=by
 have hmany:¬(n.kind=2∧n.size=7):=by omega
 obtain ⟨qA,qa,qB,qb⟩:=h1
 dsimp only at hn ⊢
 have hwi:=z09 ss i;have hto:=hk.totS;obtain ⟨ho1,ho2⟩:=z0z hf hmany;have hpl:=za4 ho2;rw[hpl] at ho hws htt;have HE:Hid (fillP (wrP LS size d) n ss i a=bodyP (wrP LS size d) n ss i a):=hid (by unfold fillP; rw[if_neg hmany]);have hb0:Below w.heap.size w (w.alloc (.cells #[.int .i64 n.kind,.string n.data,.slice qA n.ptrs.length qa,.int .i64 n.size,.int .i64 n.count,.slice qB n.items.length qb] nodeT)):=(Below.refl _ w).alloc (Nat.le_refl _) _;have HB0:=hid hb0
 have hP1:∀k,P k→base≤k∧k<((w.alloc (.cells #[.int .i64 n.kind,.string n.data,.slice qA n.ptrs.length qa,.int .i64 n.size,.int .i64 n.count,.slice qB n.items.length qb] nodeT))).heap.size:=fun k hk=>⟨(hP0 k hk).1,Nat.lt_of_lt_of_le (hP0 k hk).2 hb0.size⟩
 have hbb:base≤w.heap.size:=by have:=h.base; omega
 have hp0:n.ptrs= []:=List.eq_nil_of_length_eq_zero ((z0d hf).elim (fun h=>by omega) (fun h=>h.elim (fun h=>by omega) (fun h=>by rcases h.2.2 with h | h | h <;> omega)));have HR:Hid (fillP (wrP LS size d) n ss i a=some (putS ss i a n.data.data.toList)):=hid (by rw[HE.out]; unfold bodyP; rw[hp0]; rfl);have HFIT:=hid (z3q (n:=n) hk.wds (i:=i) (a:=a) (by omega));have hl8:=z10 hk.wds i;unfold LS at hto
 have hdd:(⟨n.data.data.toList.toArray⟩:ByteArray)=n.data:=by simp
 have HPUT:=hid (z3d base b size ss P (w.alloc (.cells #[.int .i64 n.kind,.string n.data,.slice qA n.ptrs.length qa,.int .i64 n.size,.int .i64 n.count,.slice qB n.items.length qb] nodeT)) (h.low hb0) i a n.data.data.toList hi HFIT.out (by omega));rw[hdd] at HPUT
 have hkb:(n.kind==1)=false:=by rw[hk1]; rfl
 have hsb:(n.size==6)=false:=by simp; omega
 have hsc:(n.size==7)=false:=by simp; omega
 rw[HR.out];clear hn h hb0 hP0 hP1 ho hf hk ho2 hmany hk1 hws htt hpl ho1 HE HR hp0 hdd hs5;go_enter Tryz.func128,Tryz.ntmps128
 go_wp2_with fail
 refine HPUT.out.mono ?_;rintro e w1 ⟨rfl,hk1,hB1⟩;have HQ:Hid (SWrQ base b size P w (some (putS ss i a n.data.data.toList)) (.returned (.tuple #[])) w1):=hid (SWrQ.from HB0.out ⟨rfl,hk1,.inr ⟨_,rfl,hB1.weak (fun _ h=> .inl h)⟩⟩);clear hk1 hB1;go_wp2
 go_end0
 exact HQ.out
theorem zet (size d:Nat)(IH:SWrD size d)(base b:Nat)(ss:Segs)(P:Nat→Prop)(w:World)(i a m:Nat)(n:Nd)(h1:Hd)(h:Sb w base b size ss false P)(hP0:∀k,P k→base≤k∧k<w.heap.size)(hk:SOk LS ss)(hi:i<ss.length)(ha:a+ownN n≤wn (sgS ss i))
 (hn:NdAt w (fun k=>k<base) m n h1) (hf:formN n=true) (ho:∀p∈ptrsL n,okN d p=true) (hm:totN m n≤2000000) (hws:((ptrsL n).map (z03 d)).sum≤300) (htt:totS ss+2*((ptrsL n).map (z03 d)).sum≤LS) (hk1:n.kind=2) (hs6:n.size=6) :
 Calls Tryz.prog 128 #[.pointer (some ⟨b,0,none⟩),.agg #[.int .i64 n.kind,.string n.data,.slice h1.A n.ptrs.length h1.a,.int .i64 n.size,.int .i64 n.count,.slice h1.B n.items.length h1.b],.int .i64 (i:Int),.int .i64 (a:Int)] w (SWrQ base b size P w (fillP (wrP LS size d) n ss i a)):=by
 have hmany:¬(n.kind=2∧n.size=7):=by omega
 obtain ⟨qA,qa,qB,qb⟩:=h1
 dsimp only at hn ⊢
 have hwi:=z09 ss i;have hto:=hk.totS;obtain ⟨ho1,ho2⟩:=z0z hf hmany;have hpl:=za4 ho2;rw[hpl] at ho hws htt;have HE:Hid (fillP (wrP LS size d) n ss i a=bodyP (wrP LS size d) n ss i a):=hid (by unfold fillP; rw[if_neg hmany]);have hb0:Below w.heap.size w (w.alloc (.cells #[.int .i64 n.kind,.string n.data,.slice qA n.ptrs.length qa,.int .i64 n.size,.int .i64 n.count,.slice qB n.items.length qb] nodeT)):=(Below.refl _ w).alloc (Nat.le_refl _) _;have HB0:=hid hb0
 have hP1:∀k,P k→base≤k∧k<((w.alloc (.cells #[.int .i64 n.kind,.string n.data,.slice qA n.ptrs.length qa,.int .i64 n.size,.int .i64 n.count,.slice qB n.items.length qb] nodeT))).heap.size:=fun k hk=>⟨(hP0 k hk).1,Nat.lt_of_lt_of_le (hP0 k hk).2 hb0.size⟩
 have hbb:base≤w.heap.size:=by have:=h.base; omega
 have hd0:n.data.size=0:=(z0d hf).elim (fun h=>by omega) (fun h=>h.elim (fun h=>by omega) (fun h=>by rcases h.2.2 with h | h | h <;> omega));have hdl:n.data.data.toList= []:=List.eq_nil_of_length_eq_zero (by rw[z0l]; exact hd0);unfold LS at hto htt
 have hbd:n.ptrs.length≤1000:=by unfold ownB at ho1; omega
 have r0:((w.alloc (.cells #[.int .i64 n.kind,.string n.data,.slice qA n.ptrs.length qa,.int .i64 n.size,.int .i64 n.count,.slice qB n.items.length qb] nodeT))).heap[w.heap.size]? =some (.cells #[.int .i64 n.kind,.string n.data,.slice qA n.ptrs.length qa,.int .i64 n.size,.int .i64 n.count,.slice qB n.items.length qb] nodeT (0,0)):=heap_alloc_new w _
 have hs0:((w.alloc (.cells #[.int .i64 n.kind,.string n.data,.slice qA n.ptrs.length qa,.int .i64 n.size,.int .i64 n.count,.slice qB n.items.length qb] nodeT))).heap.size=w.heap.size+1:=by simp
 have HN:=hid hn;have HP0:=hid hP0;have HO:=hid ho;have HEB:Hid (fillP (wrP LS size d) n ss i a=ptrsP (wrP LS size d) n.ptrs (ss) i (a)):=hid (by rw[HE.out]; unfold bodyP; rw[hdl,hd0,zhz]; rfl);have HDX:Hid (a+n.ptrs.length≤wn (sgS (ss) i)):=hid (by unfold ownB at ho1; omega);have HSS:Hid (SOk LS (ss)):=hid hk;have HTS:Hid (totS (ss)=totS ss):=hid rfl;have HWO:Hid (WrOk LS (wrP LS size d) (fun n=>okN d n=true)):=hid (z2b LS size d);have HTO:Hid (WrTot LS (wrP LS size d) (fun n=>okN d n=true) (z03 d)):=hid (zhb LS size d);have HK1:Hid (KP P w (w.alloc (.cells #[.int .i64 n.kind,.string n.data,.slice qA n.ptrs.length qa,.int .i64 n.size,.int .i64 n.count,.slice qB n.items.length qb] nodeT))):=hid (KP.of_below hb0);have HB1:=hid (h.low hb0);have HQ0:=hid r0;have HS1:Hid (w.heap.size+1≤((w.alloc (.cells #[.int .i64 n.kind,.string n.data,.slice qA n.ptrs.length qa,.int .i64 n.size,.int .i64 n.count,.slice qB n.items.length qb] nodeT))).heap.size):=hid (by omega)
 have hkb:(n.kind==1)=false:=by rw[hk1]; rfl
 have hsb:(n.size==6)=true:=by rw[hs6]; rfl
 have hii:=hi;clear hn h hb0 r0 hP0 hP1 ho hk hdl hd0 hk1 hs6 hpl ho2 hmany hf hs0 HE;go_enter Tryz.func128,Tryz.ntmps128
 go_wp2_with fail
 go_loopw [8] (fun c wr=>∃k:Nat,c= .int .i64 k∧k≤n.ptrs.length∧Hid (KP P w wr∧w.heap.size+1≤wr.heap.size∧wr.heap[w.heap.size]? =some (.cells #[.int .i64 n.kind,.string n.data,.slice qA n.ptrs.length qa,.int .i64 n.size,.int .i64 n.count,.slice qB n.items.length qb] nodeT (0,0)) ∧
  ((fillP (wrP LS size d) n ss i a=none∧∃s1,Sb wr base b size s1 true (fun k=>P k∨w.heap.size+1≤k))∨∃s1,ptrsP (wrP LS size d) (n.ptrs.take k) (ss) i a=some s1∧SOk LS s1∧Grew (ss) s1∧totS s1≤totS ss+2*((n.ptrs.take k).map (z03 d)).sum∧Sb wr base b size s1 false (fun k=>P k∨w.heap.size+1≤k)))) (fun c _=>n.ptrs.length-(intOf c).toNat)
 case atStart=>exact ⟨0,rfl,by omega,hid ⟨HK1.out,HS1.out,HQ0.out,.inr ⟨_,rfl,HSS.out,Grew.refl _,Nat.le_add_right _ _,HB1.out.weak (fun _ h=> .inl h)⟩⟩⟩
 case round =>
  obtain ⟨k,rfl,hkk,HZ⟩:=hrel;obtain ⟨zp,zs,zq0,zor⟩:=HZ.out;have ZP:=hid zp;have ZQ0:=hid zq0;obtain ⟨n0,n1,n2,n3,n4,n5⟩:=z01 zq0;clear zp zq0 HZ
  rcases zor with ⟨zn,s1,zb⟩ | ⟨s1,zr,zk,zg,zt,zb⟩
  · have ZN:=hid zn
    have ZB:=hid zb;obtain ⟨v,hbv, -⟩:=zb;obtain ⟨c0,c1,c2⟩:=z0k hbv;have ZBW:=hid (ZB.out.weak (Q:=fun k=>P k∨w.heap.size≤k) (fun x hx=>hx.imp id (fun h=>by omega)));clear zn hbv
    by_cases hlt3:k<n.ptrs.length
    all_goals
     go_wp2
     go_end0
     exact ⟨rfl,ZP.out,.inl ⟨ZN.out,s1,ZBW.out⟩⟩
  · have ZR:=hid zr
    have ZK:=hid zk;have ZG:=hid zg;have ZT:=hid zt;have ZB:=hid zb;obtain ⟨v,hbv, -⟩:=zb;obtain ⟨c0,c1,c2⟩:=z0k hbv;clear zr zk zg zt hbv
    by_cases hlt3:k<n.ptrs.length
    · obtain ⟨m',rfl⟩:=HN.out.2.1.pred hlt3
      obtain ⟨xx,hdp,hqa,hc,hp⟩:=(HN.out.2.1).at_ hlt3;obtain rfl:qA=some xx:=hqa;have hbw:=ZP.out.below hbb (fun k hp=>(HP0.out k hp).1)
      have hcb:(xx.add (k*6)).block<base:=by
       obtain ⟨_,q,hq,hcq,_⟩:=HN.out.2.1
       rcases hcq with h | ⟨x2,e2,hs2,_⟩
       · rw[h] at hq; rw[← hq] at hlt3; cases hlt3
       · injection e2 with e2; rw[z0r,e2]; exact hs2
      obtain ⟨d0,d1,d2,d3,d4,d5⟩:=hc.block (hbw.block _ hcb);have hmem:=List.getElem_mem hlt3;have HOK:=hid (HO.out _ hmem);have HTP:Hid (totN m' n.ptrs[k]≤2000000):=hid (by have:=z1y (m:=m') hlt3; unfold totN at hm; omega);have HWP:Hid (z03 d n.ptrs[k]≤300):=hid (Nat.le_trans (z4k (List.mem_map_of_mem hmem)) hws);have HWT:Hid (totS s1+2*z03 d n.ptrs[k]≤LS):=hid (by have h1:=ZT.out; have h2:=z6f n.ptrs (z03 d) k hlt3; unfold LS; omega);have HSN:=hid (z0w n.ptrs (z03 d) k hlt3);have HSTEP:=hid (z7k (wrP LS size d) n.ptrs k hlt3 (ss) i a);have HCUT:=hid (z9c (wrP LS size d) n.ptrs (k+1) (ss) i a);have HNP:=hid hp;generalize n.ptrs[k]=p at *;have HCB:=hid hcb;have HND:=hid (z2o HNP.out hbw)
      have hw3:IntKind.i64.wrap ((a:Int)+(k:Int))=((a+k:Nat):Int):=by rw[IntKind.wrap_i64]; have:=HDX.out; have:=z09 ss i; omega
      have hii1:i<s1.length:=Nat.lt_of_lt_of_le hii ZG.out.1
      have haa1:a+k<wn (sgS s1 i):=by have h1:=ZG.out.wn i; have h2:=HDX.out; omega
      have HCALL:=hid (fun (V:World) (hV:Below wr.heap.size wr V)=>IH base b s1 _ V i (a+k) m' p hdp (ZB.out.tight.low hV) (fun x hx=>⟨hx.2.1,Nat.lt_of_lt_of_le hx.2.2 hV.size⟩) ZK.out hii1 haa1 (z2o HND.out (hV.mono (by omega))) HOK.out HTP.out HWP.out HWT.out)
      have HNP7:Hid (∀x,(w.heap.size≤x∧x<w.heap.size+1)∨x<base→¬((P x∨w.heap.size+1≤x)∧base≤x∧x<wr.heap.size)):=hid (fun x hx hp=>by
       rcases hx with hx | hx
       · rcases hp.1 with h | h
         · have:=HP0.out x h; omega
         · omega
       · omega)
      have HPW:Hid (∀x,x<w.heap.size→((P x∨w.heap.size+1≤x)∧base≤x∧x<wr.heap.size)→P x):=hid (fun x hx hp=>by
       rcases hp.1 with h | h
       · exact h
       · omega)
      have hki:(k:Int)<(n.ptrs.length:Int):=by omega
      clear hc hp hmem hcb hbw
      go_wp2_with fail
      (try rw[show ((a:Int)+(k:Int))=((a+k:Nat):Int) by omega])
      with_reducible refine (HCALL.out wr (Below.refl _ _)).mono ?_
      rintro e w2 ⟨rfl,hk2,hor⟩;have HKA:=hid (ZP.out.trans hk2 HPW.out:KP P w w2);have HQ2:=hid (hk2.rowS ZQ0.out (HNP7.out _ (.inl (by omega))));have HS2:Hid (w.heap.size+1≤w2.heap.size):=hid (by have h1:=hk2.size; have h2:=z00 ZQ0.out; omega)
      have HWK:Hid (∀x,((P x∨w.heap.size+1≤x)∧base≤x∧x<wr.heap.size)∨wr.heap.size≤x→P x∨w.heap.size+1≤x):=hid (fun x hx=>by
       rcases hx with hx | hx
       · exact hx.1
       · have h2:=z00 ZQ0.out; exact .inr (by omega))
      have HZN:Hid (KP P w w2∧w.heap.size+1≤w2.heap.size∧w2.heap[w.heap.size]? =some (.cells #[.int .i64 n.kind,.string n.data,.slice (some xx) n.ptrs.length qa,.int .i64 n.size,.int .i64 n.count,.slice qB n.items.length qb] nodeT (0,0)) ∧
       ((fillP (wrP LS size d) n ss i a=none∧∃s1,Sb w2 base b size s1 true (fun k=>P k∨w.heap.size+1≤k))∨∃s1,ptrsP (wrP LS size d) (n.ptrs.take (k+1)) (ss) i a=some s1∧SOk LS s1∧Grew (ss) s1∧totS s1≤totS ss+2*((n.ptrs.take (k+1)).map (z03 d)).sum∧Sb w2 base b size s1 false (fun k=>P k∨w.heap.size+1≤k))):=hid ⟨HKA.out,HS2.out,HQ2.out,by
       rcases hor with ⟨hnone,s2,hs2⟩ | ⟨s2,hsome,hs2⟩
       · exact .inl ⟨by rw[HEB.out]; exact HCUT.out (by rw[HSTEP.out,ZR.out,Option.bind_some]; exact hnone),s2,hs2.weak HWK.out⟩
       · obtain ⟨k7a,k7b⟩:=HWO.out p s1 i (a+k) s2 HOK.out ZK.out hii1 haa1 hsome
         have hto2:=HTO.out p s1 i (a+k) s2 HOK.out ZK.out hii1 haa1 hsome;have hz1:=ZT.out
         exact .inr ⟨s2,by rw[HSTEP.out,ZR.out,Option.bind_some]; exact hsome,k7a,ZG.out.trans k7b,by rw[HSN.out]; omega,hs2.weak HWK.out⟩⟩
      clear hk2 hor d0 d1 d2 d3 d4 d5 n0 n1 n2 n3 n4 n5 c0 c1 c2
      go_wp2_with fail
      go_roundw
      case rel=>exact ⟨k+1,by go_num,by omega,HZN⟩
      case measure=>simp[intOf]; omega
    · obtain rfl:k=n.ptrs.length:=by omega
      rw[List.take_of_length_le (Nat.le_refl _)] at ZR;have HE9:Hid (fillP (wrP LS size d) n ss i a=some s1):=hid (by rw[HEB.out]; exact ZR.out);have HBF:=hid (ZB.out.weak (Q:=fun k=>P k∨w.heap.size≤k) (fun x hx=>hx.imp id (fun h=>by omega)));go_wp2
      go_end0
      exact ⟨rfl,ZP.out,.inr ⟨s1,HE9.out,HBF.out⟩⟩
theorem zli {l:List Nd}{y:Nd}(h:y∈l)(f:Nd→Nat):(y.ptrs.map f).sum≤((l.flatMap Nd.ptrs).map f).sum:=by
 rw[z4m];exact z4k (List.mem_map_of_mem (f:=fun y=>(y.ptrs.map f).sum) h)
theorem zl0 (l:List Nd)(f:Nd→Nat)(k:Nat)(hk:k<l.length):(((l.take (k+1)).flatMap Nd.ptrs).map f).sum=(((l.take k).flatMap Nd.ptrs).map f).sum+(l[k].ptrs.map f).sum:=by
 rw[z4m,z4m];exact z0w l (fun y=>(y.ptrs.map f).sum) k hk
theorem zei (l:List Nd)(f:Nd→Nat)(k:Nat)(hk:k<l.length):(((l.take k).flatMap Nd.ptrs).map f).sum+(l[k].ptrs.map f).sum≤((l.flatMap Nd.ptrs).map f).sum:=by
 rw[z4m,z4m];exact z6f l (fun y=>(y.ptrs.map f).sum) k hk
theorem zir (size d:Nat)(IH:SWrD size d)(base b:Nat)(ss:Segs)(P:Nat→Prop)(w:World)(i a m:Nat)(n:Nd)(h1:Hd)(h:Sb w base b size ss false P)(hP0:∀k,P k→base≤k∧k<w.heap.size)(hk:SOk LS ss)(hi:i<ss.length)(ha:a+ownN n≤wn (sgS ss i))(hown:ownN n≤300)
 (hn:NdAt w (fun k=>k<base) m n h1) (hf:formN n=true) (ho:∀p∈ptrsL n,okN d p=true) (hm:totN m n≤2000000) (hws:((ptrsL n).map (z03 d)).sum≤300) (htt:totS ss+2*((ptrsL n).map (z03 d)).sum≤LS) (hmany:n.kind=2∧n.size=7) :
 Calls Tryz.prog 128 #[.pointer (some ⟨b,0,none⟩),.agg #[.int .i64 n.kind,.string n.data,.slice h1.A n.ptrs.length h1.a,.int .i64 n.size,.int .i64 n.count,.slice h1.B n.items.length h1.b],.int .i64 (i:Int),.int .i64 (a:Int)] w (SWrQ base b size P w (fillP (wrP LS size d) n ss i a)):=by
 obtain ⟨qA,qa,qB,qb⟩:=h1
 dsimp only at hn ⊢
 have hwi:=z09 ss i;have hto:=hk.totS;obtain ⟨hib,how,hpn⟩:=z2l hf hmany
 have hpl:ptrsL n=n.items.flatMap Nd.ptrs:=by unfold ptrsL; rw[hpn]; rfl
 rw[hpl] at ho hws htt
 have hbb:base≤w.heap.size:=by have:=h.base; omega
 unfold LS at hto htt;obtain ⟨_,_,hil,_,hcc,h77,_⟩:=z3r hf hown;have hct:=hcc hmany.1;have hlc:=(h77 hmany.1 hmany.2).2.1;have HIT:=hid (z3a hib)
 have hdb:itD n≤300∧itP n≤300:=by
  by_cases hne:n.items= []
  · have e1:itD n=0∧itP n=0:=by unfold itD itP; rw[hne]; exact ⟨rfl,rfl⟩
    omega
  · have h1:1≤n.items.length:=List.length_pos_iff.2 hne
    have h2:1*(itD n+itP n)≤n.items.length*(itD n+itP n):=Nat.mul_le_mul_right _ h1;omega
 have HE:Hid (fillP (wrP LS size d) n ss i a=z16 (wrP LS size d) (itD n+itP n) n.items (putS ss i a (tagW n)) i (a+1)):=hid (by unfold fillP; rw[if_pos hmany]);have HFIT:Hid (8*a+(tagW n).length≤(sgS ss i).length):=hid (by have:=room8 (k:=1) hk.wds (i:=i) (a:=a) (by omega); rw[z0x]; omega);have hl8:=z10 hk.wds i
 obtain ⟨D,hD⟩:∃D,itD n=D:=⟨_,rfl⟩
 obtain ⟨Q,hQ⟩:∃Q,itP n=Q:=⟨_,rfl⟩
 have htag:tagW n=leB (offN n.count) 4++leB ((D:Int)+65536*(Q:Int)) 4:=by rw[← hD,← hQ]; rfl
 rw[hD,hQ] at how HIT hdb HE
 have HLP:Hid (∀W:World,Calls Tryz.prog 125 #[.agg #[.int .i64 1,.int .i64 n.count,.int .i64 (D:Int),.int .i64 (Q:Int),.int .i64 0,.int .i64 0,.int .i64 0,.bool false]] W fun e w'=>e= .returned (.string ⟨(tagW n).toArray⟩)∧Below W.heap.size W w'):=hid (fun W=>by
  rw[htag]
  exact zbx n.count (D:Int) (Q:Int) W (by omega) (by omega) (by omega) (by omega) (by omega) (by omega))
 have hkb:(n.kind==1)=false:=by rw[hmany.1]; rfl
 have hsb:(n.size==6)=false:=by rw[hmany.2]; rfl
 have hsc:(n.size==7)=true:=by rw[hmany.2]; rfl
 have HSS:Hid (SOk LS (putS ss i a (tagW n))):=hid (hk.put hi HFIT.out);have HTS:Hid (totS (putS ss i a (tagW n))=totS ss):=hid (z1j hi HFIT.out)
 have hii:i<(putS ss i a (tagW n)).length:=by rw[z0a]; exact hi
 have HHO2:Hid (a+1+n.items.length*(D+Q)≤wn (sgS (putS ss i a (tagW n)) i)):=hid (by rw[← (z0s hi HFIT.out).wn]; omega);have HWO:Hid (WrOk LS (wrP LS size d) (fun n=>okN d n=true)):=hid (z2b LS size d);have HTO:Hid (WrTot LS (wrP LS size d) (fun n=>okN d n=true) (z03 d)):=hid (zhb LS size d);have HN:=hid hn;have HP0:=hid hP0;have HO:=hid ho;have HH:=hid h
 have hlw:(sgS ss i).length≤100000:=by omega
 have HPUT:Hid (∀W,Below w.heap.size w W→Calls Tryz.prog 124 #[.pointer (some ⟨b,0,none⟩),.int .i64 (i:Int),.int .i64 (a:Int),.string ⟨(tagW n).toArray⟩] W (PutQ base b size ss i a (tagW n) P W)):=hid (fun W hW=>z3d base b size ss P W (HH.out.low hW) i a (tagW n) hi HFIT.out hlw)
 have hnil:n.items= []→D=0∧Q=0:=fun e=>by rw[← hD,← hQ]; unfold itD itP; rw[e]; exact ⟨rfl,rfl⟩
 have hpos:0<n.items.length→D=(n.items.headD default).data.size/8∧Q=(n.items.headD default).ptrs.length:=fun _=>⟨hD.symm,hQ.symm⟩
 clear h hn hP0 ho hk how hpl hpn hcc h77 hl8 hf hmany hD hQ htag hlw hct
 by_cases hne:n.items= []
 · obtain ⟨rfl,rfl⟩:=hnil hne
   replace HLP:Hid (∀W:World,Calls Tryz.prog 125 #[.agg #[.int .i64 1,.int .i64 n.count,.int .i64 0,.int .i64 0,.int .i64 0,.int .i64 0,.int .i64 0,.bool false]] W fun e w'=>e= .returned (.string ⟨(tagW n).toArray⟩)∧Below W.heap.size W w'):=HLP
   have hil0:n.items.length=0:=by rw[hne]; rfl
   have hgd:decide ((0:Int)<(n.items.length:Int))=false:=decide_eq_false (by omega);have hgd2:decide (0<n.items.length)=false:=decide_eq_false (by omega)
   have hgd3:¬0<n.items.length:=by omega
   have HIL:=hid hil0;clear hnil hpos hil0 hne;go_enter Tryz.func128,Tryz.ntmps128
   go_wp2_with fail
   with_reducible refine (HLP.out _).mono ?_
   rintro e w1 ⟨rfl,hb1⟩;have hbA:Below w.heap.size w ((w.alloc (.cells #[.int .i64 n.kind,.string n.data,.slice qA n.ptrs.length qa,.int .i64 n.size,.int .i64 n.count,.slice qB n.items.length qb] nodeT)).alloc (.cells #[.int .i64 1,.int .i64 n.count,.int .i64 0,.int .i64 0,.int .i64 0,.int .i64 0,.int .i64 0,.bool false] 44)):=((Below.refl _ w).alloc (Nat.le_refl _) _).alloc (by simp) _;have HB1:=hid (hbA.trans (hb1.mono hbA.size));have R0:(((w.alloc (.cells #[.int .i64 n.kind,.string n.data,.slice qA n.ptrs.length qa,.int .i64 n.size,.int .i64 n.count,.slice qB n.items.length qb] nodeT)).alloc (.cells #[.int .i64 1,.int .i64 n.count,.int .i64 0,.int .i64 0,.int .i64 0,.int .i64 0,.int .i64 0,.bool false] 44))).heap[w.heap.size]? =some (.cells #[.int .i64 n.kind,.string n.data,.slice qA n.ptrs.length qa,.int .i64 n.size,.int .i64 n.count,.slice qB n.items.length qb] nodeT (0,0)):=z05 (heap_alloc_new w _) _;have HR1:=hid ((hb1.block _ (z00 R0)).trans R0);clear hb1 hbA R0
   go_wp2_with fail
   refine (HPUT.out _ HB1.out).mono ?_;rintro e w4 ⟨rfl,hk4,hB4⟩;have HQ0:=hid (hk4.rowS HR1.out (fun hp=>by have:=(HP0.out _ hp).2; omega));have HK4:Hid (KP P w w4):=hid ((KP.of_below HB1.out).trans hk4 (fun _ _ h=>h));have HB4:=hid hB4;have HS4:Hid (w.heap.size+1≤w4.heap.size):=hid (by have:=z00 HQ0.out; omega);clear hk4 hB4 HR1 HB1
   go_wp2_with fail
   go_loopw [12] (fun c wr=>∃k:Nat,c= .int .i64 k∧k≤n.items.length∧Hid (KP P w wr∧w.heap.size+1≤wr.heap.size∧wr.heap[w.heap.size]? =some (.cells #[.int .i64 n.kind,.string n.data,.slice qA n.ptrs.length qa,.int .i64 n.size,.int .i64 n.count,.slice qB n.items.length qb] nodeT (0,0)) ∧
    ((fillP (wrP LS size d) n ss i a=none∧∃s1,Sb wr base b size s1 true (fun k=>P k∨w.heap.size+1≤k))∨∃s1,z16 (wrP LS size d) (0+0) (n.items.take k) (putS ss i a (tagW n)) i (a+1)=some s1∧SOk LS s1∧Grew (putS ss i a (tagW n)) s1∧totS s1≤totS ss+2*(((n.items.take k).flatMap Nd.ptrs).map (z03 d)).sum∧Sb wr base b size s1 false (fun k=>P k∨w.heap.size+1≤k)))) (fun c _=>n.items.length-(intOf c).toNat)
   case atStart=>exact ⟨0,rfl,by omega,hid ⟨HK4.out,HS4.out,HQ0.out,.inr ⟨_,rfl,HSS.out,Grew.refl _,by rw[HTS.out]; exact Nat.le_add_right _ _,HB4.out.weak (fun _ h=> .inl h)⟩⟩⟩
   case round =>
    obtain ⟨k,rfl,hkk,HZ⟩:=hrel;obtain ⟨zp,zs,zq0,zor⟩:=HZ.out;have ZP:=hid zp;have ZQ0:=hid zq0;obtain ⟨n0,n1,n2,n3,n4,n5⟩:=z01 zq0;clear zp zq0 HZ
    rcases zor with ⟨zn,s1,zb⟩ | ⟨s1,zr,zk,zg,zt,zb⟩
    · have ZN:=hid zn
      have ZB:=hid zb;obtain ⟨v,hbv, -⟩:=zb;obtain ⟨c0,c1,c2⟩:=z0k hbv;have ZBW:=hid (ZB.out.weak (Q:=fun k=>P k∨w.heap.size≤k) (fun x hx=>hx.imp id (fun h=>by omega)));clear zn hbv
      by_cases hlt3:k<n.items.length
      · exact absurd hlt3 (by have:=HIL.out; omega)
      all_goals
       go_wp2
       go_end0
       exact ⟨rfl,ZP.out,.inl ⟨ZN.out,s1,ZBW.out⟩⟩
    · have ZR:=hid zr
      have ZK:=hid zk;have ZG:=hid zg;have ZT:=hid zt;have ZB:=hid zb;obtain ⟨v,hbv, -⟩:=zb;obtain ⟨c0,c1,c2⟩:=z0k hbv;clear zr zk zg zt hbv
      by_cases hlt3:k<n.items.length
      · exact absurd hlt3 (by have:=HIL.out; omega)
      · obtain rfl:k=n.items.length:=by omega
        rw[List.take_of_length_le (Nat.le_refl _)] at ZR;have HE9:Hid (fillP (wrP LS size d) n ss i a=some s1):=hid (by rw[HE.out]; exact ZR.out);have HBF:=hid (ZB.out.weak (Q:=fun k=>P k∨w.heap.size≤k) (fun x hx=>hx.imp id (fun h=>by omega)));go_wp2
        go_end0
        exact ⟨rfl,ZP.out,.inr ⟨s1,HE9.out,HBF.out⟩⟩
 · have hil0:0<n.items.length:=List.length_pos_iff.2 hne
   obtain ⟨hD1,hQ1⟩:=hpos hil0;obtain ⟨m',rfl⟩:=HN.out.2.2.pred hil0;obtain ⟨xx,hd0,hqb,hc, -⟩:=(HN.out.2.2).at_ hil0;obtain rfl:qB=some xx:=hqb;rw[z6r,zcs hil0] at hc
   have hbx0:xx.block<base:=by
    obtain ⟨_,q,hq,hcq,_⟩:=HN.out.2.2
    rcases hcq with h | ⟨x2,e2,hs2,_⟩
    · rw[h] at hq; exact absurd hq.symm hne
    · injection e2 with e2; rw[e2]; exact hs2
   obtain ⟨y,hy⟩:∃y,n.items.headD default=y:=⟨_,rfl⟩
   rw[hy] at hc hD1 hQ1;have hbA:Below w.heap.size w (w.alloc (.cells #[.int .i64 n.kind,.string n.data,.slice qA n.ptrs.length qa,.int .i64 n.size,.int .i64 n.count,.slice (some xx) n.items.length qb] nodeT)):=(Below.refl _ w).alloc (Nat.le_refl _) _;obtain ⟨z0,z1,z2,z3,z4,z5⟩:=hc.block (hbA.block _ (Nat.lt_of_lt_of_le hbx0 hbb));have HBX0:=hid hbx0;have HIB:=hid hib;have hgd:decide ((0:Int)<(n.items.length:Int))=true:=decide_eq_true (by omega)
   have e8:(y.data.size:Int)/8=(D:Int):=by omega
   have e10:IntKind.i64.wrap (D:Int)=(D:Int):=by rw[IntKind.wrap_i64]; omega
   have e9:(y.ptrs.length:Int)=(Q:Int):=by omega
   clear hc hy hD1 hQ1 hnil hpos hbA hbx0 hib;go_enter Tryz.func128,Tryz.ntmps128
   go_wp2_with fail
   with_reducible refine (HLP.out _).mono ?_
   rintro e w1 ⟨rfl,hb1⟩;have hbA:Below w.heap.size w ((w.alloc (.cells #[.int .i64 n.kind,.string n.data,.slice qA n.ptrs.length qa,.int .i64 n.size,.int .i64 n.count,.slice (some xx) n.items.length qb] nodeT)).alloc (.cells #[.int .i64 1,.int .i64 n.count,.int .i64 (D:Int),.int .i64 (Q:Int),.int .i64 0,.int .i64 0,.int .i64 0,.bool false] 44)):=((Below.refl _ w).alloc (Nat.le_refl _) _).alloc (by simp) _;have HB1:=hid (hbA.trans (hb1.mono hbA.size));have R0:(((w.alloc (.cells #[.int .i64 n.kind,.string n.data,.slice qA n.ptrs.length qa,.int .i64 n.size,.int .i64 n.count,.slice (some xx) n.items.length qb] nodeT)).alloc (.cells #[.int .i64 1,.int .i64 n.count,.int .i64 (D:Int),.int .i64 (Q:Int),.int .i64 0,.int .i64 0,.int .i64 0,.bool false] 44))).heap[w.heap.size]? =some (.cells #[.int .i64 n.kind,.string n.data,.slice qA n.ptrs.length qa,.int .i64 n.size,.int .i64 n.count,.slice (some xx) n.items.length qb] nodeT (0,0)):=z05 (heap_alloc_new w _) _;have HR1:=hid ((hb1.block _ (z00 R0)).trans R0);clear hb1 hbA R0
   go_wp2_with fail
   refine (HPUT.out _ HB1.out).mono ?_;rintro e w4 ⟨rfl,hk4,hB4⟩;have HQ0:=hid (hk4.rowS HR1.out (fun hp=>by have:=(HP0.out _ hp).2; omega));have HK4:Hid (KP P w w4):=hid ((KP.of_below HB1.out).trans hk4 (fun _ _ h=>h));have HB4:=hid hB4;have HS4:Hid (w.heap.size+1≤w4.heap.size):=hid (by have:=z00 HQ0.out; omega);clear hk4 hB4 HR1 HB1
   go_wp2_with fail
   go_loopw [12] (fun c wr=>∃k:Nat,c= .int .i64 k∧k≤n.items.length∧Hid (KP P w wr∧w.heap.size+1≤wr.heap.size∧wr.heap[w.heap.size]? =some (.cells #[.int .i64 n.kind,.string n.data,.slice qA n.ptrs.length qa,.int .i64 n.size,.int .i64 n.count,.slice (some xx) n.items.length qb] nodeT (0,0)) ∧
    ((fillP (wrP LS size d) n ss i a=none∧∃s1,Sb wr base b size s1 true (fun k=>P k∨w.heap.size+1≤k))∨∃s1,z16 (wrP LS size d) (D+Q) (n.items.take k) (putS ss i a (tagW n)) i (a+1)=some s1∧SOk LS s1∧Grew (putS ss i a (tagW n)) s1∧totS s1≤totS ss+2*(((n.items.take k).flatMap Nd.ptrs).map (z03 d)).sum∧Sb wr base b size s1 false (fun k=>P k∨w.heap.size+1≤k)))) (fun c _=>n.items.length-(intOf c).toNat)
   case atStart=>exact ⟨0,rfl,by omega,hid ⟨HK4.out,HS4.out,HQ0.out,.inr ⟨_,rfl,HSS.out,Grew.refl _,by rw[HTS.out]; exact Nat.le_add_right _ _,HB4.out.weak (fun _ h=> .inl h)⟩⟩⟩
   case round =>
    obtain ⟨k,rfl,hkk,HZ⟩:=hrel;obtain ⟨zp,zs,zq0,zor⟩:=HZ.out;have ZP:=hid zp;have ZQ0:=hid zq0;obtain ⟨n0,n1,n2,n3,n4,n5⟩:=z01 zq0;clear zp zq0 HZ
    rcases zor with ⟨zn,s1,zb⟩ | ⟨s1,zr,zk,zg,zt,zb⟩
    · have ZN:=hid zn
      have ZB:=hid zb;obtain ⟨v,hbv, -⟩:=zb;obtain ⟨c0,c1,c2⟩:=z0k hbv;have ZBW:=hid (ZB.out.weak (Q:=fun k=>P k∨w.heap.size≤k) (fun x hx=>hx.imp id (fun h=>by omega)));clear zn hbv
      by_cases hlt3:k<n.items.length
      all_goals
       go_wp2
       go_end0
       exact ⟨rfl,ZP.out,.inl ⟨ZN.out,s1,ZBW.out⟩⟩
    · have ZR:=hid zr
      have ZK:=hid zk;have ZG:=hid zg;have ZT:=hid zt;have ZB:=hid zb;obtain ⟨v,hbv, -⟩:=zb;obtain ⟨c0,c1,c2⟩:=z0k hbv;clear zr zk zg zt hbv
      by_cases hlt3:k<n.items.length
      · obtain ⟨xy,hdp,hqa,hc,hp⟩:=(HN.out.2.2).at_ hlt3
        obtain rfl:xx=xy:=Option.some.inj hqa;have hbw:=ZP.out.below hbb (fun k hp=>(HP0.out k hp).1)
        have hcb:(xx.add (k*6)).block<base:=by rw[z0r]; exact HBX0.out
        obtain ⟨d0,d1,d2,d3,d4,d5⟩:=hc.block (hbw.block _ hcb);have hmem:=List.getElem_mem hlt3;have HOY:=hid (HIT.out _ hmem);have H8:Hid ((n.items[k]).data.size%8=0):=hid (z19 HIB.out _ hmem).2.1;have HOK:Hid (∀q∈(n.items[k]).ptrs,okN d q=true):=hid (fun q hq=>HO.out q (List.mem_flatMap.2 ⟨_,hmem,hq⟩));have HTP:Hid (totN m' n.items[k]≤2000000):=hid (by have:=z1y (m:=m') hlt3; unfold totN at hm; omega);have HWP:Hid (((n.items[k]).ptrs.map (z03 d)).sum≤300):=hid (Nat.le_trans (zli hmem (z03 d)) hws);have HWT:Hid (totS s1+2*((n.items[k]).ptrs.map (z03 d)).sum≤LS):=hid (by have h1:=ZT.out; have h2:=zei n.items (z03 d) k hlt3; unfold LS; omega);have HSN:=hid (zl0 n.items (z03 d) k hlt3);have HSTEP:=hid (z9a (wrP LS size d) (D+Q) n.items k hlt3 (putS ss i a (tagW n)) i (a+1));have HCUT:=hid (zbq (wrP LS size d) (D+Q) n.items (k+1) (putS ss i a (tagW n)) i (a+1));have HNP:=hid hp
        have hkl:k*(D+Q)+(D+Q)≤n.items.length*(D+Q):=by
         have:=Nat.mul_le_mul_right (D+Q) (show k+1≤n.items.length from hlt3);rw[Nat.add_mul,Nat.one_mul] at this;exact this
        generalize n.items[k]=p at *;have HCB:=hid hcb;have HND:=hid (z2o HNP.out hbw);have hws2:=z09 (putS ss i a (tagW n)) i;have hts2:=HSS.out.totS;have hho2:=HHO2.out;unfold LS at hts2
        obtain ⟨F,hF⟩:∃F,k*(D+Q)=F:=⟨_,rfl⟩
        rw[hF] at hkl HSTEP
        have he1:IntKind.i64.wrap ((D:Int)+(Q:Int))=(D:Int)+(Q:Int):=by rw[IntKind.wrap_i64]; omega
        have he1':(D:Int)+(Q:Int)=((D+Q:Nat):Int):=by omega
        have he2:(k:Int)*((D:Int)+(Q:Int))=(F:Int):=by rw[he1',← hF]; simp
        have hFb:F≤1000:=by omega
        have he3:IntKind.i64.wrap ((k:Int)*((D:Int)+(Q:Int)))=(F:Int):=by rw[he2,IntKind.wrap_i64]; omega
        have he4:IntKind.i64.wrap ((a:Int)+1)=(a:Int)+1:=by rw[IntKind.wrap_i64]; omega
        have he5:IntKind.i64.wrap ((a:Int)+1+(F:Int))=(a:Int)+1+(F:Int):=by rw[IntKind.wrap_i64]; omega
        have hii1:i<s1.length:=Nat.lt_of_lt_of_le hii ZG.out.1
        have haa1:a+1+F+ownB p≤wn (sgS s1 i):=by have h1:=ZG.out.wn i; rw[HOY.out]; omega
        have HAA:=hid haa1;have HCALL:=hid (fun (V:World) (hV:Below wr.heap.size wr V)=>zdq size d IH base b s1 _ V i (a+1+F) m' p hdp (ZB.out.tight.low hV) (fun x hx=>⟨hx.2.1,Nat.lt_of_lt_of_le hx.2.2 hV.size⟩) ZK.out hii1 HAA.out H8.out (z2o HND.out (hV.mono (by omega))) HOK.out HTP.out HWP.out HWT.out)
        have HNP7:Hid (∀x,(w.heap.size≤x∧x<w.heap.size+1)∨x<base→¬((P x∨w.heap.size+1≤x)∧base≤x∧x<wr.heap.size)):=hid (fun x hx hp=>by
         rcases hx with hx | hx
         · rcases hp.1 with h | h
           · have:=HP0.out x h; omega
           · omega
         · omega)
        have HPW:Hid (∀x,x<w.heap.size→((P x∨w.heap.size+1≤x)∧base≤x∧x<wr.heap.size)→P x):=hid (fun x hx hp=>by
         rcases hp.1 with h | h
         · exact h
         · omega)
        have hki:(k:Int)<(n.items.length:Int):=by omega
        clear he1' he2 hc hp hmem hcb hbw haa1 hws2 hts2 hho2
        go_wp2_with fail
        (try rw[show ((a:Int)+1+(F:Int))=((a+1+F:Nat):Int) by omega])
        with_reducible refine (HCALL.out wr (Below.refl _ _)).mono ?_
        rintro e w2 ⟨rfl,hk2,hor⟩;have HKA:=hid (ZP.out.trans hk2 HPW.out:KP P w w2);have HQ2:=hid (hk2.rowS ZQ0.out (HNP7.out _ (.inl (by omega))));have HS2:Hid (w.heap.size+1≤w2.heap.size):=hid (by have h1:=hk2.size; have h2:=z00 ZQ0.out; omega)
        have HWK:Hid (∀x,((P x∨w.heap.size+1≤x)∧base≤x∧x<wr.heap.size)∨wr.heap.size≤x→P x∨w.heap.size+1≤x):=hid (fun x hx=>by
         rcases hx with hx | hx
         · exact hx.1
         · have h2:=z00 ZQ0.out; exact .inr (by omega))
        have HZN:Hid (KP P w w2∧w.heap.size+1≤w2.heap.size∧w2.heap[w.heap.size]? =some (.cells #[.int .i64 n.kind,.string n.data,.slice qA n.ptrs.length qa,.int .i64 n.size,.int .i64 n.count,.slice (some xx) n.items.length qb] nodeT (0,0)) ∧
         ((fillP (wrP LS size d) n ss i a=none∧∃s1,Sb w2 base b size s1 true (fun k=>P k∨w.heap.size+1≤k))∨∃s1,z16 (wrP LS size d) (D+Q) (n.items.take (k+1)) (putS ss i a (tagW n)) i (a+1)=some s1∧SOk LS s1∧Grew (putS ss i a (tagW n)) s1∧totS s1≤totS ss+2*(((n.items.take (k+1)).flatMap Nd.ptrs).map (z03 d)).sum∧Sb w2 base b size s1 false (fun k=>P k∨w.heap.size+1≤k))):=hid ⟨HKA.out,HS2.out,HQ2.out,by
         rcases hor with ⟨hnone,s2,hs2⟩ | ⟨s2,hsome,hs2⟩
         · exact .inl ⟨by rw[HE.out]; exact HCUT.out (by rw[HSTEP.out,ZR.out,Option.bind_some]; exact hnone),s2,hs2.weak HWK.out⟩
         · obtain ⟨k7a,k7b⟩:=z3n HWO.out HOK.out ZK.out hii1 HAA.out hsome
           have hto2:=zct HWO.out HTO.out HOK.out ZK.out hii1 HAA.out hsome;have hz1:=ZT.out
           exact .inr ⟨s2,by rw[HSTEP.out,ZR.out,Option.bind_some]; exact hsome,k7a,ZG.out.trans k7b,by rw[HSN.out]; omega,hs2.weak HWK.out⟩⟩
        clear hk2 hor d0 d1 d2 d3 d4 d5 n0 n1 n2 n3 n4 n5 c0 c1 c2
        go_wp2_with fail
        go_roundw
        case rel=>exact ⟨k+1,by go_num,by omega,HZN⟩
        case measure=>simp[intOf]; omega
      · obtain rfl:k=n.items.length:=by omega
        rw[List.take_of_length_le (Nat.le_refl _)] at ZR;have HE9:Hid (fillP (wrP LS size d) n ss i a=some s1):=hid (by rw[HE.out]; exact ZR.out);have HBF:=hid (ZB.out.weak (Q:=fun k=>P k∨w.heap.size≤k) (fun x hx=>hx.imp id (fun h=>by omega)));go_wp2
        go_end0
        exact ⟨rfl,ZP.out,.inr ⟨s1,HE9.out,HBF.out⟩⟩
theorem zm6 (size d:Nat)(IH:SWrD size d)(base b:Nat)(ss:Segs)(P:Nat→Prop)(w:World)(i a m:Nat)(n:Nd)(h1:Hd)(h:Sb w base b size ss false P)(hP0:∀k,P k→base≤k∧k<w.heap.size)(hk:SOk LS ss)(hi:i<ss.length)(ha:a+ownN n≤wn (sgS ss i))(hown:ownN n≤300)
 (hn:NdAt w (fun k=>k<base) m n h1) (hf:formN n=true) (ho:∀p∈ptrsL n,okN d p=true) (hm:totN m n≤2000000) (hws:((ptrsL n).map (z03 d)).sum≤300) (htt:totS ss+2*((ptrsL n).map (z03 d)).sum≤LS) (hk0:n.kind≠0) :
 Calls Tryz.prog 128 #[.pointer (some ⟨b,0,none⟩),.agg #[.int .i64 n.kind,.string n.data,.slice h1.A n.ptrs.length h1.a,.int .i64 n.size,.int .i64 n.count,.slice h1.B n.items.length h1.b],.int .i64 (i:Int),.int .i64 (a:Int)] w (SWrQ base b size P w (fillP (wrP LS size d) n ss i a)):=by
 by_cases hm2:n.kind=2∧n.size=7
 · exact zir size d IH base b ss P w i a m n h1 h hP0 hk hi ha hown hn hf ho hm hws htt hm2
 · rcases (z3r hf hown).2.2.2.1 hk0 with k1 | k2
   · exact zdi size d IH base b ss P w i a m n h1 h hP0 hk hi ha hn hf ho hm hws htt k1
   · have hsz:=(z3r hf hown).2.2.2.2.1 k2
     by_cases h6:n.size=6
     · exact zet size d IH base b ss P w i a m n h1 h hP0 hk hi ha hn hf ho hm hws htt k2 h6
     · exact zfv size d IH base b ss P w i a m n h1 h hP0 hk hi ha hn hf ho hm hws htt k2 (by omega)
end Go.Proofs.YtlbfffokkhccaaaGreatDoor
