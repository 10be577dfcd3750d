/- Texts of the proof of the law FnCanonSent, side by side: part 23. -/
import Derived.Test.YtlbfffokkhccaaaGreatDoorMCanonSent22
set_option maxHeartbeats 8000000
set_option maxRecDepth 100000
open Go.Lib (hid)
namespace Go.Proofs.YtlbfffokkhccaaaGreatDoor
open Go.RowKit Go.Deep
theorem NdsAt.tot_mono {w:World}{S:Nat→Prop}{m k:Nat}{A:Option Addr}{l:List Nd}(h:NdsAt w S m A l)(hk:m≤k):totL k l=totL m l:=by
 induction hk with
 | refl=>rfl
 | @step j hj ih=>rw[z7o j A l (h.mono hj),ih]
theorem NdAt.tot_mono {w:World}{S:Nat→Prop}{m k:Nat}{n:Nd}{h:Hd}(hn:NdAt w S m n h)(hk:m≤k):totN k n=totN m n:=by
 unfold totN;rw[hn.2.1.tot_mono hk,hn.2.2.tot_mono hk]
theorem TB.mono {w:World}{S:Nat→Prop}{M M' T T':Nat}{n:Nd}{h:Hd}(ht:TB M n T)(hn:NdAt w S M n h)(hM:M≤M')(hT:T≤T'):TB M' n T':=⟨by rw[hn.tot_mono hM]; exact Nat.le_trans ht.1 hT,ht.2.mono hT⟩
theorem z8x {w w1 w2 w4:World}{R n m:Nat}{o:Obj}{r:Option Nat}(hp:z0h w R n w1)(hp3:z0h w1 R m w2)(hR:R<w.heap.size)(hg:(w2.alloc o).grownBy w4 r)(hr:∀k,r=some k→w.heap.size≤k):z0h w R m w4∧Below w.heap.size w2 w4:=by
 have hs:w.heap.size≤w2.heap.size:=Nat.le_trans hp.2.size hp3.2.size;have hbel:Below w.heap.size w2 w4:=((Below.refl w.heap.size w2).alloc hs o).grown hg (by simp; omega) hr
 obtain ⟨⟨a,l,c,p,hpn,hr,hc⟩,hk⟩:=hp.then hp3
 exact ⟨⟨⟨a,l,c,p,hpn,(hbel.block R hR).trans hr,hc.keeps (R:=w.heap.size) (Keeps.of_below hbel) (Nat.le_of_lt hR) (Nat.le_of_lt hR)⟩,⟨hbel.os.trans hk.os,hbel.tape.trans hk.tape,hbel.output.trans hk.output,Nat.le_trans hk.size hbel.size,fun k hk1 hk2=>(hbel.block k hk1).trans (hk.block k hk1 hk2)⟩⟩,hbel⟩
theorem zhs:DrN 0:=by
 intro R n w h hn
 have hRw:=h.lt;have HQ0:=hid (h.self.below ((Below.refl w.heap.size w).alloc (Nat.le_refl _) (.cells #[.int .i64 0,.string { data:= #[] },.slice none 0 0,.int .i64 0,.int .i64 0,.slice none 0 0] nodeT)));have HR0:=hid (heap_alloc_new w (.cells #[.int .i64 0,.string { data:= #[] },.slice none 0 0,.int .i64 0,.int .i64 0,.slice none 0 0] nodeT))
 have hz0:∀k,(w.alloc (.cells #[.int .i64 0,.string { data:= #[] },.slice none 0 0,.int .i64 0,.int .i64 0,.slice none 0 0] nodeT)).cell? ⟨w.heap.size,k,none⟩=(#[.int .i64 0,.string { data:= #[] },.slice none 0 0,.int .i64 0,.int .i64 0,.slice none 0 0]:Array Value)[k]? :=fun k=>cell_of_row _ _ _ _ _ _ HR0.out
 have hzf:=z02 HR0.out;clear h;go_enter Tryz.func65,Tryz.ntmps65
 go_wp2_with fail
 exact bodyPost_ret (v:= .agg #[.int .i64 0,.string { data:= #[] },.slice none 0 0,.int .i64 0,.int .i64 0,.slice none 0 0])
  (by simp[results,Tryz.results65,go_sem,z01 HR0.out]) rfl
  ⟨.mk 0 ⟨#[]⟩ [] 0 0 [],⟨none,0,none,0⟩,rfl,⟨by decide,rfl,rfl⟩,⟨Nat.le_refl _,SB.small (by decide) (show (0:Nat)≤1000 by decide)⟩,HQ0.out.mono (by omega)⟩
theorem z89 (d:Nat)(hN:DrN d)(hdd:d≤8)(hkd:dK d≤20000)(htd:dT d≤300000):DrN (d+1):=by
 intro R n w h hn
 have hRw:=h.lt;have hKe:dK (d+1)=50+6*dK d:=rfl;have hTe:dT (d+1)=1001+6*dT d:=rfl;have HK:=hid (And.intro hKe hTe);rw[hKe] at hn
 have hcast:(((d+1:Nat)):Int)=(d:Int)+1:=by omega
 rw[hcast];have hD1:decide ((d:Int)+1<1)=false:=decide_eq_false (by omega);have HQ0:=hid (h.self.below ((Below.refl w.heap.size w).alloc (Nat.le_refl _) (.cells #[.int .i64 0,.string { data:= #[] },.slice none 0 0,.int .i64 0,.int .i64 0,.slice none 0 0] nodeT)));have HR0:=hid (heap_alloc_new w (.cells #[.int .i64 0,.string { data:= #[] },.slice none 0 0,.int .i64 0,.int .i64 0,.slice none 0 0] nodeT));have HNN:=hid hN;have HST:=hid (fun (R n data ptrs:Nat) (W:World) (h:Rd W R n) (hn:n+3*data+ptrs*dK d≤500000) (hd:data≤3) (hp:ptrs≤3)=>zci d hN R n data ptrs W h hn hd hp hdd hkd htd);clear h hN hKe hTe hcast;go_enter Tryz.func65,Tryz.ntmps65
 go_wp2_with fail
 refine (z17 R n _ _ HQ0.out.1 (by omega)).mono ?_;rintro e w1 ⟨p,⟨hp0,hp1⟩,rfl,hpk⟩;have HQ1:=hid (HQ0.out.then hpk);have HR1:=hid (z0e HR0.out hpk (by omega))
 have hp5:p=0∨p=1∨p=2∨p=3∨p=4∨p=5:=by omega
 have hw1:w.heap.size+1≤w1.heap.size:=by have:=hpk.2.size; simpa using this
 clear hpk hp0 hp1
 rcases hp5 with rfl | rfl | rfl | rfl | rfl | rfl
 ·
  have hz0:∀k,(w1).cell? ⟨w.heap.size,k,none⟩=(#[.int .i64 0,.string { data:= #[] },.slice none 0 0,.int .i64 0,.int .i64 0,.slice none 0 0]:Array Value)[k]? :=fun k=>cell_of_row _ _ _ _ _ _ HR1.out
  have hzf:=z02 HR1.out
  go_wp2_with fail
  obtain ⟨wf,hwf,hrw,hpw,huw⟩:=z4v (w1:=w1) (b:=w.heap.size) HR1.out HQ1.out hRw (Nat.le_refl _) (.int .i64 0) (.string { data:= #[] }) (.slice none 0 0) (.int .i64 0) (.int .i64 0) (.slice none 0 0)
  first | rw[hwf] | (have hwf2:=hwf; simp at hwf2 ⊢; rw[hwf2])
  obtain ⟨e0,e1,e2,e3,e4,e5⟩:=z01 hrw
  exact bodyPost_ret (v:= .agg #[.int .i64 0,.string { data:= #[] },.slice none 0 0,.int .i64 0,.int .i64 0,.slice none 0 0])
   (by simp[results,Tryz.results65,go_sem,e0,e1,e2,e3,e4,e5]) rfl
   ⟨.mk 0 ⟨#[]⟩ [] 0 0 [],⟨none,0,none,0⟩,rfl,⟨by decide,NdsAt.nil _ _ _ _,NdsAt.nil _ _ _ _⟩,⟨by show 0+0+0≤_; omega,SB.small (by decide) (show (0:Nat)≤1000 by decide)⟩,hpw.mono (by have:=HK.out; omega)⟩
 ·
  go_wp2_with fail
  refine (zg8 R (n+1) _ HQ1.out.1 (by omega)).mono ?_;rintro e w2 ⟨y,hy,rfl,hny,hty,hp2⟩;have HQ2:=hid (HQ1.out.then hp2);have HR2:=hid (z0e HR1.out hp2 (by omega));have HNY:=hid hny;have HTY:=hid hty;clear hny hty hp2
  have hz0:∀k,(w2).cell? ⟨w.heap.size,k,none⟩=(#[.int .i64 0,.string { data:= #[] },.slice none 0 0,.int .i64 0,.int .i64 0,.slice none 0 0]:Array Value)[k]? :=fun k=>cell_of_row _ _ _ _ _ _ HR2.out
  have hzf:=z02 HR2.out
  go_wp2_with fail
  obtain ⟨wf,hwf,hrw,hpw,huw⟩:=z4v (w1:=w2) (b:=w.heap.size) HR2.out HQ2.out hRw (Nat.le_refl _) (.int .i64 y.kind) (.string y.data) (.slice hy.A y.ptrs.length hy.a) (.int .i64 y.size) (.int .i64 y.count) (.slice hy.B y.items.length hy.b)
  first | rw[hwf] | (have hwf2:=hwf; simp at hwf2 ⊢; rw[hwf2])
  obtain ⟨e0,e1,e2,e3,e4,e5⟩:=z01 hrw
  exact bodyPost_ret (v:= .agg #[.int .i64 y.kind,.string y.data,.slice hy.A y.ptrs.length hy.a,.int .i64 y.size,.int .i64 y.count,.slice hy.B y.items.length hy.b])
   (by simp[results,Tryz.results65,go_sem,e0,e1,e2,e3,e4,e5]) rfl
   ⟨y,hy,rfl,(((HNY.out.mono (by omega)).fromC (by omega)).uponC huw).fromC (by omega),TB.mono HTY.out HNY.out (by omega) (by have:=HK.out; omega),hpw.mono (by have:=HK.out; omega)⟩
 ·
  have hqb:=HQ1.out.below ((Below.refl w1.heap.size w1).alloc (Nat.le_refl _) (.cells #[.int .i64 2,.string { data:= #[] },.slice none 0 0,.int .i64 6,.int .i64 0,.slice none 0 0] nodeT));have hrb:=(Below.heap_alloc w1 (.cells #[.int .i64 2,.string { data:= #[] },.slice none 0 0,.int .i64 6,.int .i64 0,.slice none 0 0] nodeT) w.heap.size (by omega)).trans HR1.out;have hxb:=heap_alloc_new w1 (.cells #[.int .i64 2,.string { data:= #[] },.slice none 0 0,.int .i64 6,.int .i64 0,.slice none 0 0] nodeT)
  have hsb:(w1.alloc (.cells #[.int .i64 2,.string { data:= #[] },.slice none 0 0,.int .i64 6,.int .i64 0,.slice none 0 0] nodeT)).heap.size=w1.heap.size+1:=by simp
  have HQB:=hid hqb;have HRB:=hid hrb;have HXB:=hid hxb;clear hqb hrb hxb
  go_wp2_with fail
  generalize w1.alloc (.cells #[.int .i64 2,.string { data:= #[] },.slice none 0 0,.int .i64 6,.int .i64 0,.slice none 0 0] nodeT)=WB at *;refine (z17 R (n+1) _ _ HQB.out.1 (by omega)).mono ?_;rintro e w2 ⟨m0,⟨hm0,hm1⟩,rfl,hp2⟩;obtain ⟨m0,rfl⟩:=Int.eq_ofNat_of_zero_le hm0
  have hm3:m0≤3:=by omega
  have HQ2:=hid (HQB.out.then hp2);have HR2:=hid (z0e HRB.out hp2 (by omega));have HX2:=hid (z0e HXB.out hp2 (by have:=HQ1.out.1.lt; omega))
  have hw2:w1.heap.size+1≤w2.heap.size:=by have:=hp2.2.size; omega
  clear hp2 hm0 hm1;have HRW1:=hid (show R<w1.heap.size from HQ1.out.1.lt)
  go_wp2_with fail
  go_loopw [6] (fun i wr=>∃m:Nat,i= .int .i64 m∧m≤m0∧Hid (∃(v:Value) (q:List (Nd×Hd)),wr.heap[w1.heap.size]? =some (.cells #[.int .i64 2,.string { data:= #[] },v,.int .i64 6,.int .i64 0,.slice none 0 0] nodeT (0,0))∧q.length+m=m0∧NRowC wr (w1.heap.size+1) v q (2*d) (dT d))∧Hid (wr.heap[w.heap.size]? =some (.cells #[.int .i64 0,.string { data:= #[] },.slice none 0 0,.int .i64 0,.int .i64 0,.slice none 0 0] nodeT (0,0)))∧Hid (z0h w R (n+2+(m0-m)*(dK d)) wr∧w1.heap.size+1≤wr.heap.size)) (fun i _=>(intOf i).toNat)
  case atStart=>exact ⟨m0,rfl,by omega,hid ⟨_,[],HX2.out,by simp,NRowC.nil _ _ _ _⟩,HR2,hid ⟨HQ2.out.mono (by omega),hw2⟩⟩
  case round =>
   obtain ⟨m,rfl,hm,HS,HZ,HP⟩:=hrel;obtain ⟨v,q,hrow,hql,hnr⟩:=HS.out;obtain ⟨hpkd,hsz⟩:=HP.out;have HQL:=hid hql;have hR1:=HRW1.out
   by_cases hlt:0<m
   · obtain ⟨c0,c1,c2,c3,c4,c5⟩:=z01 hrow
     have hq1000:q.length≤1000:=by omega
     have HPK2:=hid hpkd;have HROW2:=hid hrow;have HNR:=hid hnr;have hdr:(wr.drew).heap.size=wr.heap.size:=rfl
     have hmk:(m0-m)*(dK d)+(dK d)≤3*(dK d):=by have:=Nat.mul_le_mul_right (dK d) (show (m0-m)+1≤3 by omega); rw[Nat.add_mul] at this; omega
     have hwr:IntKind.i64.wrap (d:Int)=(d:Int):=by rw[IntKind.wrap_i64]; omega
     have HC:=hid (HNN.out R (n+2+(m0-m)*(dK d)) wr.drew (by exact HPK2.out.1.below ⟨rfl,rfl,rfl,Nat.le_refl _,fun _ _=>rfl⟩) (by omega));unfold NdP at HC;clear hpkd hrow hnr HS HP hql
     go_wp2_with fail
     go_region_law (first | (refine z47 rfl (.tmp 33) (.tmp 38) rfl (w1.heap.size+1) v q.length (rowOf q) (by simp[Act.eval]) (HO2.out.1.alloc _) ⟨w2.heap.size,0,none⟩ 1 (y,hy) (by simp[Act.eval]) (z28 w2 (y,hy) _) hq1000 (by simp; omega) ?_; intro A4 c4 w4 hown4 hgrow4 hat4; have hx4:=(hgrow4.out.block w1.heap.size (by simp; omega) (fun e=>by have:=(HO2.out.1.lt _ e.symm).1; omega)).trans ((Below.heap_alloc w2 _ w1.heap.size (by omega)).trans HX2.out); have qf4:=z02 hx4 2; obtain ⟨r0,r1,r2,r3,r4,r5⟩:=z01 hx4) | (go_simp; go_at_call 65; (with_reducible refine HC.out.mono ?_); rintro e w2 ⟨y,hy,rfl,hny,hty,hp2⟩; have hx2:=z0e (w:=wr.drew) HROW2.out hp2 (by omega); have HX2:=hid hx2; have HO2:=hid (NRowC.picked (w:=wr.drew) HNR.out.drew hp2 (by omega)); have hsz2:wr.heap.size≤w2.heap.size:=hp2.2.size; obtain ⟨q0,q1,q2,q3,q4,q5⟩:=z01 hx2; have hlt2:=z00 hx2; have qa:∀o,(w2.alloc o).cell? ⟨w1.heap.size,2,none⟩=some v:=fun o=>(((Below.refl w2.heap.size w2).alloc (Nat.le_refl _) o).cell hlt2).trans q2))
     all_goals
      have hp3:z0h wr R (n+2+(m0-(m-1))*(dK d)) w2:=by
       have h1:z0h wr R _ w2:=⟨hp2.1,⟨hp2.2.os,hp2.2.tape,hp2.2.output,hp2.2.size,hp2.2.block⟩⟩
       refine h1.mono ?_;rw[show m0-(m-1)=(m0-m)+1 by omega,Nat.add_mul];omega
      obtain ⟨hp4,hbel⟩:=z8x HPK2.out hp3 hRw hgrow4.out (fun k hk=>by have:=(HO2.out.1.lt k hk).1; omega);have hnx:=(HO2.out.alloc _).next (hny.belowC ((Below.refl w2.heap.size w2).alloc (Nat.le_refl _) _)) hty.1 (show w1.heap.size+1≤(wr.drew).heap.size from hsz) (fun k hk=>(HNR.out.1.lt k hk).2) hown4.out hgrow4.out hat4.out;have HS5:Hid (∃(v':Value) (q':List (Nd×Hd)),(w4.setCell ⟨w1.heap.size,2,none⟩ (.slice A4 (q.length+1) c4)).heap[w1.heap.size]? =some (.cells #[.int .i64 2,.string { data:= #[] },v',.int .i64 6,.int .i64 0,.slice none 0 0] nodeT (0,0))∧q'.length+(m-1)=m0∧NRowC (w4.setCell ⟨w1.heap.size,2,none⟩ (.slice A4 (q.length+1) c4)) (w1.heap.size+1) v' q' (2*d) (dT d)):=hid ⟨_,_,z08 hx4 2 _,by have:=HQL.out; simp; omega,hnx.store (by omega)⟩;have HZ5:=hid ((Below.heap_setCell w4 ⟨w1.heap.size,2,none⟩ (.slice A4 (q.length+1) c4) w.heap.size (by simp; omega)).trans ((hgrow4.out.block w.heap.size (by simp; omega) (fun e=>by have:=(HO2.out.1.lt _ e.symm).1; omega)).trans ((Below.heap_alloc w2 _ w.heap.size (by omega)).trans (z0e (w:=wr) HZ.out hp3 (by omega)))));have HP5:Hid (z0h w R (n+2+(m0-(m-1))*(dK d)) (w4.setCell ⟨w1.heap.size,2,none⟩ (.slice A4 (q.length+1) c4))∧w1.heap.size+1≤(w4.setCell ⟨w1.heap.size,2,none⟩ (.slice A4 (q.length+1) c4)).heap.size):=hid ⟨z0o hp4 hRw (b:=w1.heap.size) (by omega) 2 _,by have:=hbel.size; simp[World.setCell]; omega⟩;clear hp2 hp3 hp4 hbel hnx hx4 hx2 hown4 hgrow4 hat4 q0 q1 q2 q3 q4 q5 r0 r1 r2 r3 r4 r5 qf4 qa hlt2 hny hty;go_wp2
      go_roundw
      case rel=>exact ⟨m-1,by go_num,by omega,HS5,HZ5,HP5⟩
      case measure=>simp[intOf]; omega
   · obtain rfl:m=0:=by omega
     obtain ⟨A,cap,hv,hnds,htot⟩:=hnr.nds (by omega);subst hv
     have hszw:w.heap.size<w1.heap.size:=by omega
     have HND:=hid (hnds.uponC ((Upon.refl (w1.heap.size+1) wr).setCell (p:=⟨w1.heap.size,4,none⟩) (by simp) (.int .i64 (q.length:Int))));have HTOT:=hid htot;have hcf:=z02 hrow;have HZ4:=hid ((Below.heap_setCell wr ⟨w1.heap.size,4,none⟩ (.int .i64 (q.length:Int)) w.heap.size (by simp; omega)).trans HZ.out);have HPK3:=hid (z0o hpkd hRw (b:=w1.heap.size) (by omega) 4 (.int .i64 (q.length:Int)));obtain ⟨c0,c1,c2,c3,c4,c5⟩:=z01 hrow
     have hz0:∀v k,(wr.setCell ⟨w1.heap.size,4,none⟩ v).cell? ⟨w.heap.size,k,none⟩=(#[.int .i64 0,.string { data:= #[] },.slice none 0 0,.int .i64 0,.int .i64 0,.slice none 0 0]:Array Value)[k]? :=fun v k=>cell_of_row _ _ _ _ _ _ ((Below.heap_setCell wr ⟨w1.heap.size,4,none⟩ v w.heap.size (by simp; omega)).trans HZ.out)
     have hzf:∀v k,(wr.setCell ⟨w1.heap.size,4,none⟩ v).frozen? ⟨w.heap.size,k,none⟩=false:=fun v k=>z02 ((Below.heap_setCell wr ⟨w1.heap.size,4,none⟩ v w.heap.size (by simp; omega)).trans HZ.out) k
     clear hnr hnds htot hrow hpkd HS HP hql hlt
     go_wp2_with fail
     obtain ⟨wf,hwf,hrw,hpw,huw⟩:=z4v (w1:=wr.setCell ⟨w1.heap.size,4,none⟩ (.int .i64 (q.length:Int))) (b:=w.heap.size) HZ4.out HPK3.out hRw (Nat.le_refl _) (.int .i64 2) (.string { data:= #[] }) (.slice A q.length cap) (.int .i64 6) (.int .i64 (q.length:Int)) (.slice none 0 0)
     first | rw[hwf] | (have hwf2:=hwf; simp at hwf2 ⊢; rw[hwf2])
     obtain ⟨e0,e1,e2,e3,e4,e5⟩:=z01 hrw
     exact bodyPost_ret (v:= .agg #[.int .i64 2,.string { data:= #[] },.slice A q.length cap,.int .i64 6,.int .i64 (q.length:Int),.slice none 0 0])
      (by simp[results,Tryz.results65,go_sem,e0,e1,e2,e3,e4,e5]) rfl
      ⟨.mk 2 ⟨#[]⟩ (q.map (·.1)) 6 (q.length:Int) [],⟨A,cap,none,0⟩,by show _=Ending.returned (.agg #[.int .i64 2,.string { data:= #[] },.slice A (q.map (·.1)).length cap,.int .i64 6,.int .i64 (q.length:Int),.slice none 0 0]); rw[List.length_map],⟨show (0:Nat)≤maxLen by decide,(((HND.out.mono (by omega)).fromC (by omega)).uponC huw).fromC (by omega),NdsAt.nil _ _ _ _⟩,⟨by
       have h1:=HTOT.out
       show 0+totL (2*(d+1)) (q.map (·.1))+0≤_
       rw[HND.out.tot_mono (by omega)];have h2:=HK.out;have h3:=Nat.mul_le_mul_right (1+dT d) (show q.length≤3 by have:=HQL.out; omega)
       omega,SB.small (show (0:Nat)≤1100 by decide) (show (0:Nat)≤1000 by decide)⟩,hpw.mono (by have h2:=HK.out; have h3:=Nat.mul_le_mul_right (dK d) (show m0-0≤3 by omega); omega)⟩
 ·
  have hqb:=HQ1.out.below ((Below.refl w1.heap.size w1).alloc (Nat.le_refl _) (.cells #[.int .i64 2,.string { data:= #[] },.slice none 0 0,.int .i64 7,.int .i64 0,.slice none 0 0] nodeT));have hrb:=(Below.heap_alloc w1 (.cells #[.int .i64 2,.string { data:= #[] },.slice none 0 0,.int .i64 7,.int .i64 0,.slice none 0 0] nodeT) w.heap.size (by omega)).trans HR1.out;have hxb:=heap_alloc_new w1 (.cells #[.int .i64 2,.string { data:= #[] },.slice none 0 0,.int .i64 7,.int .i64 0,.slice none 0 0] nodeT)
  have hsb:(w1.alloc (.cells #[.int .i64 2,.string { data:= #[] },.slice none 0 0,.int .i64 7,.int .i64 0,.slice none 0 0] nodeT)).heap.size=w1.heap.size+1:=by simp
  have HQB:=hid hqb;have HRB:=hid hrb;have HXB:=hid hxb;clear hqb hrb hxb
  go_wp2_with fail
  generalize w1.alloc (.cells #[.int .i64 2,.string { data:= #[] },.slice none 0 0,.int .i64 7,.int .i64 0,.slice none 0 0] nodeT)=WB at *;refine (z17 R (n+1) _ _ HQB.out.1 (by omega)).mono ?_;rintro e wa ⟨da,⟨hda0,hda1⟩,rfl,hpa⟩;obtain ⟨da,rfl⟩:=Int.eq_ofNat_of_zero_le hda0
  have hda:da≤2:=by omega
  have HQa:=hid (HQB.out.then hpa);have HRa:=hid (z0e HRB.out hpa (by omega));have HXa:=hid (z0e HXB.out hpa (by have:=HQ1.out.1.lt; omega))
  have hwa:w1.heap.size+1≤wa.heap.size:=by have:=hpa.2.size; omega
  clear hpa hda0 hda1
  go_wp2_with fail
  refine (z17 R (n+2) _ _ HQa.out.1 (by omega)).mono ?_;rintro e wb ⟨pa,⟨hpa0,hpa1⟩,rfl,hpb⟩;obtain ⟨pa,rfl⟩:=Int.eq_ofNat_of_zero_le hpa0
  have hpa:pa≤2:=by omega
  have HQb:=hid (HQa.out.then hpb);have HRb:=hid (z0e HRa.out hpb (by omega));have HXb:=hid (z0e HXa.out hpb (by have:=HQ1.out.1.lt; omega))
  have hwb:w1.heap.size+1≤wb.heap.size:=by have:=hpb.2.size; omega
  clear hpb hpa0 hpa1
  go_wp2_with fail
  refine (z17 R (n+3) _ _ HQb.out.1 (by omega)).mono ?_;rintro e w2 ⟨m0,⟨hm0,hm1⟩,rfl,hp2⟩;obtain ⟨m0,rfl⟩:=Int.eq_ofNat_of_zero_le hm0
  have hm3:m0≤3:=by omega
  have HQ2:=hid (HQb.out.then hp2);have HR2:=hid (z0e HRb.out hp2 (by omega));have HX2:=hid (z0e HXb.out hp2 (by have:=HQ1.out.1.lt; omega))
  have hw2:w1.heap.size+1≤w2.heap.size:=by have:=hp2.2.size; omega
  have hpd:pa*dK d≤2*dK d:=Nat.mul_le_mul_right _ hpa;clear hp2 hm0 hm1;have HRW1:=hid (show R<w1.heap.size from HQ1.out.1.lt)
  go_wp2_with fail
  go_loopw [10] (fun i wr=>∃m:Nat,i= .int .i64 m∧m≤m0∧Hid (∃(v:Value) (q:List (Nd×Hd)),wr.heap[w1.heap.size]? =some (.cells #[.int .i64 2,.string { data:= #[] },.slice none 0 0,.int .i64 7,.int .i64 0,v] nodeT (0,0))∧q.length+m=m0∧NRowC wr (w1.heap.size+1) v q (2*d+1) (18+2*dT d))∧Hid (wr.heap[w.heap.size]? =some (.cells #[.int .i64 0,.string { data:= #[] },.slice none 0 0,.int .i64 0,.int .i64 0,.slice none 0 0] nodeT (0,0)))∧Hid (z0h w R (n+4+(m0-m)*(6+2*dK d)) wr∧w1.heap.size+1≤wr.heap.size)) (fun i _=>(intOf i).toNat)
  case atStart=>exact ⟨m0,rfl,by omega,hid ⟨_,[],HX2.out,by simp,NRowC.nil _ _ _ _⟩,HR2,hid ⟨HQ2.out.mono (by omega),hw2⟩⟩
  case round =>
   obtain ⟨m,rfl,hm,HS,HZ,HP⟩:=hrel;obtain ⟨v,q,hrow,hql,hnr⟩:=HS.out;obtain ⟨hpkd,hsz⟩:=HP.out;have HQL:=hid hql;have hR1:=HRW1.out
   by_cases hlt:0<m
   · obtain ⟨c0,c1,c2,c3,c4,c5⟩:=z01 hrow
     have hq1000:q.length≤1000:=by omega
     have HPK2:=hid hpkd;have HROW2:=hid hrow;have HNR:=hid hnr;have hdr:(wr.drew).heap.size=wr.heap.size:=rfl
     have hmk:(m0-m)*(6+2*dK d)+(6+2*dK d)≤3*(6+2*dK d):=by have:=Nat.mul_le_mul_right (6+2*dK d) (show (m0-m)+1≤3 by omega); rw[Nat.add_mul] at this; omega
     have hc0:=HST.out R (n+4+(m0-m)*(6+2*dK d)) da pa wr.drew (by exact HPK2.out.1.below ⟨rfl,rfl,rfl,Nat.le_refl _,fun _ _=>rfl⟩) (by omega) (by omega) (by omega);unfold NdP at hc0;have HC:=hid hc0;clear hc0;clear hpkd hrow hnr HS HP hql
     go_wp2_with fail
     go_region_law (first | (refine z47 rfl (.tmp 60) (.tmp 66) rfl (w1.heap.size+1) v q.length (rowOf q) (by simp[Act.eval]) (HO2.out.1.alloc _) ⟨w2.heap.size,0,none⟩ 1 (y,hy) (by simp[Act.eval]) (z28 w2 (y,hy) _) hq1000 (by simp; omega) ?_; intro A4 c4 w4 hown4 hgrow4 hat4; have hx4:=(hgrow4.out.block w1.heap.size (by simp; omega) (fun e=>by have:=(HO2.out.1.lt _ e.symm).1; omega)).trans ((Below.heap_alloc w2 _ w1.heap.size (by omega)).trans HX2.out); have qf4:=z02 hx4 5; obtain ⟨r0,r1,r2,r3,r4,r5⟩:=z01 hx4) | (go_simp; go_at_call 115; (with_reducible refine HC.out.mono ?_); rintro e w2 ⟨y,hy,rfl,hny,hty,hp2⟩; have hx2:=z0e (w:=wr.drew) HROW2.out hp2 (by omega); have HX2:=hid hx2; have HO2:=hid (NRowC.picked (w:=wr.drew) HNR.out.drew hp2 (by omega)); have hsz2:wr.heap.size≤w2.heap.size:=hp2.2.size; obtain ⟨q0,q1,q2,q3,q4,q5⟩:=z01 hx2; have hlt2:=z00 hx2; have qa:∀o,(w2.alloc o).cell? ⟨w1.heap.size,5,none⟩=some v:=fun o=>(((Below.refl w2.heap.size w2).alloc (Nat.le_refl _) o).cell hlt2).trans q5))
     all_goals
      have hp3:z0h wr R (n+4+(m0-(m-1))*(6+2*dK d)) w2:=by
       have h1:z0h wr R _ w2:=⟨hp2.1,⟨hp2.2.os,hp2.2.tape,hp2.2.output,hp2.2.size,hp2.2.block⟩⟩
       refine h1.mono ?_;rw[show m0-(m-1)=(m0-m)+1 by omega,Nat.add_mul];omega
      obtain ⟨hp4,hbel⟩:=z8x HPK2.out hp3 hRw hgrow4.out (fun k hk=>by have:=(HO2.out.1.lt k hk).1; omega);have hnx:=(HO2.out.alloc _).next (hny.belowC ((Below.refl w2.heap.size w2).alloc (Nat.le_refl _) _)) (by have h1:pa*(1+dT d)≤2*(1+dT d):=Nat.mul_le_mul_right _ hpa; have h2:=hty.1; omega) (show w1.heap.size+1≤(wr.drew).heap.size from hsz) (fun k hk=>(HNR.out.1.lt k hk).2) hown4.out hgrow4.out hat4.out;have HS5:Hid (∃(v':Value) (q':List (Nd×Hd)),(w4.setCell ⟨w1.heap.size,5,none⟩ (.slice A4 (q.length+1) c4)).heap[w1.heap.size]? =some (.cells #[.int .i64 2,.string { data:= #[] },.slice none 0 0,.int .i64 7,.int .i64 0,v'] nodeT (0,0))∧q'.length+(m-1)=m0∧NRowC (w4.setCell ⟨w1.heap.size,5,none⟩ (.slice A4 (q.length+1) c4)) (w1.heap.size+1) v' q' (2*d+1) (18+2*dT d)):=hid ⟨_,_,z08 hx4 5 _,by have:=HQL.out; simp; omega,hnx.store (by omega)⟩;have HZ5:=hid ((Below.heap_setCell w4 ⟨w1.heap.size,5,none⟩ (.slice A4 (q.length+1) c4) w.heap.size (by simp; omega)).trans ((hgrow4.out.block w.heap.size (by simp; omega) (fun e=>by have:=(HO2.out.1.lt _ e.symm).1; omega)).trans ((Below.heap_alloc w2 _ w.heap.size (by omega)).trans (z0e (w:=wr) HZ.out hp3 (by omega)))));have HP5:Hid (z0h w R (n+4+(m0-(m-1))*(6+2*dK d)) (w4.setCell ⟨w1.heap.size,5,none⟩ (.slice A4 (q.length+1) c4))∧w1.heap.size+1≤(w4.setCell ⟨w1.heap.size,5,none⟩ (.slice A4 (q.length+1) c4)).heap.size):=hid ⟨z0o hp4 hRw (b:=w1.heap.size) (by omega) 5 _,by have:=hbel.size; simp[World.setCell]; omega⟩;clear hp2 hp3 hp4 hbel hnx hx4 hx2 hown4 hgrow4 hat4 q0 q1 q2 q3 q4 q5 r0 r1 r2 r3 r4 r5 qf4 qa hlt2 hny hty
      go_wp2
      go_roundw
      case rel=>exact ⟨m-1,by go_num,by omega,HS5,HZ5,HP5⟩
      case measure=>simp[intOf]; omega
   · obtain rfl:m=0:=by omega
     obtain ⟨A,cap,hv,hnds,htot⟩:=hnr.nds (by omega);subst hv
     have hszw:w.heap.size<w1.heap.size:=by omega
     have HND:=hid (hnds.uponC ((Upon.refl (w1.heap.size+1) wr).setCell (p:=⟨w1.heap.size,4,none⟩) (by simp) (.int .i64 (q.length:Int))));have HTOT:=hid htot;have hcf:=z02 hrow;have HZ4:=hid ((Below.heap_setCell wr ⟨w1.heap.size,4,none⟩ (.int .i64 (q.length:Int)) w.heap.size (by simp; omega)).trans HZ.out);have HPK3:=hid (z0o hpkd hRw (b:=w1.heap.size) (by omega) 4 (.int .i64 (q.length:Int)));obtain ⟨c0,c1,c2,c3,c4,c5⟩:=z01 hrow
     have hz0:∀v k,(wr.setCell ⟨w1.heap.size,4,none⟩ v).cell? ⟨w.heap.size,k,none⟩=(#[.int .i64 0,.string { data:= #[] },.slice none 0 0,.int .i64 0,.int .i64 0,.slice none 0 0]:Array Value)[k]? :=fun v k=>cell_of_row _ _ _ _ _ _ ((Below.heap_setCell wr ⟨w1.heap.size,4,none⟩ v w.heap.size (by simp; omega)).trans HZ.out)
     have hzf:∀v k,(wr.setCell ⟨w1.heap.size,4,none⟩ v).frozen? ⟨w.heap.size,k,none⟩=false:=fun v k=>z02 ((Below.heap_setCell wr ⟨w1.heap.size,4,none⟩ v w.heap.size (by simp; omega)).trans HZ.out) k
     clear hnr hnds htot hrow hpkd HS HP hql hlt
     go_wp2_with fail
     obtain ⟨wf,hwf,hrw,hpw,huw⟩:=z4v (w1:=wr.setCell ⟨w1.heap.size,4,none⟩ (.int .i64 (q.length:Int))) (b:=w.heap.size) HZ4.out HPK3.out hRw (Nat.le_refl _) (.int .i64 2) (.string { data:= #[] }) (.slice none 0 0) (.int .i64 7) (.int .i64 (q.length:Int)) (.slice A q.length cap)
     first | rw[hwf] | (have hwf2:=hwf; simp at hwf2 ⊢; rw[hwf2])
     obtain ⟨e0,e1,e2,e3,e4,e5⟩:=z01 hrw
     exact bodyPost_ret (v:= .agg #[.int .i64 2,.string { data:= #[] },.slice none 0 0,.int .i64 7,.int .i64 (q.length:Int),.slice A q.length cap])
      (by simp[results,Tryz.results65,go_sem,e0,e1,e2,e3,e4,e5]) rfl
      ⟨.mk 2 ⟨#[]⟩ [] 7 (q.length:Int) (q.map (·.1)),⟨none,0,A,cap⟩,by show _=Ending.returned (.agg #[.int .i64 2,.string { data:= #[] },.slice none 0 0,.int .i64 7,.int .i64 (q.length:Int),.slice A (q.map (·.1)).length cap]); rw[List.length_map],⟨show (0:Nat)≤maxLen by decide,NdsAt.nil _ _ _ _,(((HND.out.mono (by omega)).fromC (by omega)).uponC huw).fromC (by omega)⟩,⟨by
       have h1:=HTOT.out
       show 0+totL (2*(d+1)) []+totL (2*(d+1)) (q.map (·.1))≤_
       have h0:totL (2*(d+1)) []=0:=rfl;rw[h0,HND.out.tot_mono (by omega)];have h2:=HK.out;have h3:=Nat.mul_le_mul_right (1+(18+2*dT d)) (show q.length≤3 by have:=HQL.out; omega)
       omega,SB.small (show (0:Nat)≤1100 by decide) (by show (q.map (·.1)).length≤1000; rw[List.length_map]; have:=HQL.out; omega)⟩,hpw.mono (by have h2:=HK.out; have h3:=Nat.mul_le_mul_right (6+2*dK d) (show m0-0≤3 by omega); omega)⟩
 ·
  go_wp2_with fail
  refine (z17 R (n+1) _ _ HQ1.out.1 (by omega)).mono ?_;rintro e wa ⟨da,⟨hda0,hda1⟩,rfl,hpa⟩;obtain ⟨da,rfl⟩:=Int.eq_ofNat_of_zero_le hda0
  have hda:da≤3:=by omega
  have HQa:=hid (HQ1.out.then hpa);have HRa:=hid (z0e HR1.out hpa (by omega));have hwa:=hpa.2.size;clear hpa hda0 hda1
  go_wp2_with fail
  refine (z17 R (n+2) _ _ HQa.out.1 (by omega)).mono ?_;rintro e wb ⟨pa,⟨hpa0,hpa1⟩,rfl,hpb⟩;obtain ⟨pa,rfl⟩:=Int.eq_ofNat_of_zero_le hpa0
  have hpa:pa≤3:=by omega
  have HQb:=hid (HQa.out.then hpb);have HRb:=hid (z0e HRa.out hpb (by omega));have hwb:=hpb.2.size;have hpd:pa*dK d≤3*dK d:=Nat.mul_le_mul_right _ hpa;clear hpb hpa0 hpa1
  go_wp2_with fail
  refine (HST.out R (n+3) da pa _ HQb.out.1 (by omega) hda hpa).mono ?_;rintro e w2 ⟨y,hy,rfl,hny,hty,hp2⟩;have HQ2:=hid (HQb.out.then hp2);have HR2:=hid (z0e HRb.out hp2 (by omega));have HNY:=hid hny;have HTY:=hid hty;have HPA:=hid hpa;have HDA:=hid hda;clear hny hty hp2
  have hz0:∀k,(w2).cell? ⟨w.heap.size,k,none⟩=(#[.int .i64 0,.string { data:= #[] },.slice none 0 0,.int .i64 0,.int .i64 0,.slice none 0 0]:Array Value)[k]? :=fun k=>cell_of_row _ _ _ _ _ _ HR2.out
  have hzf:=z02 HR2.out
  go_wp2_with fail
  obtain ⟨wf,hwf,hrw,hpw,huw⟩:=z4v (w1:=w2) (b:=w.heap.size) HR2.out HQ2.out hRw (Nat.le_refl _) (.int .i64 y.kind) (.string y.data) (.slice hy.A y.ptrs.length hy.a) (.int .i64 y.size) (.int .i64 y.count) (.slice hy.B y.items.length hy.b)
  first | rw[hwf] | (have hwf2:=hwf; simp at hwf2 ⊢; rw[hwf2])
  obtain ⟨e0,e1,e2,e3,e4,e5⟩:=z01 hrw
  exact bodyPost_ret (v:= .agg #[.int .i64 y.kind,.string y.data,.slice hy.A y.ptrs.length hy.a,.int .i64 y.size,.int .i64 y.count,.slice hy.B y.items.length hy.b])
   (by simp[results,Tryz.results65,go_sem,e0,e1,e2,e3,e4,e5]) rfl
   ⟨y,hy,rfl,(((HNY.out.mono (by omega)).fromC (by omega)).uponC huw).fromC (by omega),TB.mono HTY.out HNY.out (by omega) (by have:=HK.out; have h1:=Nat.mul_le_mul_right (1+dT d) HPA.out; have:=HDA.out; omega),hpw.mono (by have:=HK.out; omega)⟩
 ·
  go_wp2_with fail
  refine (z17 R (n+1) _ _ HQ1.out.1 (by omega)).mono ?_;rintro e wa ⟨da,⟨hda0,hda1⟩,rfl,hpa⟩;obtain ⟨da,rfl⟩:=Int.eq_ofNat_of_zero_le hda0
  have hda:da≤3:=by omega
  have HQa:=hid (HQ1.out.then hpa);have HRa:=hid (z0e HR1.out hpa (by omega));have hwa:=hpa.2.size;clear hpa hda0 hda1
  go_wp2_with fail
  refine (z17 R (n+2) _ _ HQa.out.1 (by omega)).mono ?_;rintro e wb ⟨pa,⟨hpa0,hpa1⟩,rfl,hpb⟩;obtain ⟨pa,rfl⟩:=Int.eq_ofNat_of_zero_le hpa0
  have hpa:pa≤3:=by omega
  have HQb:=hid (HQa.out.then hpb);have HRb:=hid (z0e HRa.out hpb (by omega));have hwb:=hpb.2.size;have hpd:pa*dK d≤3*dK d:=Nat.mul_le_mul_right _ hpa;clear hpb hpa0 hpa1
  go_wp2_with fail
  refine (HST.out R (n+3) da pa _ HQb.out.1 (by omega) hda hpa).mono ?_;rintro e w2 ⟨y,hy,rfl,hny,hty,hp2⟩;have HQ2:=hid (HQb.out.then hp2);have HR2:=hid (z0e HRb.out hp2 (by omega));have HNY:=hid hny;have HTY:=hid hty;have HPA:=hid hpa;have HDA:=hid hda;clear hny hty hp2
  have hz0:∀k,(w2).cell? ⟨w.heap.size,k,none⟩=(#[.int .i64 0,.string { data:= #[] },.slice none 0 0,.int .i64 0,.int .i64 0,.slice none 0 0]:Array Value)[k]? :=fun k=>cell_of_row _ _ _ _ _ _ HR2.out
  have hzf:=z02 HR2.out
  go_wp2_with fail
  obtain ⟨wf,hwf,hrw,hpw,huw⟩:=z4v (w1:=w2) (b:=w.heap.size) HR2.out HQ2.out hRw (Nat.le_refl _) (.int .i64 y.kind) (.string y.data) (.slice hy.A y.ptrs.length hy.a) (.int .i64 y.size) (.int .i64 y.count) (.slice hy.B y.items.length hy.b)
  first | rw[hwf] | (have hwf2:=hwf; simp at hwf2 ⊢; rw[hwf2])
  obtain ⟨e0,e1,e2,e3,e4,e5⟩:=z01 hrw
  exact bodyPost_ret (v:= .agg #[.int .i64 y.kind,.string y.data,.slice hy.A y.ptrs.length hy.a,.int .i64 y.size,.int .i64 y.count,.slice hy.B y.items.length hy.b])
   (by simp[results,Tryz.results65,go_sem,e0,e1,e2,e3,e4,e5]) rfl
   ⟨y,hy,rfl,(((HNY.out.mono (by omega)).fromC (by omega)).uponC huw).fromC (by omega),TB.mono HTY.out HNY.out (by omega) (by have:=HK.out; have h1:=Nat.mul_le_mul_right (1+dT d) HPA.out; have:=HDA.out; omega),hpw.mono (by have:=HK.out; omega)⟩
theorem zcc:∀d,d≤4→DrN d
 | 0,_=>zhs
 | 1,_=>z89 0 zhs (by decide) (by decide) (by decide)
 | 2,_=>z89 1 (zcc 1 (by decide)) (by decide) (by decide) (by decide)
 | 3,_=>z89 2 (zcc 2 (by decide)) (by decide) (by decide) (by decide)
 | 4,_=>z89 3 (zcc 3 (by decide)) (by decide) (by decide) (by decide)
 | d+5,h=>by omega
theorem Lits.newN (w:World)(vs:Array Value)(t:TypeId)(fr:Nat×Nat){g:Nat}(hg:w.heap.size=g):Lits (w.alloc (.cells vs t fr)) g vs.toList:=hg ▸ Lits.new w vs t fr
theorem dKT:∀d,d≤4→dK d≤12950∧dT d≤259259
 | 0,_=>by decide
 | 1,_=>by decide
 | 2,_=>by decide
 | 3,_=>by decide
 | 4,_=>by decide
 | d+5,h=>by omega
def AnB (b0 b:Nat)(w:World):Nat→Prop:=fun j=>(b0<j∧j≠b)∧Clean w j
theorem AnB.low {w w':World}{b0 b M:Nat}{n:Nd}{h:Hd}(hn:NdAt w (AnB b0 b w) M n h)(hb:Below w.heap.size w w'):NdAt w' (AnB b0 b w') M n h:=(hn.below hb).weak (fun _k hk=>⟨hk.1,z6i hk.2 hb⟩)
theorem AnB.other {w w':World}{b0 b M:Nat}{n:Nd}{h:Hd}(hn:NdAt w (AnB b0 b w) M n h)(hk:∀j,j≠b→w'.heap[j]? =w.heap[j]?):NdAt w' (AnB b0 b w') M n h:=hn.map' (fun k _ hs=>⟨hs.1,z5e hs.2 (hk k hs.1.2)⟩) (fun _p _ _ hs hc=>hc.block (hk _ hs.1.2))
theorem AnB.picked {w w':World}{b0 b M R m:Nat}{n:Nd}{h:Hd}(hn:NdAt w (AnB b0 b w) M n h)(hp:z0h w R m w')(hR:R≤b0):NdAt w' (AnB b0 b w') M n h:=hn.map' (fun k hk hs=>⟨hs.1,z5e hs.2 (hp.2.block k hk (by have:=hs.1.1; omega))⟩) (fun p _ _ hs hc=>hc.block (hp.2.block _ hc.lt (by have:=hs.1.1; omega)))
def AnS (b b0 R M T k:Nat)(w w':World):Prop :=
 ∃(n:Nd) (h:Hd),w'.heap[b]? =some (.cells #[.int .i64 n.kind,.string n.data,.slice h.A n.ptrs.length h.a,.int .i64 n.size,.int .i64 n.count,.slice h.B n.items.length h.b] nodeT (0,0))∧w'.heap[b0]? =some (.cells #[.int .i64 0,.string { data:= #[] },.slice none 0 0,.int .i64 0,.int .i64 0,.slice none 0 0] nodeT (0,0))∧NdAt w' (AnB b0 b w') M n h∧TB M n T∧z0h w R k w'
theorem AnS.pick {b b0 R M T k m:Nat}{w w1 w2:World}(h:AnS b b0 R M T k w w1)(hp:z0h w1 R m w2)(hR:R<w.heap.size)(h0:w.heap.size≤b0)(hb:b0<b):AnS b b0 R M T m w w2:=by
 obtain ⟨n,h,hx,hz,hn,ht,hk⟩:=h;exact ⟨n,h,z0e hx hp (by omega),z0e hz hp (by omega),AnB.picked hn hp (by omega),ht,hk.then hp⟩
theorem AnS.mono {b b0 R M T k M' T' k':Nat}{w w1:World}(h:AnS b b0 R M T k w w1)(hM:M≤M')(hT:T≤T')(hk:k≤k'):AnS b b0 R M' T' k' w w1:=by
 obtain ⟨n,h,hx,hz,hn,ht,hp⟩:=h;exact ⟨n,h,hx,hz,hn.mono hM,ht.mono hn hM hT,hp.mono hk⟩
theorem AnS.put {b b0 R M T k:Nat}{w w1:World}{cs:Array Value}(n:Nd)(h:Hd)(hx:w1.heap[b]? =some (.cells cs nodeT (0,0)))(hs:cs.size=6)(hz:w1.heap[b0]? =some (.cells #[.int .i64 0,.string { data:= #[] },.slice none 0 0,.int .i64 0,.int .i64 0,.slice none 0 0] nodeT (0,0)))(hn:NdAt w1 (AnB b0 b w1) M n h)(ht:TB M n T)(hp:z0h w R k w1)(hR:R<w.heap.size)(h0:w.heap.size≤b0)(hb:b0<b) :
 ∃wf,((((((w1.setCell ⟨b,0,none⟩ (.int .i64 n.kind)).setCell ⟨b,1,none⟩ (.string n.data)).setCell ⟨b,2,none⟩ (.slice h.A n.ptrs.length h.a)).setCell ⟨b,3,none⟩ (.int .i64 n.size)).setCell ⟨b,4,none⟩ (.int .i64 n.count)).setCell ⟨b,5,none⟩ (.slice h.B n.items.length h.b))=wf∧AnS b b0 R M T k w wf:=by
 obtain ⟨l,rfl⟩:∃l,cs=⟨l⟩:=⟨cs.toList,rfl⟩
 match l,hs with
 | [a0,a1,a2,a3,a4,a5],_ =>
  obtain ⟨wf,hwf,hrw,hpw,huw⟩:=z4v hx hp hR (by omega) (.int .i64 n.kind) (.string n.data) (.slice h.A n.ptrs.length h.a) (.int .i64 n.size) (.int .i64 n.count) (.slice h.B n.items.length h.b)
  have hk:∀j,j≠b→wf.heap[j]? =w1.heap[j]? :=by
   intro j hj
   rw[← hwf]
   simp[World.setCell,Array.getElem?_modify,Ne.symm hj]
  exact ⟨wf,hwf,n,h,hrw,(hk b0 (by omega)).trans hz,AnB.other hn hk,ht,hpw⟩
theorem AnS.set {b b0 R M T k:Nat}{w w1:World}{n:Nd}{h:Hd}(n':Nd)(i:Nat)(u:Value)(hx:w1.heap[b]? =some (.cells #[.int .i64 n.kind,.string n.data,.slice h.A n.ptrs.length h.a,.int .i64 n.size,.int .i64 n.count,.slice h.B n.items.length h.b] nodeT (0,0)))(hz:w1.heap[b0]? =some (.cells #[.int .i64 0,.string { data:= #[] },.slice none 0 0,.int .i64 0,.int .i64 0,.slice none 0 0] nodeT (0,0)))(hn:NdAt w1 (AnB b0 b w1) M n h)(hp:z0h w R k w1)(hR:R<w.heap.size)(h0:w.heap.size≤b0)(hb:b0<b)
 (hs:(#[.int .i64 n.kind,.string n.data,.slice h.A n.ptrs.length h.a,.int .i64 n.size,.int .i64 n.count,.slice h.B n.items.length h.b]).setIfInBounds i u= #[.int .i64 n'.kind,.string n'.data,.slice h.A n'.ptrs.length h.a,.int .i64 n'.size,.int .i64 n'.count,.slice h.B n'.items.length h.b]) (h1:n'.ptrs=n.ptrs) (h2:n'.items=n.items) (h3:n'.data.size≤maxLen) (h4:TB M n' T):AnS b b0 R M T k w (w1.setCell ⟨b,i,none⟩ u):=by
 have hk:∀j,j≠b→(w1.setCell ⟨b,i,none⟩ u).heap[j]? =w1.heap[j]? :=by
  intro j hj
  simp[World.setCell,Array.getElem?_modify,Ne.symm hj]
 refine ⟨n',h,by rw[← hs]; exact z08 hx i u,(hk b0 (by omega)).trans hz,?_,h4,z0o hp hR (by omega) i u⟩;have:=AnB.other hn hk;exact ⟨h3,h1 ▸ this.2.1,h2 ▸ this.2.2⟩
theorem AnS.fin {b b0 R M T k:Nat}{w w1:World}{n:Nd}{h:Hd}(hz:w1.heap[b0]? =some (.cells #[.int .i64 0,.string { data:= #[] },.slice none 0 0,.int .i64 0,.int .i64 0,.slice none 0 0] nodeT (0,0)))(hn:NdAt w1 (AnB b0 b w1) M n h)(ht:TB M n T)(hp:z0h w R k w1)(hR:R<w.heap.size)(h0:w.heap.size=b0) :
 ∃wf,((((((w1.setCell ⟨b0,0,none⟩ (.int .i64 n.kind)).setCell ⟨b0,1,none⟩ (.string n.data)).setCell ⟨b0,2,none⟩ (.slice h.A n.ptrs.length h.a)).setCell ⟨b0,3,none⟩ (.int .i64 n.size)).setCell ⟨b0,4,none⟩ (.int .i64 n.count)).setCell ⟨b0,5,none⟩ (.slice h.B n.items.length h.b))=wf∧wf.heap[b0]? =some (.cells #[.int .i64 n.kind,.string n.data,.slice h.A n.ptrs.length h.a,.int .i64 n.size,.int .i64 n.count,.slice h.B n.items.length h.b] nodeT (0,0))∧NdP M T R k w (.returned (.agg #[.int .i64 n.kind,.string n.data,.slice h.A n.ptrs.length h.a,.int .i64 n.size,.int .i64 n.count,.slice h.B n.items.length h.b])) wf:=by
 obtain ⟨wf,hwf,hrw,hpw,huw⟩:=z4v hz hp hR (by omega) (.int .i64 n.kind) (.string n.data) (.slice h.A n.ptrs.length h.a) (.int .i64 n.size) (.int .i64 n.count) (.slice h.B n.items.length h.b);refine ⟨wf,hwf,hrw,n,h,rfl,?_,ht,hpw⟩;have h1:NdAt w1 (FromC w1 (b0+1)) M n h:=hn.weak (fun _ hk=>⟨hk.1.1,hk.2⟩);exact (h1.uponC huw).fromC (by omega)
theorem AnS.put' {b b0 R M T k:Nat}{w w1:World}{a0 a1 a2 a3 a4 a5:Value}(n:Nd)(h:Hd)(v0 v1 v2 v3 v4 v5:Value)(hv:(#[v0,v1,v2,v3,v4,v5]:Array Value)= #[.int .i64 n.kind,.string n.data,.slice h.A n.ptrs.length h.a,.int .i64 n.size,.int .i64 n.count,.slice h.B n.items.length h.b])(hx:w1.heap[b]? =some (.cells #[a0,a1,a2,a3,a4,a5] nodeT (0,0)))(hz:w1.heap[b0]? =some (.cells #[.int .i64 0,.string { data:= #[] },.slice none 0 0,.int .i64 0,.int .i64 0,.slice none 0 0] nodeT (0,0)))(hn:NdAt w1 (AnB b0 b w1) M n h)(ht:TB M n T)(hp:z0h w R k w1)(hR:R<w.heap.size)(h0:w.heap.size≤b0)(hb:b0<b) :
 AnS b b0 R M T k w ((((((w1.setCell ⟨b,0,none⟩ v0).setCell ⟨b,1,none⟩ v1).setCell ⟨b,2,none⟩ v2).setCell ⟨b,3,none⟩ v3).setCell ⟨b,4,none⟩ v4).setCell ⟨b,5,none⟩ v5):=by
 obtain ⟨wf,hwf,hrw,hpw,huw⟩:=z4v hx hp hR (by omega) v0 v1 v2 v3 v4 v5;rw[hwf]
 have hk:∀j,j≠b→wf.heap[j]? =w1.heap[j]? :=by
  intro j hj
  rw[← hwf]
  simp[World.setCell,Array.getElem?_modify,Ne.symm hj]
 exact ⟨n,h,hv ▸ hrw,(hk b0 (by omega)).trans hz,AnB.other hn hk,ht,hpw⟩
theorem AnS.putE {b b0 R M T k:Nat}{w w1:World}{a0 a1 a2 a3 a4 a5:Value}(n:Nd)(h:Hd)(v0 v1 v2 v3 v4 v5:Value)(hv:(#[v0,v1,v2,v3,v4,v5]:Array Value)= #[.int .i64 n.kind,.string n.data,.slice h.A n.ptrs.length h.a,.int .i64 n.size,.int .i64 n.count,.slice h.B n.items.length h.b])(hx:w1.heap[b]? =some (.cells #[a0,a1,a2,a3,a4,a5] nodeT (0,0)))(hz:w1.heap[b0]? =some (.cells #[.int .i64 0,.string { data:= #[] },.slice none 0 0,.int .i64 0,.int .i64 0,.slice none 0 0] nodeT (0,0)))(hn:NdAt w1 (AnB b0 b w1) M n h)(ht:TB M n T)(hp:z0h w R k w1)(hR:R<w.heap.size)(h0:w.heap.size≤b0)(hb:b0<b) :
 ∃wq,((((((w1.setCell ⟨b,0,none⟩ v0).setCell ⟨b,1,none⟩ v1).setCell ⟨b,2,none⟩ v2).setCell ⟨b,3,none⟩ v3).setCell ⟨b,4,none⟩ v4).setCell ⟨b,5,none⟩ v5)=wq∧AnS b b0 R M T k w wq:=⟨_,rfl,AnS.put' n h v0 v1 v2 v3 v4 v5 hv hx hz hn ht hp hR h0 hb⟩
theorem z9n {b b0 R M k m:Nat}{w w1 w2 w3:World}{n:Nd}{h:Hd}(hx:w1.heap[b]? =some (.cells #[.int .i64 n.kind,.string n.data,.slice h.A n.ptrs.length h.a,.int .i64 n.size,.int .i64 n.count,.slice h.B n.items.length h.b] nodeT (0,0)))(hz:w1.heap[b0]? =some (.cells #[.int .i64 0,.string { data:= #[] },.slice none 0 0,.int .i64 0,.int .i64 0,.slice none 0 0] nodeT (0,0)))(hn:NdAt w1 (AnB b0 b w1) M n h)(hp:z0h w R k w1)(hbl:Below w1.heap.size w1 w2)(hp3:z0h w2 R m w3)(hR:R<w.heap.size)(h0:w.heap.size≤b0)(hb:b0<b) :
 w3.heap[b]? =some (.cells #[.int .i64 n.kind,.string n.data,.slice h.A n.ptrs.length h.a,.int .i64 n.size,.int .i64 n.count,.slice h.B n.items.length h.b] nodeT (0,0))∧w3.heap[b0]? =some (.cells #[.int .i64 0,.string { data:= #[] },.slice none 0 0,.int .i64 0,.int .i64 0,.slice none 0 0] nodeT (0,0))∧NdAt w3 (AnB b0 b w3) M n h∧z0h w R m w3 :=
 ⟨z0e ((hbl.block _ (z00 hx)).trans hx) hp3 (by omega),z0e ((hbl.block _ (z00 hz)).trans hz) hp3 (by omega),AnB.picked (AnB.low hn hbl) hp3 (by omega),(hp.below hbl).then hp3⟩
theorem z79 (w:World):Below w.heap.size w w.drew:=⟨rfl,rfl,rfl,Nat.le_refl _,fun _ _=>rfl⟩
theorem zqs {w:World}{R n:Nat}(h:Rd w R n)(o:Obj):Rd (w.drew.alloc o) R n:=(h.below (z79 w)).below ((Below.refl _ _).alloc (Nat.le_refl _) _)
theorem zam (R n0:Nat)(w:World)(h:Rd w R n0)(hn:n0≤100000) :
 Calls Tryz.prog 30 #[.pointer (some ⟨R,0,none⟩)] w (NdP 18 300000 R (n0+13000) w):=by
 have hRw:=h.lt;go_enter Tryz.func30,Tryz.ntmps30
 go_wp2_with fail
 have HQ0:=hid (h.self.below ((Below.refl w.heap.size w).alloc (Nat.le_refl _) (.cells #[.int .i64 0,.string { data:= #[] },.slice none 0 0,.int .i64 0,.int .i64 0,.slice none 0 0] nodeT)));have HR0:=hid (heap_alloc_new w (.cells #[.int .i64 0,.string { data:= #[] },.slice none 0 0,.int .i64 0,.int .i64 0,.slice none 0 0] nodeT));clear h
 refine (zc1 R n0 (w.heap.size+1) 5 5 (fun z=>1≤z∧z≤4) _ _ (by exact HQ0.out.1.below ((Below.refl _ _).alloc (Nat.le_refl _) _)) (by omega) (by exact Lits.newN _ _ _ _ (by simp)) (by
  intro v hv
  simp at hv
  rcases hv with rfl | rfl | rfl | rfl | rfl
  all_goals exact ⟨_,rfl,by omega⟩) (by omega) (by simp) (by omega) (by omega)).mono ?_
 rintro e w1 ⟨x,⟨hx0,hx1⟩,rfl,hp1⟩;have HQ1:=hid ((HQ0.out.below ((Below.refl _ _).alloc (Nat.le_refl _) _)).then hp1);have HR1:=hid (z0e (z05 HR0.out _) hp1 (by omega));clear hp1;obtain ⟨d,rfl⟩:=Int.eq_ofNat_of_zero_le (show 0≤x by omega)
 have hd4:d≤4:=by omega
 obtain ⟨hdk,hdt⟩:=dKT d hd4;have HC:=hid (zcc d hd4 R (n0+1) w1 HQ1.out.1 (by omega));unfold NdP at HC;clear hx0 hx1
 go_wp2_with fail
 refine HC.out.mono ?_;rintro e w2 ⟨y,hy,rfl,hny,hty,hp2⟩
 have hb2:w.heap.size<w2.heap.size:=by have:=z00 HR1.out; have:=hp2.2.size; omega
 have hs1:w.heap.size<w1.heap.size:=z00 HR1.out;obtain ⟨i0,hi,hz0,hz1,hz2⟩:=info_parts z63
 have HA2:Hid (AnS w2.heap.size w.heap.size R 8 259259 (n0+1+dK d) w (w2.alloc (.cells #[.int .i64 y.kind,.string y.data,.slice hy.A y.ptrs.length hy.a,.int .i64 y.size,.int .i64 y.count,.slice hy.B y.items.length hy.b] nodeT))):=by
  have hbl:=(Below.refl w2.heap.size w2).alloc (Nat.le_refl _) (.cells #[.int .i64 y.kind,.string y.data,.slice hy.A y.ptrs.length hy.a,.int .i64 y.size,.int .i64 y.count,.slice hy.B y.items.length hy.b] nodeT);have hn8:NdAt w2 (FromC w2 w1.heap.size) 8 y hy:=hny.mono (by omega);refine hid ⟨y,hy,heap_alloc_new w2 _,z05 (z0e HR1.out hp2 (by omega)) _,?_,hty.mono hny (by omega) (by omega),(HQ1.out.then hp2).below hbl⟩;exact hn8.map' (fun k h1 h2=>⟨⟨by have:=h2.1; omega,by omega⟩,z6i h2.2 hbl⟩) (fun p n h hs hc=>z0u hbl p n h hc)
 clear hny hty hp2 HC HR1 HQ1 HR0 HQ0
 go_wp2_with fail
 obtain ⟨_,_,_,_,_,_,hpq⟩:=id HA2.out;refine (z17 R (n0+1+dK d) _ _ hpq.1 (by omega)).mono ?_;rintro e w3 ⟨p,⟨hp0,hp1⟩,rfl,hp3⟩;have HA3:=hid ((HA2.out.pick hp3 hRw (Nat.le_refl _) hb2).mono (show 8≤8 by omega) (Nat.le_refl _) (show n0+1+dK d+1≤n0+12952 by omega))
 have hb3:w2.heap.size<w3.heap.size:=by have:=hp3.2.size; simp at this; omega
 clear hpq hp3 HA2;generalize w2.heap.size=b at *;have c_step:True:=trivial
 by_cases p0:p=0
 · subst p0
   obtain ⟨y,hy,hx,hzz,hny,hty,hpk⟩:=HA3.out;obtain ⟨c0,c1,c2,c3,c4,c5⟩:=z01 hx;have cf:=z02 hx
   go_wp2_with fail
   refine (z17 R (n0+12952) _ _ hpk.1 (by omega)).mono ?_;rintro e w4 ⟨v,⟨hv0,hv1⟩,rfl,hp4⟩;have HA4:=hid (HA3.out.pick hp4 hRw (Nat.le_refl _) hb2);clear c0 c1 c2 c3 c4 c5 cf hx hzz hny hty hpk HA3 hp4;obtain ⟨y,hy,hx,hzz,hny,hty,hpk⟩:=HA4.out;have HA5:=hid (AnS.set (Nd.mk v y.data y.ptrs y.size y.count y.items) 0 (.int .i64 v) hx hzz hny hpk hRw (Nat.le_refl _) hb2 rfl rfl rfl hny.1 (show TB 8 (Nd.mk v y.data y.ptrs y.size y.count y.items) 259259 from ⟨hty.1,SB.small (hty.2.1 (Nat.le_refl _)) hty.2.2.2⟩));have cf:=z02 hx;obtain ⟨c0,c1,c2,c3,c4,c5⟩:=z01 hx;have HA6:=hid (HA5.out.mono (show 8≤18 by omega) (show 259259≤300000 by omega) (show n0+12952+1≤n0+13000 by omega));clear hx hzz hny hty hpk HA4 HA5;obtain ⟨u,hu,ux,uz,un,ut,up⟩:=HA6.out;obtain ⟨x0,x1,x2,x3,x4,x5⟩:=z01 ux;obtain ⟨z0,z1,z2,z3,z4,z5⟩:=z01 uz;have zf:=z02 uz
   go_wp2_with fail
   obtain ⟨wf,hwf,hrw,hfin⟩:=AnS.fin uz un ut up hRw rfl;rw[hwf];obtain ⟨e0,e1,e2,e3,e4,e5⟩:=z01 hrw;exact bodyPost_ret (v:= .agg #[.int .i64 u.kind,.string u.data,.slice hu.A u.ptrs.length hu.a,.int .i64 u.size,.int .i64 u.count,.slice hu.B u.items.length hu.b]) (by simp[results,Tryz.results30,go_sem,e0,e1,e2,e3,e4,e5]) rfl hfin
 by_cases p1:p=1
 · subst p1
   obtain ⟨y,hy,hx,hzz,hny,hty,hpk⟩:=HA3.out;obtain ⟨c0,c1,c2,c3,c4,c5⟩:=z01 hx;have cf:=z02 hx
   have hds:y.data.size≤259259:=by have:=hty.1; unfold totN at this; omega
   have hHX:=hid hx;have HNY:=hid (And.intro hny (And.intro hpk hzz));clear hx hny hpk hzz HA3
   go_wp2_with fail
   have hdr:(w3.drew).heap.size=w3.heap.size:=rfl
   have hlit:∀v∈([.string ⟨#[120]⟩,.string ⟨(repL (⟨#[0]⟩:ByteArray).data.toList (Int.toNat 8)).toArray⟩]:List Value),∃x,v= .string x∧x.size≤8:=by
    intro v hv
    simp only[List.mem_cons,List.not_mem_nil,or_false] at hv
    rcases hv with rfl | rfl
    · exact ⟨_,rfl,by decide⟩
    · exact ⟨_,rfl,by rw[rep8]; decide⟩
   go_region_with (first | (go_at_call 68; go_must (refine (z3g ⟨#[0]⟩ 8 _ (by decide) (by decide) (by decide) (by decide)).mono ?_); rintro e w5 ⟨rfl,rfl⟩) | (go_at_call 67; go_must (refine (zqg R (n0+12952) w3.heap.size 2 2 (fun z=>z.size≤8) _ _ (by exact zqs HNY.out.2.1.1 _) (by omega) (by exact Lits.newN _ _ _ _ rfl) (by exact hlit) (by have:=z00 HNY.out.2.2; omega) (by simp) (by omega) (by omega)).mono ?_); rintro e w4 ⟨v,hv8,rfl,hp4⟩; have hf4:=z9n hHX.out HNY.out.2.2 HNY.out.1 HNY.out.2.1 ((z79 w3).alloc (Nat.le_refl _) _) hp4 hRw (Nat.le_refl _) hb2; have HF4:=hid hf4; obtain ⟨q0,q1,q2,q3,q4,q5⟩:=z01 hf4.1; have qf:=z02 hf4.1; clear hf4; have f1:¬9223372036854775807<y.data.size+v.size:=by omega))
   all_goals
    have HA5:=hid (AnS.set (Nd.mk y.kind (y.data++v) y.ptrs y.size y.count y.items) 1 (.string (y.data++v)) HF4.out.1 HF4.out.2.1 HF4.out.2.2.1 HF4.out.2.2.2 hRw (Nat.le_refl _) hb2 rfl rfl rfl (by show (y.data++v).size≤maxLen; rw[z1g]; unfold maxLen; omega) (show TB 8 (Nd.mk y.kind (y.data++v) y.ptrs y.size y.count y.items) 259267 from ⟨by have:=hty.1; unfold totN at this ⊢; show (y.data++v).size+totL 8 y.ptrs+totL 8 y.items≤_; rw[z1g]; omega,fun h=>absurd h (by decide),fun _=>by show (y.data++v).size≤1592; rw[z1g]; have:=hty.2.1 (Nat.le_refl _); omega,hty.2.2.2⟩));have HA6:=hid (HA5.out.mono (show 8≤18 by omega) (show 259267≤300000 by omega) (show n0+12952+1≤n0+13000 by omega));clear HA5 hp4;obtain ⟨u,hu,ux,uz,un,ut,up⟩:=HA6.out;obtain ⟨x0,x1,x2,x3,x4,x5⟩:=z01 ux;obtain ⟨z0,z1,z2,z3,z4,z5⟩:=z01 uz;have zf:=z02 uz
    go_wp2_with fail
    obtain ⟨wf,hwf,hrw,hfin⟩:=AnS.fin uz un ut up hRw rfl;rw[hwf];obtain ⟨e0,e1,e2,e3,e4,e5⟩:=z01 hrw;exact bodyPost_ret (v:= .agg #[.int .i64 u.kind,.string u.data,.slice hu.A u.ptrs.length hu.a,.int .i64 u.size,.int .i64 u.count,.slice hu.B u.items.length hu.b]) (by simp[results,Tryz.results30,go_sem,e0,e1,e2,e3,e4,e5]) rfl hfin
 by_cases p2:p=2
 · subst p2
   obtain ⟨y,hy,hx,hzz,hny,hty,hpk⟩:=HA3.out;obtain ⟨c0,c1,c2,c3,c4,c5⟩:=z01 hx;have cf:=z02 hx;have hHX:=hid hx;have HNY:=hid (And.intro hny (And.intro hpk hzz));clear hx hny hpk hzz HA3
   go_wp2_with fail
   have hdr:(w3.drew).heap.size=w3.heap.size:=rfl
   go_region_with (go_at_call 31; go_must (refine (zc1 R (n0+12952) w3.heap.size 2 2 (fun z=> -1≤z∧z≤1) _ _ (by exact zqs HNY.out.2.1.1 _) (by omega) (by exact Lits.newN _ _ _ _ rfl) (by
    intro v hv
    simp at hv
    rcases hv with rfl | rfl
    all_goals exact ⟨_,rfl,by omega⟩) (by have:=z00 HNY.out.2.2; omega) (by simp) (by omega) (by omega)).mono ?_); rintro e w4 ⟨v,⟨hv0,hv1⟩,rfl,hp4⟩; have hf4:=z9n hHX.out HNY.out.2.2 HNY.out.1 HNY.out.2.1 ((z79 w3).alloc (Nat.le_refl _) _) hp4 hRw (Nat.le_refl _) hb2; have HF4:=hid hf4; obtain ⟨q0,q1,q2,q3,q4,q5⟩:=z01 hf4.1; have qf:=z02 hf4.1; clear hf4)
   all_goals
    generalize IntKind.i64.wrap (y.count+v)=cv at *;have HA5:=hid (AnS.set (Nd.mk y.kind y.data y.ptrs y.size cv y.items) 4 (.int .i64 cv) HF4.out.1 HF4.out.2.1 HF4.out.2.2.1 HF4.out.2.2.2 hRw (Nat.le_refl _) hb2 rfl rfl rfl HF4.out.2.2.1.1 (show TB 8 (Nd.mk y.kind y.data y.ptrs y.size cv y.items) 259259 from ⟨hty.1,SB.small (hty.2.1 (Nat.le_refl _)) hty.2.2.2⟩));have HA6:=hid (HA5.out.mono (show 8≤18 by omega) (show 259259≤300000 by omega) (show n0+12952+1≤n0+13000 by omega));clear HA5 hp4;obtain ⟨u,hu,ux,uz,un,ut,up⟩:=HA6.out;obtain ⟨x0,x1,x2,x3,x4,x5⟩:=z01 ux;obtain ⟨z0,z1,z2,z3,z4,z5⟩:=z01 uz;have zf:=z02 uz
    go_wp2_with fail
    obtain ⟨wf,hwf,hrw,hfin⟩:=AnS.fin uz un ut up hRw rfl;rw[hwf];obtain ⟨e0,e1,e2,e3,e4,e5⟩:=z01 hrw;exact bodyPost_ret (v:= .agg #[.int .i64 u.kind,.string u.data,.slice hu.A u.ptrs.length hu.a,.int .i64 u.size,.int .i64 u.count,.slice hu.B u.items.length hu.b]) (by simp[results,Tryz.results30,go_sem,e0,e1,e2,e3,e4,e5]) rfl hfin
 by_cases p4:p=4
 · subst p4
   obtain ⟨y,hy,hx,hzz,hny,hty,hpk⟩:=HA3.out
   go_wp2_with fail
   refine (z17 R (n0+12952) _ _ hpk.1 (by omega)).mono ?_;rintro e w4 ⟨v,⟨hv0,hv1⟩,rfl,hp4⟩;have HF4:=hid (z9n hx hzz hny hpk (Below.refl _ _) hp4 hRw (Nat.le_refl _) hb2);clear hx hzz hny hpk HA3 hp4
   have hv3:v≤3:=by omega
   have hw:IntKind.i64.wrap (8*IntKind.i64.wrap (197+v))=8*(197+v):=by rw[IntKind.wrap_i64,IntKind.wrap_i64]; omega
   go_wp2_with fail
   have hone:(⟨#[1]⟩:ByteArray).size=1∧(⟨#[1]⟩:ByteArray).data.toList.length=1∧(⟨#[1]⟩:ByteArray).size≤10000000:=⟨rfl,rfl,by decide⟩
   refine (z3g ⟨#[1]⟩ (8*(197+v)) _ (by omega) (by omega) hone.2.2 (by rw[hone.1,Nat.one_mul]; omega)).mono ?_;rintro e w5 ⟨rfl,rfl⟩
   have hrs:(⟨(repL (⟨#[1]⟩:ByteArray).data.toList (8*(197+v)).toNat).toArray⟩:ByteArray).size≤1600:=by rw[rep8,hone.2.1,Nat.one_mul]; omega
   generalize (⟨(repL (⟨#[1]⟩:ByteArray).data.toList (8*(197+v)).toNat).toArray⟩:ByteArray)=rp at *;have cf:=z02 HF4.out.1
   obtain ⟨wq,hwq,ha6⟩:=(AnS.putE (M:=18) (T:=300000) (Nd.mk 1 rp [] 0 0 []) ⟨none,0,none,0⟩ (.int .i64 1) (.string rp) (.slice none 0 0) (.int .i64 0) (.int .i64 0) (.slice none 0 0) rfl HF4.out.1 HF4.out.2.1 ⟨by show rp.size≤maxLen; unfold maxLen; omega,NdsAt.nil _ _ _ _,NdsAt.nil _ _ _ _⟩ ⟨by show rp.size+0+0≤300000; omega,fun h=>absurd h (by decide),fun h=>absurd (show (1:Int)=2 from h) (by decide),show (0:Nat)≤1000 by decide⟩ (HF4.out.2.2.2.mono (show n0+12952+1≤n0+13000 by omega)) hRw (Nat.le_refl _) hb2)
   obtain ⟨c0,c1,c2,c3,c4,c5⟩:=z01 HF4.out.1;have HA6:=hid ha6;clear ha6;obtain ⟨u,hu,ux,uz,un,ut,up⟩:=HA6.out;obtain ⟨x0,x1,x2,x3,x4,x5⟩:=z01 ux;obtain ⟨z0,z1,z2,z3,z4,z5⟩:=z01 uz;have zf:=z02 uz
   go_wp2_with fail
   obtain ⟨wf,hwf,hrw,hfin⟩:=AnS.fin uz un ut up hRw rfl;rw[hwf];obtain ⟨e0,e1,e2,e3,e4,e5⟩:=z01 hrw;exact bodyPost_ret (v:= .agg #[.int .i64 u.kind,.string u.data,.slice hu.A u.ptrs.length hu.a,.int .i64 u.size,.int .i64 u.count,.slice hu.B u.items.length hu.b]) (by simp[results,Tryz.results30,go_sem,e0,e1,e2,e3,e4,e5]) rfl hfin
 by_cases p5:p=5
 · subst p5
   obtain ⟨y,hy,hx,hzz,hny,hty,hpk⟩:=HA3.out
   go_wp2_with fail
   refine (zc1 R (n0+12952) w3.heap.size 3 3 (fun z=>999≤z∧z≤1001) _ _ (by exact hpk.1.below ((Below.refl _ _).alloc (Nat.le_refl _) _)) (by omega) (by exact Lits.newN _ _ _ _ rfl) (by
    intro v hv
    simp at hv
    rcases hv with rfl | rfl | rfl
    all_goals exact ⟨_,rfl,by omega⟩) (by omega) (by simp) (by omega) (by omega)).mono ?_
   rintro e w4 ⟨v,⟨hv0,hv1⟩,rfl,hp4⟩;have HF4:=hid (z9n hx hzz hny hpk ((Below.refl _ _).alloc (Nat.le_refl _) _) hp4 hRw (Nat.le_refl _) hb2);clear hx hzz hny hpk HA3 hp4;have cf:=z02 HF4.out.1
   obtain ⟨wq,hwq,ha6⟩:=(AnS.putE (M:=18) (T:=300000) (Nd.mk 2 ⟨#[]⟩ [] 0 v []) ⟨none,0,none,0⟩ (.int .i64 2) (.string ⟨#[]⟩) (.slice none 0 0) (.int .i64 0) (.int .i64 v) (.slice none 0 0) rfl HF4.out.1 HF4.out.2.1 ⟨show (0:Nat)≤maxLen by decide,NdsAt.nil _ _ _ _,NdsAt.nil _ _ _ _⟩ ⟨by show 0+0+0≤300000; omega,SB.small (show (0:Nat)≤1100 by decide) (show (0:Nat)≤1000 by decide)⟩ (HF4.out.2.2.2.mono (show n0+12952+1≤n0+13000 by omega)) hRw (Nat.le_refl _) hb2)
   obtain ⟨c0,c1,c2,c3,c4,c5⟩:=z01 HF4.out.1;have HA6:=hid ha6;clear ha6;obtain ⟨u,hu,ux,uz,un,ut,up⟩:=HA6.out;obtain ⟨x0,x1,x2,x3,x4,x5⟩:=z01 ux;obtain ⟨z0,z1,z2,z3,z4,z5⟩:=z01 uz;have zf:=z02 uz
   go_wp2_with fail
   obtain ⟨wf,hwf,hrw,hfin⟩:=AnS.fin uz un ut up hRw rfl;rw[hwf];obtain ⟨e0,e1,e2,e3,e4,e5⟩:=z01 hrw;exact bodyPost_ret (v:= .agg #[.int .i64 u.kind,.string u.data,.slice hu.A u.ptrs.length hu.a,.int .i64 u.size,.int .i64 u.count,.slice hu.B u.items.length hu.b]) (by simp[results,Tryz.results30,go_sem,e0,e1,e2,e3,e4,e5]) rfl hfin
 by_cases p3:p=3
 · subst p3
   have HA3':=hid HA3.out
   go_wp2_with fail
   go_loopw [4] (fun i wr=>∃k:Nat,i= .int .i64 k∧k≤9∧Hid (AnS b w.heap.size R (8+k) (259259+k) (n0+12952+k) w wr)∧b<wr.heap.size) (fun i _=>9-(intOf i).toNat)
   case atStart=>exact ⟨0,rfl,by omega,HA3,hb3⟩
   case round =>
    obtain ⟨k,rfl,hk,HA,hbr⟩:=hrel;obtain ⟨y,hy,hx,hzz,hny,hty,hpk⟩:=HA.out
    go_wp2_with fail
    refine (z17 R (n0+12952+k) _ _ hpk.1 (by omega)).mono ?_;rintro e w4 ⟨v,⟨hv0,hv1⟩,rfl,hp4⟩;have HF4:=hid (z9n hx hzz hny hpk (Below.refl _ _) hp4 hRw (Nat.le_refl _) hb2)
    have hbr4:b<w4.heap.size:=by have:=hp4.2.size; omega
    clear hx hzz hny hpk hp4 HA;obtain ⟨v,rfl⟩:=Int.eq_ofNat_of_zero_le hv0
    have hv3:v≤3:=by omega
    have hw:IntKind.i64.wrap (6+(v:Int))=6+v:=by rw[IntKind.wrap_i64]; omega
    by_cases hlt:(k:Int)<6+v
    · have hx4:=HF4.out.1
      obtain ⟨c0,c1,c2,c3,c4,c5⟩:=z01 hx4;have cf:=z02 hx4
      go_wp2_with fail
      go_roundw
      case rel =>
       refine ⟨k+1,by go_num,by omega,?_,by simp[World.setCell]; omega⟩;obtain ⟨wf,hwf,hrw,hpw,huw⟩:=z4v hx4 HF4.out.2.2.2 hRw (by omega) (.int .i64 1) (.string ⟨#[]⟩) (.slice (some ⟨w4.heap.size,0,none⟩) 1 1) (.int .i64 0) (.int .i64 0) (.slice none 0 0);rw[hwf]
       have hsz:wf.heap.size=w4.heap.size:=by rw[← hwf]; simp[World.setCell]
       have hkk:∀j,j≠b→wf.heap[j]? =w4.heap[j]? :=by
        intro j hj
        rw[← hwf]
        simp[World.setCell,Array.getElem?_modify,Ne.symm hj]
       have hbl:=(Below.refl wf.heap.size wf).alloc (Nat.le_refl _) (.cells #[.int .i64 y.kind,.string y.data,.slice hy.A y.ptrs.length hy.a,.int .i64 y.size,.int .i64 y.count,.slice hy.B y.items.length hy.b] nodeT);have hn5:=AnB.low (AnB.other HF4.out.2.2.1 hkk) hbl;refine hid ⟨Nd.mk 1 ⟨#[]⟩ [y] 0 0 [],⟨some ⟨w4.heap.size,0,none⟩,1,none,0⟩,z05 hrw _,z05 ((hkk _ (by omega)).trans HF4.out.2.1) _,⟨show (0:Nat)≤maxLen by decide,?_,NdsAt.nil _ _ _ _⟩,?_,(hpw.below hbl).mono (by omega)⟩
       · exact zj0 (m:=8+k) (q:= [(y,hy)]) (hsz ▸ heap_alloc_new wf _) ⟨⟨by omega,by omega⟩,_,_,hsz ▸ heap_alloc_new wf _⟩ (show 1≤maxLen by decide) (fun j u h=>by rw[← h]; simp[rowOf]) (fun r hr=>by obtain rfl:=List.mem_singleton.1 hr; exact hn5)
       · refine ⟨?_,SB.small (show (0:Nat)≤1100 by decide) (show (0:Nat)≤1000 by decide)⟩
         show 0+totL (8+k+1) [y]+totL (8+k+1) []≤_
         rw[z0q,z0q];have:=hty.1
         simp
         omega
      case measure=>simp[intOf]; omega
    · have HA6:=hid (AnS.mono (M':=18) (T':=300000) (k':=n0+13000) ⟨y,hy,HF4.out.1,HF4.out.2.1,HF4.out.2.2.1,hty,HF4.out.2.2.2⟩ (by omega) (by omega) (by omega))
      clear hty HF4;obtain ⟨u,hu,ux,uz,un,ut,up⟩:=HA6.out;obtain ⟨x0,x1,x2,x3,x4,x5⟩:=z01 ux;obtain ⟨z0,z1,z2,z3,z4,z5⟩:=z01 uz;have zf:=z02 uz
      go_wp2_with fail
      obtain ⟨wf,hwf,hrw,hfin⟩:=AnS.fin uz un ut up hRw rfl;rw[hwf];obtain ⟨e0,e1,e2,e3,e4,e5⟩:=z01 hrw;exact bodyPost_ret (v:= .agg #[.int .i64 u.kind,.string u.data,.slice hu.A u.ptrs.length hu.a,.int .i64 u.size,.int .i64 u.count,.slice hu.B u.items.length hu.b]) (by simp[results,Tryz.results30,go_sem,e0,e1,e2,e3,e4,e5]) rfl hfin
 obtain ⟨u,hu,ux,uz,un,ut,up⟩:=(HA3.out.mono (show 8≤18 by omega) (show 259259≤300000 by omega) (show n0+12952≤n0+13000 by omega))
 have b0:(p==0)=false:=by simpa using p0
 have b1:(p==1)=false:=by simpa using p1
 have b2:(p==2)=false:=by simpa using p2
 have b3:(p==3)=false:=by simpa using p3
 have b4:(p==4)=false:=by simpa using p4
 have b5:(p==5)=false:=by simpa using p5
 obtain ⟨u,hu,ux,uz,un,ut,up⟩:=(HA3.out.mono (show 8≤18 by omega) (show 259259≤300000 by omega) (show n0+12952≤n0+13000 by omega))
 obtain ⟨x0,x1,x2,x3,x4,x5⟩:=z01 ux;obtain ⟨z0,z1,z2,z3,z4,z5⟩:=z01 uz;have zf:=z02 uz
 go_wp2_with fail
 obtain ⟨wf,hwf,hrw,hfin⟩:=AnS.fin uz un ut up hRw rfl;rw[hwf];obtain ⟨e0,e1,e2,e3,e4,e5⟩:=z01 hrw;exact bodyPost_ret (v:= .agg #[.int .i64 u.kind,.string u.data,.slice hu.A u.ptrs.length hu.a,.int .i64 u.size,.int .i64 u.count,.slice hu.B u.items.length hu.b]) (by simp[results,Tryz.results30,go_sem,e0,e1,e2,e3,e4,e5]) rfl hfin
end Go.Proofs.YtlbfffokkhccaaaGreatDoor
namespace Go.Proofs.YtlbfffokkhccaaaGreatDoor
open Go.RowKit
theorem zbh {w:World}{a:Option Addr}{len:Nat}(h:Code w w.heap.size a len)(o:Obj):Code (w.alloc o) (w.alloc o).heap.size a len :=
 (h.keeps (R:=w.heap.size) (Keeps.of_below ((Below.refl w.heap.size w).alloc (Nat.le_refl _) o)) (Nat.le_refl _) (Nat.le_refl _)).mono (by simp)
theorem zgx {w w2:World}{n:Nd}{h:Hd}{M:Nat}(hz:w2.heap[w.heap.size]? =some (.cells #[.int .i64 0,.string { data:= #[] },.slice none 0 0,.int .i64 0,.int .i64 0,.slice none 0 0] nodeT (0,0)))(hn:NdAt w2 (From (w.heap.size+1)) M n h)(hb:Below w.heap.size w w2) :
 ∃wf,((((((w2.setCell ⟨w.heap.size,0,none⟩ (.int .i64 n.kind)).setCell ⟨w.heap.size,1,none⟩ (.string n.data)).setCell ⟨w.heap.size,2,none⟩ (.slice h.A n.ptrs.length h.a)).setCell ⟨w.heap.size,3,none⟩ (.int .i64 n.size)).setCell ⟨w.heap.size,4,none⟩ (.int .i64 n.count)).setCell ⟨w.heap.size,5,none⟩ (.slice h.B n.items.length h.b))=wf∧wf.heap[w.heap.size]? =some (.cells #[.int .i64 n.kind,.string n.data,.slice h.A n.ptrs.length h.a,.int .i64 n.size,.int .i64 n.count,.slice h.B n.items.length h.b] nodeT (0,0))∧NdAt wf (From w.heap.size) M n h∧Below w.heap.size w wf:=by
 have hu:Upon (w.heap.size+1) w2 ((((((w2.setCell ⟨w.heap.size,0,none⟩ (.int .i64 n.kind)).setCell ⟨w.heap.size,1,none⟩ (.string n.data)).setCell ⟨w.heap.size,2,none⟩ (.slice h.A n.ptrs.length h.a)).setCell ⟨w.heap.size,3,none⟩ (.int .i64 n.size)).setCell ⟨w.heap.size,4,none⟩ (.int .i64 n.count)).setCell ⟨w.heap.size,5,none⟩ (.slice h.B n.items.length h.b)) :=
  ((((((Upon.refl _ w2).setCell (p:=⟨w.heap.size,0,none⟩) (by simp) _).setCell (p:=⟨w.heap.size,1,none⟩) (by simp) _).setCell (p:=⟨w.heap.size,2,none⟩) (by simp) _).setCell (p:=⟨w.heap.size,3,none⟩) (by simp) _).setCell (p:=⟨w.heap.size,4,none⟩) (by simp) _).setCell (p:=⟨w.heap.size,5,none⟩) (by simp) _
 have hk:∀(W:World) (i:Nat) (v:Value),Below w.heap.size w W→Below w.heap.size w (W.setCell ⟨w.heap.size,i,none⟩ v):=fun W i v hW=>hW.setCell (p:=⟨w.heap.size,i,none⟩) (Nat.le_refl _) v
 exact ⟨_,rfl,z08 (z08 (z08 (z08 (z08 (z08 hz 0 _) 1 _) 2 _) 3 _) 4 _) 5 _,(hn.upon hu).from_ (by omega),hk _ _ _ (hk _ _ _ (hk _ _ _ (hk _ _ _ (hk _ _ _ (hk _ _ _ hb)))))⟩
def zqi (w:World)(e:Ending)(w':World):Prop:=∃(n:Nd) (h:Hd) (z:Int),e= .returned (.tuple #[.agg #[.int .i64 n.kind,.string n.data,.slice h.A n.ptrs.length h.a,.int .i64 n.size,.int .i64 n.count,.slice h.B n.items.length h.b],.int .i64 z])∧(0≤z∧z≤201)∧NdAt w' (From w.heap.size) 18 n h∧totN 18 n≤300000∧Below w.heap.size w w'
theorem zd3 (a:Option Addr)(len cap:Nat)(w:World)(h:Arg w a len cap) :
 Calls Tryz.prog 9 #[.slice a len cap] w (zqi w):=by
 go_enter Tryz.func9,Tryz.ntmps9
 go_wp2_with fail
 refine (zj2 a len cap _ (zbh h.1 _) h.2.1 h.2.2).mono ?_;rintro e w1 ⟨R,rfl,hR,hrd,hb1⟩;have hz1:=(hb1.block w.heap.size (by simp)).trans (heap_alloc_new w (.cells #[.int .i64 0,.string { data:= #[] },.slice none 0 0,.int .i64 0,.int .i64 0,.slice none 0 0] nodeT))
 go_wp2_with fail
 refine (zam R 0 _ hrd (by omega)).mono ?_;rintro e w2 ⟨n,hh,rfl,hn,ht,hp2⟩
 have hR':w.heap.size+1≤R:=by simpa using hR
 have hs1:w.heap.size+1≤w1.heap.size:=by simpa using hb1.size
 have hb0:Below w.heap.size w w1:=((Below.refl w.heap.size w).alloc (Nat.le_refl _) (.cells #[.int .i64 0,.string { data:= #[] },.slice none 0 0,.int .i64 0,.int .i64 0,.slice none 0 0] nodeT)).trans (hb1.mono (by simp))
 go_wp2_with fail
 refine (zc1 R (0+13000) w2.heap.size 9 9 (fun z=>0≤z∧z≤201) _ _ (by exact hp2.1.below ((Below.refl _ _).alloc (Nat.le_refl _) _)) (by omega) (by exact Lits.new _ _ _ _) (by
  intro v hv
  simp at hv
  rcases hv with rfl | rfl | rfl | rfl | rfl | rfl | rfl | rfl | rfl
  all_goals exact ⟨_,rfl,by omega⟩) (by have:=hp2.1.lt; omega) (by simp) (by omega) (by omega)).mono ?_
 rintro e w3 ⟨zz,⟨zz0,zz1⟩,rfl,hp3⟩;have hRl:=hrd.lt;have hbA:=(Below.refl w2.heap.size w2).alloc (Nat.le_refl _) (.cells #[.int .i64 1,.int .i64 2,.int .i64 4,.int .i64 8,.int .i64 12,.int .i64 20,.int .i64 200,.int .i64 0,.int .i64 201] 3);have hn:=hn.picked (z0h.from hbA hp3) (by omega)
 have hp2:=(hp2.below hbA).then hp3
 have hb2:=zf2 (by omega) hb0 hp2;have hz2:=z0e hz1 hp2 (by omega);have hn2:=hn.plain.from_ hs1;obtain ⟨z0,z1,z2,z3,z4,z5⟩:=z01 hz2;have zf:=z02 hz2;clear hb1 hp2 hb0 hz1 hrd
 go_wp2_with fail
 obtain ⟨wf,hwf,hrw,hnf,hbf⟩:=zgx hz2 hn2 hb2;rw[hwf];obtain ⟨e0,e1,e2,e3,e4,e5⟩:=z01 hrw;exact bodyPost_ret (v:= .tuple #[.agg #[.int .i64 n.kind,.string n.data,.slice hh.A n.ptrs.length hh.a,.int .i64 n.size,.int .i64 n.count,.slice hh.B n.items.length hh.b],.int .i64 zz]) (by simp[results,Tryz.results9,go_sem,e0,e1,e2,e3,e4,e5]) rfl ⟨n,hh,zz,rfl,⟨zz0,zz1⟩,hnf,ht.1,hbf⟩
theorem zdv (a:Option Addr)(len cap:Nat)(w:World)(h:Arg w a len cap) :
 Calls Tryz.prog 21 #[.slice a len cap] w (zqi w):=by
 have HD:=hid (zd3 a len cap (w.alloc (.cells #[.int .i64 0,.string { data:= #[] },.slice none 0 0,.int .i64 0,.int .i64 0,.slice none 0 0] nodeT)) ⟨zbh h.1 _,h.2.1,h.2.2⟩);clear h;go_enter Tryz.func21,Tryz.ntmps21
 go_wp2_with fail
 refine HD.out.mono ?_;rintro e w1 ⟨n,hh,z,rfl,hzz,hn,ht,hb1⟩;have hz2:=(hb1.block w.heap.size (by simp)).trans (heap_alloc_new w (.cells #[.int .i64 0,.string { data:= #[] },.slice none 0 0,.int .i64 0,.int .i64 0,.slice none 0 0] nodeT));have hb2:Below w.heap.size w w1:=((Below.refl w.heap.size w).alloc (Nat.le_refl _) (.cells #[.int .i64 0,.string { data:= #[] },.slice none 0 0,.int .i64 0,.int .i64 0,.slice none 0 0] nodeT)).trans (hb1.mono (by simp));have hn2:NdAt w1 (From (w.heap.size+1)) 18 n hh:=hn.from_ (by simp);obtain ⟨z0,z1,z2,z3,z4,z5⟩:=z01 hz2;have zf:=z02 hz2;clear hb1 hn
 go_wp2_with fail
 obtain ⟨wf,hwf,hrw,hnf,hbf⟩:=zgx hz2 hn2 hb2;rw[hwf];obtain ⟨e0,e1,e2,e3,e4,e5⟩:=z01 hrw;exact bodyPost_ret (v:= .tuple #[.agg #[.int .i64 n.kind,.string n.data,.slice hh.A n.ptrs.length hh.a,.int .i64 n.size,.int .i64 n.count,.slice hh.B n.items.length hh.b],.int .i64 z]) (by simp[results,Tryz.results21,go_sem,e0,e1,e2,e3,e4,e5]) rfl ⟨n,hh,z,rfl,hzz,hnf,ht,hbf⟩
open Go.RowKit Go.Deep
theorem zkh {r:Option Segs}(h:sndB r=true):r.isSome=true∧(sndF r).size%8=0∧(sndF r).size≤1600∧sndS r=pkS (sndF r)∧(pkS (sndF r)).size≤10*((sndF r).size/8):=by
 have h':=h;unfold sndB at h;rw[Bool.and_eq_true] at h
 have hw8:(sndF r).size%8=0∧(sndF r).size≤1600:=by simpa [z1d] using h.2
 refine ⟨h.1,hw8.1,hw8.2,by unfold sndS; rw[if_pos h']; rfl,?_⟩;have hsl:(sndF r).data.toList.length=(sndF r).size:=rfl
 have hT:packB (sndF r).data.toList=packW (wl (z15 (sndF r).data.toList)):=by rw[packB,hsl,h.2,if_pos rfl]
 have hl:=zc3 (zb7 (z15 (sndF r).data.toList));rw[z9w,z2m,hsl] at hl
 have hs:(pkS (sndF r)).size=(packB (sndF r).data.toList).length:=by unfold pkS; simp[ByteArray.size]
 rw[hs,hT];exact hl
end Go.Proofs.YtlbfffokkhccaaaGreatDoor
