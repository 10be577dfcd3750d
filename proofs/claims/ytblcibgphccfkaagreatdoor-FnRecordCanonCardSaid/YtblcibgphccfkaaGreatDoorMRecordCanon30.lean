/- Texts of the proof of the law FnRecordCanon, side by side: part 30. -/
import Derived.OpenShut
import Derived.Test.YtblcibgphccfkaaGreatDoorMRecordCanon29
set_option maxHeartbeats 8000000
set_option maxRecDepth 100000
open Go.Lib (hid)
namespace Go.Proofs.YtblcibgphccfkaaGreatDoor
open Go.RowKit Go.Deep
theorem NdsAt.tot_mono {w:World}{S:Nat→Prop}{m k:Nat}{A:Option Addr}{l:List Nd}(h:NdsAt w S m A l)(hk:m≤k):totL k l=totL m l:=by
 induction hk with
 | refl=>rfl
 | @step j hj ih=>rw[z69 j A l (h.mono hj),ih]
theorem NdAt.tot_mono {w:World}{S:Nat→Prop}{m k:Nat}{n:Nd}{h:Hd}(hn:NdAt w S m n h)(hk:m≤k):totN k n=totN m n:=by
 unfold totN;rw[hn.2.1.tot_mono hk,hn.2.2.tot_mono hk]
theorem TB.mono {w:World}{S:Nat→Prop}{M M' T T':Nat}{n:Nd}{h:Hd}(ht:TB M n T)(hn:NdAt w S M n h)(hM:M≤M')(hT:T≤T'):TB M' n T':=⟨by rw[hn.tot_mono hM]; exact Nat.le_trans ht.1 hT,ht.2.mono hT⟩
theorem z7j {w w1 w2 w4:World}{R n m:Nat}{o:Obj}{r:Option Nat}(hp:z0e w R n w1)(hp3:z0e w1 R m w2)(hR:R<w.heap.size)(hg:(w2.alloc o).grownBy w4 r)(hr:∀k,r=some k→w.heap.size≤k):z0e w R m w4∧Below w.heap.size w2 w4:=by
 have hs:w.heap.size≤w2.heap.size:=Nat.le_trans hp.2.size hp3.2.size;have hbel:Below w.heap.size w2 w4:=((Below.refl w.heap.size w2).alloc hs o).grown hg (by simp; omega) hr
 obtain ⟨⟨a,l,c,p,hpn,hr,hc⟩,hk⟩:=hp.then hp3
 exact ⟨⟨⟨a,l,c,p,hpn,(hbel.block R hR).trans hr,hc.keeps (R:=w.heap.size) (Keeps.of_below hbel) (Nat.le_of_lt hR) (Nat.le_of_lt hR)⟩,⟨hbel.os.trans hk.os,hbel.tape.trans hk.tape,hbel.output.trans hk.output,Nat.le_trans hk.size hbel.size,fun k hk1 hk2=>(hbel.block k hk1).trans (hk.block k hk1 hk2)⟩⟩,hbel⟩
theorem zdv:DrN 0:=by
 intro R n w h hn
 have hRw:=h.lt;have HQ0:=hid (h.self.below ((Below.refl w.heap.size w).alloc (Nat.le_refl _) (.cells #[.int .i64 0,.string { data:= #[] },.slice none 0 0,.int .i64 0,.int .i64 0,.slice none 0 0] nodeT)));have HR0:=hid (heap_alloc_new w (.cells #[.int .i64 0,.string { data:= #[] },.slice none 0 0,.int .i64 0,.int .i64 0,.slice none 0 0] nodeT))
 have hz0:∀k,(w.alloc (.cells #[.int .i64 0,.string { data:= #[] },.slice none 0 0,.int .i64 0,.int .i64 0,.slice none 0 0] nodeT)).cell? ⟨w.heap.size,k,none⟩=(#[.int .i64 0,.string { data:= #[] },.slice none 0 0,.int .i64 0,.int .i64 0,.slice none 0 0]:Array Value)[k]? :=fun k=>cell_of_row _ _ _ _ _ _ HR0.out
 have hzf:=z03 HR0.out;clear h;go_enter Tryz.func93,Tryz.ntmps93
 go_wp2_with fail
 exact bodyPost_ret (v:= .agg #[.int .i64 0,.string { data:= #[] },.slice none 0 0,.int .i64 0,.int .i64 0,.slice none 0 0])
  (by simp[results,Tryz.results93,go_sem,z04 HR0.out]) rfl
  ⟨.mk 0 ⟨#[]⟩ [] 0 0 [],⟨none,0,none,0⟩,rfl,⟨by decide,rfl,rfl⟩,⟨Nat.le_refl _,SB.small (by decide) (show (0:Nat)≤1000 by decide)⟩,HQ0.out.mono (by omega)⟩
theorem z7h (d:Nat)(hN:DrN d)(hdd:d≤8)(hkd:dK d≤20000)(htd:dT d≤300000):DrN (d+1):=by
 intro R n w h hn
 have hRw:=h.lt;have hKe:dK (d+1)=50+6*dK d:=rfl;have hTe:dT (d+1)=1001+6*dT d:=rfl;have HK:=hid (And.intro hKe hTe);rw[hKe] at hn
 have hcast:(((d+1:Nat)):Int)=(d:Int)+1:=by omega
 rw[hcast];have hD1:decide ((d:Int)+1<1)=false:=decide_eq_false (by omega);have HQ0:=hid (h.self.below ((Below.refl w.heap.size w).alloc (Nat.le_refl _) (.cells #[.int .i64 0,.string { data:= #[] },.slice none 0 0,.int .i64 0,.int .i64 0,.slice none 0 0] nodeT)));have HR0:=hid (heap_alloc_new w (.cells #[.int .i64 0,.string { data:= #[] },.slice none 0 0,.int .i64 0,.int .i64 0,.slice none 0 0] nodeT));have HNN:=hid hN;have HST:=hid (fun (R n data ptrs:Nat) (W:World) (h:Rd W R n) (hn:n+3*data+ptrs*dK d≤500000) (hd:data≤3) (hp:ptrs≤3)=>zat d hN R n data ptrs W h hn hd hp hdd hkd htd);clear h hN hKe hTe hcast;go_enter Tryz.func93,Tryz.ntmps93
 go_wp2_with fail
 refine (z0q R n _ _ HQ0.out.1 (by omega)).mono ?_;rintro e w1 ⟨p,⟨hp0,hp1⟩,rfl,hpk⟩;have HQ1:=hid (HQ0.out.then hpk);have HR1:=hid (z0k HR0.out hpk (by omega))
 have hp5:p=0∨p=1∨p=2∨p=3∨p=4∨p=5:=by omega
 have hw1:w.heap.size+1≤w1.heap.size:=by have:=hpk.2.size; simpa using this
 clear hpk hp0 hp1
 rcases hp5 with rfl | rfl | rfl | rfl | rfl | rfl
 ·
  have hz0:∀k,(w1).cell? ⟨w.heap.size,k,none⟩=(#[.int .i64 0,.string { data:= #[] },.slice none 0 0,.int .i64 0,.int .i64 0,.slice none 0 0]:Array Value)[k]? :=fun k=>cell_of_row _ _ _ _ _ _ HR1.out
  have hzf:=z03 HR1.out
  go_wp2_with fail
  obtain ⟨wf,hwf,hrw,hpw,huw⟩:=z3a (w1:=w1) (b:=w.heap.size) HR1.out HQ1.out hRw (Nat.le_refl _) (.int .i64 0) (.string { data:= #[] }) (.slice none 0 0) (.int .i64 0) (.int .i64 0) (.slice none 0 0)
  first | rw[hwf] | (have hwf2:=hwf; simp at hwf2 ⊢; rw[hwf2])
  obtain ⟨e0,e1,e2,e3,e4,e5⟩:=z04 hrw
  exact bodyPost_ret (v:= .agg #[.int .i64 0,.string { data:= #[] },.slice none 0 0,.int .i64 0,.int .i64 0,.slice none 0 0])
   (by simp[results,Tryz.results93,go_sem,e0,e1,e2,e3,e4,e5]) rfl
   ⟨.mk 0 ⟨#[]⟩ [] 0 0 [],⟨none,0,none,0⟩,rfl,⟨by decide,NdsAt.nil _ _ _ _,NdsAt.nil _ _ _ _⟩,⟨by show 0+0+0≤_; omega,SB.small (by decide) (show (0:Nat)≤1000 by decide)⟩,hpw.mono (by have:=HK.out; omega)⟩
 ·
  go_wp2_with fail
  refine (zcp R (n+1) _ HQ1.out.1 (by omega)).mono ?_;rintro e w2 ⟨y,hy,rfl,hny,hty,hp2⟩;have HQ2:=hid (HQ1.out.then hp2);have HR2:=hid (z0k HR1.out hp2 (by omega));have HNY:=hid hny;have HTY:=hid hty;clear hny hty hp2
  have hz0:∀k,(w2).cell? ⟨w.heap.size,k,none⟩=(#[.int .i64 0,.string { data:= #[] },.slice none 0 0,.int .i64 0,.int .i64 0,.slice none 0 0]:Array Value)[k]? :=fun k=>cell_of_row _ _ _ _ _ _ HR2.out
  have hzf:=z03 HR2.out
  go_wp2_with fail
  obtain ⟨wf,hwf,hrw,hpw,huw⟩:=z3a (w1:=w2) (b:=w.heap.size) HR2.out HQ2.out hRw (Nat.le_refl _) (.int .i64 y.kind) (.string y.data) (.slice hy.A y.ptrs.length hy.a) (.int .i64 y.size) (.int .i64 y.count) (.slice hy.B y.items.length hy.b)
  first | rw[hwf] | (have hwf2:=hwf; simp at hwf2 ⊢; rw[hwf2])
  obtain ⟨e0,e1,e2,e3,e4,e5⟩:=z04 hrw
  exact bodyPost_ret (v:= .agg #[.int .i64 y.kind,.string y.data,.slice hy.A y.ptrs.length hy.a,.int .i64 y.size,.int .i64 y.count,.slice hy.B y.items.length hy.b])
   (by simp[results,Tryz.results93,go_sem,e0,e1,e2,e3,e4,e5]) rfl
   ⟨y,hy,rfl,(((HNY.out.mono (by omega)).fromC (by omega)).uponC huw).fromC (by omega),TB.mono HTY.out HNY.out (by omega) (by have:=HK.out; omega),hpw.mono (by have:=HK.out; omega)⟩
 ·
  have hqb:=HQ1.out.below ((Below.refl w1.heap.size w1).alloc (Nat.le_refl _) (.cells #[.int .i64 2,.string { data:= #[] },.slice none 0 0,.int .i64 6,.int .i64 0,.slice none 0 0] nodeT));have hrb:=(Below.heap_alloc w1 (.cells #[.int .i64 2,.string { data:= #[] },.slice none 0 0,.int .i64 6,.int .i64 0,.slice none 0 0] nodeT) w.heap.size (by omega)).trans HR1.out;have hxb:=heap_alloc_new w1 (.cells #[.int .i64 2,.string { data:= #[] },.slice none 0 0,.int .i64 6,.int .i64 0,.slice none 0 0] nodeT)
  have hsb:(w1.alloc (.cells #[.int .i64 2,.string { data:= #[] },.slice none 0 0,.int .i64 6,.int .i64 0,.slice none 0 0] nodeT)).heap.size=w1.heap.size+1:=by simp
  have HQB:=hid hqb;have HRB:=hid hrb;have HXB:=hid hxb;clear hqb hrb hxb
  go_wp2_with fail
  generalize w1.alloc (.cells #[.int .i64 2,.string { data:= #[] },.slice none 0 0,.int .i64 6,.int .i64 0,.slice none 0 0] nodeT)=WB at *;refine (z0q R (n+1) _ _ HQB.out.1 (by omega)).mono ?_;rintro e w2 ⟨m0,⟨hm0,hm1⟩,rfl,hp2⟩;obtain ⟨m0,rfl⟩:=Int.eq_ofNat_of_zero_le hm0
  have hm3:m0≤3:=by omega
  have HQ2:=hid (HQB.out.then hp2);have HR2:=hid (z0k HRB.out hp2 (by omega));have HX2:=hid (z0k HXB.out hp2 (by have:=HQ1.out.1.lt; omega))
  have hw2:w1.heap.size+1≤w2.heap.size:=by have:=hp2.2.size; omega
  clear hp2 hm0 hm1;have HRW1:=hid (show R<w1.heap.size from HQ1.out.1.lt)
  go_wp2_with fail
  go_loopw [6] (fun i wr=>∃m:Nat,i= .int .i64 m∧m≤m0∧Hid (∃(v:Value) (q:List (Nd×Hd)),wr.heap[w1.heap.size]? =some (.cells #[.int .i64 2,.string { data:= #[] },v,.int .i64 6,.int .i64 0,.slice none 0 0] nodeT (0,0))∧q.length+m=m0∧NRowC wr (w1.heap.size+1) v q (2*d) (dT d))∧Hid (wr.heap[w.heap.size]? =some (.cells #[.int .i64 0,.string { data:= #[] },.slice none 0 0,.int .i64 0,.int .i64 0,.slice none 0 0] nodeT (0,0)))∧Hid (z0e w R (n+2+(m0-m)*(dK d)) wr∧w1.heap.size+1≤wr.heap.size)) (fun i _=>(intOf i).toNat)
  case atStart=>exact ⟨m0,rfl,by omega,hid ⟨_,[],HX2.out,by simp,NRowC.nil _ _ _ _⟩,HR2,hid ⟨HQ2.out.mono (by omega),hw2⟩⟩
  case round =>
   obtain ⟨m,rfl,hm,HS,HZ,HP⟩:=hrel;obtain ⟨v,q,hrow,hql,hnr⟩:=HS.out;obtain ⟨hpkd,hsz⟩:=HP.out;have HQL:=hid hql;have hR1:=HRW1.out
   by_cases hlt:0<m
   · obtain ⟨c0,c1,c2,c3,c4,c5⟩:=z04 hrow
     have hq1000:q.length≤1000:=by omega
     have HPK2:=hid hpkd;have HROW2:=hid hrow;have HNR:=hid hnr;have hdr:(wr.drew).heap.size=wr.heap.size:=rfl
     have hmk:(m0-m)*(dK d)+(dK d)≤3*(dK d):=by have:=Nat.mul_le_mul_right (dK d) (show (m0-m)+1≤3 by omega); rw[Nat.add_mul] at this; omega
     have hwr:IntKind.i64.wrap (d:Int)=(d:Int):=by rw[IntKind.wrap_i64]; omega
     have HC:=hid (HNN.out R (n+2+(m0-m)*(dK d)) wr.drew (by exact HPK2.out.1.below ⟨rfl,rfl,rfl,Nat.le_refl _,fun _ _=>rfl⟩) (by omega));unfold NdP at HC;clear hpkd hrow hnr HS HP hql
     go_wp2_with fail
     go_region_law (first | (refine z3p rfl (.tmp 33) (.tmp 38) rfl (w1.heap.size+1) v q.length (rowOf q) (by simp[Act.eval]) (HO2.out.1.alloc _) ⟨w2.heap.size,0,none⟩ 1 (y,hy) (by simp[Act.eval]) (z1c w2 (y,hy) _) hq1000 (by simp; omega) ?_; intro A4 c4 w4 hown4 hgrow4 hat4; have hx4:=(hgrow4.out.block w1.heap.size (by simp; omega) (fun e=>by have:=(HO2.out.1.lt _ e.symm).1; omega)).trans ((Below.heap_alloc w2 _ w1.heap.size (by omega)).trans HX2.out); have qf4:=z03 hx4 2; obtain ⟨r0,r1,r2,r3,r4,r5⟩:=z04 hx4) | (go_simp; go_at_call 93; (with_reducible refine HC.out.mono ?_); rintro e w2 ⟨y,hy,rfl,hny,hty,hp2⟩; have hx2:=z0k (w:=wr.drew) HROW2.out hp2 (by omega); have HX2:=hid hx2; have HO2:=hid (NRowC.picked (w:=wr.drew) HNR.out.drew hp2 (by omega)); have hsz2:wr.heap.size≤w2.heap.size:=hp2.2.size; obtain ⟨q0,q1,q2,q3,q4,q5⟩:=z04 hx2; have hlt2:=z00 hx2; have qa:∀o,(w2.alloc o).cell? ⟨w1.heap.size,2,none⟩=some v:=fun o=>(((Below.refl w2.heap.size w2).alloc (Nat.le_refl _) o).cell hlt2).trans q2))
     all_goals
      have hp3:z0e wr R (n+2+(m0-(m-1))*(dK d)) w2:=by
       have h1:z0e wr R _ w2:=⟨hp2.1,⟨hp2.2.os,hp2.2.tape,hp2.2.output,hp2.2.size,hp2.2.block⟩⟩
       refine h1.mono ?_;rw[show m0-(m-1)=(m0-m)+1 by omega,Nat.add_mul];omega
      obtain ⟨hp4,hbel⟩:=z7j HPK2.out hp3 hRw hgrow4.out (fun k hk=>by have:=(HO2.out.1.lt k hk).1; omega);have hnx:=(HO2.out.alloc _).next (hny.belowC ((Below.refl w2.heap.size w2).alloc (Nat.le_refl _) _)) hty.1 (show w1.heap.size+1≤(wr.drew).heap.size from hsz) (fun k hk=>(HNR.out.1.lt k hk).2) hown4.out hgrow4.out hat4.out;have HS5:Hid (∃(v':Value) (q':List (Nd×Hd)),(w4.setCell ⟨w1.heap.size,2,none⟩ (.slice A4 (q.length+1) c4)).heap[w1.heap.size]? =some (.cells #[.int .i64 2,.string { data:= #[] },v',.int .i64 6,.int .i64 0,.slice none 0 0] nodeT (0,0))∧q'.length+(m-1)=m0∧NRowC (w4.setCell ⟨w1.heap.size,2,none⟩ (.slice A4 (q.length+1) c4)) (w1.heap.size+1) v' q' (2*d) (dT d)):=hid ⟨_,_,z06 hx4 2 _,by have:=HQL.out; simp; omega,hnx.store (by omega)⟩;have HZ5:=hid ((Below.heap_setCell w4 ⟨w1.heap.size,2,none⟩ (.slice A4 (q.length+1) c4) w.heap.size (by simp; omega)).trans ((hgrow4.out.block w.heap.size (by simp; omega) (fun e=>by have:=(HO2.out.1.lt _ e.symm).1; omega)).trans ((Below.heap_alloc w2 _ w.heap.size (by omega)).trans (z0k (w:=wr) HZ.out hp3 (by omega)))));have HP5:Hid (z0e w R (n+2+(m0-(m-1))*(dK d)) (w4.setCell ⟨w1.heap.size,2,none⟩ (.slice A4 (q.length+1) c4))∧w1.heap.size+1≤(w4.setCell ⟨w1.heap.size,2,none⟩ (.slice A4 (q.length+1) c4)).heap.size):=hid ⟨z0g hp4 hRw (b:=w1.heap.size) (by omega) 2 _,by have:=hbel.size; simp[World.setCell]; omega⟩;clear hp2 hp3 hp4 hbel hnx hx4 hx2 hown4 hgrow4 hat4 q0 q1 q2 q3 q4 q5 r0 r1 r2 r3 r4 r5 qf4 qa hlt2 hny hty;go_wp2
      go_roundw
      case rel=>exact ⟨m-1,by go_num,by omega,HS5,HZ5,HP5⟩
      case measure=>simp[intOf]; omega
   · obtain rfl:m=0:=by omega
     obtain ⟨A,cap,hv,hnds,htot⟩:=hnr.nds (by omega);subst hv
     have hszw:w.heap.size<w1.heap.size:=by omega
     have HND:=hid (hnds.uponC ((Upon.refl (w1.heap.size+1) wr).setCell (p:=⟨w1.heap.size,4,none⟩) (by simp) (.int .i64 (q.length:Int))));have HTOT:=hid htot;have hcf:=z03 hrow;have HZ4:=hid ((Below.heap_setCell wr ⟨w1.heap.size,4,none⟩ (.int .i64 (q.length:Int)) w.heap.size (by simp; omega)).trans HZ.out);have HPK3:=hid (z0g hpkd hRw (b:=w1.heap.size) (by omega) 4 (.int .i64 (q.length:Int)));obtain ⟨c0,c1,c2,c3,c4,c5⟩:=z04 hrow
     have hz0:∀v k,(wr.setCell ⟨w1.heap.size,4,none⟩ v).cell? ⟨w.heap.size,k,none⟩=(#[.int .i64 0,.string { data:= #[] },.slice none 0 0,.int .i64 0,.int .i64 0,.slice none 0 0]:Array Value)[k]? :=fun v k=>cell_of_row _ _ _ _ _ _ ((Below.heap_setCell wr ⟨w1.heap.size,4,none⟩ v w.heap.size (by simp; omega)).trans HZ.out)
     have hzf:∀v k,(wr.setCell ⟨w1.heap.size,4,none⟩ v).frozen? ⟨w.heap.size,k,none⟩=false:=fun v k=>z03 ((Below.heap_setCell wr ⟨w1.heap.size,4,none⟩ v w.heap.size (by simp; omega)).trans HZ.out) k
     clear hnr hnds htot hrow hpkd HS HP hql hlt
     go_wp2_with fail
     obtain ⟨wf,hwf,hrw,hpw,huw⟩:=z3a (w1:=wr.setCell ⟨w1.heap.size,4,none⟩ (.int .i64 (q.length:Int))) (b:=w.heap.size) HZ4.out HPK3.out hRw (Nat.le_refl _) (.int .i64 2) (.string { data:= #[] }) (.slice A q.length cap) (.int .i64 6) (.int .i64 (q.length:Int)) (.slice none 0 0)
     first | rw[hwf] | (have hwf2:=hwf; simp at hwf2 ⊢; rw[hwf2])
     obtain ⟨e0,e1,e2,e3,e4,e5⟩:=z04 hrw
     exact bodyPost_ret (v:= .agg #[.int .i64 2,.string { data:= #[] },.slice A q.length cap,.int .i64 6,.int .i64 (q.length:Int),.slice none 0 0])
      (by simp[results,Tryz.results93,go_sem,e0,e1,e2,e3,e4,e5]) rfl
      ⟨.mk 2 ⟨#[]⟩ (q.map (·.1)) 6 (q.length:Int) [],⟨A,cap,none,0⟩,by show _=Ending.returned (.agg #[.int .i64 2,.string { data:= #[] },.slice A (q.map (·.1)).length cap,.int .i64 6,.int .i64 (q.length:Int),.slice none 0 0]); rw[List.length_map],⟨show (0:Nat)≤maxLen by decide,(((HND.out.mono (by omega)).fromC (by omega)).uponC huw).fromC (by omega),NdsAt.nil _ _ _ _⟩,⟨by
       have h1:=HTOT.out
       show 0+totL (2*(d+1)) (q.map (·.1))+0≤_
       rw[HND.out.tot_mono (by omega)];have h2:=HK.out;have h3:=Nat.mul_le_mul_right (1+dT d) (show q.length≤3 by have:=HQL.out; omega)
       omega,SB.small (show (0:Nat)≤1100 by decide) (show (0:Nat)≤1000 by decide)⟩,hpw.mono (by have h2:=HK.out; have h3:=Nat.mul_le_mul_right (dK d) (show m0-0≤3 by omega); omega)⟩
 ·
  have hqb:=HQ1.out.below ((Below.refl w1.heap.size w1).alloc (Nat.le_refl _) (.cells #[.int .i64 2,.string { data:= #[] },.slice none 0 0,.int .i64 7,.int .i64 0,.slice none 0 0] nodeT));have hrb:=(Below.heap_alloc w1 (.cells #[.int .i64 2,.string { data:= #[] },.slice none 0 0,.int .i64 7,.int .i64 0,.slice none 0 0] nodeT) w.heap.size (by omega)).trans HR1.out;have hxb:=heap_alloc_new w1 (.cells #[.int .i64 2,.string { data:= #[] },.slice none 0 0,.int .i64 7,.int .i64 0,.slice none 0 0] nodeT)
  have hsb:(w1.alloc (.cells #[.int .i64 2,.string { data:= #[] },.slice none 0 0,.int .i64 7,.int .i64 0,.slice none 0 0] nodeT)).heap.size=w1.heap.size+1:=by simp
  have HQB:=hid hqb;have HRB:=hid hrb;have HXB:=hid hxb;clear hqb hrb hxb
  go_wp2_with fail
  generalize w1.alloc (.cells #[.int .i64 2,.string { data:= #[] },.slice none 0 0,.int .i64 7,.int .i64 0,.slice none 0 0] nodeT)=WB at *;refine (z0q R (n+1) _ _ HQB.out.1 (by omega)).mono ?_;rintro e wa ⟨da,⟨hda0,hda1⟩,rfl,hpa⟩;obtain ⟨da,rfl⟩:=Int.eq_ofNat_of_zero_le hda0
  have hda:da≤2:=by omega
  have HQa:=hid (HQB.out.then hpa);have HRa:=hid (z0k HRB.out hpa (by omega));have HXa:=hid (z0k HXB.out hpa (by have:=HQ1.out.1.lt; omega))
  have hwa:w1.heap.size+1≤wa.heap.size:=by have:=hpa.2.size; omega
  clear hpa hda0 hda1
  go_wp2_with fail
  refine (z0q R (n+2) _ _ HQa.out.1 (by omega)).mono ?_;rintro e wb ⟨pa,⟨hpa0,hpa1⟩,rfl,hpb⟩;obtain ⟨pa,rfl⟩:=Int.eq_ofNat_of_zero_le hpa0
  have hpa:pa≤2:=by omega
  have HQb:=hid (HQa.out.then hpb);have HRb:=hid (z0k HRa.out hpb (by omega));have HXb:=hid (z0k HXa.out hpb (by have:=HQ1.out.1.lt; omega))
  have hwb:w1.heap.size+1≤wb.heap.size:=by have:=hpb.2.size; omega
  clear hpb hpa0 hpa1
  go_wp2_with fail
  refine (z0q R (n+3) _ _ HQb.out.1 (by omega)).mono ?_;rintro e w2 ⟨m0,⟨hm0,hm1⟩,rfl,hp2⟩;obtain ⟨m0,rfl⟩:=Int.eq_ofNat_of_zero_le hm0
  have hm3:m0≤3:=by omega
  have HQ2:=hid (HQb.out.then hp2);have HR2:=hid (z0k HRb.out hp2 (by omega));have HX2:=hid (z0k HXb.out hp2 (by have:=HQ1.out.1.lt; omega))
  have hw2:w1.heap.size+1≤w2.heap.size:=by have:=hp2.2.size; omega
  have hpd:pa*dK d≤2*dK d:=Nat.mul_le_mul_right _ hpa;clear hp2 hm0 hm1;have HRW1:=hid (show R<w1.heap.size from HQ1.out.1.lt)
  go_wp2_with fail
  go_loopw [10] (fun i wr=>∃m:Nat,i= .int .i64 m∧m≤m0∧Hid (∃(v:Value) (q:List (Nd×Hd)),wr.heap[w1.heap.size]? =some (.cells #[.int .i64 2,.string { data:= #[] },.slice none 0 0,.int .i64 7,.int .i64 0,v] nodeT (0,0))∧q.length+m=m0∧NRowC wr (w1.heap.size+1) v q (2*d+1) (18+2*dT d))∧Hid (wr.heap[w.heap.size]? =some (.cells #[.int .i64 0,.string { data:= #[] },.slice none 0 0,.int .i64 0,.int .i64 0,.slice none 0 0] nodeT (0,0)))∧Hid (z0e w R (n+4+(m0-m)*(6+2*dK d)) wr∧w1.heap.size+1≤wr.heap.size)) (fun i _=>(intOf i).toNat)
  case atStart=>exact ⟨m0,rfl,by omega,hid ⟨_,[],HX2.out,by simp,NRowC.nil _ _ _ _⟩,HR2,hid ⟨HQ2.out.mono (by omega),hw2⟩⟩
  case round =>
   obtain ⟨m,rfl,hm,HS,HZ,HP⟩:=hrel;obtain ⟨v,q,hrow,hql,hnr⟩:=HS.out;obtain ⟨hpkd,hsz⟩:=HP.out;have HQL:=hid hql;have hR1:=HRW1.out
   by_cases hlt:0<m
   · obtain ⟨c0,c1,c2,c3,c4,c5⟩:=z04 hrow
     have hq1000:q.length≤1000:=by omega
     have HPK2:=hid hpkd;have HROW2:=hid hrow;have HNR:=hid hnr;have hdr:(wr.drew).heap.size=wr.heap.size:=rfl
     have hmk:(m0-m)*(6+2*dK d)+(6+2*dK d)≤3*(6+2*dK d):=by have:=Nat.mul_le_mul_right (6+2*dK d) (show (m0-m)+1≤3 by omega); rw[Nat.add_mul] at this; omega
     have hc0:=HST.out R (n+4+(m0-m)*(6+2*dK d)) da pa wr.drew (by exact HPK2.out.1.below ⟨rfl,rfl,rfl,Nat.le_refl _,fun _ _=>rfl⟩) (by omega) (by omega) (by omega);unfold NdP at hc0;have HC:=hid hc0;clear hc0;clear hpkd hrow hnr HS HP hql
     go_wp2_with fail
     go_region_law (first | (refine z3p rfl (.tmp 60) (.tmp 66) rfl (w1.heap.size+1) v q.length (rowOf q) (by simp[Act.eval]) (HO2.out.1.alloc _) ⟨w2.heap.size,0,none⟩ 1 (y,hy) (by simp[Act.eval]) (z1c w2 (y,hy) _) hq1000 (by simp; omega) ?_; intro A4 c4 w4 hown4 hgrow4 hat4; have hx4:=(hgrow4.out.block w1.heap.size (by simp; omega) (fun e=>by have:=(HO2.out.1.lt _ e.symm).1; omega)).trans ((Below.heap_alloc w2 _ w1.heap.size (by omega)).trans HX2.out); have qf4:=z03 hx4 5; obtain ⟨r0,r1,r2,r3,r4,r5⟩:=z04 hx4) | (go_simp; go_at_call 124; (with_reducible refine HC.out.mono ?_); rintro e w2 ⟨y,hy,rfl,hny,hty,hp2⟩; have hx2:=z0k (w:=wr.drew) HROW2.out hp2 (by omega); have HX2:=hid hx2; have HO2:=hid (NRowC.picked (w:=wr.drew) HNR.out.drew hp2 (by omega)); have hsz2:wr.heap.size≤w2.heap.size:=hp2.2.size; obtain ⟨q0,q1,q2,q3,q4,q5⟩:=z04 hx2; have hlt2:=z00 hx2; have qa:∀o,(w2.alloc o).cell? ⟨w1.heap.size,5,none⟩=some v:=fun o=>(((Below.refl w2.heap.size w2).alloc (Nat.le_refl _) o).cell hlt2).trans q5))
     all_goals
      have hp3:z0e wr R (n+4+(m0-(m-1))*(6+2*dK d)) w2:=by
       have h1:z0e wr R _ w2:=⟨hp2.1,⟨hp2.2.os,hp2.2.tape,hp2.2.output,hp2.2.size,hp2.2.block⟩⟩
       refine h1.mono ?_;rw[show m0-(m-1)=(m0-m)+1 by omega,Nat.add_mul];omega
      obtain ⟨hp4,hbel⟩:=z7j HPK2.out hp3 hRw hgrow4.out (fun k hk=>by have:=(HO2.out.1.lt k hk).1; omega);have hnx:=(HO2.out.alloc _).next (hny.belowC ((Below.refl w2.heap.size w2).alloc (Nat.le_refl _) _)) (by have h1:pa*(1+dT d)≤2*(1+dT d):=Nat.mul_le_mul_right _ hpa; have h2:=hty.1; omega) (show w1.heap.size+1≤(wr.drew).heap.size from hsz) (fun k hk=>(HNR.out.1.lt k hk).2) hown4.out hgrow4.out hat4.out;have HS5:Hid (∃(v':Value) (q':List (Nd×Hd)),(w4.setCell ⟨w1.heap.size,5,none⟩ (.slice A4 (q.length+1) c4)).heap[w1.heap.size]? =some (.cells #[.int .i64 2,.string { data:= #[] },.slice none 0 0,.int .i64 7,.int .i64 0,v'] nodeT (0,0))∧q'.length+(m-1)=m0∧NRowC (w4.setCell ⟨w1.heap.size,5,none⟩ (.slice A4 (q.length+1) c4)) (w1.heap.size+1) v' q' (2*d+1) (18+2*dT d)):=hid ⟨_,_,z06 hx4 5 _,by have:=HQL.out; simp; omega,hnx.store (by omega)⟩;have HZ5:=hid ((Below.heap_setCell w4 ⟨w1.heap.size,5,none⟩ (.slice A4 (q.length+1) c4) w.heap.size (by simp; omega)).trans ((hgrow4.out.block w.heap.size (by simp; omega) (fun e=>by have:=(HO2.out.1.lt _ e.symm).1; omega)).trans ((Below.heap_alloc w2 _ w.heap.size (by omega)).trans (z0k (w:=wr) HZ.out hp3 (by omega)))));have HP5:Hid (z0e w R (n+4+(m0-(m-1))*(6+2*dK d)) (w4.setCell ⟨w1.heap.size,5,none⟩ (.slice A4 (q.length+1) c4))∧w1.heap.size+1≤(w4.setCell ⟨w1.heap.size,5,none⟩ (.slice A4 (q.length+1) c4)).heap.size):=hid ⟨z0g hp4 hRw (b:=w1.heap.size) (by omega) 5 _,by have:=hbel.size; simp[World.setCell]; omega⟩;clear hp2 hp3 hp4 hbel hnx hx4 hx2 hown4 hgrow4 hat4 q0 q1 q2 q3 q4 q5 r0 r1 r2 r3 r4 r5 qf4 qa hlt2 hny hty
      go_wp2
      go_roundw
      case rel=>exact ⟨m-1,by go_num,by omega,HS5,HZ5,HP5⟩
      case measure=>simp[intOf]; omega
   · obtain rfl:m=0:=by omega
     obtain ⟨A,cap,hv,hnds,htot⟩:=hnr.nds (by omega);subst hv
     have hszw:w.heap.size<w1.heap.size:=by omega
     have HND:=hid (hnds.uponC ((Upon.refl (w1.heap.size+1) wr).setCell (p:=⟨w1.heap.size,4,none⟩) (by simp) (.int .i64 (q.length:Int))));have HTOT:=hid htot;have hcf:=z03 hrow;have HZ4:=hid ((Below.heap_setCell wr ⟨w1.heap.size,4,none⟩ (.int .i64 (q.length:Int)) w.heap.size (by simp; omega)).trans HZ.out);have HPK3:=hid (z0g hpkd hRw (b:=w1.heap.size) (by omega) 4 (.int .i64 (q.length:Int)));obtain ⟨c0,c1,c2,c3,c4,c5⟩:=z04 hrow
     have hz0:∀v k,(wr.setCell ⟨w1.heap.size,4,none⟩ v).cell? ⟨w.heap.size,k,none⟩=(#[.int .i64 0,.string { data:= #[] },.slice none 0 0,.int .i64 0,.int .i64 0,.slice none 0 0]:Array Value)[k]? :=fun v k=>cell_of_row _ _ _ _ _ _ ((Below.heap_setCell wr ⟨w1.heap.size,4,none⟩ v w.heap.size (by simp; omega)).trans HZ.out)
     have hzf:∀v k,(wr.setCell ⟨w1.heap.size,4,none⟩ v).frozen? ⟨w.heap.size,k,none⟩=false:=fun v k=>z03 ((Below.heap_setCell wr ⟨w1.heap.size,4,none⟩ v w.heap.size (by simp; omega)).trans HZ.out) k
     clear hnr hnds htot hrow hpkd HS HP hql hlt
     go_wp2_with fail
     obtain ⟨wf,hwf,hrw,hpw,huw⟩:=z3a (w1:=wr.setCell ⟨w1.heap.size,4,none⟩ (.int .i64 (q.length:Int))) (b:=w.heap.size) HZ4.out HPK3.out hRw (Nat.le_refl _) (.int .i64 2) (.string { data:= #[] }) (.slice none 0 0) (.int .i64 7) (.int .i64 (q.length:Int)) (.slice A q.length cap)
     first | rw[hwf] | (have hwf2:=hwf; simp at hwf2 ⊢; rw[hwf2])
     obtain ⟨e0,e1,e2,e3,e4,e5⟩:=z04 hrw
     exact bodyPost_ret (v:= .agg #[.int .i64 2,.string { data:= #[] },.slice none 0 0,.int .i64 7,.int .i64 (q.length:Int),.slice A q.length cap])
      (by simp[results,Tryz.results93,go_sem,e0,e1,e2,e3,e4,e5]) rfl
      ⟨.mk 2 ⟨#[]⟩ [] 7 (q.length:Int) (q.map (·.1)),⟨none,0,A,cap⟩,by show _=Ending.returned (.agg #[.int .i64 2,.string { data:= #[] },.slice none 0 0,.int .i64 7,.int .i64 (q.length:Int),.slice A (q.map (·.1)).length cap]); rw[List.length_map],⟨show (0:Nat)≤maxLen by decide,NdsAt.nil _ _ _ _,(((HND.out.mono (by omega)).fromC (by omega)).uponC huw).fromC (by omega)⟩,⟨by
       have h1:=HTOT.out
       show 0+totL (2*(d+1)) []+totL (2*(d+1)) (q.map (·.1))≤_
       have h0:totL (2*(d+1)) []=0:=rfl;rw[h0,HND.out.tot_mono (by omega)];have h2:=HK.out;have h3:=Nat.mul_le_mul_right (1+(18+2*dT d)) (show q.length≤3 by have:=HQL.out; omega)
       omega,SB.small (show (0:Nat)≤1100 by decide) (by show (q.map (·.1)).length≤1000; rw[List.length_map]; have:=HQL.out; omega)⟩,hpw.mono (by have h2:=HK.out; have h3:=Nat.mul_le_mul_right (6+2*dK d) (show m0-0≤3 by omega); omega)⟩
 ·
  go_wp2_with fail
  refine (z0q R (n+1) _ _ HQ1.out.1 (by omega)).mono ?_;rintro e wa ⟨da,⟨hda0,hda1⟩,rfl,hpa⟩;obtain ⟨da,rfl⟩:=Int.eq_ofNat_of_zero_le hda0
  have hda:da≤3:=by omega
  have HQa:=hid (HQ1.out.then hpa);have HRa:=hid (z0k HR1.out hpa (by omega));have hwa:=hpa.2.size;clear hpa hda0 hda1
  go_wp2_with fail
  refine (z0q R (n+2) _ _ HQa.out.1 (by omega)).mono ?_;rintro e wb ⟨pa,⟨hpa0,hpa1⟩,rfl,hpb⟩;obtain ⟨pa,rfl⟩:=Int.eq_ofNat_of_zero_le hpa0
  have hpa:pa≤3:=by omega
  have HQb:=hid (HQa.out.then hpb);have HRb:=hid (z0k HRa.out hpb (by omega));have hwb:=hpb.2.size;have hpd:pa*dK d≤3*dK d:=Nat.mul_le_mul_right _ hpa;clear hpb hpa0 hpa1
  go_wp2_with fail
  refine (HST.out R (n+3) da pa _ HQb.out.1 (by omega) hda hpa).mono ?_;rintro e w2 ⟨y,hy,rfl,hny,hty,hp2⟩;have HQ2:=hid (HQb.out.then hp2);have HR2:=hid (z0k HRb.out hp2 (by omega));have HNY:=hid hny;have HTY:=hid hty;have HPA:=hid hpa;have HDA:=hid hda;clear hny hty hp2
  have hz0:∀k,(w2).cell? ⟨w.heap.size,k,none⟩=(#[.int .i64 0,.string { data:= #[] },.slice none 0 0,.int .i64 0,.int .i64 0,.slice none 0 0]:Array Value)[k]? :=fun k=>cell_of_row _ _ _ _ _ _ HR2.out
  have hzf:=z03 HR2.out
  go_wp2_with fail
  obtain ⟨wf,hwf,hrw,hpw,huw⟩:=z3a (w1:=w2) (b:=w.heap.size) HR2.out HQ2.out hRw (Nat.le_refl _) (.int .i64 y.kind) (.string y.data) (.slice hy.A y.ptrs.length hy.a) (.int .i64 y.size) (.int .i64 y.count) (.slice hy.B y.items.length hy.b)
  first | rw[hwf] | (have hwf2:=hwf; simp at hwf2 ⊢; rw[hwf2])
  obtain ⟨e0,e1,e2,e3,e4,e5⟩:=z04 hrw
  exact bodyPost_ret (v:= .agg #[.int .i64 y.kind,.string y.data,.slice hy.A y.ptrs.length hy.a,.int .i64 y.size,.int .i64 y.count,.slice hy.B y.items.length hy.b])
   (by simp[results,Tryz.results93,go_sem,e0,e1,e2,e3,e4,e5]) rfl
   ⟨y,hy,rfl,(((HNY.out.mono (by omega)).fromC (by omega)).uponC huw).fromC (by omega),TB.mono HTY.out HNY.out (by omega) (by have:=HK.out; have h1:=Nat.mul_le_mul_right (1+dT d) HPA.out; have:=HDA.out; omega),hpw.mono (by have:=HK.out; omega)⟩
 ·
  go_wp2_with fail
  refine (z0q R (n+1) _ _ HQ1.out.1 (by omega)).mono ?_;rintro e wa ⟨da,⟨hda0,hda1⟩,rfl,hpa⟩;obtain ⟨da,rfl⟩:=Int.eq_ofNat_of_zero_le hda0
  have hda:da≤3:=by omega
  have HQa:=hid (HQ1.out.then hpa);have HRa:=hid (z0k HR1.out hpa (by omega));have hwa:=hpa.2.size;clear hpa hda0 hda1
  go_wp2_with fail
  refine (z0q R (n+2) _ _ HQa.out.1 (by omega)).mono ?_;rintro e wb ⟨pa,⟨hpa0,hpa1⟩,rfl,hpb⟩;obtain ⟨pa,rfl⟩:=Int.eq_ofNat_of_zero_le hpa0
  have hpa:pa≤3:=by omega
  have HQb:=hid (HQa.out.then hpb);have HRb:=hid (z0k HRa.out hpb (by omega));have hwb:=hpb.2.size;have hpd:pa*dK d≤3*dK d:=Nat.mul_le_mul_right _ hpa;clear hpb hpa0 hpa1
  go_wp2_with fail
  refine (HST.out R (n+3) da pa _ HQb.out.1 (by omega) hda hpa).mono ?_;rintro e w2 ⟨y,hy,rfl,hny,hty,hp2⟩;have HQ2:=hid (HQb.out.then hp2);have HR2:=hid (z0k HRb.out hp2 (by omega));have HNY:=hid hny;have HTY:=hid hty;have HPA:=hid hpa;have HDA:=hid hda;clear hny hty hp2
  have hz0:∀k,(w2).cell? ⟨w.heap.size,k,none⟩=(#[.int .i64 0,.string { data:= #[] },.slice none 0 0,.int .i64 0,.int .i64 0,.slice none 0 0]:Array Value)[k]? :=fun k=>cell_of_row _ _ _ _ _ _ HR2.out
  have hzf:=z03 HR2.out
  go_wp2_with fail
  obtain ⟨wf,hwf,hrw,hpw,huw⟩:=z3a (w1:=w2) (b:=w.heap.size) HR2.out HQ2.out hRw (Nat.le_refl _) (.int .i64 y.kind) (.string y.data) (.slice hy.A y.ptrs.length hy.a) (.int .i64 y.size) (.int .i64 y.count) (.slice hy.B y.items.length hy.b)
  first | rw[hwf] | (have hwf2:=hwf; simp at hwf2 ⊢; rw[hwf2])
  obtain ⟨e0,e1,e2,e3,e4,e5⟩:=z04 hrw
  exact bodyPost_ret (v:= .agg #[.int .i64 y.kind,.string y.data,.slice hy.A y.ptrs.length hy.a,.int .i64 y.size,.int .i64 y.count,.slice hy.B y.items.length hy.b])
   (by simp[results,Tryz.results93,go_sem,e0,e1,e2,e3,e4,e5]) rfl
   ⟨y,hy,rfl,(((HNY.out.mono (by omega)).fromC (by omega)).uponC huw).fromC (by omega),TB.mono HTY.out HNY.out (by omega) (by have:=HK.out; have h1:=Nat.mul_le_mul_right (1+dT d) HPA.out; have:=HDA.out; omega),hpw.mono (by have:=HK.out; omega)⟩
theorem z86:∀d,d≤4→DrN d
 | 0,_=>zdv
 | 1,_=>z7h 0 zdv (by decide) (by decide) (by decide)
 | 2,_=>z7h 1 (z86 1 (by decide)) (by decide) (by decide) (by decide)
 | 3,_=>z7h 2 (z86 2 (by decide)) (by decide) (by decide) (by decide)
 | 4,_=>z7h 3 (z86 3 (by decide)) (by decide) (by decide) (by decide)
 | d+5,h=>by omega
end Go.Proofs.YtblcibgphccfkaaGreatDoor
namespace Go.Proofs.YtblcibgphccfkaaGreatDoor
open Go.RowKit
def Arg (w:World)(a:Option Addr)(len cap:Nat):Prop:=Code w w.heap.size a len∧len≤cap∧(a=none→len=0)
theorem arg_nil (w:World):Arg w none 0 0:=⟨⟨by decide,.inl rfl⟩,Nat.le_refl _,fun _=>rfl⟩
theorem wf_u8 {n:Int}(h:(Lit.int .u8 n).wf=true):∃b:UInt8,n=(b.toNat:Int):=by
 simp[Lit.wf,IntKind.min,IntKind.max,IntKind.bits,IntKind.signed] at h
 refine ⟨UInt8.ofNat n.toNat,?_⟩;rw[UInt8.toNat_ofNat'];omega
theorem arg_row {w:World}{x:Addr}{l c:Nat}{zs:List Int}(hl:l≤c)(hm:c≤maxLen)(hz:zs.length=c)(hcell:∀i,i<zs.length→w.cell? (x.add i)=some (.int .u8 (zs.getD i 0)))(hwz:∀n∈zs,(Lit.int .u8 n).wf=true) :
 Arg w (some x) l c:=by
 refine ⟨⟨Nat.le_trans hl hm,?_⟩,hl,fun h=>by cases h⟩
 by_cases h0:l=0
 · exact .inl h0
 · refine .inr ⟨x,rfl,?_,fun i hi=>?_⟩
   · have h:=World.block_lt_of_cell? w _ (hcell 0 (by omega))
     rwa [z05] at h
   · have hi':i<zs.length:=by omega
     obtain ⟨b,hb⟩:=wf_u8 (hwz zs[i] (List.getElem_mem hi'));refine ⟨b,?_⟩;rw[hcell i hi',List.getD,List.getElem?_eq_getElem hi',← hb]
     rfl
abbrev z1q:TypeId:=41
def z1p:List Fld→List Value
 | []=> []
 | f :: t=> .int .i64 f.size :: .bool f.choice :: .int .i64 f.els :: z1p t
theorem z6u:∀(l m:List Fld),z1p (l++m)=z1p l++z1p m
 | [],_=>rfl
 | r :: t,m=>by rw[List.cons_append,z1p,z6u t m]; rfl
theorem z8j:∀(l:List Fld) (k:Nat) (h:k<l.length),(z1p l)[k*3]? =some (.int .i64 (l[k]).size)∧(z1p l)[k*3+1]? =some (.bool (l[k]).choice)∧(z1p l)[k*3+2]? =some (.int .i64 (l[k]).els)
 | [],k,h=>absurd h (Nat.not_lt_zero _)
 | r :: t,0,_=>⟨rfl,rfl,rfl⟩
 | r :: t,k+1,h=>by
   have:=z8j t k (by simpa using h);rw[show (k+1)*3=k*3+1+1+1 by omega];exact this
theorem zev (x:Addr)(n m:Nat)(hm:0<m):(⟨(x.add n).block,(x.add n).off+m,none⟩:Addr)=x.add (n+m):=by
 by_cases h:n=0
 · subst h
   simp only[Addr.add,if_true,Nat.zero_add]
   rw[if_neg (by omega)]
 · simp only[Addr.add,h,if_false]
   rw[if_neg (by omega)]
   simp <;> omega
theorem zd7 {w:World}{B:Nat}{v:Value}{l:List Fld}(h:w.ownsRow B z1q 3 v l.length (z1p l)):∃A cap,v= .slice A l.length cap∧Flds w A l:=by
 rcases h.2 with ⟨rfl,h0⟩ | ⟨g,cap,cur,rfl,_,hg,_⟩
 · obtain rfl:l= []:=List.eq_nil_of_length_eq_zero h0
   exact ⟨none,0,rfl,.inl rfl⟩
 · refine ⟨_,cap,rfl,.inr ⟨⟨g,0,none⟩,rfl,z00 hg,fun k f hk=>?_⟩⟩
   have hlt:k<l.length:=by
    rcases Nat.lt_or_ge k l.length with h' | h'
    · exact h'
    · rw[List.getElem?_eq_none h'] at hk; cases hk
   obtain rfl:l[k]=f:=by rw[List.getElem?_eq_getElem hlt] at hk; injection hk
   obtain ⟨h0,h1,h2⟩:=z8j l k hlt;exact ⟨h.cells (g:=g) rfl _ _ h0,by rw[zev _ _ 1 (by decide)]; exact h.cells (g:=g) rfl _ _ h1,by rw[zev _ _ 2 (by decide)]; exact h.cells (g:=g) rfl _ _ h2⟩
theorem zd1 (g j:Nat):(⟨g,0,none⟩:Addr).add j=⟨g,j,none⟩:=by
 unfold Addr.add
 split
 · rename_i h; rw[h]
 · simp
theorem zde (w:World)(a b c:Value)(t:TypeId):∀j u,[a,b,c][j]? =some u→(w.alloc (.cells #[a,b,c] t)).cell? ((⟨w.heap.size,0,none⟩:Addr).add j)=some u:=by
 intro j u hj
 rw[zd1,cell_of_row _ _ _ _ _ (0,0) (heap_alloc_new w _)]
 match j,hj with
 | 0,hj=>simpa using hj
 | 1,hj=>simpa using hj
 | 2,hj=>simpa using hj
theorem z2b (w:World)(g:Nat)(hg:g=w.heap.size)(a b c:Value)(t:TypeId):∀j u,[a,b,c][j]? =some u→(w.alloc (.cells #[a,b,c] t)).cell? ((⟨g,0,none⟩:Addr).add j)=some u:=by subst hg; exact zde w a b c t
theorem zgk:(Tryz.prog.info? z1q).map (fun i=>(i.zero,i.size,i.bytes))=some (some (.agg #[.int .i64 0,.bool false,.int .i64 0]),3,24):=by kernel_rfl
theorem z34 {w:World}{B e n z:Nat}{v:Value}{xs:List Value}(h:w.ownsRow B e z v n xs):∃A cap,v= .slice A n cap:=by
 rcases h.2 with ⟨rfl,rfl⟩ | ⟨g,cap,_,rfl,_⟩
 · exact ⟨none,0,rfl⟩
 · exact ⟨_,cap,rfl⟩
theorem z8a {w:World}{B:Nat}{v:Value}{l:List Fld}{z el:Int}{c:Bool}(h:w.ownsRow B z1q 3 v (l.length+1) (z1p l++ [.int .i64 z,.bool c,.int .i64 el])):w.ownsRow B z1q 3 v (l++ [Fld.mk z c el]).length (z1p (l++ [Fld.mk z c el])):=by
 rw[z6u,List.length_append]; exact h
end Go.Proofs.YtblcibgphccfkaaGreatDoor
