/- Texts of the proof of the law FnRecordCanon, side by side: part 38. -/
import Derived.Test.YtblcibgphccfkaaGreatDoorMRecordCanon37
set_option maxHeartbeats 8000000
set_option maxRecDepth 100000
open Go.Lib (hid)
namespace Go.Proofs.YtblcibgphccfkaaGreatDoor
open Go.RowKit Go.Deep
def zw (n:Nat):ByteArray:=⟨(List.replicate n (0:UInt8)).toArray⟩
theorem zmd (n:Nat):(zw n).size=n:=by unfold zw; rw[ba_sz]; simp
theorem znu (k:Nat):zw (8*k)++(⟨(leB 0 8).toArray⟩:ByteArray)=zw (8*(k+1)):=by
 have e:leB 0 8=List.replicate 8 (0:UInt8):=by decide
 apply zi8
 rw[e];unfold zw;rw[show 8*(k+1)=8*k+8 by omega,← List.replicate_append_replicate]
 simp
theorem own0 (w:World):∀M,OwS w M none 0 [] []
 | 0=>⟨rfl,World.ownsRow_nil _ _ _ _,rfl⟩
 | _+1=>⟨[],rfl,World.ownsRow_nil _ _ _ _,rfl,fun r h=>by cases h⟩
theorem zis (w:World)(M:Nat):OwN w M z07 ⟨none,0,none,0⟩ []:=⟨by show (ByteArray.empty).size≤_; exact Nat.zero_le _,[],[],rfl,own0 w M,own0 w M⟩
theorem zjw (P k:Nat)(hk:k<P)(q:List NB)(h:q.map (·.1)=(List.replicate P z07).take k)(x:NB)(hx:x.1=z07):(q++ [x]).map (·.1)=(List.replicate P z07).take (k+1):=by
 rw[List.map_append,h,List.take_replicate,List.take_replicate,List.map_cons,List.map_nil,hx,show min (k+1) P=min k P+1 by omega,List.replicate_succ']
theorem za2 (M Wd P:Nat)(AT:Option Addr)(nt cy:Nat)(tg:Int)(w:World)(hW:Wd≤1000)(hP:P≤1000) :
 Calls Tryz.prog 50 #[.agg #[.int .i64 0,.string { data:= #[] },.slice none 0 0,.int .i64 0,.int .i64 0,.slice none 0 0],.agg #[.int .i64 (Wd:Int),.int .i64 (P:Int),.slice AT nt cy,.int .i64 tg]] w fun e w'=>∃A c bs,e= .returned (.agg #[.int .i64 1,.string (zw (8*Wd)),.slice A P c,.int .i64 0,.int .i64 0,.slice none 0 0])∧OwS w' (M+1) A c (List.replicate P z07) bs∧bs.Nodup∧(∀b∈bs,w.heap.size≤b)∧Below w.heap.size w w':=by
 have q0:=z0j w (.cells #[.int .i64 0,.string { data:= #[] },.slice none 0 0,.int .i64 0,.int .i64 0,.slice none 0 0] nodeT);have q1:=z0m q0 (.cells #[.int .i64 (Wd:Int),.int .i64 (P:Int),.slice AT nt cy,.int .i64 tg] 37);have q2:=z0m q1 (.cells #[.int .i64 0,.string { data:= #[] },.slice none 0 0,.int .i64 0,.int .i64 0,.slice none 0 0] nodeT);have r0:=z02 (z02 (heap_alloc_new w (.cells #[.int .i64 0,.string { data:= #[] },.slice none 0 0,.int .i64 0,.int .i64 0,.slice none 0 0] nodeT)) (.cells #[.int .i64 (Wd:Int),.int .i64 (P:Int),.slice AT nt cy,.int .i64 tg] 37)) (.cells #[.int .i64 0,.string { data:= #[] },.slice none 0 0,.int .i64 0,.int .i64 0,.slice none 0 0] nodeT);have r1:=z02 (z0s q0 #[.int .i64 (Wd:Int),.int .i64 (P:Int),.slice AT nt cy,.int .i64 tg] 37) (.cells #[.int .i64 0,.string { data:= #[] },.slice none 0 0,.int .i64 0,.int .i64 0,.slice none 0 0] nodeT);have r2:=z0s q1 #[.int .i64 0,.string { data:= #[] },.slice none 0 0,.int .i64 0,.int .i64 0,.slice none 0 0] nodeT;rw[show w.heap.size+(1+1)=w.heap.size+2 from rfl] at r2;have HB0:=hid q2.2;have R1:=hid r1;have R2:=hid r2;have HCP:=hid (fun W:World=>zj6 W);obtain ⟨a0,a1,a2,a3,a4,a5⟩:=z04 r0;clear q0 q1 q2 r0 r1 r2;go_enter Tryz.func50,Tryz.ntmps50
 go_wp2_with fail
 clear a0 a1 a2 a3 a4 a5;generalize ((w.alloc (.cells #[.int .i64 0,.string { data:= #[] },.slice none 0 0,.int .i64 0,.int .i64 0,.slice none 0 0] nodeT)).alloc (.cells #[.int .i64 (Wd:Int),.int .i64 (P:Int),.slice AT nt cy,.int .i64 tg] 37)).alloc (.cells #[.int .i64 0,.string { data:= #[] },.slice none 0 0,.int .i64 0,.int .i64 0,.slice none 0 0] nodeT)=W at *;refine (HCP.out _).mono ?_;rintro e w5 ⟨rfl,hb5⟩;have HB5:=hid (HB0.out.trans (hb5.mono HB0.out.size));have hba:Below w5.heap.size w5 (w5.alloc (.cells #[.int .i64 0,.string { data:= #[] },.slice none 0 0,.int .i64 0,.int .i64 0,.slice none 0 0] nodeT)):=(Below.refl _ _).alloc (Nat.le_refl _) _;have HBA:=hid hba;have X1:=hid ((hb5.block _ (z00 R1.out)).trans R1.out);have X2:=hid ((hb5.block _ (z00 R2.out)).trans R2.out);have xn:=heap_alloc_new w5 (.cells #[.int .i64 0,.string { data:= #[] },.slice none 0 0,.int .i64 0,.int .i64 0,.slice none 0 0] nodeT);have HL5:Hid (w.heap.size+2<w5.heap.size):=hid (z00 X2.out);have HXN:=hid xn;obtain ⟨n0,n1,n2,n3,n4,n5⟩:=z04 xn;have nf:=z03 xn;clear hb5 hba xn
 go_wp2_with fail
 obtain ⟨nb,hnb⟩:∃nb,nb=w5.heap.size:=⟨_,rfl⟩
 have HXR:=hid (heap_alloc_new w5 (.cells #[.int .i64 1,.string { data:= #[] },(.slice none 0 0),.int .i64 0,.int .i64 0,.slice none 0 0] nodeT));have hba:Below w5.heap.size w5 (w5.alloc (.cells #[.int .i64 1,.string { data:= #[] },(.slice none 0 0),.int .i64 0,.int .i64 0,.slice none 0 0] nodeT)):=(Below.refl w5.heap.size w5).alloc (Nat.le_refl _) _;have HBS:=hid (HB5.out.trans (hba.mono HB5.out.size));have HY1:=hid ((hba.block _ (z00 X1.out)).trans X1.out);have HY2:=hid ((hba.block _ (z00 X2.out)).trans X2.out);clear n0 n1 n2 n3 n4 n5 nf hba;rw[← hnb] at HXR HL5 ⊢;generalize w5.alloc (.cells #[.int .i64 1,.string { data:= #[] },(.slice none 0 0),.int .i64 0,.int .i64 0,.slice none 0 0] nodeT)=W6 at *;have HRW:Hid (W6.heap[nb]? =some (.cells #[.int .i64 1,.string (zw (8*0)),(.slice none 0 0),.int .i64 0,.int .i64 0,.slice none 0 0] nodeT (0,0))):=hid HXR.out;clear HXR HXN HBA hnb
 go_loopg [] Wd (fun gh wr=>∃k,gh=k∧k≤Wd∧Hid (wr.heap[nb]? =some (.cells #[.int .i64 1,.string (zw (8*(Wd-k))),(.slice none 0 0),.int .i64 0,.int .i64 0,.slice none 0 0] nodeT (0,0)))∧Hid (Below nb W6 wr))
 case atStart=>exact ⟨_,rfl,Nat.le_refl _,hid (by rw[Nat.sub_self]; exact HRW.out),hid (Below.refl _ _)⟩
 case round =>
  obtain ⟨k,hgk,hk,HR,HB⟩:=hrel;have HLB:=hid ((HB.out.block _ (by have:=HL5.out; omega)).trans HY1.out);obtain ⟨l0,l1,l2,l3⟩:=z0p HLB.out;obtain ⟨n0,n1,n2,n3,n4,n5⟩:=z04 HR.out;have hzs:=zmd (8*(Wd-k))
  have hwr:IntKind.i64.wrap (8*(Wd:Int))=8*(Wd:Int):=by rw[IntKind.wrap_i64]; omega
  by_cases hk0:k=0
  · subst hk0
    rw[Nat.sub_zero] at hzs n1 HR;have HR1:=hid HR.out
    have hle:¬(((zw (8*Wd)).size:Nat):Int)<8*(Wd:Int):=by omega
    generalize hD:zw (8*Wd)=D at *
    go_wp2_with fail
    clear l0 l1 l2 l3 n0 n1 n2 n3 n4 n5 hle hwr
    obtain ⟨wo,hwo⟩:∃wo:World,wo=wr:=⟨_,rfl⟩
    rw[← hwo] at HB HR1 ⊢;clear hwo HR HLB
    go_loopg [] P (fun gh wr=>∃k,gh=k∧k≤P∧Hid (∃(v:Value) (q:List NB),wr.heap[nb]? =some (.cells #[.int .i64 1,.string D,v,.int .i64 0,.int .i64 0,.slice none 0 0] nodeT (0,0))∧CpRow wr (nb+1) v q M (List.replicate P z07) (P-k))∧Hid (Below nb wo wr))
    case atStart=>exact ⟨_,rfl,Nat.le_refl _,hid ⟨_,[],HR1.out,RowO.nil _ _ _,by rw[Nat.sub_self]; rfl⟩,hid (Below.refl _ _)⟩
    case round =>
     obtain ⟨k,hgk,hk,HR,HB2⟩:=hrel;obtain ⟨v,q,hrow,hro,hq⟩:=HR.out;have HLB:=hid (((HB.out.trans HB2.out).block _ (by have:=HL5.out; omega)).trans HY1.out);obtain ⟨l0,l1,l2,l3⟩:=z0p HLB.out;obtain ⟨n0,n1,n2,n3,n4,n5⟩:=z04 hrow;have nf:=z03 hrow
     have hql:q.length=P-k:=by have:=congrArg List.length hq; simp at this; omega
     have HBT:=hid (HBS.out.trans ((HB.out.trans HB2.out).mono (by have:=HL5.out; omega)))
     by_cases hk0:k=0
     · subst hk0
       obtain ⟨A1,c1,bs,hv,ho,hnd,hge⟩:=CpRow.all (l:=List.replicate P z07) (show CpRow wr (nb+1) v q M (List.replicate P z07) (List.replicate P z07).length from ⟨hro,by rw[List.length_replicate]; exact hq⟩);subst hv;rw[List.length_replicate] at n2 hrow;have HROW:=hid hrow;have HO:=hid ho;have HND:=hid hnd;have HGE:=hid hge;have hz:=((HB.out.trans HB2.out).block _ (by have:=HL5.out; omega)).trans HY2.out;have HZ:=hid hz;obtain ⟨z0,z1,z2,z3,z4,z5⟩:=z04 hz;have zf:=z03 hz
       have hnlt:¬((P:Nat):Int)<(P:Int):=by omega
       clear hrow ho hnd hge hro hq HR hz hql
       go_wp2_with fail
       obtain ⟨w9,hw9,hr9,ho9⟩:=finN6 (.int .i64 1) (.string D) (.slice A1 P c1) (.int .i64 0) (.int .i64 0) (.slice none 0 0) HZ.out
       try rw[hw9]
       obtain ⟨e0,e1,e2,e3,e4,e5⟩:=z04 hr9;have hl5:=HL5.out;have hbt:=HBT.out.size;exact bodyPost_ret (v:= .agg #[.int .i64 1,.string D,.slice A1 P c1,.int .i64 0,.int .i64 0,.slice none 0 0]) (by simp[results,Tryz.results50,go_sem,e0,e1,e2,e3,e4,e5]) rfl ⟨A1,c1,rfl,bs,HO.out.frame _ _ _ _ _ (fun b hb=>ho9.block b (HGE.out b hb).2 (by have:=(HGE.out b hb).1; simp; omega)),HND.out,fun b hb=>by have:=(HGE.out b hb).1; omega,HBT.out.trans (z0r ho9 (R:=w.heap.size) hbt (by omega))⟩
     · obtain ⟨j,rfl⟩:∃j,k=j+1:=⟨k-1,by omega⟩
       obtain ⟨A1,c1,hv⟩:=z2d hro.1;subst hv;have HROW:=hid hrow;have HRO:=hid hro;have HQ:=hid hq;have hnl:=z00 hrow
       have hq3:q.length≤3000000:=by omega
       have hlt:((q.length:Nat):Int)<(P:Int):=by omega
       clear hrow hro hq HR hql
       go_wp2_with (at_builtin; go_must (refine z2m rfl (.tmp 28) (.tmp 30) rfl (nb+1) (.slice A1 q.length c1) q.length (rowB q) rfl (HRO.out.1.alloc _) ⟨wr.heap.size,0,none⟩ 1 (z07,nHd) rfl (z1c wr (z07,nHd) _) hq3 (by simp; omega) ?_); intro A4 c4 w4 hown4 hgrow4 hat4; have hx4:=(hgrow4.out.block nb (by simp; omega) (fun e=>by have:=(HRO.out.1.lt _ e.symm).1; omega)).trans ((Below.heap_alloc wr _ nb (by omega)).trans HROW.out); have qf4:=z03 hx4 2; obtain ⟨r0,r1,r2,r3,r4,r5⟩:=z04 hx4)
       have hnx:=(HRO.out.alloc _).next (zis _ M) List.nodup_nil (fun b h=>by cases h) (show nb+1≤wr.heap.size by omega) HRO.out.lt (fun k hk=>(HRO.out.1.lt k hk).2) hown4.out hgrow4.out hat4.out;have hb4:=(((Below.refl nb wr).alloc (by omega) _).grown hgrow4.out (by simp; omega) (fun k hk=>by have:=(HRO.out.1.lt k hk).1; omega)).setCell (p:=⟨nb,2,none⟩) (Nat.le_refl _) (.slice A4 (q.length+1) c4);have hrn:=z06 hx4 2 (.slice A4 (q.length+1) c4);have hqn:=zjw P (P-(j+1)) (by omega) q HQ.out (z07,nHd,[]) rfl;rw[show P-(j+1)+1=P-j by omega] at hqn
       go_roundg j
       case measure=>omega
       case rel=>exact ⟨j,rfl,by omega,hid ⟨_,_,hrn,hnx.store (by omega),hqn⟩,hid (HB2.out.trans hb4)⟩
  · obtain ⟨j,rfl⟩:∃j,k=j+1:=⟨k-1,by omega⟩
    obtain ⟨Z8,hZ8⟩:∃Z8:ByteArray,Z8=⟨(leB 0 8).toArray⟩:=⟨_,rfl⟩
    have hcat:zw (8*(Wd-(j+1)))++Z8=zw (8*(Wd-j)):=by rw[hZ8,znu,show Wd-(j+1)+1=Wd-j by omega]
    have hz8:Z8.size=8:=by rw[hZ8]; rfl
    have HL1:Hid (∀V:World,Calls Tryz.prog 78 #[.int .i64 0,.int .i64 8] V fun e w'=>e= .returned (.string Z8)∧Below V.heap.size V w'):=hid (fun V=>by rw[hZ8]; exact z5i 0 8 V (by decide) (by decide))
    have hlt:(((zw (8*(Wd-(j+1)))).size:Nat):Int)<8*(Wd:Int):=by omega
    clear hZ8;generalize hD:zw (8*(Wd-(j+1)))=D at *;generalize hD2:zw (8*(Wd-j))=D2 at *
    go_upto_region 4 with fail
    clear l0 l1 l2 l3 n0 n2 n3 n4 n5 hwr hlt;have HDR:Hid (Below wr.heap.size wr wr.drew):=hid ⟨rfl,rfl,rfl,Nat.le_refl _,fun _ _=>rfl⟩;refine wp_region_held_drew (S:=(fun _=>True)) (by kernel_rfl) ?_ (fun hH0=>?_)
    · trivial
    refine wpAnyH_take (i:=0) (v:=?_) rfl (by kernel_rfl) (by kernel_rfl) (by kernel_rfl) (fun _ _ _ h=>h) (Or.inl ⟨by rfl,?_⟩) (by assumption) ?_
    rotate_left
    · intro w hSw
      go_simp
      try with_reducible rfl
    try simp only[List.getElem_toArray,List.getElem_cons_succ,List.getElem_cons_zero,Act.put,List.setIfInBounds_toArray,List.set_cons_zero,List.set_cons_succ]
    refine wpAnyH_ready (rs:= [1,2]) (by kernel_rfl) (by simp) ?_;refine AllReadyH.cons rfl (fun K hK=>?_) (AllReadyH.cons rfl (fun K hK=>?_) AllReadyH.nil)
    · go_simp
      refine hK.out _ _ trivial (fun hHn=>?_);clear hK K hH0
      try simp only[List.getElem_toArray,List.getElem_cons_succ,List.getElem_cons_zero,Act.put,List.setIfInBounds_toArray,List.set_cons_zero,List.set_cons_succ]
      refine wpAnyH_ready (rs:= [2]) (by kernel_rfl) (by simp) ?_;refine AllReadyH.cons rfl (fun K hK=>?_) AllReadyH.nil
      go_simp
      go_at_call 78
      refine (HL1.out _).mono ?_;rintro e w7 ⟨rfl,hb7⟩;have HC7:=hid (HDR.out.trans (hb7.mono HDR.out.size));have HR7:=hid ((HC7.out.block _ (z00 HR.out)).trans HR.out);clear hb7
      go_wp2_with fail
      refine hK.out _ _ trivial (fun hHm=>?_);clear hK K hHn
      try simp only[List.getElem_toArray,List.getElem_cons_succ,List.getElem_cons_zero,Act.put,List.setIfInBounds_toArray,List.set_cons_zero,List.set_cons_succ]
      refine wpAnyH_take (i:=3) (v:=?_) rfl (by kernel_rfl) (by kernel_rfl) (by kernel_rfl) (fun _ _ _ h=>h) (Or.inl ⟨by rfl,?_⟩) (by assumption) ?_
      rotate_left
      · intro w hSw
        go_simp
        rw[if_neg (by omega)]
        try with_reducible rfl
      try simp only[List.getElem_toArray,List.getElem_cons_succ,List.getElem_cons_zero,Act.put,List.setIfInBounds_toArray,List.set_cons_zero,List.set_cons_succ]
      refine wpAnyH_take (i:=4) (v:=?_) rfl (by kernel_rfl) (by kernel_rfl) (by kernel_rfl) (fun _ _ _ h=>h) (Or.inl ⟨by rfl,?_⟩) (by assumption) ?_
      rotate_left
      · intro w hSw
        go_simp
        try with_reducible rfl
      try simp only[List.getElem_toArray,List.getElem_cons_succ,List.getElem_cons_zero,Act.put,List.setIfInBounds_toArray,List.set_cons_zero,List.set_cons_succ]
      obtain ⟨n0,n1,n2,n3,n4,n5⟩:=z04 HR7.out;have nf:=z03 HR7.out;refine wpAnyH_ready (rs:= [5]) (by kernel_rfl) (by simp) ?_;refine AllReadyH.cons rfl (fun K hK=>?_) AllReadyH.nil
      go_simp
      try rw[hcat]
      have HRN:=hid (z06 HR7.out 1 (.string D2));have HBN:=hid ((HB.out.trans (HC7.out.mono (Nat.le_of_lt (z00 HR.out)))).setCell (p:=⟨nb,1,none⟩) (Nat.le_refl _) (.string D2));refine hK.out _ _ trivial (fun hHl=>?_);clear hK K n0 n1 n2 n3 n4 n5 nf
      try simp only[List.getElem_toArray,List.getElem_cons_succ,List.getElem_cons_zero,Act.put,List.setIfInBounds_toArray,List.set_cons_zero,List.set_cons_succ]
      refine wpAnyH_done (by kernel_rfl) ?_ _;clear hHl
      go_wp2_with fail
      go_roundg j
      case measure=>omega
      case rel=>exact ⟨j,rfl,by omega,hid (by rw[hD2]; exact HRN.out),hid HBN.out⟩
    · go_simp
      go_at_call 78
      refine (HL1.out _).mono ?_;rintro e w7 ⟨rfl,hb7⟩;have HC7:=hid (HDR.out.trans (hb7.mono HDR.out.size));have HR7:=hid ((HC7.out.block _ (z00 HR.out)).trans HR.out);clear hb7
      go_wp2_with fail
      refine hK.out _ _ trivial (fun hHn=>?_);clear hK K hH0
      try simp only[List.getElem_toArray,List.getElem_cons_succ,List.getElem_cons_zero,Act.put,List.setIfInBounds_toArray,List.set_cons_zero,List.set_cons_succ]
      obtain ⟨-,n1, -⟩:=z04 HR7.out;refine wpAnyH_ready (rs:= [1]) (by kernel_rfl) (by simp) ?_;refine AllReadyH.cons rfl (fun K hK=>?_) AllReadyH.nil
      go_simp
      refine hK.out _ _ trivial (fun hHm=>?_);clear hK K hHn n1
      try simp only[List.getElem_toArray,List.getElem_cons_succ,List.getElem_cons_zero,Act.put,List.setIfInBounds_toArray,List.set_cons_zero,List.set_cons_succ]
      refine wpAnyH_take (i:=3) (v:=?_) rfl (by kernel_rfl) (by kernel_rfl) (by kernel_rfl) (fun _ _ _ h=>h) (Or.inl ⟨by rfl,?_⟩) (by assumption) ?_
      rotate_left
      · intro w hSw
        go_simp
        rw[if_neg (by omega)]
        try with_reducible rfl
      try simp only[List.getElem_toArray,List.getElem_cons_succ,List.getElem_cons_zero,Act.put,List.setIfInBounds_toArray,List.set_cons_zero,List.set_cons_succ]
      refine wpAnyH_take (i:=4) (v:=?_) rfl (by kernel_rfl) (by kernel_rfl) (by kernel_rfl) (fun _ _ _ h=>h) (Or.inl ⟨by rfl,?_⟩) (by assumption) ?_
      rotate_left
      · intro w hSw
        go_simp
        try with_reducible rfl
      try simp only[List.getElem_toArray,List.getElem_cons_succ,List.getElem_cons_zero,Act.put,List.setIfInBounds_toArray,List.set_cons_zero,List.set_cons_succ]
      obtain ⟨n0,n1,n2,n3,n4,n5⟩:=z04 HR7.out;have nf:=z03 HR7.out;refine wpAnyH_ready (rs:= [5]) (by kernel_rfl) (by simp) ?_;refine AllReadyH.cons rfl (fun K hK=>?_) AllReadyH.nil
      go_simp
      try rw[hcat]
      have HRN:=hid (z06 HR7.out 1 (.string D2));have HBN:=hid ((HB.out.trans (HC7.out.mono (Nat.le_of_lt (z00 HR.out)))).setCell (p:=⟨nb,1,none⟩) (Nat.le_refl _) (.string D2));refine hK.out _ _ trivial (fun hHl=>?_);clear hK K n0 n1 n2 n3 n4 n5 nf
      try simp only[List.getElem_toArray,List.getElem_cons_succ,List.getElem_cons_zero,Act.put,List.setIfInBounds_toArray,List.set_cons_zero,List.set_cons_succ]
      refine wpAnyH_done (by kernel_rfl) ?_ _;clear hHl
      go_wp2_with fail
      go_roundg j
      case measure=>omega
      case rel=>exact ⟨j,rfl,by omega,hid (by rw[hD2]; exact HRN.out),hid HBN.out⟩
theorem znq (x:Addr)(c:Nat)(l:List Fld)(B:Option Addr)(cb:Nat)(vs:List Vl)(ch:Int)(m:Nat)(w:World)(h1w:1<w.heap.size)(hxb:x.block<w.heap.size)(hfl:Flds w (some x) l)(hll:l.length≤10000000)(hvs:z4d w Any m B vs)(hvl:vs.length≤10000000)(hsv:sumV vs≤1900000)(M:Nat)(hno:z14 l=false) :
 Calls Tryz.prog 15 #[.slice (some x) l.length c,.slice B vs.length cb,.int .i64 ch] w (NewNb M z07 false w):=by
 have HB0:=hid ((Below.refl w.heap.size w).alloc (Nat.le_refl _) (.cells #[.int .i64 0,.string { data:= #[] },.slice none 0 0,.int .i64 0,.int .i64 0,.slice none 0 0] nodeT));have R0:=hid (heap_alloc_new w (.cells #[.int .i64 0,.string { data:= #[] },.slice none 0 0,.int .i64 0,.int .i64 0,.slice none 0 0] nodeT));have HFO:=hid (fun (W:World) (hW:Below w.heap.size w W)=>z1a (some x) c l W (hfl.below hW) hll);rw[hno] at HFO;clear hfl hvs hno;go_enter Tryz.func15,Tryz.ntmps15
 go_wp2_with fail
 generalize w.alloc (.cells #[.int .i64 0,.string { data:= #[] },.slice none 0 0,.int .i64 0,.int .i64 0,.slice none 0 0] nodeT)=W at *;refine (HFO.out _ HB0.out).mono ?_;rintro e w1 ⟨rfl,hb1⟩;have HB1:=hid (HB0.out.trans (hb1.mono HB0.out.size));have X0:=hid ((hb1.block _ (z00 R0.out)).trans R0.out);clear hb1;obtain ⟨z0,z1,z2,z3,z4,z5⟩:=z04 X0.out;have zf:=z03 X0.out
 go_wp2_with fail
 obtain ⟨wf,hwf,hrw,hbf,hkf⟩:=finN (w:=w) (R:=w.heap.size) (.int .i64 0) (.string { data:= #[] }) (.slice none 0 0) (.int .i64 0) (.int .i64 0) (.slice none 0 0) X0.out HB1.out (Nat.le_refl _)
 try rw[hwf]
 obtain ⟨e0,e1,e2,e3,e4,e5⟩:=z04 hrw;exact bodyPost_ret (v:= .tuple #[.agg #[.int .i64 0,.string { data:= #[] },.slice none 0 0,.int .i64 0,.int .i64 0,.slice none 0 0],.bool false]) (by simp[results,Tryz.results15,go_sem,e0,e1,e2,e3,e4,e5]) rfl (NewNb.none hbf)
theorem zn3 (x:Addr)(c:Nat)(l:List Fld)(B:Option Addr)(cb:Nat)(vs:List Vl)(ch:Int)(m:Nat)(w:World)(h1w:1<w.heap.size)(hxb:x.block<w.heap.size)(hfl:Flds w (some x) l)(hll:l.length≤10000000)(hvs:z4d w Any m B vs)(hvl:vs.length≤10000000)(hsv:sumV vs≤1900000)(M:Nat)(hyes:z14 l=true)(hne:vs.length≠l.length) :
 Calls Tryz.prog 15 #[.slice (some x) l.length c,.slice B vs.length cb,.int .i64 ch] w (NewNb M z07 false w):=by
 have HB0:=hid ((Below.refl w.heap.size w).alloc (Nat.le_refl _) (.cells #[.int .i64 0,.string { data:= #[] },.slice none 0 0,.int .i64 0,.int .i64 0,.slice none 0 0] nodeT));have R0:=hid (heap_alloc_new w (.cells #[.int .i64 0,.string { data:= #[] },.slice none 0 0,.int .i64 0,.int .i64 0,.slice none 0 0] nodeT));have HFO:=hid (fun (W:World) (hW:Below w.heap.size w W)=>z1a (some x) c l W (hfl.below hW) hll);rw[hyes] at HFO
 have hne2:¬(vs.length:Int)=(l.length:Int):=by omega
 clear hfl hvs hyes;go_enter Tryz.func15,Tryz.ntmps15
 go_wp2_with fail
 generalize w.alloc (.cells #[.int .i64 0,.string { data:= #[] },.slice none 0 0,.int .i64 0,.int .i64 0,.slice none 0 0] nodeT)=W at *;refine (HFO.out _ HB0.out).mono ?_;rintro e w1 ⟨rfl,hb1⟩;have HB1:=hid (HB0.out.trans (hb1.mono HB0.out.size));have X0:=hid ((hb1.block _ (z00 R0.out)).trans R0.out);clear hb1;obtain ⟨z0,z1,z2,z3,z4,z5⟩:=z04 X0.out;have zf:=z03 X0.out
 go_wp2_with fail
 obtain ⟨wf,hwf,hrw,hbf,hkf⟩:=finN (w:=w) (R:=w.heap.size) (.int .i64 0) (.string { data:= #[] }) (.slice none 0 0) (.int .i64 0) (.int .i64 0) (.slice none 0 0) X0.out HB1.out (Nat.le_refl _)
 try rw[hwf]
 obtain ⟨e0,e1,e2,e3,e4,e5⟩:=z04 hrw;exact bodyPost_ret (v:= .tuple #[.agg #[.int .i64 0,.string { data:= #[] },.slice none 0 0,.int .i64 0,.int .i64 0,.slice none 0 0],.bool false]) (by simp[results,Tryz.results15,go_sem,e0,e1,e2,e3,e4,e5]) rfl (NewNb.none hbf)
theorem z40 (x:Addr)(c:Nat)(l:List Fld)(k:Nat)(hk:k≤l.length)(w:World)(h:Flds w (some x) l)(hl:l.length≤12) :
 Calls Tryz.prog 37 #[.slice (some x) l.length c,.int .i64 (k:Int)] w fun e w'=>e= .returned (.int .i64 (plcN l k:Nat))∧Below w.heap.size w w':=by
 have HF:=hid h
 have hk12:k≤12:=by omega
 clear h;go_enter Tryz.func37,Tryz.ntmps37;go_wp2
 go_loopw [5,6] (fun q i wr=>∃(j u:Nat),i= .int .i64 (j:Int)∧q= .int .i64 (u:Int)∧j≤k∧u≤12∧Hid (u=plcN l j)∧Hid (Below w.heap.size w wr)) (fun _ i _=>k-(intOf i).toNat)
 case atStart=>exact ⟨0,0,rfl,rfl,by omega,by omega,hid rfl,hid (Below.refl _ _)⟩
 case round =>
  obtain ⟨j,u,rfl,rfl,hj,hu,HU,HB⟩:=hrel
  by_cases hlt:j<k
  · obtain ⟨x',hx',hxb',hx⟩:=(HF.out.below HB.out).at2 (k:=j) (by omega)
    obtain rfl:=Option.some.inj hx';have HTK:=hid (z7d (l:=l) (j:=j) (by omega));have HP:=hid (z4k l (j+1));generalize l[j]=f at hx HTK;obtain ⟨z,fc,el⟩:=f;obtain ⟨c0,c1,c2⟩:=hx
    have hjl:j<l.length:=by omega
    cases fc
    · go_wp2
      go_roundw
      case rel=>exact ⟨j+1,u,by go_num,rfl,by omega,by omega,hid (by rw[HTK.out,HU.out]; rfl),HB⟩
      case measure=>simp[intOf]; omega
    · have hu1:u+1≤12:=by have h1:=HP.out; have h2:=HTK.out; have h3:=HU.out; simp at h2; omega
      go_wp2
      go_roundw
      case rel=>exact ⟨j+1,u+1,by go_num,by go_num,by omega,hu1,hid (by rw[HTK.out,HU.out]; rfl),HB⟩
      case measure=>simp[intOf]; omega
  · obtain rfl:j=k:=by omega
    go_wp2;go_ret;exact ⟨by rw[← HU.out]; rfl,HB.out⟩
theorem zga (x:Addr)(c:Nat)(l:List Fld)(B:Option Addr)(cb:Nat)(vs:List Vl)(ch:Int)(m:Nat)(w:World)(h1w:1<w.heap.size)(hxb:x.block<w.heap.size)(hfl:Flds w (some x) l)(hll:l.length≤10000000)(hvs:z4d w Any m B vs)(hvl:vs.length≤10000000)(hsv:sumV vs≤1900000)(M:Nat)(hyes:z14 l=true)(hlen:vs.length=l.length)(hno:chB l ch=false) :
 Calls Tryz.prog 15 #[.slice (some x) l.length c,.slice B vs.length cb,.int .i64 ch] w (NewNb M z07 false w):=by
 have HB0:=hid ((Below.refl w.heap.size w).alloc (Nat.le_refl _) (.cells #[.int .i64 0,.string { data:= #[] },.slice none 0 0,.int .i64 0,.int .i64 0,.slice none 0 0] nodeT));have R0:=hid (heap_alloc_new w (.cells #[.int .i64 0,.string { data:= #[] },.slice none 0 0,.int .i64 0,.int .i64 0,.slice none 0 0] nodeT));have HFO:=hid (fun (W:World) (hW:Below w.heap.size w W)=>z1a (some x) c l W (hfl.below hW) hll);have hl12:=z0n hyes;obtain ⟨hP,hW⟩:=z24 l;have HLY:=hid (fun (W:World) (hW:Below w.heap.size w W)=>z12 (some x) c l W (Nat.lt_of_lt_of_le h1w hW.size) (hfl.below hW) hyes);have HWI:=hid (fun (A1:Option Addr) (cp1:Nat) (W:World)=>za2 (m+1) (layF l ps0).2.ls.words (layF l ps0).2.ptrs A1 l.length cp1 (tagL l) W (by omega) (by omega));have HCO:=hid (fun (W:World) (hW:Below w.heap.size w W)=>z40 x c l l.length (Nat.le_refl _) W (hfl.below hW) hl12);have hpl:=z4k l l.length;rw[hyes] at HFO;rw[hlen]
 have HIN:Hid (inB ch 0 ((plcN l l.length:Int)-1)=false):=hid (by
  unfold chB at hno
  by_cases h0:plcN l l.length=0
  · rw[h0]; simp[inB]; omega
  · rw[if_neg h0] at hno
    have e:inB ch 0 ((plcN l l.length:Int)-1)=withB ch (plcN l l.length:Int):=by rw[Bool.eq_iff_iff]; simp[inB,withB]; omega
    rw[e,hno])
 have HC1:Hid (ch= -1→¬((plcN l l.length:Nat):Int)=0):=hid (fun h=>by
  intro h0
  unfold chB at hno;rw[if_pos (by omega)] at hno
  simp at hno
  exact hno h)
 clear hfl hvs hyes hno hlen;go_enter Tryz.func15,Tryz.ntmps15
 go_wp2_with fail
 generalize w.alloc (.cells #[.int .i64 0,.string { data:= #[] },.slice none 0 0,.int .i64 0,.int .i64 0,.slice none 0 0] nodeT)=W at *;refine (HFO.out _ HB0.out).mono ?_;rintro e w1 ⟨rfl,hb1⟩;have HB1:=hid (HB0.out.trans (hb1.mono HB0.out.size));have X0:=hid ((hb1.block _ (z00 R0.out)).trans R0.out);clear hb1
 go_wp2_with fail
 refine (HLY.out _ HB1.out).mono ?_;rintro e w2 ⟨v1,rfl,hown,hb2⟩;have HB2:=hid (HB1.out.trans (hb2.mono HB1.out.size));obtain ⟨A1,cp1,rfl⟩:=z0h hown;have hlv:layV l (.slice A1 l.length cp1)= .agg #[.int .i64 ((layF l ps0).2.ls.words:Int),.int .i64 ((layF l ps0).2.ptrs:Int),.slice A1 l.length cp1,.int .i64 (tagL l)]:=rfl;rw[hlv];have ha2:Below w2.heap.size w2 (w2.alloc (.cells #[.int .i64 ((layF l ps0).2.ls.words:Int),.int .i64 ((layF l ps0).2.ptrs:Int),.slice A1 l.length cp1,.int .i64 (tagL l)] 37)):=(Below.refl _ _).alloc (Nat.le_refl _) _;have HB3:=hid (HB2.out.trans (ha2.mono HB2.out.size));have X3:=hid ((ha2.block _ (z00 ((hb2.block _ (z00 X0.out)).trans X0.out))).trans ((hb2.block _ (z00 X0.out)).trans X0.out));have L3:=hid (heap_alloc_new w2 (.cells #[.int .i64 ((layF l ps0).2.ls.words:Int),.int .i64 ((layF l ps0).2.ptrs:Int),.slice A1 l.length cp1,.int .i64 (tagL l)] 37));have HPB:Hid (w.heap.size<w2.heap.size):=hid (z00 ((hb2.block _ (z00 X0.out)).trans X0.out));obtain ⟨l0,l1,l2,l3⟩:=z0p L3.out;clear hlv ha2 hb2 hown
 go_wp2_with fail
 clear l0 l1 l2 l3
 obtain ⟨pb,hpb⟩:∃pb,pb=w2.heap.size:=⟨_,rfl⟩
 rw[← hpb] at L3 HPB ⊢;clear hpb;generalize w2.alloc (.cells #[.int .i64 ((layF l ps0).2.ls.words:Int),.int .i64 ((layF l ps0).2.ptrs:Int),.slice A1 l.length cp1,.int .i64 (tagL l)] 37)=W3 at *;refine (HWI.out A1 cp1 _).mono ?_;rintro e w4 ⟨A,cp,bs,rfl,ho,hnd,hge,hb4⟩;have HB4:=hid (HB3.out.trans (hb4.mono HB3.out.size));have ha4:Below w4.heap.size w4 (w4.alloc (.cells #[.int .i64 1,.string (zw (8*(layF l ps0).2.ls.words)),.slice A (layF l ps0).2.ptrs cp,.int .i64 0,.int .i64 0,.slice none 0 0] nodeT)):=(Below.refl _ _).alloc (Nat.le_refl _) _;have HB5:=hid (HB4.out.trans (ha4.mono HB4.out.size));have X5:=hid ((ha4.block _ (z00 ((hb4.block _ (z00 X3.out)).trans X3.out))).trans ((hb4.block _ (z00 X3.out)).trans X3.out));clear ho hnd hge hb4 ha4
 go_wp2_with fail
 generalize w4.alloc (.cells #[.int .i64 1,.string (zw (8*(layF l ps0).2.ls.words)),.slice A (layF l ps0).2.ptrs cp,.int .i64 0,.int .i64 0,.slice none 0 0] nodeT)=W5 at *;refine (HCO.out _ HB5.out).mono ?_;rintro e w6 ⟨rfl,hb6⟩;have HB6:=hid (HB5.out.trans (hb6.mono HB5.out.size));have X6:=hid ((hb6.block _ (z00 X5.out)).trans X5.out);clear hb6;generalize plcN l l.length=pn at *
 have hpn:pn≤12:=by omega
 obtain ⟨z0,z1,z2,z3,z4,z5⟩:=z04 X6.out;have zf:=z03 X6.out
 by_cases hch:ch= -1
 · have hp:=HC1.out hch
   have hp3:(((pn:Nat):Int)==0)=false:=by rw[beq_eq_false_iff_ne]; exact hp
   subst hch
   go_wp2_with (go_at_call 34; refine (z0t _ _ _ _).mono ?_; rintro e w' ⟨rfl,rfl⟩; rw[HIN.out])
   obtain ⟨wf,hwf,hrw,hbf,hkf⟩:=finN (w:=w) (R:=w.heap.size) (.int .i64 0) (.string { data:= #[] }) (.slice none 0 0) (.int .i64 0) (.int .i64 0) (.slice none 0 0) X6.out HB6.out (Nat.le_refl _)
   try rw[hwf]
   obtain ⟨e0,e1,e2,e3,e4,e5⟩:=z04 hrw;exact bodyPost_ret (v:= .tuple #[.agg #[.int .i64 0,.string { data:= #[] },.slice none 0 0,.int .i64 0,.int .i64 0,.slice none 0 0],.bool false]) (by simp[results,Tryz.results15,go_sem,e0,e1,e2,e3,e4,e5]) rfl (NewNb.none hbf)
 · go_wp2_with (go_at_call 34; refine (z0t _ _ _ _).mono ?_; rintro e w' ⟨rfl,rfl⟩; rw[HIN.out])
   obtain ⟨wf,hwf,hrw,hbf,hkf⟩:=finN (w:=w) (R:=w.heap.size) (.int .i64 0) (.string { data:= #[] }) (.slice none 0 0) (.int .i64 0) (.int .i64 0) (.slice none 0 0) X6.out HB6.out (Nat.le_refl _)
   try rw[hwf]
   obtain ⟨e0,e1,e2,e3,e4,e5⟩:=z04 hrw;exact bodyPost_ret (v:= .tuple #[.agg #[.int .i64 0,.string { data:= #[] },.slice none 0 0,.int .i64 0,.int .i64 0,.slice none 0 0],.bool false]) (by simp[results,Tryz.results15,go_sem,e0,e1,e2,e3,e4,e5]) rfl (NewNb.none hbf)
end Go.Proofs.YtblcibgphccfkaaGreatDoor
