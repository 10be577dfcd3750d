/- Texts of the proof of the law FnCanonSent, side by side: part 24. -/
import Derived.Test.YtlbfffokkhccaaaGreatDoorMCanonSent23
set_option maxHeartbeats 8000000
set_option maxRecDepth 100000
open Go.Lib (hid)
namespace Go.Proofs.YtlbfffokkhccaaaGreatDoor
open Go.RowKit Go.Deep
theorem zqv (F:ByteArray):(⟨F.data.toList.toArray⟩:ByteArray)=F:=by
 cases F; simp
theorem ztl {n:Nd}{z:Int}(h:sndB (bldV n z)=true):z0g n=true∧∃(F:ByteArray) (zs:List ByteArray),F.size≤1600∧unV (sndS (bldV n z))= .tuple #[.string F,.bool true]∧fg F=((F.size:Int),zs)∧(∀s∈zs,s.size≤maxLen)∧frOk zs=true∧RepN (sgz zs) 8 n 0 0∧∃(F':ByteArray) (ok:Bool),unV (sndS (bldV n z)++ { data:= #[1,5] })= .tuple #[.string F',.bool ok]∧F'.size≤1600∧(ok=false∨(fg F').1≠(F'.size:Int)):=by
 obtain ⟨s1,f8,f16,hS,_⟩:=zkh h;have hTX:=zeq n z
 have hwB:z1d (sndF (bldV n z)).size=true:=by unfold sndB at h; rw[Bool.and_eq_true] at h; exact h.2
 obtain ⟨ss,hss⟩:=Option.isSome_iff_exists.1 s1
 have hcond:z0g n=true∧1≤z∧z≤200:=by
  unfold bldV at hss
  by_cases e:z0g n=true∧1≤z∧z≤200
  · exact e
  · rw[if_neg e] at hss; cases hss
 have hbp:z36 200 z.toNat n=some ss:=by
  unfold bldV at hss
  rwa [if_pos hcond] at hss
 obtain ⟨ok8,_⟩:=z21 hcond.1;have hso:SOk 200 ss:=(z2b 200 z.toNat 8 n [zer 1] 0 0 ss ok8 (SOKL 200 (by decide)) (by decide) (by decide) hbp).1
 have htx:txR (bldV n z)=txS ss:=by rw[hss]; rfl
 have hfr:frOk (txS ss)=true:=by
  rw[zgs ⟨hso.wds,hso.one,hso.six,Nat.le_trans hso.totS (by decide)⟩];exact decide_eq_true hso.totS
 rw[hS]
 obtain ⟨F,hF⟩:∃F,sndF (bldV n z)=F:=⟨_,rfl⟩
 rw[hF] at f16 f8 hwB ⊢
 have hFd:F.data.toList=z11 (txS ss):=by rw[← hF]; unfold sndF; rw[htx]
 have hFl:F.data.toList.length=F.size:=rfl
 have hpk:(pkS F).data.toList=packB F.data.toList:=by unfold pkS; simp
 have hun:unW (pkS F).data.toList=some F.data.toList:=by rw[hpk]; exact znn (by rw[hFl]; exact hwB)
 refine ⟨hcond.1,F,txS ss,f16,?_,?_,fun s hs=>hTX.1 s (by rw[htx]; exact hs),hfr,?_,?_⟩
 · rw[zqq hun (by rw[hFl]; exact f16),zqv]
 · rw[zgp hfr F [] (by rw[hFd,List.append_nil]),← hFd,hFl]
 · have:=zlr (L:=200) (by decide) ok8 hbp
   have e:sgz (txS ss)=ss:=by unfold sgz txS; rw[List.map_map]; exact (List.map_congr_left (g:=id) (fun a _=>rfl)).trans (List.map_id ss)
   rw[e];exact this
 · have hap:(pkS F++ { data:= #[1,5] }).data.toList=(pkS F).data.toList++ [1,5]:=by simp
   have hun2:unW (pkS F++ { data:= #[1,5] }).data.toList=some (F.data.toList++ [5,0,0,0,0,0,0,0]):=by
    rw[hap,zqw [1,5] hun,show unW [1,5]=some [5,0,0,0,0,0,0,0] by decide]
    rfl
   have hb:∀x:List UInt8,(⟨x.toArray⟩:ByteArray).size=x.length:=fun x=>by simp[ByteArray.size]
   by_cases hl:F.size+8≤1600
   · refine ⟨⟨(F.data.toList++ [5,0,0,0,0,0,0,0]).toArray⟩,true,zqq hun2 (by rw[List.length_append,hFl]; exact hl),?_,.inr ?_⟩
     · rw[hb,List.length_append,hFl]; exact hl
     · have e1:=hb (F.data.toList++ [5,0,0,0,0,0,0,0])
       rw[List.length_append,hFl] at e1;rw[zgp hfr _ [5,0,0,0,0,0,0,0] (by simp[hFd]),← hFd,e1]
       show (F.size:Int)≠((F.size+8:Nat):Int)
       omega
   · refine ⟨⟨#[]⟩,false,?_,by decide,.inl rfl⟩
     unfold unV;rw[hun2]
     have:fitU [] (some (F.data.toList++ [5,0,0,0,0,0,0,0]))=none:=by
      show (if ([]:List UInt8).length+(F.data.toList++ [5,0,0,0,0,0,0,0]).length≤1600 then _ else none)=none
      rw[if_neg (by rw[List.length_append,hFl]; show ¬0+(F.size+8)≤1600; omega)]
     rw[this]
end Go.Proofs.YtlbfffokkhccaaaGreatDoor
namespace Go.Proofs.YtlbfffokkhccaaaGreatDoor
open Go.RowKit
abbrev nHd:Hd:=⟨none,0,none,0⟩
abbrev zNd:Value:= .agg #[.int .i64 0,.string ByteArray.empty,.slice none 0 0,.int .i64 0,.int .i64 0,.slice none 0 0]
theorem zb0 (k:Nat):(Builtin.zeroCells zNd.cells k).toList=rowOf (List.replicate k (z0i,nHd)):=by
 have hz:zNd.cells= #[.int .i64 0,.string ByteArray.empty,.slice none 0 0,.int .i64 0,.int .i64 0,.slice none 0 0]:=rfl;rw[hz]
 apply List.ext_getElem?
 intro j
 rw[z56,Array.getElem?_toList];unfold Builtin.zeroCells;rw[Array.getElem?_map]
 by_cases hj:j<k*6
 · rw[Array.getElem?_range,if_pos (by simpa using hj),List.getElem?_replicate,if_pos (by omega)]
   simp only[Option.map_some]
   have hm:j%6=0∨j%6=1∨j%6=2∨j%6=3∨j%6=4∨j%6=5:=by omega
   show some (#[Value.int .i64 0,.string ByteArray.empty,.slice none 0 0,.int .i64 0,.int .i64 0,.slice none 0 0][j%6]!)=_
   rcases hm with e | e | e | e | e | e <;> rw[e] <;> rfl
 · rw[Array.getElem?_range,if_neg (by simpa using hj),List.getElem?_replicate,if_neg (by omega)]
   rfl
theorem z87 (ty:TypeId)(w:World)(v:Value)(n:Nat)(xs:List Value)(hown:w.ownsRow 0 nodeT 6 v n xs)(k:Nat)(hb:n+k≤3000000) :
 ∃v' w',(Builtin.append_ #[z2d,3] ty #[v,.int .i64 (k:Int)]).run Tryz.prog w= .ok v' w'∧w'.ownsRow 0 nodeT 6 v' (n+k) (xs++rowOf (List.replicate k (z0i,nHd)))∧w.grownBy w' v.ownBlock∧(v'.ownBlock=v.ownBlock∨v'.ownBlock=some w.heap.size):=by
 obtain ⟨i0,hi,hz0,hz1,hz2⟩:=info_parts z63;have hu:Tryz.prog.underlying z2d=some (.slice nodeT):=Tryz.underlying23;have hti:Tryz.prog.underlying 3=some (.int .i64):=Tryz.underlying3
 have hrl:(rowOf (List.replicate k (z0i,nHd))).length=k*6:=by rw[z35,List.length_replicate]
 have hlen:(xs++rowOf (List.replicate k (z0i,nHd))).length=(n+k)*6:=by rw[List.length_append,hown.1,hrl,Nat.add_mul]
 have hzs:(Builtin.zeroCells zNd.cells k).size=k*6:=by rw[size_zeroCells]; rfl
 have grown:∀(old:Nat),old<n+k→∀(row:Option Nat),
  (w.drew.alloc (.cells (xs.toArray++Builtin.zeroCells zNd.cells k++Builtin.zeroCells zNd.cells (grownCap w (n+k) old nodeT-(n+k))) nodeT)).ownsRow 0 nodeT 6
   (.slice (some ⟨w.heap.size,0,none⟩) (n+k) (grownCap w (n+k) old nodeT)) (n+k) (xs++rowOf (List.replicate k (z0i,nHd))) ∧
  w.grownBy (w.drew.alloc (.cells (xs.toArray++Builtin.zeroCells zNd.cells k++Builtin.zeroCells zNd.cells (grownCap w (n+k) old nodeT-(n+k))) nodeT)) row:=by
  intro old ho row
  have hge:=grownCap_ge w (n+k) old nodeT;have hcm:grownCap w (n+k) old nodeT≤maxLen:=grownCap_le_maxLen w (n+k) old nodeT (by unfold maxLen; omega);refine ⟨⟨hlen,.inr ⟨w.heap.size,_,_,rfl,Nat.zero_le _,heap_alloc_new w.drew _,hge,hcm,?_,?_⟩⟩,⟨rfl,rfl,rfl,by simp,fun j hj _=>Below.heap_alloc w.drew _ j hj⟩⟩
  · have h1:(Builtin.zeroCells zNd.cells (grownCap w (n+k) old nodeT-(n+k))).size=(grownCap w (n+k) old nodeT-(n+k))*6:=by rw[size_zeroCells]; rfl
    have h2:=hown.1
    simp only[Array.size_append,List.size_toArray,hzs,h1]
    omega
  · simp only[Array.toList_append,List.append_assoc,zb0]
    rw[← List.append_assoc,← hlen];exact List.take_left
 rcases hown.2 with ⟨rfl,rfl⟩ | ⟨g,cap,cur,rfl,hbg,hg,hnc,hcm,hcs,htake⟩
 · have hx:xs= []:=List.eq_nil_of_length_eq_zero (by simpa using hown.1)
   subst hx
   by_cases hm:k=0
   · subst hm
     refine ⟨.slice none 0 0,w,?_,World.ownsRow_nil w 0 nodeT 6,⟨rfl,rfl,rfl,Nat.le_refl _,fun _ _ _=>rfl⟩,.inl rfl⟩
     simp[Builtin.append_,run_underlying hu,run_underlying hti,sizeOf,typeInfo,hi,asInt,asIntOf,IntKind.wrap_i64]
   · have hr:=Lib.run_append_nil_zeros (P:=Tryz.prog) w z2d 3 ty nodeT i0 _ .i64 .i64 hu hti hi hz0 k (by omega) (by rw[hz1]; decide) (by omega) (by rw[hz2]; omega)
     have hgr:=grown 0 (by omega) (Value.ownBlock (.slice none 0 0))
     simp only[Nat.zero_add,List.nil_append,Array.empty_append] at hgr ⊢
     exact ⟨_,_,hr,hgr.1,hgr.2,Or.inr rfl⟩
 · by_cases hroom:n+k≤cap
   · have hst:=run_storeCells_at Tryz.prog g (n*6) nodeT (rowOf (List.replicate k (z0i,nHd))) 0 cur w hg (by rw[hrl,hcs]; omega) (z3v _)
     simp only[Nat.add_zero] at hst
     have hr:(Builtin.append_ #[z2d,3] ty #[.slice (some ⟨g,0,none⟩) n cap,.int .i64 (k:Int)]).run Tryz.prog w= .ok (.slice (some ⟨g,0,none⟩) (n+k) cap) (w.setRow g (cur.toList.take (n*6)++rowOf (List.replicate k (z0i,nHd))++cur.toList.drop (n*6+(rowOf (List.replicate k (z0i,nHd))).length)).toArray):=by
      have hw:IntKind.i64.wrap (k:Int)=k:=by rw[IntKind.wrap_i64]; omega
      have hneg:¬((k:Int)<0):=by omega
      have h48i:¬(281474976710656<(k:Int)*88):=by omega
      by_cases hk0:k=0
      · subst hk0
        have hst0:=hst
        simp[rowOf,storeCells] at hst0
        simp[Builtin.append_,run_underlying hu,run_underlying hti,sizeOf,typeInfo,hi,hz2,asInt,asIntOf,hnc,IntKind.wrap_i64,storeCells,rowOf]
        exact hst0
      · have hns:¬(k*6=0):=by omega
        simp[Builtin.append_,run_underlying hu,run_underlying hti,sizeOf,typeInfo,zeroValue,hi,hz0,hz1,hz2,asInt,asIntOf,hw,hneg,h48i,hns,hroom,Addr.add_lit,zb0,hst]
     refine ⟨_,_,hr,⟨hlen,.inr ⟨g,cap,_,rfl,hbg,setRow_heap w g cur _ nodeT _ hg,hroom,hcm,?_,?_⟩⟩,⟨rfl,rfl,rfl,by simp,fun k _ hk=>setRow_other w g k _ (fun e=>hk (by simp[Value.ownBlock,e]))⟩,Or.inl rfl⟩
     · simp only[List.size_toArray,List.length_append,List.length_take,List.length_drop,Array.length_toList]
       omega
     · rw[htake,← hlen]
       exact List.take_left
   · have holds:∀j u,xs[j]? =some u→w.cell? ((⟨g,0,none⟩:Addr).add j)=some u:=hown.cells (g:=g) rfl
     have hold:(Builtin.firstCells i0.size n (.slice (some ⟨g,0,none⟩) n cap)).run Tryz.prog w.drew= .ok xs.toArray w.drew:=by
      rw[hz1];exact run_firstCells_some (P:=Tryz.prog) w.drew 6 n ⟨g,0,none⟩ n cap xs hown.1 (by simpa using holds)
     have hr:=Lib.run_append_grow_zeros (P:=Tryz.prog) w z2d 3 ty nodeT i0 _ .i64 .i64 hu hti hi hz0 (some ⟨g,0,none⟩) n cap xs hold k (by omega) (by rw[hz1]; decide) (by omega) (by omega) (by rw[hz2]; omega) (by rw[hz2]; exact growslice_fits (by omega) (by omega));have hgr:=grown cap (by omega) (Value.ownBlock (.slice (some ⟨g,0,none⟩) n cap));exact ⟨_,_,hr,hgr.1,hgr.2,Or.inr rfl⟩
open Go.RowKit Go.Deep
theorem z7d {ops:Array Oper}{rest:List Oper}{o:Oper}{a:Act}{w:World}{Q:Exit→Act→World→Prop}(hgd:o.guard=none)(s x:Operand)
 (ho:o.op= .call { callee:= .builtin .append,args:= #[s,x],argTypes:= #[z2d,z2d] })
 (base:Nat) (v:Value) (n:Nat) (xs:List Value) (hs:a.eval s=v) (hown:w.ownsRow base nodeT 6 v n xs)
 (ad:Addr) (c:Nat) (r:Nd×Hd) (hx:a.eval x= .slice (some ad) 1 c) (hnews:∀j u,(rowOf [r])[j]? =some u→w.cell? (ad.add j)=some u) (hn:n≤3000000) (hbase:base≤w.heap.size)
 (h:∀A' c' w',Hid (w'.ownsRow base nodeT 6 (.slice A' (n+1) c') (n+1) (xs++rowOf [r]))→Hid (w.grownBy w' v.ownBlock)→Hid ((Value.slice A' (n+1) c').ownBlock=v.ownBlock∨(Value.slice A' (n+1) c').ownBlock=some w.heap.size)→wpList Tryz.prog ops Q rest (a.put o.dst (.slice A' (n+1) c')) w') :
 wpList Tryz.prog ops Q (o :: rest) a w :=
 wpList_plain hgd fun K hK=>by
  obtain ⟨i0,hi,hz0,hz1,hz2⟩:=info_parts z63;obtain ⟨v',w',hr,h2,h3,_,h5⟩:=run_append_own_at (P:=Tryz.prog) w base z2d o.type nodeT i0 _ 6 88 Tryz.underlying23 hi hz0 hz1 hz2 rfl (by decide) v n xs hown ad 1 c (rowOf [r]) rfl hnews (z3v _) (by unfold maxLen; omega) (by omega) hbase;obtain ⟨A',c',rfl⟩:=z3e h2;unfold Oper.wp execOp
  simp only[ho,resolve,invoke,builtin,Sem.run_bind,Sem.run_pure,Result.andThen_ok,List.map_toArray,List.map_cons,List.map_nil,hs,hx,hr]
  exact hK _ _ (h A' c' w' h2 h3 h5)
theorem zcl:∀l:List Nd,l.length≤sizL l
 | []=>by simp
 | n :: t=>by rw[sizL,List.length_cons]; have:=zcl t; omega
theorem zrv {l:List Nd}{k:Nat}(h:k<l.length):sizN l[k]≤sizL l:=by
 have h1:sizL (l.take (k+1))≤sizL l:=za5 l _;rw[List.take_succ_eq_append_getElem h,zhp,sizL,z8j] at h1;omega
def FoN (m:Nat):Prop:=∀(n:Nd) (h:Hd) (w:World) (S:Nat→Prop),NdAt w S m n h→z0g n=true→sizN n≤2000000→Calls Tryz.prog 109 #[.agg #[.int .i64 n.kind,.string n.data,.slice h.A n.ptrs.length h.a,.int .i64 n.size,.int .i64 n.count,.slice h.B n.items.length h.b],.func (.func 109) #[] #[]] w (NewO (m+1) (canN n) w)
def FaS (m:Nat):Prop:=∀(A:Option Addr) (c:Nat) (l:List Nd) (w:World) (S:Nat→Prop),NdsAt w S m A l→(∀n∈l,z0g n=true)→sizL l≤2000000→Calls Tryz.prog 151 #[.slice A l.length c,.func (.func 109) #[] #[]] w (NewOS (m+1) (l.map canN) w)
theorem zq8 (m:Nat)(IH:∀j,m=j+1→FoN j):FaS m:=by
 intro A c l w S hl hok hsz
 have hlm:l.length≤2000000:=Nat.le_trans (zcl l) hsz;have HF:=hid hl;have HOK:=hid hok;have HSZ:=hid hsz;have HIH:=hid IH;clear hl hok hsz IH;go_enter Tryz.func151,Tryz.ntmps151;go_wp2
 go_loopw [5,10] (fun v i wr=>∃(u:Value) (k:Nat) (q:List NB),u=v∧i= .int .i64 k∧k≤l.length∧q.length=k∧Hid (RowO wr w.heap.size u q m∧q.map (·.1)=(l.take k).map canN)∧Hid (Below w.heap.size w wr)) (fun _ i _=>l.length-(intOf i).toNat)
 case atStart=>exact ⟨_,0,[],rfl,rfl,by omega,rfl,hid ⟨RowO.nil _ _ _,rfl⟩,hid (Below.refl _ _)⟩
 case round =>
  obtain ⟨v,k,q,hv0,rfl,hk,hql,HR,HB⟩:=hrel;subst hv0
  by_cases hlt:k<l.length
  · obtain ⟨j,rfl⟩:=HF.out.pred hlt
    obtain ⟨x,hd,rfl,hc,hn⟩:=(HF.out.below HB.out).at_ hlt;have htn:l.take k++ [l[k]]=l.take (k+1):=(List.take_succ_eq_append_getElem hlt).symm;have hoy:=HOK.out _ (List.getElem_mem hlt);have hzy:sizN l[k]≤2000000:=Nat.le_trans (zrv hlt) HSZ.out;have HM:Hid (q.map (·.1)++ [canN l[k]]=(l.take (k+1)).map canN):=hid (by rw[HR.out.2,← htn,List.map_append]; rfl);generalize l[k]=y at *;obtain ⟨d0,d1,d2,d3,d4,d5⟩:=hc;have hba:=(Below.refl wr.heap.size wr).alloc (Nat.le_refl _) (.cells #[.int .i64 y.kind,.string y.data,.slice hd.A y.ptrs.length hd.a,.int .i64 y.size,.int .i64 y.count,.slice hd.B y.items.length hd.b] nodeT);have HC:=hid (HIH.out j rfl y hd (wr.alloc (.cells #[.int .i64 y.kind,.string y.data,.slice hd.A y.ptrs.length hd.a,.int .i64 y.size,.int .i64 y.count,.slice hd.B y.items.length hd.b] nodeT)) S (hn.below hba) hoy hzy);have HR2:=hid (HR.out.1.alloc (.cells #[.int .i64 y.kind,.string y.data,.slice hd.A y.ptrs.length hd.a,.int .i64 y.size,.int .i64 y.count,.slice hd.B y.items.length hd.b] nodeT));have HB2:=hid (HB.out.trans (hba.mono HB.out.size));have hs1:=HB.out.size
    have hs2:(wr.alloc (.cells #[.int .i64 y.kind,.string y.data,.slice hd.A y.ptrs.length hd.a,.int .i64 y.size,.int .i64 y.count,.slice hd.B y.items.length hd.b] nodeT)).heap.size=wr.heap.size+1:=by simp
    unfold NewO at HC;clear hn hoy hzy htn hba;generalize canN y=z at HC HM
    go_wp2_with fail
    generalize wr.alloc (.cells #[.int .i64 y.kind,.string y.data,.slice hd.A y.ptrs.length hd.a,.int .i64 y.size,.int .i64 y.count,.slice hd.B y.items.length hd.b] nodeT)=W2 at *;clear d0 d1 d2 d3 d4 d5;refine HC.out.mono ?_;rintro e w3 ⟨hy,bs,rfl,hny,hnd,hge,hb3⟩;have HO3:=hid (HR2.out.low hb3);have HB3:=hid (HB2.out.trans (hb3.mono HB2.out.size));have hs3:=hb3.size;have HQH:Hid (∀b∈blkB q,b<W2.heap.size):=hid HR2.out.lt
    have HVH:Hid (∀k,v.ownBlock=some k→k<W2.heap.size):=hid fun k hk=>(HR2.out.1.lt k hk).2
    have HNY:=hid hny;have HND:=hid (And.intro hnd hge)
    have hq3:q.length≤3000000:=by omega
    clear hny hnd hge hb3
    go_wp2_with (at_builtin; go_must (refine z7d rfl (.tmp 14) (.tmp 19) rfl w.heap.size v q.length (rowB q) rfl (HO3.out.1.alloc _) ⟨w3.heap.size,0,none⟩ 1 (z,hy) rfl (z28 w3 (z,hy) _) hq3 (by simp; omega) ?_); intro A4 c4 w4 hown4 hgrow4 hat4)
    have hnx:=(HO3.out.alloc _).next (HNY.out.below ((Below.refl w3.heap.size w3).alloc (Nat.le_refl _) _)) HND.out.1 HND.out.2 (by omega) HQH.out HVH.out hown4.out hgrow4.out hat4.out;have HB4:=hid ((HB3.out.alloc HB3.out.size _).grown hgrow4.out (by simp; omega) (fun k hk=>(HO3.out.1.lt k hk).1));have HR4:=hid (And.intro hnx (show (q++ [(z,hy,bs)]).map (·.1)=(l.take (k+1)).map canN by rw[List.map_append]; exact HM.out));clear hown4 hgrow4 hat4 hnx;rw[hql] at HR4
    go_roundw
    case rel=>exact ⟨_,k+1,q++ [(z,hy,bs)],rfl,by go_num,by omega,by simp; omega,HR4,HB4⟩
    case measure=>simp[intOf]; omega
  · obtain rfl:k=l.length:=by omega
    obtain ⟨A2,c2,bs,hv,hown,hnd,hge⟩:=HR.out.1.done;have hm:=HR.out.2;rw[List.take_of_length_le (Nat.le_refl _)] at hm;subst hv
    have hll:(l.map canN).length=q.length:=by rw[List.length_map]; omega
    rw[hm] at hown;have HRES:Hid (NewOS (m+1) (l.map canN) w (.returned (.slice A2 q.length c2)) wr):=hid ⟨A2,c2,bs,by rw[hll],hown,hnd,hge,HB.out⟩;clear hown hnd hge hm HR;go_wp2;go_ret;exact HRES.out
end Go.Proofs.YtlbfffokkhccaaaGreatDoor
namespace Go.Proofs.YtlbfffokkhccaaaGreatDoor
open Go.RowKit
open Go.RowKit Go.Shelf
attribute [local go_sem] Oper.semAt_some
def nzR:List W8→Nat
 | []=>0
 | x :: r=>if zerB x.1 then nzR r else r.length+1
def nzN (l:List W8):Nat:=nzR l.reverse
theorem zi2 (l:List W8)(x:W8):nzN (l++ [x])=if zerB x.1 then nzN l else l.length+1:=by
 rw[nzN,List.reverse_append]; simp[nzR,nzN]
theorem zq4:∀l:List W8,nzR l≤l.length
 | []=>Nat.le_refl _
 | x :: r=>by
   have:=zq4 r;rw[nzR]
   split <;> simp <;> omega
theorem zsr (l:List W8):nzN l≤l.length:=by have:=zq4 l.reverse; rw[nzN]; simpa using this
theorem zh1 (l:List UInt8):∀k,k≤l.length/8→nzN ((List.range k).map (wordQ l))=trimN l k
 | 0,_=>rfl
 | k+1,h=>by
   rw[zaf,zi2,zh1 l k (by omega),zcx l k (by omega),trimN]
   simp
theorem zkc (l:List UInt8):nzN (z15 l)=trimN l (l.length/8):=zh1 l _ (Nat.le_refl _)
theorem zr7 (a b c d e f g i:UInt8):zerB [a,b,c,d,e,f,g,i]=([a,b,c,d,e,f,g,i]== [0,0,0,0,0,0,0,0]):=by
 rw[Bool.eq_iff_iff]; simp[zerB]
theorem znk (a b c d e f g i:UInt8)(w:World) :
 (binOp .neq 87 (.agg #[.int .u8 a.toNat,.int .u8 b.toNat,.int .u8 c.toNat,.int .u8 d.toNat,.int .u8 e.toNat,.int .u8 f.toNat,.int .u8 g.toNat,.int .u8 i.toNat]) (.agg #[.int .u8 0,.int .u8 0,.int .u8 0,.int .u8 0,.int .u8 0,.int .u8 0,.int .u8 0,.int .u8 0])).run Tryz.prog w= .ok (.bool (!(zerB [a,b,c,d,e,f,g,i]))) w:=by
 rw[zr7];have h2:((Op.equalIn 10000 87 (.agg #[.int .u8 a.toNat,.int .u8 b.toNat,.int .u8 c.toNat,.int .u8 d.toNat,.int .u8 e.toNat,.int .u8 f.toNat,.int .u8 g.toNat,.int .u8 i.toNat]) (.agg #[.int .u8 0,.int .u8 0,.int .u8 0,.int .u8 0,.int .u8 0,.int .u8 0,.int .u8 0,.int .u8 0])).run Tryz.prog w)= .ok ([a,b,c,d,e,f,g,i]== [0,0,0,0,0,0,0,0]) w:=run_equalIn_bytes w 9998 87 5 8 Tryz.underlying87 Tryz.underlying5 (fun w=>by kernel_rfl) [a,b,c,d,e,f,g,i] [0,0,0,0,0,0,0,0] rfl rfl;rw[run_neq_struct,h2]
 rfl
theorem zfe (op:BinOp)(x y:Operand)(xs ys:Array Value)(w:World):(eqGuard op 87 x y (.agg xs) (.agg ys)).run Tryz.prog w= .ok () w:=run_eqGuard_agg w _ _ _ _ _ _ (by kernel_rfl)
theorem ziq (n:Nat)(s:ByteArray)(w:World) :
 CallsIn Fence.wide n Tryz.prog 96 #[.string s] w fun e w'=>e= .returned (.func (.func 138) #[] #[.pointer (some ⟨w.heap.size,0,none⟩)])∧w'=w.alloc (.cells #[.string s] 9):=by
 refine callsIn_of_wp Tryz.func96 rfl trivial ?_ rfl
 simp only[Tryz.ntmps96,List.size_toArray,List.length_cons,List.length_nil,Nat.reduceAdd,Nat.reduceSub,Array.replicate_succ,Array.replicate_zero,List.push_toArray,List.append_toArray,List.nil_append,List.cons_append]
 gi_wp2
 go_ret;exact ⟨rfl,rfl⟩
theorem zml {w:World}{B:Nat}{x:W8}{T:TypeId}(h:w.heap[B]? =some (.cells (wd x.1) T (0,0))) :
 ∃b0 b1 b2 b3 b4 b5 b6 b7:UInt8,x.1= [b0,b1,b2,b3,b4,b5,b6,b7] ∧
  w.cell? ⟨B,0,none⟩=some (.int .u8 b0.toNat)∧w.cell? ⟨B,1,none⟩=some (.int .u8 b1.toNat)∧w.cell? ⟨B,2,none⟩=some (.int .u8 b2.toNat)∧w.cell? ⟨B,3,none⟩=some (.int .u8 b3.toNat) ∧
  w.cell? ⟨B,4,none⟩=some (.int .u8 b4.toNat)∧w.cell? ⟨B,5,none⟩=some (.int .u8 b5.toNat)∧w.cell? ⟨B,6,none⟩=some (.int .u8 b6.toNat)∧w.cell? ⟨B,7,none⟩=some (.int .u8 b7.toNat):=by
 obtain ⟨b0,b1,b2,b3,b4,b5,b6,b7,hx⟩:=len8 x.2;rw[hx,wd8] at h;refine ⟨b0,b1,b2,b3,b4,b5,b6,b7,hx,?_,?_,?_,?_,?_,?_,?_,?_⟩
 all_goals (rw[cell_of_row _ _ _ _ _ _ h]; rfl)
theorem zs6 (s:ByteArray)(w:World)(hs:s.size≤maxLen)(hw:z1d s.size=true) :
 CallsIn Fence.wide 6 Tryz.prog 184 #[.string s] w fun e w'=>e= .returned (.string (s.extract 0 (8*nzN (z15 s.data.toList))))∧Below w.heap.size w w':=by
 have hw8:s.size%8=0∧s.size≤1600:=by simpa [z1d] using hw
 obtain ⟨hw1,hw2⟩:=hw8;have hle:=zsr (z15 s.data.toList);rw[z2m] at hle
 have hsl:s.data.toList.length=s.size:=by simp
 rw[hsl] at hle;clear hsl;refine callsIn_of_wp_marks Tryz.func184 rfl trivial ?_ rfl
 simp only[Tryz.ntmps184,List.size_toArray,List.length_cons,List.length_nil,Nat.reduceAdd,Nat.reduceSub,Array.replicate_succ,Array.replicate_zero,List.push_toArray,List.append_toArray,List.nil_append,List.cons_append]
 gi_wp2_with fail
 refine ⟨trivial,(callsIn_wide.2 (z2w s _ hs)).mono ?_⟩;rintro e w' ⟨rfl,rfl⟩;rw[hw]
 gi_wp2_with fail
 refine ⟨trivial,(ziq _ s _).mono ?_⟩;rintro e w' ⟨rfl,rfl⟩
 gi_wp2_with fail
 have bAt:=((Boxed.new w 3 (.int .i64 0)).alloc (.cells #[.int .i64 0] 3)).alloc (.cells #[.string s] 9);have bEnd:=(Boxed.new (w.alloc (.cells #[.int .i64 0] 3)) 3 (.int .i64 0)).alloc (.cells #[.string s] 9);have bTx:=Boxed.new ((w.alloc (.cells #[.int .i64 0] 3)).alloc (.cells #[.int .i64 0] 3)) 9 (.string s)
 simp only[World.size_alloc] at bEnd bTx
 have hB0:Below w.heap.size w (((w.alloc (.cells #[.int .i64 0] 3)).alloc (.cells #[.int .i64 0] 3)).alloc (.cells #[.string s] 9)):=(((Below.refl _ w).alloc (Nat.le_refl _) _).alloc (by simp) _).alloc (by simp; omega) _
 have hsz:(((w.alloc (.cells #[.int .i64 0] 3)).alloc (.cells #[.int .i64 0] 3)).alloc (.cells #[.string s] 9)).heap.size=w.heap.size+3:=by simp
 obtain ⟨W0,hW0⟩:∃W0,(((w.alloc (.cells #[.int .i64 0] 3)).alloc (.cells #[.int .i64 0] 3)).alloc (.cells #[.string s] 9))=W0:=⟨_,rfl⟩
 rw[hW0] at bAt bEnd bTx hB0 hsz ⊢;clear hW0
 refine wpIn_rangeFunc_ownH rfl (by decide) (gf:=138) (lb:= #[.pointer (some ⟨w.heap.size+1+1,0,none⟩)]) rfl trivial (enters_of Tryz.func138 (by kernel_rfl) rfl)
  (za3 5 (by decide) (w.heap.size+1+1) s hs W0 bTx) (fun h k=>k.trans h) (fun W l o o' hl h _ _=>(grownBy_putObj' W l o').block _ (by have:=(Array.getElem?_eq_some_iff.1 h).1; omega) (by intro e; cases e; omega)) (Below.refl _ _) (fun _=>rfl)
  (fun pre W=>(Boxed W w.heap.size 3 (.int .i64 ((8*pre.length:Nat):Int))∧Boxed W (w.heap.size+1) 3 (.int .i64 ((8*nzN pre:Nat):Int))∧Boxed W (w.heap.size+1+1) 9 (.string s))∧Below w.heap.size w W)
  (fun _ _ _=>False)
  (OwnFrom.and (OwnFrom.and (Own.from (boxed_own _ _ _) _) (OwnFrom.and (Own.from (boxed_own _ _ _) _) (Own.from (boxed_own _ _ _) _))) (ownFrom_below (Nat.le_refl _) (by omega)))
  (fun _ _ _ _ _ hs _ _=>hs)
  ⟨⟨bAt,bEnd,bTx⟩,hB0⟩
  (fun x a' W=>∃Bx,w.heap.size+1+1<Bx∧W.heap[Bx]? =some (.cells (wd x.1) 87 (0,0))∧a'= { tmps:= #[.string s,undef,.string ByteArray.empty,.pointer (some ⟨w.heap.size,0,none⟩),.pointer (some ⟨w.heap.size+1,0,none⟩),.pointer (some ⟨Bx,0,none⟩),.string s,.bool true,.bool false,.string s,.func (.func 138) #[] #[.pointer (some ⟨w.heap.size+1+1,0,none⟩)],.agg (wd x.1),undef,undef,undef,undef,undef,undef,undef,undef,undef],defers:= [] })
  (fun x a' _ X Y row hs hg hr=>by
   obtain ⟨Bx,h1,h2,h3⟩:=hs;refine ⟨Bx,h1,(hg.block Bx (Array.getElem?_eq_some_iff.1 h2).1 (fun e=>?_)).trans h2,h3⟩;obtain ⟨_,o,ho,hcl⟩:=hr Bx e.symm
   rw[h2] at ho; cases ho; cases hcl)
  ?assign ?body ?done ?stop
 case assign =>
  rintro l pre x W K ⟨⟨bA1,bE1,bT1⟩,hB1⟩ hK;obtain ⟨b0,b1,b2,b3,b4,b5,b6,b7,hx⟩:=len8 x.2
  simp only[hx,wd8] at hK ⊢
  gi_wp2
  exact hK _ _ ((KeepsOthers.alloc _ _).from _) (Below.heap_alloc W _ _ bT1.lt) ⟨⟨bA1.alloc _,bE1.alloc _,bT1.alloc _⟩,hB1.alloc hB1.size _⟩ ⟨W.heap.size,bT1.lt,heap_alloc_new W _,rfl⟩
 case body =>
  rintro l pre x a' W hl ⟨r,hr⟩ ⟨⟨bA1,bE1,bT1⟩,hB1⟩ ⟨Bx,hBx,bX,rfl⟩ hlt;obtain ⟨b0,b1,b2,b3,b4,b5,b6,b7,hx,c0,c1,c2,c3,c4,c5,c6,c7⟩:=zml bX;have hneq:=znk b0 b1 b2 b3 b4 b5 b6 b7;rw[← hx] at hneq
  have hgd:=fun x y=>zfe .neq x y
  have cA:=bA1.cell;have fA:=bA1.frozen;have fE:=bE1.frozen
  have hp:pre.length≤1600:=by omega
  have hv:((8*pre.length:Nat):Int)+8=((8*(pre++ [x]).length:Nat):Int):=by rw[List.length_append,List.length_singleton]; omega
  have HV:=hid hv;have hnz:=zi2 pre x;have HNZ:=hid hnz;have HX:=hid hx;clear hv hnz hx;have cE:=bE1.cell
  have hvv:(8:Int)*(pre.length:Int)+8=((8*(pre++ [x]).length:Nat):Int):=by rw[List.length_append,List.length_singleton]; omega
  have HVV:=hid hvv
  have bA2:Boxed (W.setCell ⟨w.heap.size,0,none⟩ (.int .i64 (8*(pre.length:Int)+8))) w.heap.size 3 (.int .i64 ((8*(pre++ [x]).length:Nat):Int)):=by rw[← HVV.out]; exact bA1.set _
  have bE2:Boxed (W.setCell ⟨w.heap.size,0,none⟩ (.int .i64 (8*(pre.length:Int)+8))) (w.heap.size+1) 3 (.int .i64 ((8*nzN pre:Nat):Int)):=bE1.other (by omega) _;have bT2:Boxed (W.setCell ⟨w.heap.size,0,none⟩ (.int .i64 (8*(pre.length:Int)+8))) (w.heap.size+1+1) 9 (.string s):=bT1.other (by omega) _;have hB2:Below w.heap.size w (W.setCell ⟨w.heap.size,0,none⟩ (.int .i64 (8*(pre.length:Int)+8))):=hB1.setCell (p:=⟨w.heap.size,0,none⟩) (Nat.le_refl _) _
  have hK2:KeepsFrom W0.heap.size W (W.setCell ⟨w.heap.size,0,none⟩ (.int .i64 (8*(pre.length:Int)+8))):=(KeepsOthers.setCell _ _ _).from _
  have BA2:=hid bA2;have BT2:=hid bT2;have BE2:=hid bE2;have HB2:=hid hB2;have HK2:=hid hK2;have BT1:=hid bT1;have cE2:=bE2.cell;have fE2:=bE2.frozen;clear hvv bA2 bT2 hB2 hK2 bE2;cases hz:zerB x.1
  · rw[hz] at hneq
    have hneq':∀w:World,(binOp .neq 87 (.agg #[.int .u8 b0.toNat,.int .u8 b1.toNat,.int .u8 b2.toNat,.int .u8 b3.toNat,.int .u8 b4.toNat,.int .u8 b5.toNat,.int .u8 b6.toNat,.int .u8 b7.toNat]) (.agg #[.int .u8 0,.int .u8 0,.int .u8 0,.int .u8 0,.int .u8 0,.int .u8 0,.int .u8 0,.int .u8 0])).run Tryz.prog w= .ok (.bool true) w:=hneq
    have hn1:nzN (pre++ [x])=(pre++ [x]).length:=by rw[HNZ.out,hz,List.length_append,List.length_singleton]; rfl
    have HN1:=hid hn1;clear hneq hz hn1
    gi_wp2
    refine ⟨HK2.out.trans ((KeepsOthers.setCell _ _ _).from _),BT2.out.other (by omega) _ |>.trans BT1.out.symm,⟨BA2.out.other (by omega) _,?_,BT2.out.other (by omega) _⟩,HB2.out.setCell (p:=⟨w.heap.size+1,0,none⟩) (by simp) _⟩;rw[HN1.out,← HVV.out];exact BE2.out.set _
  · rw[hz] at hneq
    have hneq':∀w:World,(binOp .neq 87 (.agg #[.int .u8 b0.toNat,.int .u8 b1.toNat,.int .u8 b2.toNat,.int .u8 b3.toNat,.int .u8 b4.toNat,.int .u8 b5.toNat,.int .u8 b6.toNat,.int .u8 b7.toNat]) (.agg #[.int .u8 0,.int .u8 0,.int .u8 0,.int .u8 0,.int .u8 0,.int .u8 0,.int .u8 0,.int .u8 0])).run Tryz.prog w= .ok (.bool false) w:=hneq
    have hn1:nzN (pre++ [x])=nzN pre:=by rw[HNZ.out,hz]; rfl
    have HN1:=hid hn1;clear hneq hz hn1
    gi_wp2
    refine ⟨HK2.out,BT2.out.trans BT1.out.symm,⟨BA2.out,?_,BT2.out⟩,HB2.out⟩;rw[HN1.out];exact BE2.out
 case done =>
  rintro D zs W hD rfl ⟨⟨bA1,bE1,bT1⟩,hB1⟩ hK;have cE:=bE1.cell
  have g0:(0:Int)≤((8*nzN (z15 s.data.toList):Nat):Int):=by omega
  have g1:((8*nzN (z15 s.data.toList):Nat):Int)≤(s.size:Int):=by omega
  gi_wp2
  refine ⟨by simp,.inl ⟨_,_,rfl,run_takeDeferred hK,?_⟩⟩;exact ⟨_,results_tmp rfl _ _ _,rfl,hB1.trans (belowK_b (w:=w) (Nat.le_refl _) W D _ _ (by omega) hK rfl rfl)⟩
 case stop =>
  rintro D c pre W _ _ h _;exact h.elim
end Go.Proofs.YtlbfffokkhccaaaGreatDoor
namespace Go.Proofs.YtlbfffokkhccaaaGreatDoor
open Go.RowKit
theorem zel (s:ByteArray)(_hw:z1d s.size=true):s.extract 0 (8*nzN (z15 s.data.toList))=trimD s:=by
 have hsl:s.data.toList.length=s.size:=by simp
 apply ext_d
 rw[Lib.extract_data,zkc,z31];unfold trimL tw
 simp
theorem zii (s:ByteArray)(w:World)(h8:s.size%8=0)(hs:s.size≤1600) :
 Calls Tryz.prog 184 #[.string s] w fun e w'=>e= .returned (.string (trimD s))∧Below w.heap.size w w':=by
 have hw:z1d s.size=true:=by simp[z1d,h8,hs]
 rw[← zel s hw];exact callsIn_wide.1 (zs6 s w (by unfold maxLen; omega) hw)
open Go.RowKit Go.Deep
theorem fin6w {w w1:World}{b:Nat}{T:TypeId}{a0 a1 a2 a3 a4 a5:Value}(h:w1.heap[b]? =some (.cells #[a0,a1,a2,a3,a4,a5] T (0,0)))(hp:Below w.heap.size w w1)(hb:w.heap.size≤b)(v0 v1 v2 v3 v4 v5:Value) :
 ∃wf,((((((w1.setCell ⟨b,0,none⟩ v0).setCell ⟨b,1,none⟩ v1).setCell ⟨b,2,none⟩ v2).setCell ⟨b,3,none⟩ v3).setCell ⟨b,4,none⟩ v4).setCell ⟨b,5,none⟩ v5)=wf∧wf.heap[b]? =some (.cells #[v0,v1,v2,v3,v4,v5] T (0,0))∧Below w.heap.size w wf∧(∀k,k≠b→wf.heap[k]? =w1.heap[k]?):=by
 have hk:∀(W:World) (i:Nat) (v:Value),Below w.heap.size w W→Below w.heap.size w (W.setCell ⟨b,i,none⟩ v):=fun W i v hW=>hW.setCell (p:=⟨b,i,none⟩) hb v
 have ho:∀(W:World) (i:Nat) (v:Value) (k:Nat),k≠b→(W.setCell ⟨b,i,none⟩ v).heap[k]? =W.heap[k]? :=fun W i v k hk=>Below.heap_setCell W ⟨b,i,none⟩ v k hk
 exact ⟨_,rfl,z08 (z08 (z08 (z08 (z08 (z08 h 0 v0) 1 v1) 2 v2) 3 v3) 4 v4) 5 v5,hk _ _ _ (hk _ _ _ (hk _ _ _ (hk _ _ _ (hk _ _ _ (hk _ _ _ hp))))),
  fun k hne=>by rw[ho _ _ _ k hne,ho _ _ _ k hne,ho _ _ _ k hne,ho _ _ _ k hne,ho _ _ _ k hne,ho _ _ _ k hne]⟩
theorem znc {w:World}{m c:Nat}{A:Option Addr}{l:List Nd}{bs:List Nat}(h:OwS w m A c l bs):(A=none∧l= []∧c=0)∨(∃g,A=some ⟨g,0,none⟩)∧l.length≤c:=by
 cases m with
 | zero =>
  obtain ⟨hl,ho,_⟩:=h
  rcases z5d ho with ⟨h1,_,h3,_⟩ | ⟨g,_,h1,_⟩
  · exact .inl ⟨h1,hl,h3⟩
  · exact .inr ⟨⟨g,h1⟩,by rw[hl]; exact Nat.zero_le _⟩
 | succ m =>
  obtain ⟨q,hq,ho,_⟩:=h
  rcases z5d ho with ⟨h1,h2,h3,_⟩ | ⟨g,cur,h1,_,_,_,h5,_⟩
  · exact .inl ⟨h1,by rw[← hq,List.eq_nil_of_length_eq_zero h2]; rfl,h3⟩
  · exact .inr ⟨⟨g,h1⟩,by rw[← hq,List.length_map]; exact h5⟩
theorem zcw (m:Nat)(n:Nd)(h:Hd)(bs:List Nat)(w:World)(hn:OwN w m n h bs)(h8:n.data.size%8=0)(hd:n.data.size≤1600)(hp:n.ptrs.length≤2000000) :
 Calls Tryz.prog 153 #[.agg #[.int .i64 n.kind,.string n.data,.slice h.A n.ptrs.length h.a,.int .i64 n.size,.int .i64 n.count,.slice h.B n.items.length h.b]] w fun e w'=>e= .returned (.agg #[.int .i64 n.kind,.string (trimD n.data),.slice h.A (endC n.ptrs) h.a,.int .i64 n.size,.int .i64 n.count,.slice h.B n.items.length h.b])∧Below w.heap.size w w':=by
 obtain ⟨qA,qa,qB,qb⟩:=h;have hcap:=znc hn.2.choose_spec.choose_spec.2.1;have HN:=hid hn.nd;have HTR:=hid (fun W=>zii n.data W h8 hd);have hb0:Below w.heap.size w ((w.alloc (.cells #[.int .i64 n.kind,.string n.data,.slice qA n.ptrs.length qa,.int .i64 n.size,.int .i64 n.count,.slice qB n.items.length qb] nodeT)).alloc (.cells #[.int .i64 0,.string { data:= #[] },.slice none 0 0,.int .i64 0,.int .i64 0,.slice none 0 0] nodeT)):=((Below.refl _ w).alloc (Nat.le_refl _) _).alloc (by simp) _;have hx0:((w.alloc (.cells #[.int .i64 n.kind,.string n.data,.slice qA n.ptrs.length qa,.int .i64 n.size,.int .i64 n.count,.slice qB n.items.length qb] nodeT)).alloc (.cells #[.int .i64 0,.string { data:= #[] },.slice none 0 0,.int .i64 0,.int .i64 0,.slice none 0 0] nodeT)).heap[w.heap.size]? =some (.cells #[.int .i64 n.kind,.string n.data,.slice qA n.ptrs.length qa,.int .i64 n.size,.int .i64 n.count,.slice qB n.items.length qb] nodeT (0,0)):=z05 (heap_alloc_new w _) _
 have hz0:((w.alloc (.cells #[.int .i64 n.kind,.string n.data,.slice qA n.ptrs.length qa,.int .i64 n.size,.int .i64 n.count,.slice qB n.items.length qb] nodeT)).alloc (.cells #[.int .i64 0,.string { data:= #[] },.slice none 0 0,.int .i64 0,.int .i64 0,.slice none 0 0] nodeT)).heap[w.heap.size+1]? =some (.cells #[.int .i64 0,.string { data:= #[] },.slice none 0 0,.int .i64 0,.int .i64 0,.slice none 0 0] nodeT (0,0)):=by have:=heap_alloc_new (w.alloc (.cells #[.int .i64 n.kind,.string n.data,.slice qA n.ptrs.length qa,.int .i64 n.size,.int .i64 n.count,.slice qB n.items.length qb] nodeT)) (.cells #[.int .i64 0,.string { data:= #[] },.slice none 0 0,.int .i64 0,.int .i64 0,.slice none 0 0] nodeT); rwa [show (w.alloc (.cells #[.int .i64 n.kind,.string n.data,.slice qA n.ptrs.length qa,.int .i64 n.size,.int .i64 n.count,.slice qB n.items.length qb] nodeT)).heap.size=w.heap.size+1 by simp] at this
 have HB0:=hid hb0;have HX0:=hid hx0;have HZ0:=hid hz0;clear hn hb0 hx0 hz0 h8 hd;go_enter Tryz.func153,Tryz.ntmps153
 go_wp2_with fail
 generalize ((w.alloc (.cells #[.int .i64 n.kind,.string n.data,.slice qA n.ptrs.length qa,.int .i64 n.size,.int .i64 n.count,.slice qB n.items.length qb] nodeT)).alloc (.cells #[.int .i64 0,.string { data:= #[] },.slice none 0 0,.int .i64 0,.int .i64 0,.slice none 0 0] nodeT))=W0 at *;refine (HTR.out _).mono ?_;rintro e w1 ⟨rfl,hb1⟩;have hx1:=(hb1.block _ (z00 HX0.out)).trans HX0.out;have hz1:=(hb1.block _ (z00 HZ0.out)).trans HZ0.out;have hb1':=HB0.out.trans (hb1.mono HB0.out.size);have HX2:=hid (z08 hx1 1 (.string (trimD n.data)));have HZ2:=hid ((Below.heap_setCell w1 ⟨w.heap.size,1,none⟩ (.string (trimD n.data)) (w.heap.size+1) (by simp)).trans hz1);have HB2:=hid (hb1'.setCell (p:=⟨w.heap.size,1,none⟩) (Nat.le_refl _) (.string (trimD n.data)));obtain ⟨a0,a1,a2,a3,a4,a5⟩:=z01 hx1;have f1:=z02 hx1 1;clear hb1 hx1 hz1 hb1' HX0 HZ0 HB0 HTR
 go_wp2_with fail
 clear a0 a1 a2 a3 a4 a5 f1;generalize w1.setCell ⟨w.heap.size,1,none⟩ (.string (trimD n.data))=W2 at *;obtain ⟨a0,a1,a2,a3,a4,a5⟩:=z01 HX2.out;have fx:=z02 HX2.out 2
 go_loopw [3] (fun i wr=>∃t:Nat,i= .int .i64 t∧t≤n.ptrs.length∧endC n.ptrs=endK n.ptrs t∧wr=W2) (fun i _=>(intOf i).toNat)
 case atStart=>exact ⟨_,rfl,Nat.le_refl _,rfl,rfl⟩
 case round =>
  obtain ⟨t,rfl,ht,hE,rfl⟩:=hrel;have HE:=hid hE
  have hex:∀t':Nat,Hid (endC n.ptrs=t')→Hid (∀W:World,W=wr.setCell ⟨w.heap.size,2,none⟩ (.slice qA t' qa)→W.heap[w.heap.size]? =some (.cells #[.int .i64 n.kind,.string (trimD n.data),.slice qA t' qa,.int .i64 n.size,.int .i64 n.count,.slice qB n.items.length qb] nodeT (0,0))∧W.heap[w.heap.size+1]? =some (.cells #[.int .i64 0,.string { data:= #[] },.slice none 0 0,.int .i64 0,.int .i64 0,.slice none 0 0] nodeT (0,0))∧Below w.heap.size w W):=fun t' _=>hid fun W hW=>by
   subst hW;exact ⟨z08 HX2.out 2 _,(Below.heap_setCell wr ⟨w.heap.size,2,none⟩ _ (w.heap.size+1) (by simp)).trans HZ2.out,HB2.out.setCell (p:=⟨w.heap.size,2,none⟩) (Nat.le_refl _) _⟩
  have HEX:=hid hex;clear hE hex
  cases t with
  | zero =>
   have hE0:endC n.ptrs=0:=HE.out;rw[hE0];obtain ⟨hx3,hz3,hb3⟩:=(HEX.out 0 (hid hE0)).out _ rfl;have HX3:=hid hx3;have HZ3:=hid hz3;have HB3:=hid hb3;obtain ⟨b0,b1,b2,b3,b4,b5⟩:=z01 hx3;obtain ⟨z0,z1,z2,z3,z4,z5⟩:=z01 hz3;have zf:=z02 hz3;clear hx3 hz3 hb3
   rcases hcap with ⟨rfl,hl0,rfl⟩ | ⟨⟨g,rfl⟩,hle⟩
   · have hl00:n.ptrs.length=0:=by rw[hl0]; rfl
     have hli:(n.ptrs.length:Int)=0:=by omega
     clear hl0
     go_wp2_with fail
     obtain ⟨wf,hwf,hrw,hbf, -⟩:=fin6w HZ3.out HB3.out (by omega) (.int .i64 n.kind) (.string (trimD n.data)) (.slice none 0 0) (.int .i64 n.size) (.int .i64 n.count) (.slice qB n.items.length qb);rw[hwf];obtain ⟨e0,e1,e2,e3,e4,e5⟩:=z01 hrw;exact bodyPost_ret (v:= .agg #[.int .i64 n.kind,.string (trimD n.data),.slice none 0 0,.int .i64 n.size,.int .i64 n.count,.slice qB n.items.length qb]) (by simp[results,Tryz.results153,go_sem,e0,e1,e2,e3,e4,e5]) rfl ⟨by rw[hE0],hbf⟩
   · go_wp2_with fail
     obtain ⟨wf,hwf,hrw,hbf, -⟩:=fin6w HZ3.out HB3.out (by omega) (.int .i64 n.kind) (.string (trimD n.data)) (.slice (some ⟨g,0,none⟩) 0 qa) (.int .i64 n.size) (.int .i64 n.count) (.slice qB n.items.length qb);rw[hwf];obtain ⟨e0,e1,e2,e3,e4,e5⟩:=z01 hrw;exact bodyPost_ret (v:= .agg #[.int .i64 n.kind,.string (trimD n.data),.slice (some ⟨g,0,none⟩) 0 qa,.int .i64 n.size,.int .i64 n.count,.slice qB n.items.length qb]) (by simp[results,Tryz.results153,go_sem,e0,e1,e2,e3,e4,e5]) rfl ⟨by rw[hE0],hbf⟩
  | succ k =>
   have hk:k<n.ptrs.length:=by omega
   rcases hcap with ⟨rfl,hl0,rfl⟩ | ⟨⟨g,rfl⟩,hle⟩
   · rw[hl0] at hk; cases hk
   obtain ⟨j,rfl⟩:=(show NdsAt w (InB w bs) m (some ⟨g,0,none⟩) n.ptrs from HN.out.2.1).pred hk;obtain ⟨x,hd,hxe,hc, -⟩:=((show NdsAt w (InB w bs) (j+1) (some ⟨g,0,none⟩) n.ptrs from HN.out.2.1).below HB2.out).at_ hk;obtain rfl:(⟨g,0,none⟩:Addr)=x:=Option.some.inj hxe
   have hget:(n.ptrs[k]?.getD z0i)=n.ptrs[k]:=by rw[List.getElem?_eq_getElem hk]; rfl
   have HE2:Hid (endC n.ptrs=if n.ptrs[k].kind=0 then endK n.ptrs k else k+1):=hid (by rw[HE.out,endK,hget]);obtain ⟨d0,d1,d2,d3,d4,d5⟩:=hc;clear d1 d2 d3 d4 d5 hget hxe;rw[z1r] at d0
   by_cases hk0:n.ptrs[k].kind=0
   · rw[hk0] at d0
     rw[if_pos hk0] at HE2;clear hk0;go_wp2
     go_roundw
     case rel=>exact ⟨k,by go_num,by omega,HE2.out,trivial⟩
     case measure=>simp[intOf]
   · rw[if_neg hk0] at HE2
     have hkb:(n.ptrs[k].kind==0)=false:=by simpa using hk0
     clear hk0;have hE0:=HE2.out;rw[hE0];obtain ⟨hx3,hz3,hb3⟩:=(HEX.out (k+1) (hid hE0)).out _ rfl;have HX3:=hid hx3;have HZ3:=hid hz3;have HB3:=hid hb3;obtain ⟨b0,b1,b2,b3,b4,b5⟩:=z01 hx3;obtain ⟨z0,z1,z2,z3,z4,z5⟩:=z01 hz3;have zf:=z02 hz3;clear hx3 hz3 hb3
     go_wp2_with fail
     obtain ⟨wf,hwf,hrw,hbf, -⟩:=fin6w HZ3.out HB3.out (by omega) (.int .i64 n.kind) (.string (trimD n.data)) (.slice (some ⟨g,0,none⟩) (k+1) qa) (.int .i64 n.size) (.int .i64 n.count) (.slice qB n.items.length qb);rw[hwf];obtain ⟨e0,e1,e2,e3,e4,e5⟩:=z01 hrw;exact bodyPost_ret (v:= .agg #[.int .i64 n.kind,.string (trimD n.data),.slice (some ⟨g,0,none⟩) (k+1) qa,.int .i64 n.size,.int .i64 n.count,.slice qB n.items.length qb]) (by simp[results,Tryz.results153,go_sem,e0,e1,e2,e3,e4,e5]) rfl ⟨by rw[hE0],hbf⟩
theorem NdCell.flat {w:World}{g o:Nat}{n:Nd}{h:Hd}(hc:NdCell w ((⟨g,0,none⟩:Addr).add o) n h):w.cell? ⟨g,o,none⟩=some (.int .i64 n.kind)∧w.cell? ⟨g,o+1,none⟩=some (.string n.data)∧w.cell? ⟨g,o+2,none⟩=some (.slice h.A n.ptrs.length h.a)∧w.cell? ⟨g,o+3,none⟩=some (.int .i64 n.size)∧w.cell? ⟨g,o+4,none⟩=some (.int .i64 n.count)∧w.cell? ⟨g,o+5,none⟩=some (.slice h.B n.items.length h.b):=by
 rw[z1r] at hc;exact ⟨hc.c0,hc.c1,hc.c2,hc.c3,hc.c4,hc.c5⟩
theorem RowG.cells {w:World}{M g c:Nat}{pre post:List NB}{r:NB}(h:RowG w g c (pre++r :: post) M):w.cell? ⟨g,pre.length*6,none⟩=some (.int .i64 r.1.kind)∧w.cell? ⟨g,pre.length*6+1,none⟩=some (.string r.1.data)∧w.cell? ⟨g,pre.length*6+2,none⟩=some (.slice r.2.1.A r.1.ptrs.length r.2.1.a)∧w.cell? ⟨g,pre.length*6+3,none⟩=some (.int .i64 r.1.size)∧w.cell? ⟨g,pre.length*6+4,none⟩=some (.int .i64 r.1.count)∧w.cell? ⟨g,pre.length*6+5,none⟩=some (.slice r.2.1.B r.1.items.length r.2.1.b)∧∀i,w.frozen? ⟨g,i,none⟩=false:=by
 obtain ⟨cur,h1,h2,h3,h4,h5,h6,h7,h8⟩:=h
 have hl:pre.length<(pre++r :: post).length:=by simp
 have key:∀e,e<6→w.cell? ⟨g,pre.length*6+e,none⟩=some (cellE (r.1,r.2.1) e):=by
  intro e he
  rw[cell_of_row _ _ _ _ _ _ h1]
  have h9:(cur.toList.take ((pre++r :: post).length*6))[pre.length*6+e]? =some (cellE (r.1,r.2.1) e):=by
   rw[h5];unfold rowB;rw[z56,List.getElem?_map,show (pre.length*6+e)/6=pre.length by omega,show (pre.length*6+e)%6=e by omega,List.getElem?_append_right (Nat.le_refl _),Nat.sub_self]
   rfl
  rw[List.getElem?_take_of_lt (by omega)] at h9
  simpa using h9
 exact ⟨key 0 (by decide),key 1 (by decide),key 2 (by decide),key 3 (by decide),key 4 (by decide),key 5 (by decide),z02 h1⟩
theorem zg3 (A:Option Addr)(n c:Nat):blk A=(Value.slice A n c).ownBlock.toList:=by cases A <;> rfl
theorem RowG.ptrs {w:World}{M g c:Nat}{pre post:List NB}{r:NB}(h:RowG w g c (pre++r :: post) (M+1)):∃(q0:List NB) (b2:List Nat),q0.map (·.1)=r.1.ptrs∧w.ownsRow 0 nodeT 6 (.slice r.2.1.A r.1.ptrs.length r.2.1.a) r.1.ptrs.length (rowB q0)∧r.2.2=(blk r.2.1.A++blkB q0)++b2∧(∀x∈q0,OwN w M x.1 x.2.1 x.2.2)∧OwS w (M+1) r.2.1.B r.2.1.b r.1.items b2∧r.1.data.size≤maxLen:=by
 obtain ⟨cur,h1,h2,h3,h4,h5,h6,h7,h8⟩:=h;obtain ⟨hd,b1,b2,he,⟨q0,hq,ho,hb,hr⟩,h10⟩:=h6 r (List.mem_append_right _ List.mem_cons_self)
 have hl:q0.length=r.1.ptrs.length:=by rw[← hq,List.length_map]
 rw[hl] at ho;exact ⟨q0,b2,hq,ho,by rw[he,hb],hr,h10,hd⟩
theorem zo7 (k:Nat):blkB (List.replicate k ((z0i,nHd,[]):NB))= []:=by
 induction k with
 | zero=>rfl
 | succ k ih=>rw[List.replicate_succ,z22,ih]; rfl
theorem znh (k:Nat):rowB (List.replicate k ((z0i,nHd,[]):NB))=rowOf (List.replicate k (z0i,nHd)):=by unfold rowB; rw[List.map_replicate]
theorem zj7 {X Y Z Z':List Nat}{f:Nat}(h:(X++(Z++Y)).Nodup)(hz:Z'=Z∨Z'= [f])(hf:∀b∈X++(Z++Y),b<f):(X++(Z'++Y)).Nodup:=by
 rcases hz with rfl | rfl
 · exact h
 · have h1:=List.nodup_append.1 h
   have h2:=List.nodup_append.1 h1.2.1;refine List.nodup_append.2 ⟨h1.1,List.nodup_cons.2 ⟨fun hm=>?_,h2.2.1⟩,fun a ha b hb e=>?_⟩
   · have:=hf f (List.mem_append_right _ (List.mem_append_right _ hm)); omega
   · rcases List.mem_cons.1 hb with rfl | hb
     · have:=hf a (List.mem_append_left _ ha); omega
     · exact h1.2.2 a ha b (List.mem_append_right _ hb) e
theorem RowG.grow {w w4:World}{M g c kz:Nat}{pre post:List NB}{r:NB}{A':Option Addr}{c':Nat}{q0:List NB}{b2:List Nat}(h:RowG w g c (pre++r :: post) (M+1))
 (hq:q0.map (·.1)=r.1.ptrs) (hb:r.2.2=(blk r.2.1.A++blkB q0)++b2) (hkids:∀x∈q0,OwN w M x.1 x.2.1 x.2.2) (hitems:OwS w (M+1) r.2.1.B r.2.1.b r.1.items b2) (hd:r.1.data.size≤maxLen)
 (hown:w4.ownsRow 0 nodeT 6 (.slice A' (r.1.ptrs.length+kz) c') (r.1.ptrs.length+kz) (rowB q0++rowOf (List.replicate kz (z0i,nHd)))) (hgrow:w.grownBy w4 (Value.slice r.2.1.A r.1.ptrs.length r.2.1.a).ownBlock)
 (hat:(Value.slice A' (r.1.ptrs.length+kz) c').ownBlock=(Value.slice r.2.1.A r.1.ptrs.length r.2.1.a).ownBlock∨(Value.slice A' (r.1.ptrs.length+kz) c').ownBlock=some w.heap.size) :
 ∃r':NB,r'.1= .mk r.1.kind r.1.data (r.1.ptrs++List.replicate kz z0i) r.1.size r.1.count r.1.items∧RowG (w4.setCell ⟨g,pre.length*6+2,none⟩ (.slice A' (r.1.ptrs.length+kz) c')) g c (pre++r' :: post) (M+1)∧∀b∈r'.2.2,b∈r.2.2∨w.heap.size≤b:=by
 have hlt:=h.lt;obtain ⟨cur,h1,h2,h3,h4,h5,h6,h7,h8⟩:=h
 have hblk:blkB (pre++r :: post)=blkB pre++(blk r.2.1.A++(blkB q0++(b2++blkB post))):=by rw[z27,z22,hb]; simp[List.append_assoc]
 rw[hblk] at h7 h8 hlt;have hbA:=zg3 r.2.1.A r.1.ptrs.length r.2.1.a;have hbA':=zg3 A' (r.1.ptrs.length+kz) c'
 -- blocks that are not the pointers' own row stay
 have hz:blk A'=blk r.2.1.A∨blk A'= [w.heap.size]:=by
  rw[hbA,hbA']
  rcases hat with e | e <;> rw[e]
  · exact .inl rfl
  · exact .inr rfl
 have hne:∀b,b∉blk r.2.1.A→some b≠(Value.slice r.2.1.A r.1.ptrs.length r.2.1.a).ownBlock:=by
  intro b hb e
  apply hb
  rw[hbA,← e]; exact List.mem_singleton.2 rfl
 have hstay:∀b,b<w.heap.size→b∉blk r.2.1.A→b≠g→(w4.setCell ⟨g,pre.length*6+2,none⟩ (.slice A' (r.1.ptrs.length+kz) c')).heap[b]? =w.heap[b]? :=fun b hb1 hb2 hb3 =>
  (Below.heap_setCell w4 ⟨g,pre.length*6+2,none⟩ _ b hb3).trans (hgrow.block b hb1 (hne b hb2))
 have hnd1:=List.nodup_append.1 h7;have hnd2:=List.nodup_append.1 hnd1.2.1
 have hin:∀b,b∈blkB q0++(b2++blkB post)→b<w.heap.size∧b∉blk r.2.1.A∧b≠g:=fun b hb=>⟨hlt.2 b (List.mem_append_right _ (List.mem_append_right _ hb)),fun h=>hnd2.2.2 b h b hb rfl,fun e=>h8 (e ▸ List.mem_append_right _ (List.mem_append_right _ hb))⟩
 have hpre:∀b,b∈blkB pre→b<w.heap.size∧b∉blk r.2.1.A∧b≠g:=fun b hb=>⟨hlt.2 b (List.mem_append_left _ hb),fun h=>hnd1.2.2 b hb b (List.mem_append_left _ h) rfl,fun e=>h8 (e ▸ List.mem_append_left _ hb)⟩
 have hgA:g∉blk r.2.1.A:=fun h=>h8 (List.mem_append_right _ (List.mem_append_left _ h))
 have hgA':g∉blk A':=by
  rcases hz with e | e <;> rw[e]
  · exact hgA
  · intro h; have:=List.mem_singleton.1 h; omega
 refine ⟨(.mk r.1.kind r.1.data (r.1.ptrs++List.replicate kz z0i) r.1.size r.1.count r.1.items,⟨A',c',r.2.1.B,r.2.1.b⟩,(blk A'++blkB q0)++b2),rfl,?_,?_⟩
 · have hg4:w4.heap[g]? =some (.cells cur nodeT (0,0)):=(hgrow.block g hlt.1 (hne g hgA)).trans h1
   have hblk':blkB (pre++((.mk r.1.kind r.1.data (r.1.ptrs++List.replicate kz z0i) r.1.size r.1.count r.1.items,⟨A',c',r.2.1.B,r.2.1.b⟩,(blk A'++blkB q0)++b2):NB) :: post)=blkB pre++(blk A'++(blkB q0++(b2++blkB post))):=by rw[z27,z22]; simp[List.append_assoc]
   refine ⟨_,z08 hg4 _ _,by simpa using h2,by simpa using h3,h4,?_,fun x hx=>?_,?_,?_⟩
   · have h5':cur.toList.take ((pre.map (fun r=>(r.1,r.2.1))++(r.1,r.2.1) :: post.map (fun r=>(r.1,r.2.1))).length*6)=rowOf (pre.map (fun r=>(r.1,r.2.1))++(r.1,r.2.1) :: post.map (fun r=>(r.1,r.2.1))):=by
      have:=h5;unfold rowB at this;rw[List.map_append,List.map_cons] at this
      simpa using this
     have:=zmt (e:=2) (r':=((.mk r.1.kind r.1.data (r.1.ptrs++List.replicate kz z0i) r.1.size r.1.count r.1.items:Nd),(⟨A',c',r.2.1.B,r.2.1.b⟩:Hd))) h2 (by simpa using h3) h5' (by decide) (fun f hf hf2=>by
      match f,hf with
      | 0,_=>rfl
      | 1,_=>rfl
      | 2,_=>exact absurd rfl hf2
      | 3,_=>rfl
      | 4,_=>rfl
      | 5,_=>rfl)
     unfold rowB;rw[List.map_append,List.map_cons]
     have hlen:(r.1.ptrs++List.replicate kz z0i).length=r.1.ptrs.length+kz:=by simp
     have hce:cellE ((.mk r.1.kind r.1.data (r.1.ptrs++List.replicate kz z0i) r.1.size r.1.count r.1.items:Nd),(⟨A',c',r.2.1.B,r.2.1.b⟩:Hd)) 2= .slice A' (r.1.ptrs.length+kz) c':=by
      show Value.slice A' (r.1.ptrs++List.replicate kz z0i).length c'=_
      rw[hlen]
     rw[hce] at this
     simpa using this
   · rcases List.mem_append.1 hx with hx | hx
     · exact (h6 x (List.mem_append_left _ hx)).frame (fun b hbm=>by
        obtain ⟨p1,p2,p3⟩:=hpre b (List.mem_flatMap.2 ⟨x,hx,hbm⟩)
        exact hstay b p1 p2 p3)
     · rcases List.mem_cons.1 hx with rfl | hx
       · refine ⟨hd,blk A'++blkB q0,b2,rfl,?_,?_⟩
         · refine ⟨q0++List.replicate kz (z0i,nHd,[]),?_,?_,?_,fun x hx=>?_⟩
           · rw[List.map_append,hq,List.map_replicate]; rfl
           · have hl:(q0++List.replicate kz ((z0i,nHd,[]):NB)).length=r.1.ptrs.length+kz:=by rw[List.length_append,List.length_replicate,← hq,List.length_map]
             rw[hl,zgo,znh];exact z98 hown (fun b hbm=>Below.heap_setCell w4 ⟨g,pre.length*6+2,none⟩ _ b (fun e=>hgA' ((show b=g from e) ▸ hbm)))
           · rw[z27,zo7,List.append_nil]
           · rcases List.mem_append.1 hx with hx | hx
             · have:=(hkids x hx).frame (w':=w4.setCell ⟨g,pre.length*6+2,none⟩ (.slice A' (r.1.ptrs.length+kz) c')) (fun b hbm=>by
                obtain ⟨p1,p2,p3⟩:=hin b (List.mem_append_left _ (List.mem_flatMap.2 ⟨x,hx,hbm⟩))
                exact hstay b p1 p2 p3)
               exact this
             · have:=List.eq_of_mem_replicate hx
               subst this;exact OwN.none _ M
         · exact hitems.frame _ _ _ _ _ (fun b hbm=>by
            obtain ⟨p1,p2,p3⟩:=hin b (List.mem_append_right _ (List.mem_append_left _ hbm))
            exact hstay b p1 p2 p3)
       · exact (h6 x (List.mem_append_right _ (List.mem_cons_of_mem _ hx))).frame (fun b hbm=>by
          obtain ⟨p1,p2,p3⟩:=hin b (List.mem_append_right _ (List.mem_append_right _ (List.mem_flatMap.2 ⟨x,hx,hbm⟩)))
          exact hstay b p1 p2 p3)
   · rw[hblk']
     exact zj7 h7 hz (fun b hb=>hlt.2 b hb)
   · rw[hblk']
     intro hm
     rcases List.mem_append.1 hm with hm | hm
     · exact h8 (List.mem_append_left _ hm)
     · rcases List.mem_append.1 hm with hm | hm
       · exact hgA' hm
       · exact h8 (List.mem_append_right _ (List.mem_append_right _ hm))
 · intro b hbm
   rw[hb]
   rcases List.mem_append.1 hbm with hbm | hbm
   · rcases List.mem_append.1 hbm with hbm | hbm
     · rcases hz with e | e
       · rw[e] at hbm; exact .inl (List.mem_append_left _ (List.mem_append_left _ hbm))
       · rw[e] at hbm; obtain rfl:=List.mem_singleton.1 hbm; exact .inr (Nat.le_refl _)
     · exact .inl (List.mem_append_left _ (List.mem_append_right _ hbm))
   · exact .inl (List.mem_append_right _ hbm)
end Go.Proofs.YtlbfffokkhccaaaGreatDoor
