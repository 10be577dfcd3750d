/- Texts of the proof of the law FnRecordCanon, side by side: part 17. -/
import Derived.Test.YtblcibgphccfkaaGreatDoorMRecordCanon16
set_option maxHeartbeats 8000000
set_option maxRecDepth 100000
open Go.Lib (hid)
namespace Go.Proofs.YtblcibgphccfkaaGreatDoor
open Go.RowKit Go.Deep
theorem z2m {ops:Array Oper}{rest:List Oper}{o:Oper}{a:Act}{w:World}{Q:Exit→Act→World→Prop}(hgd:o.guard=none)(s x:Operand)
 (ho:o.op= .call { callee:= .builtin .append,args:= #[s,x],argTypes:= #[z28,z28] })
 (base:Nat) (v:Value) (n:Nat) (xs:List Value) (hs:a.eval s=v) (hown:w.ownsRow base nodeT 6 v n xs)
 (ad:Addr) (c:Nat) (r:Nd×Hd) (hx:a.eval x= .slice (some ad) 1 c) (hnews:∀j u,(rowOf [r])[j]? =some u→w.cell? (ad.add j)=some u) (hn:n≤3000000) (hbase:base≤w.heap.size)
 (h:∀A' c' w',Hid (w'.ownsRow base nodeT 6 (.slice A' (n+1) c') (n+1) (xs++rowOf [r]))→Hid (w.grownBy w' v.ownBlock)→Hid ((Value.slice A' (n+1) c').ownBlock=v.ownBlock∨(Value.slice A' (n+1) c').ownBlock=some w.heap.size)→wpList Tryz.prog ops Q rest (a.put o.dst (.slice A' (n+1) c')) w') :
 wpList Tryz.prog ops Q (o :: rest) a w :=
 wpList_plain hgd fun K hK=>by
  obtain ⟨i0,hi,hz0,hz1,hz2⟩:=info_parts z5z;obtain ⟨v',w',hr,h2,h3,_,h5⟩:=run_append_own_at (P:=Tryz.prog) w base z28 o.type nodeT i0 _ 6 88 Tryz.underlying24 hi hz0 hz1 hz2 rfl (by decide) v n xs hown ad 1 c (rowOf [r]) rfl hnews (z3v _) (by unfold maxLen; omega) (by omega) hbase;obtain ⟨A',c',rfl⟩:=z2d h2;unfold Oper.wp execOp
  simp only[ho,resolve,invoke,builtin,Sem.run_bind,Sem.run_pure,Result.andThen_ok,List.map_toArray,List.map_cons,List.map_nil,hs,hx,hr]
  exact hK _ _ (h A' c' w' h2 h3 h5)
theorem z7c:∀l:List Nd,l.length≤sizL l
 | []=>by simp
 | n :: t=>by rw[sizL,List.length_cons]; have:=z7c t; omega
theorem z87 {l:List Nd}{k:Nat}(h:k<l.length):sizN l[k]≤sizL l:=by
 have h1:sizL (l.take (k+1))≤sizL l:=z7p l _;rw[List.take_succ_eq_append_getElem h,zf1,sizL,z7g] at h1;omega
def FoN (m:Nat):Prop:=∀(n:Nd) (h:Hd) (w:World) (S:Nat→Prop),NdAt w S m n h→z0l n=true→sizN n≤2000000→Calls Tryz.prog 56 #[.agg #[.int .i64 n.kind,.string n.data,.slice h.A n.ptrs.length h.a,.int .i64 n.size,.int .i64 n.count,.slice h.B n.items.length h.b],.func (.func 56) #[] #[]] w (NewO (m+1) (canN n) w)
def FaS (m:Nat):Prop:=∀(A:Option Addr) (c:Nat) (l:List Nd) (w:World) (S:Nat→Prop),NdsAt w S m A l→(∀n∈l,z0l n=true)→sizL l≤2000000→Calls Tryz.prog 86 #[.slice A l.length c,.func (.func 56) #[] #[]] w (NewOS (m+1) (l.map canN) w)
theorem zlq (m:Nat)(IH:∀j,m=j+1→FoN j):FaS m:=by
 intro A c l w S hl hok hsz
 have hlm:l.length≤2000000:=Nat.le_trans (z7c l) hsz;have HF:=hid hl;have HOK:=hid hok;have HSZ:=hid hsz;have HIH:=hid IH;clear hl hok hsz IH;go_enter Tryz.func86,Tryz.ntmps86;go_wp2
 go_loopw [5,10] (fun v i wr=>∃(u:Value) (k:Nat) (q:List NB),u=v∧i= .int .i64 k∧k≤l.length∧q.length=k∧Hid (RowO wr w.heap.size u q m∧q.map (·.1)=(l.take k).map canN)∧Hid (Below w.heap.size w wr)) (fun _ i _=>l.length-(intOf i).toNat)
 case atStart=>exact ⟨_,0,[],rfl,rfl,by omega,rfl,hid ⟨RowO.nil _ _ _,rfl⟩,hid (Below.refl _ _)⟩
 case round =>
  obtain ⟨v,k,q,hv0,rfl,hk,hql,HR,HB⟩:=hrel;subst hv0
  by_cases hlt:k<l.length
  · obtain ⟨j,rfl⟩:=HF.out.pred hlt
    obtain ⟨x,hd,rfl,hc,hn⟩:=(HF.out.below HB.out).at_ hlt;have htn:l.take k++ [l[k]]=l.take (k+1):=(List.take_succ_eq_append_getElem hlt).symm;have hoy:=HOK.out _ (List.getElem_mem hlt);have hzy:sizN l[k]≤2000000:=Nat.le_trans (z87 hlt) HSZ.out;have HM:Hid (q.map (·.1)++ [canN l[k]]=(l.take (k+1)).map canN):=hid (by rw[HR.out.2,← htn,List.map_append]; rfl);generalize l[k]=y at *;obtain ⟨d0,d1,d2,d3,d4,d5⟩:=hc;have hba:=(Below.refl wr.heap.size wr).alloc (Nat.le_refl _) (.cells #[.int .i64 y.kind,.string y.data,.slice hd.A y.ptrs.length hd.a,.int .i64 y.size,.int .i64 y.count,.slice hd.B y.items.length hd.b] nodeT);have HC:=hid (HIH.out j rfl y hd (wr.alloc (.cells #[.int .i64 y.kind,.string y.data,.slice hd.A y.ptrs.length hd.a,.int .i64 y.size,.int .i64 y.count,.slice hd.B y.items.length hd.b] nodeT)) S (hn.below hba) hoy hzy);have HR2:=hid (HR.out.1.alloc (.cells #[.int .i64 y.kind,.string y.data,.slice hd.A y.ptrs.length hd.a,.int .i64 y.size,.int .i64 y.count,.slice hd.B y.items.length hd.b] nodeT));have HB2:=hid (HB.out.trans (hba.mono HB.out.size));have hs1:=HB.out.size
    have hs2:(wr.alloc (.cells #[.int .i64 y.kind,.string y.data,.slice hd.A y.ptrs.length hd.a,.int .i64 y.size,.int .i64 y.count,.slice hd.B y.items.length hd.b] nodeT)).heap.size=wr.heap.size+1:=by simp
    unfold NewO at HC;clear hn hoy hzy htn hba;generalize canN y=z at HC HM
    go_wp2_with fail
    generalize wr.alloc (.cells #[.int .i64 y.kind,.string y.data,.slice hd.A y.ptrs.length hd.a,.int .i64 y.size,.int .i64 y.count,.slice hd.B y.items.length hd.b] nodeT)=W2 at *;clear d0 d1 d2 d3 d4 d5;refine HC.out.mono ?_;rintro e w3 ⟨hy,bs,rfl,hny,hnd,hge,hb3⟩;have HO3:=hid (HR2.out.low hb3);have HB3:=hid (HB2.out.trans (hb3.mono HB2.out.size));have hs3:=hb3.size;have HQH:Hid (∀b∈blkB q,b<W2.heap.size):=hid HR2.out.lt
    have HVH:Hid (∀k,v.ownBlock=some k→k<W2.heap.size):=hid fun k hk=>(HR2.out.1.lt k hk).2
    have HNY:=hid hny;have HND:=hid (And.intro hnd hge)
    have hq3:q.length≤3000000:=by omega
    clear hny hnd hge hb3
    go_wp2_with (at_builtin; go_must (refine z2m rfl (.tmp 14) (.tmp 19) rfl w.heap.size v q.length (rowB q) rfl (HO3.out.1.alloc _) ⟨w3.heap.size,0,none⟩ 1 (z,hy) rfl (z1c w3 (z,hy) _) hq3 (by simp; omega) ?_); intro A4 c4 w4 hown4 hgrow4 hat4)
    have hnx:=(HO3.out.alloc _).next (HNY.out.below ((Below.refl w3.heap.size w3).alloc (Nat.le_refl _) _)) HND.out.1 HND.out.2 (by omega) HQH.out HVH.out hown4.out hgrow4.out hat4.out;have HB4:=hid ((HB3.out.alloc HB3.out.size _).grown hgrow4.out (by simp; omega) (fun k hk=>(HO3.out.1.lt k hk).1));have HR4:=hid (And.intro hnx (show (q++ [(z,hy,bs)]).map (·.1)=(l.take (k+1)).map canN by rw[List.map_append]; exact HM.out));clear hown4 hgrow4 hat4 hnx;rw[hql] at HR4
    go_roundw
    case rel=>exact ⟨_,k+1,q++ [(z,hy,bs)],rfl,by go_num,by omega,by simp; omega,HR4,HB4⟩
    case measure=>simp[intOf]; omega
  · obtain rfl:k=l.length:=by omega
    obtain ⟨A2,c2,bs,hv,hown,hnd,hge⟩:=HR.out.1.done;have hm:=HR.out.2;rw[List.take_of_length_le (Nat.le_refl _)] at hm;subst hv
    have hll:(l.map canN).length=q.length:=by rw[List.length_map]; omega
    rw[hm] at hown;have HRES:Hid (NewOS (m+1) (l.map canN) w (.returned (.slice A2 q.length c2)) wr):=hid ⟨A2,c2,bs,by rw[hll],hown,hnd,hge,HB.out⟩;clear hown hnd hge hm HR;go_wp2;go_ret;exact HRES.out
def CiN (m:Nat):Prop:=∀(n:Nd) (h:Hd) (w:World) (S:Nat→Prop),NdAt w S m n h→sizN n≤2000000→Calls Tryz.prog 32 #[.agg #[.int .i64 n.kind,.string n.data,.slice h.A n.ptrs.length h.a,.int .i64 n.size,.int .i64 n.count,.slice h.B n.items.length h.b]] w (NewO (m+1) n w)
def CiS (m:Nat):Prop:=∀(A:Option Addr) (c:Nat) (l:List Nd) (w:World) (S:Nat→Prop),NdsAt w S m A l→sizL l≤2000000→Calls Tryz.prog 63 #[.slice A l.length c] w (NewOS (m+1) l w)
theorem zlh (m:Nat)(IH:∀j,m=j+1→CiN j):CiS m:=by
 intro A c l w S hl hsz
 have hlm:l.length≤2000000:=Nat.le_trans (z7c l) hsz;have HF:=hid hl;have HSZ:=hid hsz;have HIH:=hid IH;clear hl hsz IH;go_enter Tryz.func63,Tryz.ntmps63;go_wp2
 go_loopw [3,8] (fun v i wr=>∃(u:Value) (k:Nat) (q:List NB),u=v∧i= .int .i64 k∧k≤l.length∧q.length=k∧Hid (RowO wr w.heap.size u q m∧q.map (·.1)=l.take k)∧Hid (Below w.heap.size w wr)) (fun _ i _=>l.length-(intOf i).toNat)
 case atStart=>exact ⟨_,0,[],rfl,rfl,by omega,rfl,hid ⟨RowO.nil _ _ _,rfl⟩,hid (Below.refl _ _)⟩
 case round =>
  obtain ⟨v,k,q,hv0,rfl,hk,hql,HR,HB⟩:=hrel;subst hv0
  by_cases hlt:k<l.length
  · obtain ⟨j,rfl⟩:=HF.out.pred hlt
    obtain ⟨x,hd,rfl,hc,hn⟩:=(HF.out.below HB.out).at_ hlt;have htn:l.take k++ [l[k]]=l.take (k+1):=(List.take_succ_eq_append_getElem hlt).symm;have hzy:sizN l[k]≤2000000:=Nat.le_trans (z87 hlt) HSZ.out;have HM:Hid (q.map (·.1)++ [l[k]]=l.take (k+1)):=hid (by rw[HR.out.2,htn]);generalize l[k]=y at *;obtain ⟨d0,d1,d2,d3,d4,d5⟩:=hc;have hba:=(Below.refl wr.heap.size wr).alloc (Nat.le_refl _) (.cells #[.int .i64 y.kind,.string y.data,.slice hd.A y.ptrs.length hd.a,.int .i64 y.size,.int .i64 y.count,.slice hd.B y.items.length hd.b] nodeT);have HC:=hid (HIH.out j rfl y hd (wr.alloc (.cells #[.int .i64 y.kind,.string y.data,.slice hd.A y.ptrs.length hd.a,.int .i64 y.size,.int .i64 y.count,.slice hd.B y.items.length hd.b] nodeT)) S (hn.below hba) hzy);have HR2:=hid (HR.out.1.alloc (.cells #[.int .i64 y.kind,.string y.data,.slice hd.A y.ptrs.length hd.a,.int .i64 y.size,.int .i64 y.count,.slice hd.B y.items.length hd.b] nodeT));have HB2:=hid (HB.out.trans (hba.mono HB.out.size));have hs1:=HB.out.size
    have hs2:(wr.alloc (.cells #[.int .i64 y.kind,.string y.data,.slice hd.A y.ptrs.length hd.a,.int .i64 y.size,.int .i64 y.count,.slice hd.B y.items.length hd.b] nodeT)).heap.size=wr.heap.size+1:=by simp
    unfold NewO at HC;clear hn hzy htn hba
    go_wp2_with fail
    generalize wr.alloc (.cells #[.int .i64 y.kind,.string y.data,.slice hd.A y.ptrs.length hd.a,.int .i64 y.size,.int .i64 y.count,.slice hd.B y.items.length hd.b] nodeT)=W2 at *;clear d0 d1 d2 d3 d4 d5;refine HC.out.mono ?_;rintro e w3 ⟨hy,bs,rfl,hny,hnd,hge,hb3⟩;have HO3:=hid (HR2.out.low hb3);have HB3:=hid (HB2.out.trans (hb3.mono HB2.out.size));have hs3:=hb3.size;have HQH:Hid (∀b∈blkB q,b<W2.heap.size):=hid HR2.out.lt
    have HVH:Hid (∀k,v.ownBlock=some k→k<W2.heap.size):=hid fun k hk=>(HR2.out.1.lt k hk).2
    have HNY:=hid hny;have HND:=hid (And.intro hnd hge)
    have hq3:q.length≤3000000:=by omega
    clear hny hnd hge hb3
    go_wp2_with (at_builtin; go_must (refine z2m rfl (.tmp 12) (.tmp 15) rfl w.heap.size v q.length (rowB q) rfl (HO3.out.1.alloc _) ⟨w3.heap.size,0,none⟩ 1 (y,hy) rfl (z1c w3 (y,hy) _) hq3 (by simp; omega) ?_); intro A4 c4 w4 hown4 hgrow4 hat4)
    have hnx:=(HO3.out.alloc _).next (HNY.out.below ((Below.refl w3.heap.size w3).alloc (Nat.le_refl _) _)) HND.out.1 HND.out.2 (by omega) HQH.out HVH.out hown4.out hgrow4.out hat4.out;have HB4:=hid ((HB3.out.alloc HB3.out.size _).grown hgrow4.out (by simp; omega) (fun k hk=>(HO3.out.1.lt k hk).1));have HR4:=hid (And.intro hnx (show (q++ [(y,hy,bs)]).map (·.1)=l.take (k+1) by rw[List.map_append]; exact HM.out));clear hown4 hgrow4 hat4 hnx;rw[hql] at HR4
    go_roundw
    case rel=>exact ⟨_,k+1,q++ [(y,hy,bs)],rfl,by go_num,by omega,by simp; omega,HR4,HB4⟩
    case measure=>simp[intOf]; omega
  · obtain rfl:k=l.length:=by omega
    obtain ⟨A2,c2,bs,hv,hown,hnd,hge⟩:=HR.out.1.done;have hm:=HR.out.2;rw[List.take_of_length_le (Nat.le_refl _)] at hm;subst hv
    have hll:l.length=q.length:=by omega
    rw[hm] at hown;have HRES:Hid (NewOS (m+1) l w (.returned (.slice A2 q.length c2)) wr):=hid ⟨A2,c2,bs,by rw[hll],hown,hnd,hge,HB.out⟩;clear hown hnd hge hm HR hll;go_wp2;go_ret;exact HRES.out
theorem z4p {ops:Array Oper}{o:Oper}{a:Act}{w:World}{K:Act→World→Prop}{Q:Exit→Act→World→Prop}{E:Prop}(hgd:o.guard=none)(s x:Operand)
 (ho:o.op= .call { callee:= .builtin .append,args:= #[s,x],argTypes:= #[z28,z28] })
 (base:Nat) (v:Value) (n:Nat) (xs:List Value) (hs:a.eval s=v) (hown:w.ownsRow base nodeT 6 v n xs)
 (ad:Addr) (c:Nat) (r:Nd×Hd) (hx:a.eval x= .slice (some ad) 1 c) (hnews:∀j u,(rowOf [r])[j]? =some u→w.cell? (ad.add j)=some u) (hn:n≤3000000) (hbase:base≤w.heap.size)
 (h:∀A' c' w',Hid (w'.ownsRow base nodeT 6 (.slice A' (n+1) c') (n+1) (xs++rowOf [r]))→Hid (w.grownBy w' v.ownBlock)→Hid ((Value.slice A' (n+1) c').ownBlock=v.ownBlock∨(Value.slice A' (n+1) c').ownBlock=some w.heap.size)→K (a.put o.dst (.slice A' (n+1) c')) w') :
 if Region.wanted o (yielded ops a.tmps)=true then Oper.wp Tryz.prog o a w K Q else E:=by
 have hw:Region.wanted o (yielded ops a.tmps)=true:=by simp[Region.wanted,hgd]
 rw[if_pos hw];obtain ⟨i0,hi,hz0,hz1,hz2⟩:=info_parts z5z;obtain ⟨v',w',hr,h2,h3,_,h5⟩:=run_append_own_at (P:=Tryz.prog) w base z28 o.type nodeT i0 _ 6 88 Tryz.underlying24 hi hz0 hz1 hz2 rfl (by decide) v n xs hown ad 1 c (rowOf [r]) rfl hnews (z3v _) (by unfold maxLen; omega) (by omega) hbase;obtain ⟨A',c',rfl⟩:=z2d h2;unfold Oper.wp execOp
 simp only[ho,resolve,invoke,builtin,Sem.run_bind,Sem.run_pure,Result.andThen_ok,List.map_toArray,List.map_cons,List.map_nil,hs,hx,hr]
 exact h A' c' w' h2 h3 h5
theorem zcb {α:Type}{l:List α}{k:Nat}(hk:k<l.length){q:List α}(hq:q=l.take k):q++ [l[k]]=l.take (k+1):=by rw[hq]; exact (List.take_succ_eq_append_getElem hk).symm
def CpRow (w:World)(B:Nat)(v:Value)(q:List NB)(M:Nat)(l:List Nd)(k:Nat):Prop:=RowO w B v q M∧q.map (·.1)=l.take k
theorem CpRow.all {w:World}{B M:Nat}{v:Value}{q:List NB}{l:List Nd}(h:CpRow w B v q M l l.length):∃A c bs,v= .slice A l.length c∧OwS w (M+1) A c l bs∧bs.Nodup∧∀b∈bs,B≤b∧b<w.heap.size:=by
 obtain ⟨h1,h2⟩:=h;rw[List.take_of_length_le (Nat.le_refl _)] at h2;obtain ⟨A,c,bs,hv,ho,hnd,hge⟩:=h1.done
 have hql:q.length=l.length:=by have:=congrArg List.length h2; simpa using this
 rw[hql] at hv;rw[h2] at ho;exact ⟨A,c,bs,hv,ho,hnd,fun b hb=>⟨hge b hb,(ho.lt _ _ _ _ _ b hb).1⟩⟩
def CpN (m:Nat):Prop:=∀(n:Nd) (h:Hd) (w:World) (S:Nat→Prop),NdAt w S m n h→totN m n≤2000000→Calls Tryz.prog 38 #[.agg #[.int .i64 n.kind,.string n.data,.slice h.A n.ptrs.length h.a,.int .i64 n.size,.int .i64 n.count,.slice h.B n.items.length h.b]] w (NewO (m+1) n w)
theorem fin6 {w w1:World}{b:Nat}{T:TypeId}{a0 a1 a2 a3 a4 a5:Value}(h:w1.heap[b]? =some (.cells #[a0,a1,a2,a3,a4,a5] T (0,0)))(hp:Below w.heap.size w w1)(hb:w.heap.size≤b)(v0 v1 v2 v3 v4 v5:Value) :
 ∃wf,((((((w1.setCell ⟨b,0,none⟩ v0).setCell ⟨b,1,none⟩ v1).setCell ⟨b,2,none⟩ v2).setCell ⟨b,3,none⟩ v3).setCell ⟨b,4,none⟩ v4).setCell ⟨b,5,none⟩ v5)=wf∧wf.heap[b]? =some (.cells #[v0,v1,v2,v3,v4,v5] T (0,0))∧Below w.heap.size w wf∧Upon (b+1) w1 wf:=by
 have hk:∀(W:World) (i:Nat) (v:Value),Below w.heap.size w W→Below w.heap.size w (W.setCell ⟨b,i,none⟩ v):=fun W i v hW=>hW.setCell (p:=⟨b,i,none⟩) hb v
 exact ⟨_,rfl,z06 (z06 (z06 (z06 (z06 (z06 h 0 v0) 1 v1) 2 v2) 3 v3) 4 v4) 5 v5,hk _ _ _ (hk _ _ _ (hk _ _ _ (hk _ _ _ (hk _ _ _ (hk _ _ _ hp))))),
  ((((((Upon.refl (b+1) w1).setCell (p:=⟨b,0,none⟩) (by simp) v0).setCell (p:=⟨b,1,none⟩) (by simp) v1).setCell (p:=⟨b,2,none⟩) (by simp) v2).setCell (p:=⟨b,3,none⟩) (by simp) v3).setCell (p:=⟨b,4,none⟩) (by simp) v4).setCell (p:=⟨b,5,none⟩) (by simp) v5⟩
theorem zlk (m:Nat)(IH:∀j,m=j+1→CpN j):CpN m:=by
 intro n h w S hn ht
 obtain ⟨qA,qa,qB,qb⟩:=h
 have hT1:totL m n.ptrs≤2000000:=by unfold totN at ht; omega
 have hT2:totL m n.items≤2000000:=by unfold totN at ht; omega
 have hl1:n.ptrs.length≤2000000:=z16 (show NdsAt w S m qA n.ptrs from hn.2.1) hT1;have hl2:n.items.length≤2000000:=z16 (show NdsAt w S m qB n.items from hn.2.2) hT2
 have HT1:Hid (∀j,m=j+1→∀k (h:k<n.ptrs.length),totN j n.ptrs[k]≤2000000):=hid fun j hj k h=>by subst hj; have:=z2q (m:=j) h; omega
 have HT2:Hid (∀j,m=j+1→∀k (h:k<n.items.length),totN j n.items[k]≤2000000):=hid fun j hj k h=>by subst hj; have:=z2q (m:=j) h; omega
 have HN:=hid hn;have HIH:=hid IH;have hb0:Below w.heap.size w (((w.alloc (.cells #[.int .i64 n.kind,.string n.data,.slice qA n.ptrs.length qa,.int .i64 n.size,.int .i64 n.count,.slice qB n.items.length qb] nodeT)).alloc (.cells #[.int .i64 0,.string { data:= #[] },.slice none 0 0,.int .i64 0,.int .i64 0,.slice none 0 0] nodeT)).alloc (.cells #[.int .i64 n.kind,.string n.data,.slice none 0 0,.int .i64 n.size,.int .i64 n.count,.slice none 0 0] nodeT)):=(((Below.refl _ w).alloc (Nat.le_refl _) _).alloc (by simp) _).alloc (by simp; omega) _;have k0:(((w.alloc (.cells #[.int .i64 n.kind,.string n.data,.slice qA n.ptrs.length qa,.int .i64 n.size,.int .i64 n.count,.slice qB n.items.length qb] nodeT)).alloc (.cells #[.int .i64 0,.string { data:= #[] },.slice none 0 0,.int .i64 0,.int .i64 0,.slice none 0 0] nodeT)).alloc (.cells #[.int .i64 n.kind,.string n.data,.slice none 0 0,.int .i64 n.size,.int .i64 n.count,.slice none 0 0] nodeT)).heap[w.heap.size]? =some (.cells #[.int .i64 n.kind,.string n.data,.slice qA n.ptrs.length qa,.int .i64 n.size,.int .i64 n.count,.slice qB n.items.length qb] nodeT (0,0)):=(Below.heap_alloc _ _ _ (by simp; omega)).trans ((Below.heap_alloc _ _ _ (by simp)).trans (heap_alloc_new w _));have k1:(((w.alloc (.cells #[.int .i64 n.kind,.string n.data,.slice qA n.ptrs.length qa,.int .i64 n.size,.int .i64 n.count,.slice qB n.items.length qb] nodeT)).alloc (.cells #[.int .i64 0,.string { data:= #[] },.slice none 0 0,.int .i64 0,.int .i64 0,.slice none 0 0] nodeT)).alloc (.cells #[.int .i64 n.kind,.string n.data,.slice none 0 0,.int .i64 n.size,.int .i64 n.count,.slice none 0 0] nodeT)).heap[w.heap.size+1]? =some (.cells #[.int .i64 0,.string { data:= #[] },.slice none 0 0,.int .i64 0,.int .i64 0,.slice none 0 0] nodeT (0,0)):=(Below.heap_alloc _ _ _ (by simp)).trans (by have:=heap_alloc_new (w.alloc (.cells #[.int .i64 n.kind,.string n.data,.slice qA n.ptrs.length qa,.int .i64 n.size,.int .i64 n.count,.slice qB n.items.length qb] nodeT)) (.cells #[.int .i64 0,.string { data:= #[] },.slice none 0 0,.int .i64 0,.int .i64 0,.slice none 0 0] nodeT); rwa [show (w.alloc (.cells #[.int .i64 n.kind,.string n.data,.slice qA n.ptrs.length qa,.int .i64 n.size,.int .i64 n.count,.slice qB n.items.length qb] nodeT)).heap.size=w.heap.size+1 by simp] at this)
 have k2:(((w.alloc (.cells #[.int .i64 n.kind,.string n.data,.slice qA n.ptrs.length qa,.int .i64 n.size,.int .i64 n.count,.slice qB n.items.length qb] nodeT)).alloc (.cells #[.int .i64 0,.string { data:= #[] },.slice none 0 0,.int .i64 0,.int .i64 0,.slice none 0 0] nodeT)).alloc (.cells #[.int .i64 n.kind,.string n.data,.slice none 0 0,.int .i64 n.size,.int .i64 n.count,.slice none 0 0] nodeT)).heap[w.heap.size+1+1]? =some (.cells #[.int .i64 n.kind,.string n.data,.slice none 0 0,.int .i64 n.size,.int .i64 n.count,.slice none 0 0] nodeT (0,0)):=by have:=heap_alloc_new ((w.alloc (.cells #[.int .i64 n.kind,.string n.data,.slice qA n.ptrs.length qa,.int .i64 n.size,.int .i64 n.count,.slice qB n.items.length qb] nodeT)).alloc (.cells #[.int .i64 0,.string { data:= #[] },.slice none 0 0,.int .i64 0,.int .i64 0,.slice none 0 0] nodeT)) (.cells #[.int .i64 n.kind,.string n.data,.slice none 0 0,.int .i64 n.size,.int .i64 n.count,.slice none 0 0] nodeT); rwa [show ((w.alloc (.cells #[.int .i64 n.kind,.string n.data,.slice qA n.ptrs.length qa,.int .i64 n.size,.int .i64 n.count,.slice qB n.items.length qb] nodeT)).alloc (.cells #[.int .i64 0,.string { data:= #[] },.slice none 0 0,.int .i64 0,.int .i64 0,.slice none 0 0] nodeT)).heap.size=w.heap.size+1+1 by simp] at this
 have hs3:(((w.alloc (.cells #[.int .i64 n.kind,.string n.data,.slice qA n.ptrs.length qa,.int .i64 n.size,.int .i64 n.count,.slice qB n.items.length qb] nodeT)).alloc (.cells #[.int .i64 0,.string { data:= #[] },.slice none 0 0,.int .i64 0,.int .i64 0,.slice none 0 0] nodeT)).alloc (.cells #[.int .i64 n.kind,.string n.data,.slice none 0 0,.int .i64 n.size,.int .i64 n.count,.slice none 0 0] nodeT)).heap.size=w.heap.size+3:=by simp
 have HB0:=hid hb0;have HK0:=hid k0;have HK1:=hid k1;have HK2:=hid k2;have HS3:=hid hs3;clear IH hn ht hT1 hT2 hb0 k0 k1 k2 hs3;go_enter Tryz.func38,Tryz.ntmps38
 go_wp2_with fail
 generalize ((w.alloc (.cells #[.int .i64 n.kind,.string n.data,.slice qA n.ptrs.length qa,.int .i64 n.size,.int .i64 n.count,.slice qB n.items.length qb] nodeT)).alloc (.cells #[.int .i64 0,.string { data:= #[] },.slice none 0 0,.int .i64 0,.int .i64 0,.slice none 0 0] nodeT)).alloc (.cells #[.int .i64 n.kind,.string n.data,.slice none 0 0,.int .i64 n.size,.int .i64 n.count,.slice none 0 0] nodeT)=W0 at *
 go_loopw [4] (fun i wr=>∃k:Nat,i= .int .i64 k∧k≤n.ptrs.length∧Hid (∃(v:Value) (q:List NB),wr.heap[w.heap.size+1+1]? =some (.cells #[.int .i64 n.kind,.string n.data,v,.int .i64 n.size,.int .i64 n.count,.slice none 0 0] nodeT (0,0))∧CpRow wr (w.heap.size+3) v q m n.ptrs k)∧Hid (Below (w.heap.size+2) W0 wr∧w.heap.size+3≤wr.heap.size)) (fun i _=>n.ptrs.length-(intOf i).toNat)
 case atStart=>exact ⟨0,rfl,by omega,hid ⟨_,[],HK2.out,RowO.nil _ _ _,rfl⟩,hid ⟨Below.refl _ _,by have:=HS3.out; omega⟩⟩
 case round =>
  obtain ⟨k,rfl,hk,HS,HP⟩:=hrel;obtain ⟨v,q,hrow,hnr,hq⟩:=HS.out;obtain ⟨hbw,hsz⟩:=HP.out;have hbW:Below w.heap.size w wr:=HB0.out.trans (hbw.mono (by omega));have hp:=(hbw.block w.heap.size (by omega)).trans HK0.out;have hlt2:=z00 hrow;obtain ⟨a0,a1,a2,a3,a4,a5⟩:=z04 hp
  by_cases hlt:k<n.ptrs.length
  · obtain ⟨j,rfl⟩:=(show NdsAt w S m qA n.ptrs from HN.out.2.1).pred hlt
    obtain ⟨x,hd,hxe,hc,hne⟩:=(show NdsAt w S (j+1) qA n.ptrs from HN.out.2.1).below hbW |>.at_ hlt;subst hxe
    have hql:q.length=k:=by have:=congrArg List.length hq; simp at this; omega
    have hq3:q.length≤3000000:=by omega
    have htk:=HT1.out j rfl k hlt;have htn:=zcb hlt hq;generalize n.ptrs[k]=y at hc hne htk htn;have HTN:=hid htn;have HTK:=hid htk;obtain ⟨d0,d1,d2,d3,d4,d5⟩:=hc;obtain ⟨c0,c1',c2,c3,c4',c5⟩:=z04 hrow;have HC:=hid (HIH.out j rfl y hd wr.drew S (hne.below ⟨rfl,rfl,rfl,Nat.le_refl _,fun _ _=>rfl⟩) htk);have HROW:=hid hrow;have HNR:=hid hnr;have HBW:=hid hbw;have hdr:(wr.drew).heap.size=wr.heap.size:=rfl;unfold NewO at HC;clear hbw hrow hnr HS HP hq htn htk hne hp hbW hql
    go_wp2_with fail
    go_region_law (first | (refine z4p rfl (.tmp 23) (.tmp 30) rfl (w.heap.size+3) v q.length (rowB q) (by simp[Act.eval]) (HO2.out.1.alloc _) ⟨w2.heap.size,0,none⟩ 1 (y,hy) (by simp[Act.eval]) (z1c w2 (y,hy) _) hq3 (by simp; omega) ?_; intro A4 c4 w4 hown4 hgrow4 hat4; have hx4:=(hgrow4.out.block (w.heap.size+1+1) (by simp; omega) (fun e=>by have:=(HO2.out.1.lt _ e.symm).1; omega)).trans ((Below.heap_alloc w2 _ (w.heap.size+1+1) (by omega)).trans HX2.out); have qf4:=z03 hx4 2; obtain ⟨r0,r1,r2,r3,r4,r5⟩:=z04 hx4) | (go_simp; go_at_call 38; (with_reducible refine HC.out.mono ?_); rintro e w2 ⟨hy,bsy,rfl,hny,hndy,hgey,hb2⟩; have hx2:=(hb2.block _ (show w.heap.size+1+1<wr.drew.heap.size by omega)).trans HROW.out; have HX2:=hid hx2; have HO2:=hid (RowO.low (w:=wr.drew) HNR.out.drew hb2); have hsz2:wr.heap.size≤w2.heap.size:=hb2.size; obtain ⟨q0,q1,q2,q3,q4,q5⟩:=z04 hx2; have hl2:=z00 hx2; have qa':∀o,(w2.alloc o).cell? ⟨w.heap.size+1+1,2,none⟩=some v:=fun o=>(((Below.refl w2.heap.size w2).alloc (Nat.le_refl _) o).cell hl2).trans q2))
    all_goals
     have hb3:Below wr.heap.size wr w2:=⟨hb2.os,hb2.tape,hb2.output,hb2.size,hb2.block⟩
     have hbel:Below (w.heap.size+3) w2 w4:=((Below.refl (w.heap.size+3) w2).alloc (by omega) _).grown hgrow4.out (by simp; omega) (fun k hk=>(HO2.out.1.lt k hk).1);have hnx:=(HO2.out.alloc _).next (hny.below ((Below.refl w2.heap.size w2).alloc (Nat.le_refl _) _)) hndy hgey (show w.heap.size+3≤wr.drew.heap.size from hsz) HNR.out.lt (fun k hk=>(HNR.out.1.lt k hk).2) hown4.out hgrow4.out hat4.out;have HS5:Hid (∃(v':Value) (q':List NB),(w4.setCell ⟨w.heap.size+1+1,2,none⟩ (.slice A4 (q.length+1) c4)).heap[w.heap.size+1+1]? =some (.cells #[.int .i64 n.kind,.string n.data,v',.int .i64 n.size,.int .i64 n.count,.slice none 0 0] nodeT (0,0))∧CpRow (w4.setCell ⟨w.heap.size+1+1,2,none⟩ (.slice A4 (q.length+1) c4)) (w.heap.size+3) v' q' (j+1) n.ptrs (k+1)):=hid ⟨_,_,z06 hx4 2 _,hnx.store (by omega),by rw[List.map_append]; exact HTN.out⟩;have HP5:Hid (Below (w.heap.size+2) W0 (w4.setCell ⟨w.heap.size+1+1,2,none⟩ (.slice A4 (q.length+1) c4))∧w.heap.size+3≤(w4.setCell ⟨w.heap.size+1+1,2,none⟩ (.slice A4 (q.length+1) c4)).heap.size):=hid ⟨(((HBW.out.trans (hb3.mono (by omega))).trans (hbel.mono (by omega)))).setCell (p:=⟨w.heap.size+1+1,2,none⟩) (by simp) _,by have:=hbel.size; simp[World.setCell]; omega⟩
     skip
     clear hndy hgey hb2 hb3 hbel hnx hx4 hx2 hown4 hgrow4 hat4 q0 q1 q2 q3 q4 q5 r0 r1 r2 r3 r4 r5 qf4 qa' hl2 hny a0 a1 a2 a3 a4 a5 c0 c1' c2 c3 c4' c5 d0 d1 d2 d3 d4 d5;go_wp2
     go_roundw
     case rel=>exact ⟨k+1,by go_num,by omega,HS5,HP5⟩
     case measure=>simp[intOf]; omega
  · obtain rfl:k=n.ptrs.length:=by omega
    obtain ⟨A1,c1,bs1,hv,hnds,hnd1,hge1⟩:=CpRow.all ⟨hnr,hq⟩;subst hv;have HND:=hid hnds;have HN1:=hid hnd1;have HG1:=hid hge1;have HROW1:=hid hrow;have HBW1:=hid hbw
    obtain ⟨B2,hB2⟩:∃B2,B2=wr.heap.size:=⟨_,rfl⟩
    rw[← hB2] at HG1
    have hB3:w.heap.size+3≤B2:=by omega
    have HBB:=hid (Nat.le_of_eq hB2);clear hnr hnds hnd1 hge1 hbw hrow hq HS HP hlt hbW hp hlt2 hB2 hsz
    go_wp2_with fail
    clear a0 a1 a2 a3 a4 a5
    go_loopw [5] (fun i wr=>∃k:Nat,i= .int .i64 k∧k≤n.items.length∧Hid (∃(v:Value) (q:List NB),wr.heap[w.heap.size+1+1]? =some (.cells #[.int .i64 n.kind,.string n.data,.slice A1 n.ptrs.length c1,.int .i64 n.size,.int .i64 n.count,v] nodeT (0,0))∧CpRow wr (B2) v q m n.items k)∧Hid (Below (w.heap.size+2) W0 wr∧B2≤wr.heap.size)∧Hid (OwS wr (m+1) A1 c1 n.ptrs bs1)) (fun i _=>n.items.length-(intOf i).toNat)
    case atStart=>exact ⟨0,rfl,by omega,hid ⟨_,[],HROW1.out,RowO.nil _ _ _,rfl⟩,hid ⟨HBW1.out,HBB.out⟩,HND⟩
    case round =>
     obtain ⟨k,rfl,hk,HS,HP,HKN⟩:=hrel;obtain ⟨v,q,hrow,hnr,hq⟩:=HS.out;obtain ⟨hbw,hsz⟩:=HP.out;have hbW:Below w.heap.size w wr:=HB0.out.trans (hbw.mono (by omega));have hp:=(hbw.block w.heap.size (by omega)).trans HK0.out;have hlt2:=z00 hrow;obtain ⟨a0,a1,a2,a3,a4,a5⟩:=z04 hp
     by_cases hlt:k<n.items.length
     · obtain ⟨j,rfl⟩:=(show NdsAt w S m qB n.items from HN.out.2.2).pred hlt
       obtain ⟨x,hd,hxe,hc,hne⟩:=(show NdsAt w S (j+1) qB n.items from HN.out.2.2).below hbW |>.at_ hlt;subst hxe
       have hql:q.length=k:=by have:=congrArg List.length hq; simp at this; omega
       have hq3:q.length≤3000000:=by omega
       have htk:=HT2.out j rfl k hlt;have htn:=zcb hlt hq;generalize n.items[k]=y at hc hne htk htn;have HTN:=hid htn;have HTK:=hid htk;obtain ⟨d0,d1,d2,d3,d4,d5⟩:=hc;obtain ⟨c0,c1',c2,c3,c4',c5⟩:=z04 hrow;have HC:=hid (HIH.out j rfl y hd wr.drew S (hne.below ⟨rfl,rfl,rfl,Nat.le_refl _,fun _ _=>rfl⟩) htk);have HROW:=hid hrow;have HNR:=hid hnr;have HBW:=hid hbw;have hdr:(wr.drew).heap.size=wr.heap.size:=rfl;unfold NewO at HC;clear hbw hrow hnr HS HP hq htn htk hne hp hbW hql
       go_wp2_with fail
       go_region_law (first | (refine z4p rfl (.tmp 41) (.tmp 48) rfl (B2) v q.length (rowB q) (by simp[Act.eval]) (HO2.out.1.alloc _) ⟨w2.heap.size,0,none⟩ 1 (y,hy) (by simp[Act.eval]) (z1c w2 (y,hy) _) hq3 (by simp; omega) ?_; intro A4 c4 w4 hown4 hgrow4 hat4; have hx4:=(hgrow4.out.block (w.heap.size+1+1) (by simp; omega) (fun e=>by have:=(HO2.out.1.lt _ e.symm).1; omega)).trans ((Below.heap_alloc w2 _ (w.heap.size+1+1) (by omega)).trans HX2.out); have qf4:=z03 hx4 5; obtain ⟨r0,r1,r2,r3,r4,r5⟩:=z04 hx4) | (go_simp; go_at_call 38; (with_reducible refine HC.out.mono ?_); rintro e w2 ⟨hy,bsy,rfl,hny,hndy,hgey,hb2⟩; have hx2:=(hb2.block _ (show w.heap.size+1+1<wr.drew.heap.size by omega)).trans HROW.out; have HX2:=hid hx2; have HO2:=hid (RowO.low (w:=wr.drew) HNR.out.drew hb2); have hsz2:wr.heap.size≤w2.heap.size:=hb2.size; obtain ⟨q0,q1,q2,q3,q4,q5⟩:=z04 hx2; have hl2:=z00 hx2; have qa':∀o,(w2.alloc o).cell? ⟨w.heap.size+1+1,5,none⟩=some v:=fun o=>(((Below.refl w2.heap.size w2).alloc (Nat.le_refl _) o).cell hl2).trans q5))
       all_goals
        have hb3:Below wr.heap.size wr w2:=⟨hb2.os,hb2.tape,hb2.output,hb2.size,hb2.block⟩
        have hbel:Below (B2) w2 w4:=((Below.refl (B2) w2).alloc (by omega) _).grown hgrow4.out (by simp; omega) (fun k hk=>(HO2.out.1.lt k hk).1);have hnx:=(HO2.out.alloc _).next (hny.below ((Below.refl w2.heap.size w2).alloc (Nat.le_refl _) _)) hndy hgey (show B2≤wr.drew.heap.size from hsz) HNR.out.lt (fun k hk=>(HNR.out.1.lt k hk).2) hown4.out hgrow4.out hat4.out;have HS5:Hid (∃(v':Value) (q':List NB),(w4.setCell ⟨w.heap.size+1+1,5,none⟩ (.slice A4 (q.length+1) c4)).heap[w.heap.size+1+1]? =some (.cells #[.int .i64 n.kind,.string n.data,.slice A1 n.ptrs.length c1,.int .i64 n.size,.int .i64 n.count,v'] nodeT (0,0))∧CpRow (w4.setCell ⟨w.heap.size+1+1,5,none⟩ (.slice A4 (q.length+1) c4)) (B2) v' q' (j+1) n.items (k+1)):=hid ⟨_,_,z06 hx4 5 _,hnx.store (by omega),by rw[List.map_append]; exact HTN.out⟩;have HP5:Hid (Below (w.heap.size+2) W0 (w4.setCell ⟨w.heap.size+1+1,5,none⟩ (.slice A4 (q.length+1) c4))∧B2≤(w4.setCell ⟨w.heap.size+1+1,5,none⟩ (.slice A4 (q.length+1) c4)).heap.size):=hid ⟨(((HBW.out.trans (hb3.mono (by omega))).trans (hbel.mono (by omega)))).setCell (p:=⟨w.heap.size+1+1,5,none⟩) (by simp) _,by have:=hbel.size; simp[World.setCell]; omega⟩
        have HK5:Hid (OwS (w4.setCell ⟨w.heap.size+1+1,5,none⟩ (.slice A4 (q.length+1) c4)) (j+1+1) A1 c1 n.ptrs bs1):=hid (HKN.out.frame _ _ _ _ _ (fun b hb=>by
         obtain ⟨g1,g2⟩:=HG1.out b hb
         exact (Below.heap_setCell w4 ⟨w.heap.size+1+1,5,none⟩ _ b (by simp; omega)).trans ((hbel.block b g2).trans (hb3.block b (by omega)))))
        clear hndy hgey hb2 hb3 hbel hnx hx4 hx2 hown4 hgrow4 hat4 q0 q1 q2 q3 q4 q5 r0 r1 r2 r3 r4 r5 qf4 qa' hl2 hny a0 a1 a2 a3 a4 a5 c0 c1' c2 c3 c4' c5 d0 d1 d2 d3 d4 d5;go_wp2
        go_roundw
        case rel=>exact ⟨k+1,by go_num,by omega,HS5,HP5,HK5⟩
        case measure=>simp[intOf]; omega
     · obtain rfl:k=n.items.length:=by omega
       obtain ⟨A2,c2,bs2,hv,hnds,hnd2,hge2⟩:=CpRow.all ⟨hnr,hq⟩;subst hv;have HND2:=hid hnds;have HN2:=hid (And.intro hnd2 hge2);have HBW2:=hid hbW;obtain ⟨c0,c1',c2',c3,c4',c5⟩:=z04 hrow;have hz:=(hbw.block (w.heap.size+1) (by omega)).trans HK1.out;obtain ⟨z0,z1,z2,z3,z4,z5⟩:=z04 hz;have zf:=z03 hz;have HZ:=hid hz;clear hnr hnds hnd2 hge2 hbw hrow hq HS HP hlt hbW hp hz
       go_wp2_with fail
       obtain ⟨wf,hwf,hrw,hbf,huw⟩:=fin6 HZ.out HBW2.out (show w.heap.size≤w.heap.size+1 by omega) (.int .i64 n.kind) (.string n.data) (.slice A1 n.ptrs.length c1) (.int .i64 n.size) (.int .i64 n.count) (.slice A2 n.items.length c2);rw[hwf];obtain ⟨e0,e1,e2,e3,e4,e5⟩:=z04 hrw
       exact bodyPost_ret (v:= .agg #[.int .i64 n.kind,.string n.data,.slice A1 n.ptrs.length c1,.int .i64 n.size,.int .i64 n.count,.slice A2 n.items.length c2])
        (by simp[results,Tryz.results38,go_sem,e0,e1,e2,e3,e4,e5]) rfl ⟨⟨A1,c1,A2,c2⟩,bs1++bs2,rfl,⟨HN.out.1,bs1,bs2,rfl,HKN.out.frame _ _ _ _ _ (fun b hb=>by
            obtain ⟨g1,g2⟩:=HG1.out b hb
            exact huw.block b (by omega) (by omega)),HND2.out.frame _ _ _ _ _ (fun b hb=>by
            obtain ⟨g1,g2⟩:=HN2.out.2 b hb
            exact huw.block b (by omega) (by omega))⟩,List.nodup_append.2 ⟨HN1.out,HN2.out.1,fun a ha b hb e=>by
            have g1:=(HG1.out a ha).2;have g2:=(HN2.out.2 b hb).1
            omega⟩,fun b hb=>by
            rcases List.mem_append.1 hb with hb | hb
            · have:=(HG1.out b hb).1
              omega
            · have:=(HN2.out.2 b hb).1
              omega,hbf⟩
theorem z7k:∀m,CpN m
 | 0=>zlk 0 (fun j h=>by cases h)
 | m+1=>zlk (m+1) (fun j h=>by obtain rfl:m=j:=by omega
                               exact z7k m)
end Go.Proofs.YtblcibgphccfkaaGreatDoor
