/- Texts of the proof of the law FnCanonSent, side by side: part 6. -/
import Derived.Lib.AppendZerosOnto
import Derived.Deep.DeepMust
import Derived.Outline
import Derived.Test.YtlbfffokkhccaaaGreatDoorMCanonSent05
set_option maxHeartbeats 8000000
set_option maxRecDepth 100000
open Go.Lib (hid)
namespace Go.Proofs.YtlbfffokkhccaaaGreatDoor
open Go.RowKit
abbrev wdsT:TypeId:=114
theorem zsx:(Tryz.prog.info? wdT).map (fun i=>(i.zero,i.size,i.bytes))=some (some (.agg #[.int .u8 0,.int .u8 0,.int .u8 0,.int .u8 0,.int .u8 0,.int .u8 0,.int .u8 0,.int .u8 0]),8,8):=by kernel_rfl
abbrev zWd:Value:= .agg #[.int .u8 0,.int .u8 0,.int .u8 0,.int .u8 0,.int .u8 0,.int .u8 0,.int .u8 0,.int .u8 0]
def zrow (k:Nat):List Value:=List.replicate (8*k) (.int .u8 0)
theorem zno (k:Nat):(zrow k).length=k*8:=by simp[zrow]; omega
theorem zon (k:Nat):∀u∈zrow k,u.oneCell'=true:=fun u h=>by rw[List.eq_of_mem_replicate h]; rfl
theorem z8t (k:Nat):(Builtin.zeroCells zWd.cells k).toList=zrow k:=by
 have hz:zWd.cells= #[.int .u8 0,.int .u8 0,.int .u8 0,.int .u8 0,.int .u8 0,.int .u8 0,.int .u8 0,.int .u8 0]:=rfl;rw[hz]
 apply List.ext_getElem?
 intro j
 rw[Array.getElem?_toList];unfold Builtin.zeroCells zrow;rw[Array.getElem?_map,List.getElem?_replicate]
 by_cases hj:j<k*8
 · rw[Array.getElem?_range,if_pos (by simpa using hj),if_pos (by omega)]
   simp only[Option.map_some]
   have hm:j%8=0∨j%8=1∨j%8=2∨j%8=3∨j%8=4∨j%8=5∨j%8=6∨j%8=7:=by omega
   show some (#[Value.int .u8 0,.int .u8 0,.int .u8 0,.int .u8 0,.int .u8 0,.int .u8 0,.int .u8 0,.int .u8 0][j%8]!)=_
   rcases hm with e | e | e | e | e | e | e | e <;> rw[e] <;> rfl
 · rw[Array.getElem?_range,if_neg (by simpa using hj),if_neg (by omega)]
   rfl
theorem zcr (ty:TypeId)(w:World)(base:Nat)(hbase:base≤w.heap.size)(v:Value)(n:Nat)(xs:List Value)(hown:w.ownsRow base wdT 8 v n xs)(k:Nat)(hb:n+k≤3000000) :
 ∃v' w',(Builtin.append_ #[wdsT,3] ty #[v,.int .i64 (k:Int)]).run Tryz.prog w= .ok v' w'∧w'.ownsRow base wdT 8 v' (n+k) (xs++zrow k)∧w.grownBy w' v.ownBlock∧(v'.ownBlock=v.ownBlock∨v'.ownBlock=some w.heap.size):=by
 obtain ⟨i0,hi,hz0,hz1,hz2⟩:=info_parts zsx;have hu:Tryz.prog.underlying wdsT=some (.slice wdT):=Tryz.underlying114;have hti:Tryz.prog.underlying 3=some (.int .i64):=Tryz.underlying3;have hrl:(zrow k).length=k*8:=zno k
 have hlen:(xs++zrow k).length=(n+k)*8:=by rw[List.length_append,hown.1,hrl,Nat.add_mul]
 have hzs:(Builtin.zeroCells zWd.cells k).size=k*8:=by rw[size_zeroCells]; rfl
 have grown:∀(old:Nat),old<n+k→∀(row:Option Nat),
  (w.drew.alloc (.cells (xs.toArray++Builtin.zeroCells zWd.cells k++Builtin.zeroCells zWd.cells (grownCap w (n+k) old wdT-(n+k))) wdT)).ownsRow base wdT 8
   (.slice (some ⟨w.heap.size,0,none⟩) (n+k) (grownCap w (n+k) old wdT)) (n+k) (xs++zrow k) ∧
  w.grownBy (w.drew.alloc (.cells (xs.toArray++Builtin.zeroCells zWd.cells k++Builtin.zeroCells zWd.cells (grownCap w (n+k) old wdT-(n+k))) wdT)) row:=by
  intro old ho row
  have hge:=grownCap_ge w (n+k) old wdT;have hcm:grownCap w (n+k) old wdT≤maxLen:=grownCap_le_maxLen w (n+k) old wdT (by unfold maxLen; omega);refine ⟨⟨hlen,.inr ⟨w.heap.size,_,_,rfl,hbase,heap_alloc_new w.drew _,hge,hcm,?_,?_⟩⟩,⟨rfl,rfl,rfl,by simp,fun j hj _=>Below.heap_alloc w.drew _ j hj⟩⟩
  · have h1:(Builtin.zeroCells zWd.cells (grownCap w (n+k) old wdT-(n+k))).size=(grownCap w (n+k) old wdT-(n+k))*8:=by rw[size_zeroCells]; rfl
    have h2:=hown.1
    simp only[Array.size_append,List.size_toArray,hzs,h1]
    omega
  · simp only[Array.toList_append,List.append_assoc,z8t]
    rw[← List.append_assoc,← hlen];exact List.take_left
 rcases hown.2 with ⟨rfl,rfl⟩ | ⟨g,cap,cur,rfl,hbg,hg,hnc,hcm,hcs,htake⟩
 · have hx:xs= []:=List.eq_nil_of_length_eq_zero (by simpa using hown.1)
   subst hx
   by_cases hm:k=0
   · subst hm
     refine ⟨.slice none 0 0,w,?_,World.ownsRow_nil w base wdT 8,⟨rfl,rfl,rfl,Nat.le_refl _,fun _ _ _=>rfl⟩,.inl rfl⟩
     simp[Builtin.append_,run_underlying hu,run_underlying hti,sizeOf,typeInfo,hi,asInt,asIntOf,IntKind.wrap_i64]
   · have hr:=Lib.run_append_nil_zeros (P:=Tryz.prog) w wdsT 3 ty wdT i0 _ .i64 .i64 hu hti hi hz0 k (by omega) (by rw[hz1]; decide) (by omega) (by rw[hz2]; omega)
     have hgr:=grown 0 (by omega) (Value.ownBlock (.slice none 0 0))
     simp only[Nat.zero_add,List.nil_append,Array.empty_append] at hgr ⊢
     exact ⟨_,_,hr,hgr.1,hgr.2,Or.inr rfl⟩
 · by_cases hroom:n+k≤cap
   · have hst:=run_storeCells_at Tryz.prog g (n*8) wdT (zrow k) 0 cur w hg (by rw[hrl,hcs]; omega) (zon _)
     simp only[Nat.add_zero] at hst
     have hr:(Builtin.append_ #[wdsT,3] ty #[.slice (some ⟨g,0,none⟩) n cap,.int .i64 (k:Int)]).run Tryz.prog w= .ok (.slice (some ⟨g,0,none⟩) (n+k) cap) (w.setRow g (cur.toList.take (n*8)++zrow k++cur.toList.drop (n*8+(zrow k).length)).toArray):=by
      have hw:IntKind.i64.wrap (k:Int)=k:=by rw[IntKind.wrap_i64]; omega
      have hneg:¬((k:Int)<0):=by omega
      have h48i:¬(281474976710656<(k:Int)*8):=by omega
      by_cases hk0:k=0
      · subst hk0
        have hst0:=hst
        simp[zrow,storeCells] at hst0
        simp[Builtin.append_,run_underlying hu,run_underlying hti,sizeOf,typeInfo,hi,hz2,asInt,asIntOf,hnc,IntKind.wrap_i64,storeCells,zrow]
        exact hst0
      · have hns:¬(k*8=0):=by omega
        simp[Builtin.append_,run_underlying hu,run_underlying hti,sizeOf,typeInfo,zeroValue,hi,hz0,hz1,hz2,asInt,asIntOf,hw,hneg,h48i,hns,hroom,Addr.add_lit,z8t,hst]
     refine ⟨_,_,hr,⟨hlen,.inr ⟨g,cap,_,rfl,hbg,setRow_heap w g cur _ wdT _ hg,hroom,hcm,?_,?_⟩⟩,⟨rfl,rfl,rfl,by simp,fun k _ hk=>setRow_other w g k _ (fun e=>hk (by simp[Value.ownBlock,e]))⟩,Or.inl rfl⟩
     · simp only[List.size_toArray,List.length_append,List.length_take,List.length_drop,Array.length_toList]
       omega
     · rw[htake,← hlen]
       exact List.take_left
   · have holds:∀j u,xs[j]? =some u→w.cell? ((⟨g,0,none⟩:Addr).add j)=some u:=hown.cells (g:=g) rfl
     have hold:(Builtin.firstCells i0.size n (.slice (some ⟨g,0,none⟩) n cap)).run Tryz.prog w.drew= .ok xs.toArray w.drew:=by
      rw[hz1];exact run_firstCells_some (P:=Tryz.prog) w.drew 8 n ⟨g,0,none⟩ n cap xs hown.1 (by simpa using holds)
     have hr:=Lib.run_append_grow_zeros (P:=Tryz.prog) w wdsT 3 ty wdT i0 _ .i64 .i64 hu hti hi hz0 (some ⟨g,0,none⟩) n cap xs hold k (by omega) (by rw[hz1]; decide) (by omega) (by omega) (by rw[hz2]; omega) (by rw[hz2]; exact growslice_fits (by omega) (by omega));have hgr:=grown cap (by omega) (Value.ownBlock (.slice (some ⟨g,0,none⟩) n cap));exact ⟨_,_,hr,hgr.1,hgr.2,Or.inr rfl⟩
theorem z4h {w:World}{B T sz n:Nat}{v:Value}{xs:List Value}(h:w.ownsRow B T sz v n xs):∃A c,v= .slice A n c:=by
 rcases h.2 with ⟨rfl,rfl⟩ | ⟨g,cap,_,rfl,_⟩
 · exact ⟨none,0,rfl⟩
 · exact ⟨_,cap,rfl⟩
theorem z81 {ops:Array Oper}{rest:List Oper}{o:Oper}{a:Act}{w:World}{Q:Exit→Act→World→Prop}(hgd:o.guard=none)(s x:Operand)
 (ho:o.op= .call { callee:= .builtin .append,args:= #[s,x],argTypes:= #[wdsT,3] }) (base:Nat) (hbase:base≤w.heap.size)
 (v:Value) (n:Nat) (xs:List Value) (hs:a.eval s=v) (hown:w.ownsRow base wdT 8 v n xs) (k:Nat) (hx:a.eval x= .int .i64 (k:Int)) (hb:n+k≤3000000)
 (h:∀A' c' w',Hid (w'.ownsRow base wdT 8 (.slice A' (n+k) c') (n+k) (xs++zrow k))→Hid (w.grownBy w' v.ownBlock)→Hid ((Value.slice A' (n+k) c').ownBlock=v.ownBlock∨(Value.slice A' (n+k) c').ownBlock=some w.heap.size)→wpList Tryz.prog ops Q rest (a.put o.dst (.slice A' (n+k) c')) w') :
 wpList Tryz.prog ops Q (o :: rest) a w :=
 wpList_plain hgd fun K hK=>by
  obtain ⟨v',w',hr,h2,h3,h5⟩:=zcr o.type w base hbase v n xs hown k hb;obtain ⟨A',c',rfl⟩:=z4h h2;unfold Oper.wp execOp
  simp only[ho,resolve,invoke,builtin,Sem.run_bind,Sem.run_pure,Result.andThen_ok,List.map_toArray,List.map_cons,List.map_nil,hs,hx,hr]
  exact hK _ _ (h A' c' w' h2 h3 h5)
open Go.RowKit Go.Deep
abbrev tmT:TypeId:=112
theorem zsw:(Tryz.prog.info? psgT).map (fun i=>(i.zero,i.size,i.bytes))=some (some (.pointer none),1,8):=by kernel_rfl
def Too (P:Nat→Prop)(w:World)(e:Ending)(w':World):Prop:=e= .panicked [{ v:= .iface tmT (.agg #[]),recovered:=false }]∧KP P w w'
def OpenB (base b size:Nat)(ss:Segs)(P:Nat→Prop)(w:World)(e:Ending)(w':World):Prop :=
 e= .returned (.int .i64 (ss.length:Int))∧KP P w w'∧Bun w' base b size (ss++ [[]]) (fun k=>P k∨w.heap.size≤k)
theorem zkx (base b size:Nat)(ss:Segs)(P:Nat→Prop)(w:World)(h:Bun w base b size ss P)(h6:ss.length=6) :
 Calls Tryz.prog 36 #[.pointer (some ⟨b,0,none⟩)] w (Too P w):=by
 obtain ⟨row,g,v,hB,hP⟩:=h;obtain ⟨r,cap,rfl,hrow⟩:=hB.row (i:=0) (by omega);obtain ⟨c0,c1,c2⟩:=z0k hB.hb;rw[h6] at c0;clear hB hP hrow h6;go_enter Tryz.func36,Tryz.ntmps36;go_wp2;exact ⟨rfl,rfl,KP.refl _ _⟩
theorem zfh (w:World)(o:Obj)(v:Value)(T:TypeId):∀(j:Nat) (u:Value),[v][j]? =some u→((w.alloc o).alloc (.cells #[v] T)).cell? ((⟨w.heap.size+1,0,none⟩:Addr).add j)=some u:=by
 intro j u h
 have:=cell_one_new (w.alloc o) v T j u h
 simpa using this
theorem zen (base b size:Nat)(ss:Segs)(P:Nat→Prop)(w:World)(h:Bun w base b size ss P)(h6:ss.length<6) :
 Calls Tryz.prog 36 #[.pointer (some ⟨b,0,none⟩)] w (OpenB base b size ss P w):=by
 obtain ⟨i0,hi,hz0,hz1,hz2⟩:=info_parts zsw;obtain ⟨row,g,v,hB,hP⟩:=h;obtain ⟨A,cap,rfl⟩:=z4h hB.hr;have hbl:=hB.lt b (.inl rfl)
 have hb1:((ss.length:Int)==6)=false:=by simp; omega
 have hwa:Below w.heap.size w ((w.alloc (.cells #[.slice none 0 0] sgT)).alloc (.cells #[.pointer (some ⟨w.heap.size,0,none⟩)] psgT)):=((Below.refl _ w).alloc (Nat.le_refl _) _).alloc (by simp) _;have hwn:((w.alloc (.cells #[.slice none 0 0] sgT)).alloc (.cells #[.pointer (some ⟨w.heap.size,0,none⟩)] psgT)).heap[w.heap.size]? =some (.cells #[.slice none 0 0] sgT (0,0)):=z05 (heap_alloc_new w _) _;obtain ⟨c0,c1,c2⟩:=z0k hB.hb;have HR:=hid (z13 hB.hr (fun k e=>hwa.block k (hB.hr.lt k e).2));have HB:=hid hB;have HWA:=hid hwa;have HWN:=hid hwn;have HP:=hid hP;have HL:=hid h6;clear hB hP hwa hwn;go_enter Tryz.func36,Tryz.ntmps36
 go_wp2_with (at_builtin; refine wpList_append_own_at _ rfl (.tmp 15) (.tmp 17) 53 rfl base psgT i0 (.pointer none) 1 8 Tryz.underlying53 hi hz0 hz1 hz2 rfl (by decide) _ ss.length _ rfl ((HB.out.hr.alloc _).alloc _) ⟨w.heap.size+1,0,none⟩ 1 1 [.pointer (some ⟨w.heap.size,0,none⟩)] ?c0 rfl ?c1 (by simp[Value.oneCell']) (by unfold maxLen; omega) (by omega) (by simp; omega) ?_)
 case c0=>rfl
 case c1=>exact zfh _ _ _ _
 intro v' w1 hown' hgrow _ hat
 obtain ⟨A',c',rfl⟩:=z4h hown';have hB1:=HB.out.more (by omega) HWA.out HWN.out _ hown' hgrow;have hb1:=hB1.hb;have hbr:(w1.setCell ⟨b,0,none⟩ (.slice A' (ss.length+1) c')).heap[b]? =some (.cells #[.slice A' (ss.length+1) c',.int .i64 size,.int .i64 (totS ss:Nat)] buT (0,0)):=hb1
 have hk1:KP P w w1:=⟨hgrow.os.trans HWA.out.os,hgrow.tape.trans HWA.out.tape,hgrow.output.trans HWA.out.output,Nat.le_trans HWA.out.size hgrow.size,fun k hk hn=>(hgrow.block k (by simp; omega) (fun e=>hn (HP.out k (.inr (.inl e.symm))))).trans (HWA.out.block k hk)⟩
 have hk2:KP P w (w1.setCell ⟨b,0,none⟩ (.slice A' (ss.length+1) c')):=hk1.trans (KP.set (HP.out b (.inl rfl)) w1 0 _) (fun _ _ h=>h)
 have hfin:Bun (w1.setCell ⟨b,0,none⟩ (.slice A' (ss.length+1) c')) base b size (ss++ [[]]) (fun k=>P k∨w.heap.size≤k):=by
  refine ⟨_,_,_,by rw[z6p]; exact hB1,?_⟩;rintro k (rfl | e | ⟨i,hi,e | e⟩)
  · exact .inl (HP.out _ (.inl rfl))
  · rcases hat with e2 | e2
    · exact .inl (HP.out _ (.inr (.inl (by rw[← e2]; exact e))))
    · rw[e2] at e; injection e with e; right; omega
  · rw[e]; dsimp only; split
    · exact .inr (Nat.le_refl _)
    · exact .inl (HP.out _ (.inr (.inr ⟨i,by simp at hi; omega,.inl rfl⟩)))
  · dsimp only at e; split at e
    · cases e
    · exact .inl (HP.out _ (.inr (.inr ⟨i,by simp at hi; omega,.inr e⟩)))
 have cb:=z0k hbr
 have hfr:w1.frozen? ⟨b,0,none⟩=false∧(∃u,w1.cell? ⟨b,0,none⟩=some u):=by
  have h1:w1.heap[b]? =some (.cells #[.slice A ss.length cap,.int .i64 size,.int .i64 (totS ss:Nat)] buT (0,0)):=(hgrow.block b (by simp; omega) (fun e=>by obtain ⟨c,hc⟩:=own_T HB.out.hr e.symm; exact ne_T HB.out.hb hc (by decide) rfl)).trans ((HWA.out.block b hbl.2).trans HB.out.hb);exact ⟨z02 h1 0,_,(z0k h1).1⟩
 obtain ⟨hf0,u0,hu0⟩:=hfr;have HK:=hid hk2;have HF:=hid hfin;have hc0:=cb.1;clear hb1 hbr hk1 hk2 hfin cb hown' hgrow hat hB1 c0 c1 c2;go_wp2;go_ret;exact ⟨rfl,HK.out,HF.out⟩
abbrev plT:TypeId:=58
def Grown (base b size:Nat)(ss:Segs)(i k:Nat)(P:Nat→Prop)(w:World)(e:Ending)(w':World):Prop :=
 e= .returned (.agg #[.int .i64 (i:Nat),.int .i64 (wn (sgS ss i):Nat)])∧KP P w w'∧Bun w' base b size (growB ss i k) (fun k=>P k∨w.heap.size≤k)
theorem ze6 (base b size:Nat)(ss:Segs)(P:Nat→Prop)(w:World)(h:Bun w base b size ss P)(i k:Nat)(ht:totS ss≤200)(hk:k≤100000)(hm:200<totS ss+k) :
 Calls Tryz.prog 35 #[.pointer (some ⟨b,0,none⟩),.int .i64 (i:Int),.int .i64 (k:Int)] w (Too P w):=by
 obtain ⟨row,g,v,hB,hP⟩:=h;obtain ⟨c0,c1,c2⟩:=z0k hB.hb;have hf:=z02 hB.hb 2;have hbl:=hB.lt b (.inl rfl);have hd:decide (200<(totS ss:Int)+(k:Int))=true:=decide_eq_true (by omega);have HP:=hid (hP b (.inl rfl));generalize totS ss=t at *;clear hB hP;go_enter Tryz.func35,Tryz.ntmps35;go_wp2;exact ⟨rfl,rfl,(KP.set HP.out _ 2 _).trans (KP.of_below ((Below.refl _ _).alloc (Nat.le_refl _) _)) (fun _ _ h=>h)⟩
theorem Bun.other {w:World}{base b size N:Nat}{ss:Segs}{P:Nat→Prop}{x:Array Value}{T:TypeId}(h:Bun w base b size ss P)(hN:w.heap[N]? =some (.cells x T (0,0)))(hT:T≠buT∧T≠psgT∧T≠sgT∧T≠wdT)(i:Nat)(u:Value):Bun (w.setCell ⟨N,i,none⟩ u) base b size ss P:=by
 obtain ⟨row,g,v,hB,hP⟩:=h;refine ⟨row,g,v,hB.keep (fun k hk=>Below.heap_setCell w ⟨N,i,none⟩ u k ?_),hP⟩
 show k≠N
 rcases hk with rfl | e | ⟨j,hj,rfl | e⟩
 · exact ne_T hB.hb hN (fun e=>hT.1 e.symm)
 · obtain ⟨c,hc⟩:=own_T hB.hr e
   exact ne_T hc hN (fun e=>hT.2.1 e.symm)
 · exact ne_T (hB.hg j hj) hN (fun e=>hT.2.2.1 e.symm)
 · obtain ⟨c,hc⟩:=own_T (hB.ho j hj) e
   exact ne_T hc hN (fun e=>hT.2.2.2 e.symm)
theorem zmi {w:World}{base b size W:Nat}{ss:Segs}{row:Value}{g:Nat→Nat}{v:Nat→Value}(h:Bu w base b size W ss row g v)(o o':Obj):Bu ((w.alloc o).alloc o') base b size W ss row g v :=
 h.keep (fun k hk=>(((Below.refl w.heap.size w).alloc (Nat.le_refl _) o).alloc (by simp) o').block k (h.lt k hk).2)
theorem z9z (base b size:Nat)(ss:Segs)(P:Nat→Prop)(w:World)(h:Bun w base b size ss P)(hw8:WdS ss)(i k:Nat)(hi:i<ss.length)(hm:totS ss+k≤200) :
 Calls Tryz.prog 35 #[.pointer (some ⟨b,0,none⟩),.int .i64 (i:Int),.int .i64 (k:Int)] w (Grown base b size ss i k P w):=by
 obtain ⟨row,g,v,hB,hP⟩:=h;have hbl:=hB.lt b (.inl rfl);have hB1:=hB.words (totS ss+k);have hk1:KP P w (w.setCell ⟨b,2,none⟩ (.int .i64 (totS ss+k:Nat))):=KP.set (hP b (.inl rfl)) w 2 _
 have hs1:(w.setCell ⟨b,2,none⟩ (.int .i64 (totS ss+k:Nat))).heap.size=w.heap.size:=by simp[World.setCell]
 have hcast:((totS ss+k:Nat):Int)=(totS ss:Int)+(k:Int):=by omega
 rw[hcast] at hB1 hk1 hs1;obtain ⟨c0,c1,c2⟩:=z0k hB.hb;have hf:=z02 hB.hb 2;obtain ⟨r,cap,hrow,hcr⟩:=hB1.row hi;obtain ⟨A,cp,hv,hcg,hfg⟩:=hB1.seg hi;obtain ⟨d0,d1,d2⟩:=z0k hB1.hb
 have hlt:(i:Int)<(ss.length:Int):=by omega
 have hd:decide (200<(totS ss:Int)+(k:Int))=false:=decide_eq_false (by omega);have hgl:=hB1.lt (g i) (.inr (.inr ⟨i,hi,.inl rfl⟩));rw[hrow] at c0 d0;rw[hv] at hcg;have HB1:=hid hB1;have HK1:=hid hk1;have HP:=hid hP;have HV:=hid hv;have HROW:=hid hrow;have hcri:=hcr i hi;have hwi:=z09 ss i
 have hal:∀ {p:Addr} {u:Value},(w.setCell ⟨b,2,none⟩ (.int .i64 ((totS ss:Int)+(k:Int)))).cell? p=some u→(∀o,((w.setCell ⟨b,2,none⟩ (.int .i64 ((totS ss:Int)+(k:Int)))).alloc o).cell? p=some u)∧(∀o o',(((w.setCell ⟨b,2,none⟩ (.int .i64 ((totS ss:Int)+(k:Int)))).alloc o).alloc o').cell? p=some u):=fun {p u} h=>by
  have hlt:=World.block_lt_of_cell? _ _ h
  have h1:∀o,((w.setCell ⟨b,2,none⟩ (.int .i64 ((totS ss:Int)+(k:Int)))).alloc o).cell? p=some u:=fun o=>by rw[World.cell?_alloc_lt _ _ _ hlt]; exact h
  exact ⟨h1,fun o o'=>by rw[World.cell?_alloc_lt _ _ _ (by simp; omega)]; exact h1 o⟩
 obtain ⟨p1,p2⟩:=hal hcri;obtain ⟨q1,q2⟩:=hal hcg;obtain ⟨r1,r2⟩:=hal d0;have HO:=hid (HB1.out.ho i hi);rw[HV.out] at HO;clear hB hB1 hk1 hP hcr hcast hv hrow hal d0 d1 d2 hcri hcg;go_enter Tryz.func35,Tryz.ntmps35
 go_wp2_with (refine z81 rfl (.tmp 42) (.tmp 43) rfl base ?b0 _ (wn (sgS ss i)) _ rfl ((HO.out.alloc _).alloc _) k rfl (by omega) ?_)
 case b0=>simp; omega
 intro A' c' w2 hown hgrow hat
 have hBa:=zmi HB1.out (.cells #[.int .i64 0,.int .i64 0] plT) (.cells #[.int .i64 (i:Int),.int .i64 (wn (sgS ss i):Int)] plT)
 have hne:∀m,(v i).ownBlock=some m→m<w.heap.size:=fun m e=>by have:=(HB1.out.lt m (.inr (.inr ⟨i,hi,.inr e⟩))).2; omega
 have hgr2:=hgrow.out;rw[← HV.out] at hgr2;have hB2:=hBa.grow (by simp; omega) hi hw8 (.slice A' (wn (sgS ss i)+k) c') hown.out hgr2 (by rw[HV.out]; simpa using hat.out);have hp0:w2.heap[w.heap.size]? =some (.cells #[.int .i64 0,.int .i64 0] plT (0,0)):=(hgr2.block _ (by simp; omega) (fun e=>by have:=hne _ e.symm; omega)).trans (by rw[← hs1]; exact z05 (heap_alloc_new _ _) _)
 have hp1:w2.heap[w.heap.size+1]? =some (.cells #[.int .i64 (i:Int),.int .i64 (wn (sgS ss i):Int)] plT (0,0)):=(hgr2.block _ (by simp) (fun e=>by have:=hne _ e.symm; omega)).trans (by
  have:=heap_alloc_new ((w.setCell ⟨b,2,none⟩ (.int .i64 ((totS ss:Int)+(k:Int)))).alloc (.cells #[.int .i64 0,.int .i64 0] plT)) (.cells #[.int .i64 (i:Int),.int .i64 (wn (sgS ss i):Int)] plT)
  rwa [show ((w.setCell ⟨b,2,none⟩ (.int .i64 ((totS ss:Int)+(k:Int)))).alloc (.cells #[.int .i64 0,.int .i64 0] plT)).heap.size=w.heap.size+1 by simp] at this)
 have hg2:w2.heap[g i]? =some (.cells #[.slice A (wn (sgS ss i)) cp] sgT (0,0)):=(hgr2.block _ (by simp; omega) (fun e=>by obtain ⟨c,hc⟩:=own_T (hBa.ho i hi) e.symm; exact ne_T (hBa.hg i hi) hc (by decide) rfl)).trans (by rw[hBa.hg i hi,HV.out]);have hs2:=hgr2.size;have hfr:=z02 hg2 0
 have hcc:w2.cell? ⟨g i,0,none⟩=some (.slice A (wn (sgS ss i)) cp):=by rw[cell_of_row _ _ _ _ _ _ hg2]; rfl
 have hp0':=(Below.heap_setCell w2 ⟨g i,0,none⟩ (.slice A' (wn (sgS ss i)+k) c') w.heap.size (by show w.heap.size≠g i; omega)).trans hp0;have hp1':=(Below.heap_setCell w2 ⟨g i,0,none⟩ (.slice A' (wn (sgS ss i)+k) c') (w.heap.size+1) (by show w.heap.size+1≠g i; omega)).trans hp1;have k2:=HK1.out.trans (KP.of_below (((Below.refl _ _).alloc (Nat.le_refl _) (.cells #[.int .i64 0,.int .i64 0] plT)).alloc (by simp) (.cells #[.int .i64 (i:Int),.int .i64 (wn (sgS ss i):Int)] plT))) (fun _ _ h=>h);have k3:=k2.trans (Q:=P) (KP.mk hgr2.os hgr2.tape hgr2.output hgr2.size (fun m hm hn=>hgr2.block m hm (fun e=>hn (HP.out m (.inr (.inr ⟨i,hi,.inr e.symm⟩)))))) (fun _ _ h=>h);have hkp:=k3.trans (KP.set (HP.out _ (.inr (.inr ⟨i,hi,.inl rfl⟩))) w2 0 (.slice A' (wn (sgS ss i)+k) c')) (fun _ _ h=>h)
 have hbun:Bun (w2.setCell ⟨g i,0,none⟩ (.slice A' (wn (sgS ss i)+k) c')) base b size (growB ss i k) (fun k=>P k∨w.heap.size≤k):=by
  refine ⟨_,_,_,by rw[z2t hi]; exact hB2,?_⟩;rintro m (rfl | e | ⟨j,hj,e | e⟩)
  · exact .inl (HP.out _ (.inl rfl))
  · exact .inl (HP.out _ (.inr (.inl e)))
  · exact .inl (HP.out _ (.inr (.inr ⟨j,by rwa [z0b] at hj,.inl e⟩)))
  · rw[z0b] at hj
    dsimp only at e; split at e
    · rcases hat.out with e2 | e2
      · exact .inl (HP.out _ (.inr (.inr ⟨i,hi,.inr (by rw[HV.out,← e2]; exact e)⟩)))
      · rw[e2] at e; injection e with e; right; omega
    · exact .inl (HP.out _ (.inr (.inr ⟨j,hj,.inr e⟩)))
 have hsz:w.heap.size+1<w2.heap.size:=by simp at hs2; omega
 have hsz':(w2.setCell ⟨g i,0,none⟩ (.slice A' (wn (sgS ss i)+k) c')).heap.size=w2.heap.size:=by simp[World.setCell]
 have HKP:=hid hkp;have HBU:=hid hbun;have HP0:=hid hp0';have HP1:=hid hp1';obtain ⟨n00,n01⟩:=z04 hp0;obtain ⟨n10,n11⟩:=z04 hp1;have f00:=z02 hp0 0;have f01:=z02 hp0 1;clear k2 k3 hBa hne hgr2 hB2 hp0 hp1 hg2 hs2 hp0' hp1' hkp hbun p1 p2 q1 q2 r1 r2 hown hgrow hat HO hw8
 go_wp2_with fail
 have hrow:=z08 (z08 HP0.out 0 (.int .i64 (i:Int))) 1 (.int .i64 (wn (sgS ss i):Int));have k5:KP (fun m=>w.heap.size≤m) (w2.setCell ⟨g i,0,none⟩ (.slice A' (wn (sgS ss i)+k) c')) (((w2.setCell ⟨g i,0,none⟩ (.slice A' (wn (sgS ss i)+k) c')).setCell ⟨w.heap.size,0,none⟩ (.int .i64 (i:Int))).setCell ⟨w.heap.size,1,none⟩ (.int .i64 (wn (sgS ss i):Int))):=(KP.set (Nat.le_refl _) _ 0 _).trans (KP.set (Nat.le_refl _) _ 1 _) (fun _ _ h=>h);obtain ⟨e0,e1⟩:=z04 hrow;refine bodyPost_ret (v:= .agg #[.int .i64 (i:Int),.int .i64 (wn (sgS ss i):Int)]) (by simp[results,Tryz.results35,go_sem,e0,e1]) rfl ⟨rfl,?_,?_⟩
 · exact HKP.out.trans k5 (fun m h1 h2=>by omega)
 · exact (HBU.out.other HP0.out (by decide) 0 _).other (z08 HP0.out 0 _) (by decide) 1 _
def fitS (size:Nat)(ss:Segs)(i k:Nat):Bool:=decide (wn (sgS ss i)+k≤size)
theorem zd8 (base b size:Nat)(ss:Segs)(P:Nat→Prop)(w:World)(h:Bun w base b size ss P)(i k:Nat)(hi:i<ss.length)(hz:size≤100000)(hk:k≤100000)(ht:totS ss≤100000) :
 Calls Tryz.prog 119 #[.pointer (some ⟨b,0,none⟩),.int .i64 (i:Int),.int .i64 (k:Int)] w fun e w'=>e= .returned (.bool (fitS size ss i k))∧Below w.heap.size w w':=by
 obtain ⟨row,g,v,hB,hP⟩:=h;obtain ⟨c0,c1,c2⟩:=z0k hB.hb;obtain ⟨r,cap,rfl,hcr⟩:=hB.row hi;obtain ⟨A,cp,hv,hcg,hfg⟩:=hB.seg hi;rw[hv] at hcg;have hcri:=hcr i hi
 have hlt:(i:Int)<(ss.length:Int):=by omega
 have hwi:=z09 ss i
 obtain ⟨B,hBB⟩:∃B,fitS size ss i k=B:=⟨_,rfl⟩
 have hd:decide ((wn (sgS ss i):Int)+(k:Int)≤(size:Int))=B:=by rw[← hBB]; unfold fitS; rw[Bool.eq_iff_iff]; simp; omega
 rw[hBB];clear hBB hB hP hcr hfg hv;generalize wn (sgS ss i)=x at *;generalize totS ss=t at *;generalize g i=gi at *;cases B
 all_goals
  go_enter Tryz.func119,Tryz.ntmps119
  go_wp2_with fail
  go_quiet (fail)
  go_wp2;go_ret;exact ⟨rfl,⟨rfl,rfl,rfl,Nat.le_refl _,fun _ _=>rfl⟩⟩
theorem z7m (i a k:Nat)(w:World)(ha:a≤1000000)(hk:k≤1000000) :
 Calls Tryz.prog 118 #[.agg #[.int .i64 (i:Int),.int .i64 (a:Int)],.int .i64 (k:Int)] w fun e w'=>e= .returned (.agg #[.int .i64 (i:Int),.int .i64 (a+k:Nat)])∧Below w.heap.size w w':=by
 go_enter Tryz.func118,Tryz.ntmps118;go_wp2;refine bodyPost_ret (v:= .agg #[.int .i64 (i:Int),.int .i64 ((a:Int)+(k:Int))]) (by simp[results,Tryz.results118,go_sem]) rfl ⟨by simp,?_⟩;exact ((Below.refl _ _).alloc (Nat.le_refl _) _).alloc (by simp) _
end Go.Proofs.YtlbfffokkhccaaaGreatDoor
namespace Go.Proofs.YtlbfffokkhccaaaGreatDoor
open Go.RowKit
theorem zrf (l:List UInt8)(at_ size n:Int)(w:World)(hl:l.length=8)(h0:0≤at_)(h1:0≤size)(h2:at_+size≤8)(hn0:0≤n)(hn1:n<18446744073709551616) :
 Calls Tryz.prog 107 #[.agg (wd l),.int .i64 at_,.int .i64 size,.int .u64 n] w fun e w'=>e= .returned (.agg (wd (putL l at_.toNat (leB n size.toNat))))∧Below w.heap.size w w':=by
 obtain ⟨a,rfl⟩:=Int.eq_ofNat_of_zero_le h0;obtain ⟨z,rfl⟩:=Int.eq_ofNat_of_zero_le h1;have HL:=hid hl;clear hl;go_enter Tryz.func107,Tryz.ntmps107;go_wp2
 go_loopw [3,9] (fun m i wr=>∃k:Nat,k≤z∧i= .int .i64 ((a:Int)+k)∧m= .int .u64 (shr8 n k)∧Hid (wr.heap[w.heap.size]? =some (.cells (wd (putL l a (leB n k))) 87 (0,0)))∧Hid (wr.heap[w.heap.size+1]? =some (.cells #[.int .u8 0,.int .u8 0,.int .u8 0,.int .u8 0,.int .u8 0,.int .u8 0,.int .u8 0,.int .u8 0] 87 (0,0)))∧Hid (Below w.heap.size w wr)) (fun _ i _=>(a+z-intOf i).toNat)
 case atStart =>
  refine ⟨0,by omega,by simp,rfl,?_,?_,?_⟩
  · rw[leB,zof]; exact heap_alloc2_old w _ _
  · exact heap_alloc2_new w _ _
  · exact ((Below.refl _ _).alloc (Nat.le_refl _) _).alloc (by simp) _
 case round =>
  obtain ⟨k,hk,rfl,rfl,HW,HZ,HB⟩:=hrel;have hbd:=zrc n k hn0 hn1;obtain ⟨hb0,hb1⟩:=hbd
  by_cases hlt:k<z
  · have hcell:=z8s HW.out (a+k) (by rw[z96 _ _ _ (by rw[z07,HL.out]; omega),HL.out]; omega)
    have hfr:=zbg HW.out (a+k);go_wp2
    go_roundw
    case rel =>
     exact ⟨k+1,by omega,by go_num,rfl,zp8 l a n k (by rw[HL.out]; omega) HW.out,ze7 _ (by omega) HZ.out,HB.out.setCell (Nat.le_refl _) _⟩
    case measure=>simp[intOf]; omega
  · obtain rfl:k=z:=by omega
    have hpl:(putL l a (leB n k)).length=8:=by rw[z96 _ _ _ (by rw[z07,HL.out]; omega),HL.out]
    have HP:=hid hpl;clear hpl
    go_wp2_with (first | (refine z1b rfl 87 (.tmp 4) rfl w.heap.size rfl 87 _ _ HW.out Tryz.underlying87 rfl (by rw[HP.out]; exact z1w) ?_) | (refine z3p rfl 87 (.tmp 8) (.tmp 24) rfl (w.heap.size+1) _ rfl rfl 87 _ HZ.out (by rw[HP.out]; exact z1w) (by rw[HP.out]; rfl) ?_; intro w5 hg5 hb5))
    refine bodyPost_ret (v:= .agg (wd (putL l a (leB n k)))) ?_ rfl ⟨by simp,HB.out.grown hb5.out (by have:=HB.out.size; omega) (fun k e=>by cases e; simp)⟩;exact results_cell_row rfl _ _ (w.heap.size+1) 87 _ (0,0) _ rfl hg5.out Tryz.underlying87 rfl (by rw[z44,HP.out]; exact z1w)
theorem zc0 (l:List UInt8)(w:World)(hl:l.length=8) :
 Calls Tryz.prog 59 #[.agg (wd l)] w fun e w'=>e= .returned (.string ⟨l.toArray⟩)∧Below w.heap.size w w':=by
 have hrow:=heap_alloc_new w (.cells (wd l) 87)
 have hcv:(convert 22 9 (.slice (some ⟨w.heap.size,0,none⟩) 8 8)).run Tryz.prog (w.alloc (.cells (wd l) 87))= .ok (.string ⟨l.toArray⟩) (w.alloc (.cells (wd l) 87)):=by
  exact z5k _ _ _ _ _ _ 8 l hl Tryz.underlying22 Tryz.underlying5 Tryz.underlying9 hrow (by rw[List.take_of_length_le (by simp[wd,Lib.byteCells_length,hl])]; simp[wd])
 have HL:=hid hl;clear hl hrow;go_enter Tryz.func59,Tryz.ntmps59;go_wp2;go_ret;exact ⟨rfl,(Below.refl _ _).alloc (Nat.le_refl _) _⟩
theorem zgz (b0 b1 b2 b3 b4 b5 b6 b7:UInt8)(w:World) :
 Calls Tryz.prog 59 #[.agg #[.int .u8 b0.toNat,.int .u8 b1.toNat,.int .u8 b2.toNat,.int .u8 b3.toNat,.int .u8 b4.toNat,.int .u8 b5.toNat,.int .u8 b6.toNat,.int .u8 b7.toNat]] w fun e w' =>
  e= .returned (.string ⟨#[b0,b1,b2,b3,b4,b5,b6,b7]⟩)∧Below w.heap.size w w':=zc0 [b0,b1,b2,b3,b4,b5,b6,b7] w rfl
def zho:List UInt8:= [0,0,0,0,0,0,0,0]
theorem zoe (n:Int)(w:World)(hn0:0≤n)(hn1:n<18446744073709551616) :
 Calls Tryz.prog 107 #[.agg #[.int .u8 0,.int .u8 0,.int .u8 0,.int .u8 0,.int .u8 0,.int .u8 0,.int .u8 0,.int .u8 0],.int .i64 0,.int .i64 8,.int .u64 n] w fun e w'=>e= .returned (.agg (wd (leB n 8)))∧Below w.heap.size w w':=by
 have hput:putL zho (0:Int).toNat (leB n (8:Int).toNat)=leB n 8:=by
  show putL zho 0 (leB n 8)=leB n 8
  rw[putL,z07,zho]; simp
 have h:=zrf zho 0 8 n w rfl (by decide) (by decide) (by decide) hn0 hn1;rw[hput] at h;exact h
theorem z5o (n:Int)(w:World)(hn0:0≤n)(hn1:n<18446744073709551616) :
 Calls Tryz.prog 57 #[.int .u64 n] w fun e w'=>e= .returned (.agg (wd (leB n 8)))∧Below w.heap.size w w':=by
 have HL:Hid ((leB n 8).length=8):=hid (z07 n 8);go_enter Tryz.func57,Tryz.ntmps57
 go_wp2_with fail
 refine (zoe n _ hn0 hn1).mono ?_;rintro e w1 ⟨rfl,hb1⟩
 have hA:Hid (w1.heap[w.heap.size]? =some (.cells #[.int .u8 0,.int .u8 0,.int .u8 0,.int .u8 0,.int .u8 0,.int .u8 0,.int .u8 0,.int .u8 0] 87 (0,0))) :=
  (hb1.block w.heap.size (by simp; omega)).trans (heap_alloc2_old w _ _)
 have hB:Hid (Below w.heap.size w w1):=((Below.refl _ w).alloc (Nat.le_refl _) _ |>.alloc (by simp) _).trans (hb1.mono (by simp; omega));clear hb1
 go_wp2_with (refine z3p rfl 87 (.tmp 2) (.tmp 6) rfl w.heap.size (leB n 8) rfl rfl 87 _ hA.out (by rw[HL.out]; exact z1w) (by rw[HL.out]; rfl) ?_; intro w5 hg5 hb5)
 refine bodyPost_ret (v:= .agg (wd (leB n 8))) ?_ rfl ⟨rfl,hB.out.grown hb5.out (by have:=hB.out.size; omega) (fun k e=>by cases e; simp)⟩;exact results_cell_row rfl _ _ w.heap.size 87 _ (0,0) _ rfl hg5.out Tryz.underlying87 rfl (by rw[z44,HL.out]; exact z1w)
theorem z50 {w:World}{b:Nat}{a0 a1 a2 a3 a4 a5 a6 a7:Value}{T:TypeId}(h:w.heap[b]? =some (.cells #[a0,a1,a2,a3,a4,a5,a6,a7] T (0,0))) :
 w.cell? ⟨b,0,none⟩=some a0∧w.cell? ⟨b,1,none⟩=some a1∧w.cell? ⟨b,2,none⟩=some a2∧w.cell? ⟨b,3,none⟩=some a3∧w.cell? ⟨b,4,none⟩=some a4∧w.cell? ⟨b,5,none⟩=some a5∧w.cell? ⟨b,6,none⟩=some a6∧w.cell? ⟨b,7,none⟩=some a7:=by
 simp[World.cell?,h]
theorem zhv {w w':World}{b:Nat}{o:Obj}(h:w.heap[b]? =some o)(hb:Below w.heap.size w w'):w'.heap[b]? =some o:=by
 have hlt:b<w.heap.size:=by
  rcases Nat.lt_or_ge b w.heap.size with hlt | hge
  · exact hlt
  · rw[Array.getElem?_eq_none hge] at h; cases h
 exact (hb.block b hlt).trans h
def ptvB (k o d p s c g:Int)(t:Bool):Value:= .agg #[.int .i64 k,.int .i64 o,.int .i64 d,.int .i64 p,.int .i64 s,.int .i64 c,.int .i64 g,.bool t]
theorem zgn (o:Int)(_h0: -536870912≤o)(_h1:o≤536870911):bits .and .i64 (o*4) 4294967295=offN o:=by
 obtain ⟨n,hn⟩:∃n:Nat,offN o=(n:Int):=⟨(offN o).toNat,by have:=z2a o; omega⟩
 have hm:(BitVec.ofInt 64 (o*4)).toNat%4294967296=n:=by
  rw[BitVec.toNat_ofInt]
  have:(o*4)%4294967296=(n:Int):=by rw[← hn]; unfold offN; omega
  omega
 show IntKind.i64.wrap ((BitVec.ofInt 64 (o*4) &&& BitVec.ofInt 64 4294967295).toNat:Int)=_
 have hk:(BitVec.ofInt 64 4294967295).toNat=2^32-1:=by decide
 rw[BitVec.toNat_and,hk,Nat.and_two_pow_sub_one_eq_mod,show (2:Nat)^32=4294967296 from rfl,hm,hn,IntKind.wrap_i64];have:=z2a o;omega
theorem zrn (a b:Nat)(ha:a<9223372036854775808)(hb:b<9223372036854775808):bits .or .i64 (a:Int) (b:Int)=((a ||| b:Nat):Int):=by
 have hx:a ||| b<2^63:=Nat.or_lt_two_pow (by omega) (by omega)
 show IntKind.i64.wrap ((BitVec.ofInt 64 (a:Int) ||| BitVec.ofInt 64 (b:Int)).toNat:Int)=_
 rw[BitVec.toNat_or,z5x a ha,z5x b hb,IntKind.wrap_i64];omega
theorem z8e (k:Nat)(x b:Int)(hx0:0≤x)(hx1:x<1152921504606846976)(hk:k≤3)(hb0:0≤b)(hb:b<2^k)(hm:x%2^k=0):bits .or .i64 x b=x+b:=by
 obtain ⟨x,rfl⟩:=Int.eq_ofNat_of_zero_le hx0;obtain ⟨b,rfl⟩:=Int.eq_ofNat_of_zero_le hb0
 have hkk:k=0∨k=1∨k=2∨k=3:=by omega
 rcases hkk with rfl | rfl | rfl | rfl
 all_goals
  simp only[Int.reducePow] at hb hm
  rw[zrn x b (by omega) (by omega)]
 · obtain rfl:b=0:=by omega
   simp
 · rw[nat_join 1 x b (by omega) (by omega)]; omega
 · rw[nat_join 2 x b (by omega) (by omega)]; omega
 · rw[nat_join 3 x b (by omega) (by omega)]; omega
theorem za6 {a b:ByteArray}(h:a.data.toList=b.data.toList):Ending.returned (.string a)= .returned (.string b):=by rw[z61 h]
theorem zfu {w w':World}{b:Nat}{o:Obj}(h:w.heap[b]? =some o)(hb:Below w.drew.heap.size w.drew w'):w'.heap[b]? =some o:=zhv (w:=w.drew) h hb
theorem zg6 {a w w1:World}(h:Below a.heap.size a w)(hb:Below w.drew.heap.size w.drew w1):Below a.heap.size a w1:=h.drew.trans (hb.mono h.size)
theorem zfm {a w w1:World}(h:Below a.heap.size a w)(hb:Below w.heap.size w w1):Below a.heap.size a w1:=h.trans (hb.mono h.size)
theorem zbx (o d p:Int)(w:World)(h0: -536870912≤o)(h1:o≤536870911)(hd0:0≤d)(hd1:d<65536)(_hp0:0≤p)(_hp1:p<65536) :
 Calls Tryz.prog 125 #[ptvB 1 o d p 0 0 0 false] w fun e w'=>e= .returned (.string ⟨(leB (offN o) 4++leB (d+65536*p) 4).toArray⟩)∧Below w.heap.size w w':=by
 have ho:=zgn o h0 h1
 have e1:IntKind.i64.wrap (o*4)=o*4:=by rw[IntKind.wrap_i64]; omega
 have f1:¬9223372036854775807<(leB (offN o) 4).length+(leB d 2).length:=by rw[z07,z07]; omega
 have f2:¬9223372036854775807<(leB (offN o) 4).length+(leB d 2).length+(leB p 2).length:=by rw[z07,z07,z07]; omega
 have hfin:=znp d p hd0 hd1;have HF:=hid hfin;clear hfin;unfold ptvB;go_enter Tryz.func125,Tryz.ntmps125
 go_wp2_with fail
 have hblk:=heap_alloc_new w (.cells #[.int .i64 1,.int .i64 o,.int .i64 d,.int .i64 p,.int .i64 0,.int .i64 0,.int .i64 0,.bool false] 44);obtain ⟨c0,c1,c2,c3,c4,c5,c6,c7⟩:=z50 hblk;have HK:=hid hblk;have hbb:=(Below.refl w.heap.size w).alloc (Nat.le_refl _) (.cells #[.int .i64 1,.int .i64 o,.int .i64 d,.int .i64 p,.int .i64 0,.int .i64 0,.int .i64 0,.bool false] 44);clear hblk
 go_region_law (go_simp; go_at_call 99; go_must (refine (z2i _ _ _ (by decide) (by decide)).mono ?_); rintro e w2 ⟨rfl,hb2⟩; replace hbb:Below w.heap.size w w2:=(by first | exact zfm hbb hb2 | exact zg6 hbb hb2); replace HK:Hid (w2.heap[w.heap.size]? =some (.cells #[.int .i64 1,.int .i64 o,.int .i64 d,.int .i64 p,.int .i64 0,.int .i64 0,.int .i64 0,.bool false] 44 (0,0))):=(by first | exact zhv HK.out hb2 | exact zfu HK.out hb2); clear c0 c1 c2 c3 c4 c5 c6 c7; obtain ⟨c0,c1,c2,c3,c4,c5,c6,c7⟩:=z50 HK.out; clear hb2)
 all_goals
  go_wp2;go_ret;refine ⟨za6 ?_,hbb⟩;rw[HF.out,ByteArray.data_append,ByteArray.data_append]
  simp
theorem zb9 (o z c:Int)(w:World)(h0: -536870912≤o)(h1:o≤536870911)(hz0:0≤z)(hz1:z<8)(hc0:0≤c)(hc1:c<536870912) :
 Calls Tryz.prog 125 #[.agg #[.int .i64 2,.int .i64 o,.int .i64 0,.int .i64 0,.int .i64 z,.int .i64 c,.int .i64 0,.bool false]] w fun e w'=>e= .returned (.string ⟨(leB (offN o+1) 4++leB (c*8+z) 4).toArray⟩)∧Below w.heap.size w w':=by
 have ho:=zgn o h0 h1;have hob:=z2a o
 have e1:IntKind.i64.wrap (o*4)=o*4:=by rw[IntKind.wrap_i64]; omega
 have e2:IntKind.i64.wrap (c*8)=c*8:=by rw[IntKind.wrap_i64]; omega
 have q1:bits .or .i64 (offN o) 1=offN o+1:=z8e 2 _ 1 (by omega) (by omega) (by omega) (by omega) (by decide) (by unfold offN; omega);have q2:bits .or .i64 (c*8) z=c*8+z:=z8e 3 _ z (by omega) (by omega) (by omega) (by omega) (by simpa using hz1) (by omega)
 have f1:¬9223372036854775807<(leB (offN o+1) 4).length+(leB (c*8+z) 4).length:=by rw[z07,z07]; omega
 clear hob;go_enter Tryz.func125,Tryz.ntmps125
 go_wp2_with fail
 have hblk:=heap_alloc_new w (.cells #[.int .i64 2,.int .i64 o,.int .i64 0,.int .i64 0,.int .i64 z,.int .i64 c,.int .i64 0,.bool false] 44);obtain ⟨c0,c1,c2,c3,c4,c5,c6,c7⟩:=z50 hblk;have HK:=hid hblk;have hbb:=(Below.refl w.heap.size w).alloc (Nat.le_refl _) (.cells #[.int .i64 2,.int .i64 o,.int .i64 0,.int .i64 0,.int .i64 z,.int .i64 c,.int .i64 0,.bool false] 44);clear hblk
 go_region_law (go_simp; go_at_call 99; go_must (refine (z2i _ _ _ (by decide) (by decide)).mono ?_); rintro e w2 ⟨rfl,hb2⟩; replace hbb:Below w.heap.size w w2:=(by first | exact zfm hbb hb2 | exact zg6 hbb hb2); replace HK:Hid (w2.heap[w.heap.size]? =some (.cells #[.int .i64 2,.int .i64 o,.int .i64 0,.int .i64 0,.int .i64 z,.int .i64 c,.int .i64 0,.bool false] 44 (0,0))):=(by first | exact zhv HK.out hb2 | exact zfu HK.out hb2); clear c0 c1 c2 c3 c4 c5 c6 c7; obtain ⟨c0,c1,c2,c3,c4,c5,c6,c7⟩:=z50 HK.out; clear hb2)
 all_goals
  go_wp2;go_ret;refine ⟨za6 ?_,hbb⟩;rw[ByteArray.data_append]
  simp
theorem z8y (o g:Int)(w:World)(h0:0≤o)(h1:o≤536870911) :
 Calls Tryz.prog 125 #[.agg #[.int .i64 3,.int .i64 o,.int .i64 0,.int .i64 0,.int .i64 0,.int .i64 0,.int .i64 g,.bool false]] w fun e w'=>e= .returned (.string ⟨(leB (o*8+2) 4++leB g 4).toArray⟩)∧Below w.heap.size w w':=by
 have e1:IntKind.i64.wrap (o*8)=o*8:=by rw[IntKind.wrap_i64]; omega
 have q1:bits .or .i64 (o*8) 0=o*8:=by rw[z8e 0 _ 0 (by omega) (by omega) (by omega) (by omega) (by decide) (by simp)]; omega
 have q2:bits .or .i64 (o*8) 2=o*8+2:=z8e 2 _ 2 (by omega) (by omega) (by omega) (by omega) (by decide) (by simp only[Int.reducePow]; omega)
 have f1:¬9223372036854775807<(leB (o*8+2) 4).length+(leB g 4).length:=by rw[z07,z07]; omega
 go_enter Tryz.func125,Tryz.ntmps125
 go_wp2_with fail
 have hblk:=heap_alloc_new w (.cells #[.int .i64 3,.int .i64 o,.int .i64 0,.int .i64 0,.int .i64 0,.int .i64 0,.int .i64 g,.bool false] 44);obtain ⟨c0,c1,c2,c3,c4,c5,c6,c7⟩:=z50 hblk;have HK:=hid hblk;have hbb:=(Below.refl w.heap.size w).alloc (Nat.le_refl _) (.cells #[.int .i64 3,.int .i64 o,.int .i64 0,.int .i64 0,.int .i64 0,.int .i64 0,.int .i64 g,.bool false] 44);clear hblk
 go_region_law (go_simp; go_at_call 99; go_must (refine (z2i _ _ _ (by decide) (by decide)).mono ?_); rintro e w2 ⟨rfl,hb2⟩; replace hbb:Below w.heap.size w w2:=(by first | exact zfm hbb hb2 | exact zg6 hbb hb2); replace HK:Hid (w2.heap[w.heap.size]? =some (.cells #[.int .i64 3,.int .i64 o,.int .i64 0,.int .i64 0,.int .i64 0,.int .i64 0,.int .i64 g,.bool false] 44 (0,0))):=(by first | exact zhv HK.out hb2 | exact zfu HK.out hb2); clear c0 c1 c2 c3 c4 c5 c6 c7; obtain ⟨c0,c1,c2,c3,c4,c5,c6,c7⟩:=z50 HK.out; clear hb2)
 all_goals
  go_wp2;go_ret;refine ⟨za6 ?_,hbb⟩;rw[ByteArray.data_append]
  simp
theorem z68 (k:Nat)(x b:Int)(hx0:0≤x)(hx1:x<18446744073709551616)(hb0:0≤b)(hb1:b<18446744073709551616)(hx:x<2^k)(hm:b%2^k=0):bits .or .u64 x b=x+b:=by
 obtain ⟨x,rfl⟩:=Int.eq_ofNat_of_zero_le hx0;obtain ⟨b,rfl⟩:=Int.eq_ofNat_of_zero_le hb0
 have e:((2:Int)^k)=((2^k:Nat):Int):=by rw[Int.natCast_pow]; rfl
 rw[e] at hx hm;rw[u64_or_nat x b (by omega) (by omega),Nat.or_comm,nat_join k b x (by omega) (by omega)];omega
theorem zd9 (o:Int)(w:World)(_h0: -536870912≤o)(_h1:o≤536870911) :
 Calls Tryz.prog 236 #[.int .i64 o] w fun e w'=>e= .returned (.int .u64 (offN o))∧w=w':=by
 go_enter Tryz.func236,Tryz.ntmps236;go_wp2;go_ret;exact ⟨z2n (by unfold offN; omega),rfl⟩
theorem zez {B:Nat}{a w:World}(h:Below B a w)(n:Nat):Below B a (w.drewN n):=⟨h.os,h.tape,h.output,h.size,h.block⟩
theorem zbp (o:Int)(w:World)(h0: -536870912≤o)(h1:o≤536870911) :
 Calls Tryz.prog 236 #[.int .i64 o] w fun e w'=>e= .returned (.int .u64 (offN o))∧w'=w:=(zd9 o w h0 h1).mono fun _ _ h=>⟨h.1,h.2.symm⟩
theorem zkk (o d p:Int)(w:World)(h0: -536870912≤o)(h1:o≤536870911)(hd0:0≤d)(hd1:d<65536)(hp0:0≤p)(hp1:p<65536) :
 Calls Tryz.prog 234 #[.agg #[.int .i64 o,.int .i64 d,.int .i64 p]] w fun e w'=>e= .returned (.int .u64 (offN o+4294967296*(d+65536*p)))∧Below w.heap.size w w':=by
 have hb:=z2a o
 have e1:IntKind.u64.wrap d=d:=by rw[IntKind.wrap_u64]; omega
 have e2:IntKind.u64.wrap p=p:=by rw[IntKind.wrap_u64]; omega
 have e3:IntKind.u64.wrap (d*4294967296)=d*4294967296:=by rw[IntKind.wrap_u64]; omega
 have e4:IntKind.u64.wrap (p*281474976710656)=p*281474976710656:=by rw[IntKind.wrap_u64]; omega
 have q1:bits .or .u64 (offN o) (d*4294967296)=offN o+d*4294967296:=z68 32 _ _ (by omega) (by omega) (by omega) (by omega) (by simp only[Int.reducePow]; omega) (by simp only[Int.reducePow]; omega);have q2:bits .or .u64 (offN o+d*4294967296) (p*281474976710656)=offN o+d*4294967296+p*281474976710656:=z68 48 _ _ (by omega) (by omega) (by omega) (by omega) (by simp only[Int.reducePow]; omega) (by simp only[Int.reducePow]; omega);go_enter Tryz.func234,Tryz.ntmps234
 go_wp2_with fail
 go_quiet ((go_at_call 236; exact Calls.quiet_of_same (zbp o _ h0 h1)))
 go_wp2;go_ret;exact ⟨z2n (by omega),zez ((Below.refl _ _).alloc (Nat.le_refl _) _) _⟩
theorem zkv (o z c:Int)(w:World)(h0: -536870912≤o)(h1:o≤536870911)(hz0:0≤z)(hz1:z<8)(hc0:0≤c)(hc1:c<536870912) :
 Calls Tryz.prog 238 #[.agg #[.int .i64 o,.int .i64 z,.int .i64 c]] w fun e w'=>e= .returned (.int .u64 (offN o+1+4294967296*(c*8+z)))∧Below w.heap.size w w':=by
 have hb:=z2a o
 have e1:IntKind.u64.wrap z=z:=by rw[IntKind.wrap_u64]; omega
 have e2:IntKind.u64.wrap c=c:=by rw[IntKind.wrap_u64]; omega
 have e3:IntKind.u64.wrap (z*4294967296)=z*4294967296:=by rw[IntKind.wrap_u64]; omega
 have e4:IntKind.u64.wrap (c*34359738368)=c*34359738368:=by rw[IntKind.wrap_u64]; omega
 have q0:bits .or .u64 1 (offN o)=1+offN o:=z68 2 _ _ (by omega) (by omega) (by omega) (by omega) (by simp only[Int.reducePow]; omega) (by simp only[Int.reducePow]; unfold offN; omega);have q1:bits .or .u64 (1+offN o) (z*4294967296)=1+offN o+z*4294967296:=z68 32 _ _ (by omega) (by omega) (by omega) (by omega) (by simp only[Int.reducePow]; unfold offN; omega) (by simp only[Int.reducePow]; omega);have q2:bits .or .u64 (1+offN o+z*4294967296) (c*34359738368)=1+offN o+z*4294967296+c*34359738368:=z68 35 _ _ (by omega) (by omega) (by omega) (by omega) (by simp only[Int.reducePow]; unfold offN; omega) (by simp only[Int.reducePow]; omega);go_enter Tryz.func238,Tryz.ntmps238
 go_wp2_with fail
 go_quiet ((go_at_call 236; exact Calls.quiet_of_same (zbp o _ h0 h1)))
 go_wp2;go_ret;exact ⟨z2n (by omega),zez ((Below.refl _ _).alloc (Nat.le_refl _) _) _⟩
theorem zjj (o g:Int)(w:World)(h0:0≤o)(h1:o≤536870911)(hg0:0≤g)(hg1:g<4294967296) :
 Calls Tryz.prog 240 #[.agg #[.int .i64 o,.int .i64 g,.bool false]] w fun e w'=>e= .returned (.int .u64 (o*8+2+4294967296*g))∧Below w.heap.size w w':=by
 have e1:IntKind.u64.wrap o=o:=by rw[IntKind.wrap_u64]; omega
 have e2:IntKind.u64.wrap g=g:=by rw[IntKind.wrap_u64]; omega
 have e3:IntKind.u64.wrap (o*8)=o*8:=by rw[IntKind.wrap_u64]; omega
 have e4:IntKind.u64.wrap (g*4294967296)=g*4294967296:=by rw[IntKind.wrap_u64]; omega
 have q0:bits .or .u64 2 (o*8)=2+o*8:=z68 3 _ _ (by omega) (by omega) (by omega) (by omega) (by simp only[Int.reducePow]; omega) (by simp only[Int.reducePow]; omega);have q1:bits .or .u64 (2+o*8) (g*4294967296)=2+o*8+g*4294967296:=z68 32 _ _ (by omega) (by omega) (by omega) (by omega) (by simp only[Int.reducePow]; omega) (by simp only[Int.reducePow]; omega);go_enter Tryz.func240,Tryz.ntmps240;go_wp2;go_ret;exact ⟨z2n (by omega),(Below.refl _ _).alloc (Nat.le_refl _) _⟩
end Go.Proofs.YtlbfffokkhccaaaGreatDoor
