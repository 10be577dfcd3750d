/- Texts of the proof of the law FnRecordCanon, side by side: part 46. -/
import Derived.Test.YtblcibgphccfkaaGreatDoorMRecordCanon45
set_option maxHeartbeats 8000000
set_option maxRecDepth 100000
open Go.Lib (hid)
namespace Go.Proofs.YtblcibgphccfkaaGreatDoor
open Go.RowKit Go.Deep
theorem z6m {ops:Array Oper}{rest:List Oper}{o:Oper}{a:Act}{w:World}{Q:Exit→Act→World→Prop}(hgd:o.guard=none)(s x:Operand)
 (ho:o.op= .call { callee:= .builtin .append,args:= #[s,x],argTypes:= #[prsT,prsT] })
 (base base2:Nat) (v v2:Value) (n:Nat) (xs:List Value) (G:List PT) (hs:a.eval s=v) (hx:a.eval x=v2) (hown:w.ownsRow base prT 2 v n xs) (h2:w.ownsRow base2 prT 2 v2 G.length (rowP G)) (hb:n+G.length≤4000002) (hbase:base≤w.heap.size)
 (h:∀A' c' w',Hid (w'.ownsRow base prT 2 (.slice A' (n+G.length) c') (n+G.length) (xs++rowP G))→Hid (w.grownBy w' v.ownBlock)→wpList Tryz.prog ops Q rest (a.put o.dst (.slice A' (n+G.length) c')) w') :
 wpList Tryz.prog ops Q (o :: rest) a w :=
 wpList_plain hgd fun K hK=>by
  obtain ⟨v',w',hr,h3,h4⟩:=z59 base base2 o.type w v v2 n xs G hown h2 hb hbase;obtain ⟨A',c',rfl⟩:=z2d h3;unfold Oper.wp execOp
  simp only[ho,resolve,invoke,builtin,Sem.run_bind,Sem.run_pure,Result.andThen_ok,List.map_toArray,List.map_cons,List.map_nil,hs,hx,hr]
  exact hK _ _ (h A' c' w' h3 h4)
theorem zih (m:Nat)(n n':Nd)(pa pb:Addr)(w:World)(b:Bool)(hl:Lies w (Clean w) m ((pa,pb),(n,n')))(ht:totN m n≤2000000)(hb:b=true↔n=n') :
 Calls Tryz.prog 89 #[.pointer (some pa),.pointer (some pb),.func (.func 90) #[] #[]] w fun e w'=>e= .returned (.bool b)∧Below w.heap.size w w':=by
 have hmp:((w.alloc (.map #[] 0)).alloc (.cells #[.pointer (some pa),.pointer (some pb)] prT)).heap[w.heap.size]? =some (.map #[] 0):=z02 Array.getElem?_push_size _;have hb4:Below w.heap.size w ((w.alloc (.map #[] 0)).alloc (.cells #[.pointer (some pa),.pointer (some pb)] prT)):=((Below.refl _ _).alloc (Nat.le_refl _) _).alloc (by simp) _;have ho4:=zh2 (w.alloc (.map #[] 0)) ((pa,pb),(n,n'));rw[show (w.alloc (.map #[] 0)).heap.size=w.heap.size+1 by simp] at ho4;have HI0:Hid (Inv w (Clean w) m n n' [((pa,pb),(n,n'))] [] []):=hid ⟨fun t ht=>by obtain rfl:=List.mem_singleton.1 ht; exact hl,fun a ha=>(by cases ha),fun d hd=>(by cases hd),by simp,fun e t ht=>by obtain rfl:=List.mem_singleton.1 ht; exact e⟩;have HM4:Hid (MapSt ((w.alloc (.map #[] 0)).alloc (.cells #[.pointer (some pa),.pointer (some pb)] prT)) w.heap.size []):=hid ⟨_,_,hmp,rfl⟩;have HB4:=hid hb4;have HO4:=hid ho4;have HQ:=hid hb;have HT:=hid ht;clear hmp hb4 ho4 hl hb ht;have hmm:= @run_makeMap Tryz.prog;go_enter Tryz.func89,Tryz.ntmps89
 go_wp2_with fail
 go_loopg [8] (1+totN m n) (fun g v wr=>∃(A:Option Addr) (len cap:Nat) (G:List PT) (K:List (Addr×Addr)) (D:List (Nd×Nd)),v= .slice A len cap∧len=G.length∧wt m G=g∧g≤2000001∧Hid (wr.ownsRow (w.heap.size+1) prT 2 (.slice A len cap) G.length (rowP G))∧Hid (Inv w (Clean w) m n n' G K D)∧Hid (MapSt wr w.heap.size K)∧Hid (Below w.heap.size w wr))
 case atStart=>exact ⟨_,1,1,_,[],[],rfl,rfl,Nat.add_zero _,by have:=HT.out; omega,HO4,HI0,HM4,HB4⟩
 case round =>
  obtain ⟨A,len,cap,G,K,D,rfl,hlen,hwt,hg,HO,HI,HM,HB⟩:=hrel;have hGw:=zbp m G
  by_cases h0:len=0
  · subst h0
    obtain rfl:G= []:=List.eq_nil_of_length_eq_zero hlen.symm;obtain rfl:b=true:=HQ.out.2 HI.out.end_;clear hmm hlen hwt hg hGw;go_wp2;go_ret;exact ⟨rfl,HB.out⟩
  · obtain ⟨k,rfl⟩:∃k,len=k+1:=⟨len-1,by omega⟩
    obtain ⟨G',t,rfl⟩:=ziw G (by omega)
    have hk':G'.length=k:=by simp at hlen; omega
    subst hk'
    have hkb:G'.length≤2000001:=by omega
    obtain ⟨g,rfl,hgB,hcap,hgs,hcell⟩:=zjx (by have:=HO.out; rw[show (G'++ [t]).length=G'.length+1 by simp] at this; exact this);have hl2:=zhn G' t;have c0:=hcell _ _ hl2.1;have c1:=hcell _ _ hl2.2;have HO1:=hid (znf (by have:=HO.out; rw[show (G'++ [t]).length=G'.length+1 by simp] at this; exact this));have hadd:(⟨g,0,none⟩:Addr).add (G'.length*2)=⟨g,G'.length*2,none⟩:=z2h _ _
    have hwr:IntKind.i64.wrap (((G'.length+1:Nat):Int)-1)=(G'.length:Int):=by rw[IntKind.wrap_i64]; omega
    have hlt:(G'.length:Int)<((G'.length+1:Nat):Int):=by omega
    have hcp:(G'.length:Int)≤(cap:Int):=by omega
    have HC:=hid hcell;clear hl2 hcell h0 hlen hGw hmm
    have hw64:wrap64 (G'.length:Int)=(G'.length:Int):=by unfold wrap64; omega
    have hlt0:Lies w (Clean w) m t:=HI.out.lies t (by simp)
    have hkeep:∀k,Clean w k→Clean wr k:=fun k hk=>by
     obtain ⟨c,T,hc⟩:=hk;exact ⟨c,T,(HB.out.block k (z00 hc)).trans hc⟩
    have hcl:∀a,(a=t.1∨a∈K)→z60 (wr.alloc (.cells #[.pointer (some t.1.1),.pointer (some t.1.2)] prT)) a:=fun a ha=>by
     have h1:Clean w a.1.block∧Clean w a.2.block:=by
      rcases ha with rfl | ha
      · exact ⟨hlt0.1,hlt0.2.1⟩
      · obtain ⟨d,hd,_⟩:=HI.out.keys a ha
        exact ⟨hd.1,hd.2.1⟩
     exact ⟨z45 (hkeep _ h1.1) ((Below.refl _ _).alloc (Nat.le_refl _) _),z45 (hkeep _ h1.2) ((Below.refl _ _).alloc (Nat.le_refl _) _)⟩
    have hM1:MapSt (wr.alloc (.cells #[.pointer (some t.1.1),.pointer (some t.1.2)] prT)) w.heap.size K:=by
     obtain ⟨es,cl,h1,h2⟩:=HM.out;exact ⟨es,cl,z02 h1 _,h2⟩
    have hB1:=HB.out.alloc HB.out.size (.cells #[.pointer (some t.1.1),.pointer (some t.1.2)] prT);have hP1:=heap_alloc_new wr (.cells #[.pointer (some t.1.1),.pointer (some t.1.2)] prT);have HO2:=hid (HO1.out.alloc (.cells #[.pointer (some t.1.1),.pointer (some t.1.2)] prT))
    have hwt2:wt m G'+(1+totN m t.2.1)=gk:=by rw[← hwt,zh1]; rfl
    by_cases hin:t.1∈K
    · have hlk:=zbd _ w.heap.size t.1 K hM1 (hcl _ (.inl rfl)) (fun b hb=>hcl b (.inr hb)) true (z41 hin)
      unfold kv at hlk;have HM1:=hid hM1;have HB1:=hid hB1;have HS:=hid (HI.out.skip hin);clear hcl hkeep hlt0 hM1 hB1 hin hP1 hwt;go_wp2
      go_roundg (wt m G')
      case measure=>omega
      case rel=>exact ⟨_,G'.length,cap,G',K,D,rfl,rfl,rfl,by omega,HO2,HS,HM1,HB1⟩
    · have hlk:=zbd _ w.heap.size t.1 K hM1 (hcl _ (.inl rfl)) (fun b hb=>hcl b (.inr hb)) false (z4j hin)
      obtain ⟨Wm,hup,hMm,q1,q2,q3,q4,q5⟩:=zj4 _ w.heap.size t.1 K hM1 (hcl _ (.inl rfl)) (fun b hb=>hcl b (.inr hb)) hin;unfold kv at hlk hup
      have hsz:(wr.alloc (.cells #[.pointer (some t.1.1),.pointer (some t.1.2)] prT)).heap.size=wr.heap.size+1:=by simp
      have hsB:=HB.out.size;have hPm:Wm.heap[wr.heap.size]? =some (.cells #[.pointer (some t.1.1),.pointer (some t.1.2)] prT (0,0)):=(q5 _ (by have:=z00 HM.out.choose_spec.choose_spec.1; omega)).trans hP1
      have hBm:Below w.heap.size w Wm:=⟨q1.trans hB1.os,q2.trans hB1.tape,q3.trans hB1.output,by rw[q4]; exact hB1.size,fun k hk=>(q5 k (by omega)).trans (hB1.block k hk)⟩
      have hOm:Wm.ownsRow (w.heap.size+1) prT 2 (.slice (some ⟨g,0,none⟩) G'.length cap) G'.length (rowP G'):=zav HO2.out (fun k h1 _=>q5 k (by omega));obtain ⟨sA,sB,hx,hy,my,nx,ax,ny,ay⟩:=hlt0
      have htl:totN m t.2.1≤2000000:=by omega
      have HLK:=hid (zo4 t hx hy m my _ _ Wm (z13 hBm _ _ _ nx) (z13 hBm _ _ _ ny) (ax.below hBm) (ay.below hBm) htl);unfold LookP at HLK;have HAX:=hid (And.intro ax ay);have HMm:=hid hMm;have HBm:=hid hBm;have HOm:=hid hOm
      have p0:Wm.cell? ⟨wr.heap.size,0,none⟩=some (.pointer (some t.1.1)):=by rw[cell_of_row _ _ _ _ _ _ hPm]; rfl
      have p1:Wm.cell? ⟨wr.heap.size,1,none⟩=some (.pointer (some t.1.2)):=by rw[cell_of_row _ _ _ _ _ _ hPm]; rfl
      clear hcl hkeep hM1 hB1 hP1 q1 q2 q3 q4 q5 hPm hBm hOm hMm nx ny ax ay sA sB hin
      go_wp2_with fail
      refine HLK.out.mono ?_;rintro e w5 ⟨A5,l5,c5,rfl,hrow5,hb5⟩
      have HM5:Hid (MapSt w5 w.heap.size (K++ [t.1])):=hid (by
       obtain ⟨es,cl,h1,h2⟩:=HMm.out
       exact ⟨es,cl,(hb5.block _ (z00 h1)).trans h1,h2⟩)
      have HB5:=hid (HBm.out.trans (hb5.mono HBm.out.size));have HO5:=hid (zav HOm.out (fun k _ hk=>hb5.block k hk));have hs5:Wm.heap.size≤w5.heap.size:=hb5.size;have HR5:=hid hrow5;clear hb5 p0 p1 HMm HOm hrow5 HLK;cases hpp:z6o t.2.1 t.2.2
      · obtain rfl:b=false:=z2p HQ.out (fun e=>by
         have:=(z54 _ _).2 (zg6 (HI.out.sound e t (by simp)))
         rw[hpp] at this; cases this)
        go_wp2;go_ret;exact ⟨rfl,HB5.out⟩
      · have hpe:=(z54 _ _).1 hpp
        obtain ⟨l1,l2⟩:=z9j hpe;obtain ⟨hl5,hown5⟩:=HR5.out hpp;subst hl5
        obtain ⟨H1,hH1⟩:∃H1,H1=hd1 t hx hy:=⟨_,rfl⟩
        obtain ⟨H2,hH2⟩:∃H2,H2=hd2 t hx hy:=⟨_,rfl⟩
        rw[← hH1,← hH2] at hown5;rw[← hH1,← hH2];have hw1:wt m H1≤totL m t.2.1.ptrs:=hH1 ▸ zer _ _ _ HAX.out.1.2.1;have hw2:wt m H2≤totL m t.2.1.items:=hH2 ▸ zer _ _ _ HAX.out.1.2.2
        have hwt3:wt m (G'++H1++H2)<gk∧wt m (G'++H1++H2)≤2000001:=by
         rw[zh1,zh1];have:totN m t.2.1=t.2.1.data.size+totL m t.2.1.ptrs+totL m t.2.1.items:=rfl;omega
        have hlen3:G'.length+H1.length+H2.length≤2000001:=by
         have:=zbp m (G'++H1++H2)
         simp only[List.length_append] at this
         omega
        have HINV:Hid (Inv w (Clean w) m n n' (G'++H1++H2) (K++ [t.1]) (t.2 :: D)):=hid (HI.out.step hpe
         (by rw[hH1]; exact zfb HAX.out.1.2.1 HAX.out.2.2.1 l1) (by rw[hH2]; exact zfb HAX.out.1.2.2 HAX.out.2.2.2 l2)
         (by rw[hH1]; exact z9v _ _ _ _) (by rw[hH2]; exact z9v _ _ _ _)
         (fun e=>by rw[hH1]; exact ze2 _ _ (by rw[e])) (fun e=>by rw[hH2]; exact ze2 _ _ (by rw[e])))
        have hown6:w5.ownsRow Wm.heap.size prT 2 (.slice A5 (H1.length+H2.length) c5) (H1++H2).length (rowP (H1++H2)):=by rw[z4x,List.length_append]; exact hown5
        have HV5:=hid hown6
        have hg5:w.heap.size+1≤w5.heap.size:=by have:=z00 HM5.out.choose_spec.choose_spec.1; omega
        have hla:G'.length+(H1++H2).length=G'.length+H1.length+H2.length:=by rw[List.length_append]; omega
        clear hH1 hH2 hw1 hw2 htl l1 l2 hwt hpp hpe hown5 hown6 HR5 hlk hup hsz c0 c1 hadd hwr hlt hcp hw64 hcap
        go_wp2_with (at_builtin; go_must (refine z6m rfl (.tmp 44) (.tmp 45) rfl (w.heap.size+1) Wm.heap.size _ (.slice A5 (H1.length+H2.length) c5) G'.length (rowP G') (H1++H2) rfl rfl HO5.out HV5.out (by omega) (by omega) ?_); intro A9 c9 w9 hown9 hgrow9)
        have HB9:=hid (HB5.out.grown hgrow9.out HB5.out.size (fun k hk=>by have:=(HO5.out.lt k hk).1; omega))
        have HM9:Hid (MapSt w9 w.heap.size (K++ [t.1])):=hid (by
         obtain ⟨es,cl,h1,h2⟩:=HM5.out;have h3:=z00 h1
         exact ⟨es,cl,(hgrow9.out.block _ (by omega) (fun e=>by have:=(HO5.out.lt _ e.symm).1; omega)).trans h1,h2⟩)
        have HO9:Hid (w9.ownsRow (w.heap.size+1) prT 2 (.slice A9 (G'.length+(H1.length+H2.length)) c9) (G'++H1++H2).length (rowP (G'++H1++H2))):=hid (by
         have e1:(G'++H1++H2).length=G'.length+(H1.length+H2.length):=by simp only[List.length_append]; omega
         have e2:rowP (G'++H1++H2)=rowP G'++rowP (H1++H2):=by rw[List.append_assoc,z4x]
         have e3:=hown9.out;rw[show (H1++H2).length=H1.length+H2.length from List.length_append] at e3;rw[e1,e2]
         exact e3)
        clear hown9 hgrow9;go_wp2
        go_roundg (wt m (G'++H1++H2))
        case measure=>exact hwt3.1
        case rel=>exact ⟨A9,G'.length+(H1.length+H2.length),c9,G'++H1++H2,K++ [t.1],t.2 :: D,rfl,by simp only[List.length_append]; omega,rfl,hwt3.2,HO9,HINV,HM9,HB9⟩
theorem z91 (m m':Nat)(n n':Nd)(h h':Hd)(w:World)(b:Bool)(hn:NdAt w (Clean w) m n h)(hn':NdAt w (Clean w) m' n' h')(ht:totN m n≤2000000)(hb:b=true↔n=n') :
 Calls Tryz.prog 57 #[.agg #[.int .i64 n.kind,.string n.data,.slice h.A n.ptrs.length h.a,.int .i64 n.size,.int .i64 n.count,.slice h.B n.items.length h.b],.agg #[.int .i64 n'.kind,.string n'.data,.slice h'.A n'.ptrs.length h'.a,.int .i64 n'.size,.int .i64 n'.count,.slice h'.B n'.items.length h'.b]] w fun e w'=>e= .returned (.bool b)∧Below w.heap.size w w':=by
 have hba:Below w.heap.size w ((w.alloc (.cells #[.int .i64 n.kind,.string n.data,.slice h.A n.ptrs.length h.a,.int .i64 n.size,.int .i64 n.count,.slice h.B n.items.length h.b] nodeT)).alloc (.cells #[.int .i64 n'.kind,.string n'.data,.slice h'.A n'.ptrs.length h'.a,.int .i64 n'.size,.int .i64 n'.count,.slice h'.B n'.items.length h'.b] nodeT)):=((Below.refl _ _).alloc (Nat.le_refl _) _).alloc (by simp) _;have k1:((w.alloc (.cells #[.int .i64 n.kind,.string n.data,.slice h.A n.ptrs.length h.a,.int .i64 n.size,.int .i64 n.count,.slice h.B n.items.length h.b] nodeT)).alloc (.cells #[.int .i64 n'.kind,.string n'.data,.slice h'.A n'.ptrs.length h'.a,.int .i64 n'.size,.int .i64 n'.count,.slice h'.B n'.items.length h'.b] nodeT)).heap[w.heap.size]? =some (.cells #[.int .i64 n.kind,.string n.data,.slice h.A n.ptrs.length h.a,.int .i64 n.size,.int .i64 n.count,.slice h.B n.items.length h.b] nodeT (0,0)):=(Below.heap_alloc _ _ _ (by simp)).trans (heap_alloc_new w _)
 have k2:((w.alloc (.cells #[.int .i64 n.kind,.string n.data,.slice h.A n.ptrs.length h.a,.int .i64 n.size,.int .i64 n.count,.slice h.B n.items.length h.b] nodeT)).alloc (.cells #[.int .i64 n'.kind,.string n'.data,.slice h'.A n'.ptrs.length h'.a,.int .i64 n'.size,.int .i64 n'.count,.slice h'.B n'.items.length h'.b] nodeT)).heap[w.heap.size+1]? =some (.cells #[.int .i64 n'.kind,.string n'.data,.slice h'.A n'.ptrs.length h'.a,.int .i64 n'.size,.int .i64 n'.count,.slice h'.B n'.items.length h'.b] nodeT (0,0)):=by have:=heap_alloc_new (w.alloc (.cells #[.int .i64 n.kind,.string n.data,.slice h.A n.ptrs.length h.a,.int .i64 n.size,.int .i64 n.count,.slice h.B n.items.length h.b] nodeT)) (.cells #[.int .i64 n'.kind,.string n'.data,.slice h'.A n'.ptrs.length h'.a,.int .i64 n'.size,.int .i64 n'.count,.slice h'.B n'.items.length h'.b] nodeT); rwa [show (w.alloc (.cells #[.int .i64 n.kind,.string n.data,.slice h.A n.ptrs.length h.a,.int .i64 n.size,.int .i64 n.count,.slice h.B n.items.length h.b] nodeT)).heap.size=w.heap.size+1 by simp] at this
 have HN:=(hn.below hba).weak (S':=Clean ((w.alloc (.cells #[.int .i64 n.kind,.string n.data,.slice h.A n.ptrs.length h.a,.int .i64 n.size,.int .i64 n.count,.slice h.B n.items.length h.b] nodeT)).alloc (.cells #[.int .i64 n'.kind,.string n'.data,.slice h'.A n'.ptrs.length h'.a,.int .i64 n'.size,.int .i64 n'.count,.slice h'.B n'.items.length h'.b] nodeT))) (fun k hk=>z45 hk hba);have HN':=(hn'.below hba).weak (S':=Clean ((w.alloc (.cells #[.int .i64 n.kind,.string n.data,.slice h.A n.ptrs.length h.a,.int .i64 n.size,.int .i64 n.count,.slice h.B n.items.length h.b] nodeT)).alloc (.cells #[.int .i64 n'.kind,.string n'.data,.slice h'.A n'.ptrs.length h'.a,.int .i64 n'.size,.int .i64 n'.count,.slice h'.B n'.items.length h'.b] nodeT))) (fun k hk=>z45 hk hba);have HL0:Hid (Lies ((w.alloc (.cells #[.int .i64 n.kind,.string n.data,.slice h.A n.ptrs.length h.a,.int .i64 n.size,.int .i64 n.count,.slice h.B n.items.length h.b] nodeT)).alloc (.cells #[.int .i64 n'.kind,.string n'.data,.slice h'.A n'.ptrs.length h'.a,.int .i64 n'.size,.int .i64 n'.count,.slice h'.B n'.items.length h'.b] nodeT)) (Clean ((w.alloc (.cells #[.int .i64 n.kind,.string n.data,.slice h.A n.ptrs.length h.a,.int .i64 n.size,.int .i64 n.count,.slice h.B n.items.length h.b] nodeT)).alloc (.cells #[.int .i64 n'.kind,.string n'.data,.slice h'.A n'.ptrs.length h'.a,.int .i64 n'.size,.int .i64 n'.count,.slice h'.B n'.items.length h'.b] nodeT))) m ((⟨w.heap.size,0,none⟩,⟨w.heap.size+1,0,none⟩),(n,n'))):=hid ⟨⟨_,_,k1⟩,⟨_,_,k2⟩,h,h',m',⟨(z04 k1).1,(z04 k1).2.1,(z04 k1).2.2.1,(z04 k1).2.2.2.1,(z04 k1).2.2.2.2.1,(z04 k1).2.2.2.2.2⟩,HN,⟨(z04 k2).1,(z04 k2).2.1,(z04 k2).2.2.1,(z04 k2).2.2.2.1,(z04 k2).2.2.2.2.1,(z04 k2).2.2.2.2.2⟩,HN'⟩
 have HBA:=hid hba;have HC:=hid (zih m n n' _ _ _ b HL0.out ht hb);clear hn hn' hba k1 k2 hb ht HN HN' HL0;go_enter Tryz.func57,Tryz.ntmps57
 go_wp2_with fail
 refine HC.out.mono ?_;rintro e w5 ⟨rfl,hb5⟩;have HB5:=hid (HBA.out.trans (hb5.mono HBA.out.size));clear hb5;go_wp2;go_ret;exact ⟨rfl,HB5.out⟩
theorem kc {V V':World}{a:Addr}{v:Value}(hb:Below V.heap.size V V')(h:V.cell? a=some v):V'.cell? a=some v:=(hb.cell (World.block_lt_of_cell? V a h)).trans h
theorem zd0 (m m':Nat)(n n':Nd)(h h':Hd)(w:World)(S S':Nat→Prop)(b:Bool)(hn:NdAt w S m n h)(hn':NdAt w S' m' n' h')(ht:totN m n≤2000000)(ht':totN m' n'≤2000000)(hb:b=true↔(z0l n=true∧z0l n'=true∧canN n=canN n')) :
 Calls Tryz.prog 21 #[.agg #[.int .i64 n.kind,.string n.data,.slice h.A n.ptrs.length h.a,.int .i64 n.size,.int .i64 n.count,.slice h.B n.items.length h.b],.agg #[.int .i64 n'.kind,.string n'.data,.slice h'.A n'.ptrs.length h'.a,.int .i64 n'.size,.int .i64 n'.count,.slice h'.B n'.items.length h'.b]] w fun e w'=>e= .returned (.bool b)∧Below w.heap.size w w':=by
 have HO1:Hid (∀W:World,Below w.heap.size w W→Calls Tryz.prog 17 #[.agg #[.int .i64 n.kind,.string n.data,.slice h.A n.ptrs.length h.a,.int .i64 n.size,.int .i64 n.count,.slice h.B n.items.length h.b]] W fun e w'=>e= .returned (.bool (z0l n))∧Below W.heap.size W w'):=hid fun W hW=>z3n m n h W S (hn.below hW) ht
 have HO2:Hid (∀W:World,Below w.heap.size w W→Calls Tryz.prog 17 #[.agg #[.int .i64 n'.kind,.string n'.data,.slice h'.A n'.ptrs.length h'.a,.int .i64 n'.size,.int .i64 n'.count,.slice h'.B n'.items.length h'.b]] W fun e w'=>e= .returned (.bool (z0l n'))∧Below W.heap.size W w'):=hid fun W hW=>z3n m' n' h' W S' (hn'.below hW) ht'
 have HC1:Hid (z0l n=true→∀W:World,Below w.heap.size w W→Calls Tryz.prog 20 #[.agg #[.int .i64 n.kind,.string n.data,.slice h.A n.ptrs.length h.a,.int .i64 n.size,.int .i64 n.count,.slice h.B n.items.length h.b]] W (NewO (m+1) (canN n) W)):=hid fun hok W hW=>by
  have:=z5m m n h W S (hn.below hW) ht;unfold canX at this
  rwa [if_pos hok] at this
 have HC2:Hid (z0l n'=true→∀W:World,Below w.heap.size w W→Calls Tryz.prog 20 #[.agg #[.int .i64 n'.kind,.string n'.data,.slice h'.A n'.ptrs.length h'.a,.int .i64 n'.size,.int .i64 n'.count,.slice h'.B n'.items.length h'.b]] W (NewO (m'+1) (canN n') W)):=hid fun hok W hW=>by
  have:=z5m m' n' h' W S' (hn'.below hW) ht';unfold canX at this
  rwa [if_pos hok] at this
 have HTZ:Hid (z0l n=true→∀(W:World) (hy:Hd) (bs:List Nat),OwN W (m+1) (canN n) hy bs→totN (m+1) (canN n)≤2000000):=hid fun hok W hy bs ho=>by
  rw[z19 ho.nd];have h1:=zaf 8 n (z3q hok).1;rw[← z19 hn] at h1;omega
 have hba:Below w.heap.size w ((w.alloc (.cells #[.int .i64 n.kind,.string n.data,.slice h.A n.ptrs.length h.a,.int .i64 n.size,.int .i64 n.count,.slice h.B n.items.length h.b] nodeT)).alloc (.cells #[.int .i64 n'.kind,.string n'.data,.slice h'.A n'.ptrs.length h'.a,.int .i64 n'.size,.int .i64 n'.count,.slice h'.B n'.items.length h'.b] nodeT)):=((Below.refl _ w).alloc (Nat.le_refl _) _).alloc (by simp) _;have hx0:((w.alloc (.cells #[.int .i64 n.kind,.string n.data,.slice h.A n.ptrs.length h.a,.int .i64 n.size,.int .i64 n.count,.slice h.B n.items.length h.b] nodeT)).alloc (.cells #[.int .i64 n'.kind,.string n'.data,.slice h'.A n'.ptrs.length h'.a,.int .i64 n'.size,.int .i64 n'.count,.slice h'.B n'.items.length h'.b] nodeT)).heap[w.heap.size]? =some (.cells #[.int .i64 n.kind,.string n.data,.slice h.A n.ptrs.length h.a,.int .i64 n.size,.int .i64 n.count,.slice h.B n.items.length h.b] nodeT (0,0)):=z02 (heap_alloc_new w _) _
 have hy0:((w.alloc (.cells #[.int .i64 n.kind,.string n.data,.slice h.A n.ptrs.length h.a,.int .i64 n.size,.int .i64 n.count,.slice h.B n.items.length h.b] nodeT)).alloc (.cells #[.int .i64 n'.kind,.string n'.data,.slice h'.A n'.ptrs.length h'.a,.int .i64 n'.size,.int .i64 n'.count,.slice h'.B n'.items.length h'.b] nodeT)).heap[w.heap.size+1]? =some (.cells #[.int .i64 n'.kind,.string n'.data,.slice h'.A n'.ptrs.length h'.a,.int .i64 n'.size,.int .i64 n'.count,.slice h'.B n'.items.length h'.b] nodeT (0,0)):=by have:=heap_alloc_new (w.alloc (.cells #[.int .i64 n.kind,.string n.data,.slice h.A n.ptrs.length h.a,.int .i64 n.size,.int .i64 n.count,.slice h.B n.items.length h.b] nodeT)) (.cells #[.int .i64 n'.kind,.string n'.data,.slice h'.A n'.ptrs.length h'.a,.int .i64 n'.size,.int .i64 n'.count,.slice h'.B n'.items.length h'.b] nodeT); rwa [show (w.alloc (.cells #[.int .i64 n.kind,.string n.data,.slice h.A n.ptrs.length h.a,.int .i64 n.size,.int .i64 n.count,.slice h.B n.items.length h.b] nodeT)).heap.size=w.heap.size+1 by simp] at this
 have HBA:=hid hba;have HBB:=hid hb;obtain ⟨a0,a1,a2,a3,a4,a5⟩:=z04 hx0;obtain ⟨b0,b1,b2,b3,b4,b5⟩:=z04 hy0;clear hn hn' ht ht' hb hba hx0 hy0;go_enter Tryz.func21,Tryz.ntmps21
 go_wp2_with fail
 generalize ((w.alloc (.cells #[.int .i64 n.kind,.string n.data,.slice h.A n.ptrs.length h.a,.int .i64 n.size,.int .i64 n.count,.slice h.B n.items.length h.b] nodeT)).alloc (.cells #[.int .i64 n'.kind,.string n'.data,.slice h'.A n'.ptrs.length h'.a,.int .i64 n'.size,.int .i64 n'.count,.slice h'.B n'.items.length h'.b] nodeT))=W0 at *;cases hok:z0l n
 · have hbf:b=false:=z2p HBB.out (fun h=>by rw[hok] at h; cases h.1)
   subst hbf;rw[hok] at HO1;clear hok HC1 HC2 HTZ HBB;have q0:=cell_regrown a0;have q1:=cell_regrown a1;have q2:=cell_regrown a2;have q3:=cell_regrown a3;have q4:=cell_regrown a4;have q5:=cell_regrown a5;have r0:=cell_regrown b0;have r1:=cell_regrown b1;have r2:=cell_regrown b2;have r3:=cell_regrown b3;have r4:=cell_regrown b4;have r5:=cell_regrown b5
   have hwx:∀d os,Below w.heap.size w («Sort».grow (redrawn W0 d) os):=fun d os=>HBA.out.trans ((below_regrown W0 d os).mono HBA.out.size)
   refine wp_region_quiet_below (by kernel_rfl) (by kernel_rfl) ?_
   repeat (first | go_big_quiet_step (first | (go_at_call 17; first | with_reducible exact Calls.regrown_of (HO1.out _ (hwx _ _)) | with_reducible exact Calls.regrown_of (HO2.out _ (hwx _ _)))) | quiet_step (first | (go_at_call 17; first | with_reducible exact Calls.regrown_of (HO1.out _ (hwx _ _)) | with_reducible exact Calls.regrown_of (HO2.out _ (hwx _ _)))))
   refine wpQuiet_nil ?_
   intro _ hw'
   obtain ⟨⟨dq,osq⟩,hw''⟩:=hw';subst hw'';have HFIN:=hid (hwx dq osq);clear hwx q0 q1 q2 q3 q4 q5 r0 r1 r2 r3 r4 r5 a0 a1 a2 a3 a4 a5 b0 b1 b2 b3 b4 b5;generalize «Sort».grow (redrawn W0 dq) osq=W1 at HFIN ⊢;go_wp2;go_ret;exact ⟨rfl,HFIN.out⟩
 · cases hok':z0l n'
   · have hbf:b=false:=z2p HBB.out (fun h=>by rw[hok'] at h; cases h.2.1)
     subst hbf;rw[hok] at HO1;rw[hok'] at HO2;clear hok hok' HC1 HC2 HTZ HBB;have q0:=cell_regrown a0;have q1:=cell_regrown a1;have q2:=cell_regrown a2;have q3:=cell_regrown a3;have q4:=cell_regrown a4;have q5:=cell_regrown a5;have r0:=cell_regrown b0;have r1:=cell_regrown b1;have r2:=cell_regrown b2;have r3:=cell_regrown b3;have r4:=cell_regrown b4;have r5:=cell_regrown b5
     have hwx:∀d os,Below w.heap.size w («Sort».grow (redrawn W0 d) os):=fun d os=>HBA.out.trans ((below_regrown W0 d os).mono HBA.out.size)
     refine wp_region_quiet_below (by kernel_rfl) (by kernel_rfl) ?_
     repeat (first | go_big_quiet_step (first | (go_at_call 17; first | with_reducible exact Calls.regrown_of (HO1.out _ (hwx _ _)) | with_reducible exact Calls.regrown_of (HO2.out _ (hwx _ _)))) | quiet_step (first | (go_at_call 17; first | with_reducible exact Calls.regrown_of (HO1.out _ (hwx _ _)) | with_reducible exact Calls.regrown_of (HO2.out _ (hwx _ _)))))
     refine wpQuiet_nil ?_
     intro _ hw'
     obtain ⟨⟨dq,osq⟩,hw''⟩:=hw';subst hw'';have HFIN:=hid (hwx dq osq);clear hwx q0 q1 q2 q3 q4 q5 r0 r1 r2 r3 r4 r5 a0 a1 a2 a3 a4 a5 b0 b1 b2 b3 b4 b5;generalize «Sort».grow (redrawn W0 dq) osq=W1 at HFIN ⊢;go_wp2;go_ret;exact ⟨rfl,HFIN.out⟩
   · have HBZ:Hid (b=true↔canN n=canN n'):=hid (HBB.out.trans ⟨fun h=>h.2.2,fun h=>⟨hok,hok',h⟩⟩)
     replace HC1:=hid (HC1.out hok)
     replace HC2:=hid (HC2.out hok')
     replace HTZ:=hid (HTZ.out hok)
     rw[hok] at HO1;rw[hok'] at HO2;clear hok hok' HBB;unfold NewO at HC1 HC2;generalize canN n=z at *;generalize canN n'=z' at *
     first | go_region_held3 (fun V=>(V.cell? ⟨w.heap.size,0,none⟩=some (.int .i64 n.kind)∧V.cell? ⟨w.heap.size,1,none⟩=some (.string n.data)∧V.cell? ⟨w.heap.size,2,none⟩=some (.slice h.A n.ptrs.length h.a)∧V.cell? ⟨w.heap.size,3,none⟩=some (.int .i64 n.size)∧V.cell? ⟨w.heap.size,4,none⟩=some (.int .i64 n.count)∧V.cell? ⟨w.heap.size,5,none⟩=some (.slice h.B n.items.length h.b))∧(V.cell? ⟨w.heap.size+1,0,none⟩=some (.int .i64 n'.kind)∧V.cell? ⟨w.heap.size+1,1,none⟩=some (.string n'.data)∧V.cell? ⟨w.heap.size+1,2,none⟩=some (.slice h'.A n'.ptrs.length h'.a)∧V.cell? ⟨w.heap.size+1,3,none⟩=some (.int .i64 n'.size)∧V.cell? ⟨w.heap.size+1,4,none⟩=some (.int .i64 n'.count)∧V.cell? ⟨w.heap.size+1,5,none⟩=some (.slice h'.B n'.items.length h'.b))∧Below w.heap.size w V) ((first | exact ⟨⟨a0,a1,a2,a3,a4,a5⟩,⟨b0,b1,b2,b3,b4,b5⟩,HBA.out.drew⟩ | (obtain ⟨⟨s0,s1,s2,s3,s4,s5⟩,⟨t0,t1,t2,t3,t4,t5⟩,sb⟩:= ‹(_∧_)∧(_∧_)∧Below w.heap.size w _›; exact ⟨⟨kc hbq s0,kc hbq s1,kc hbq s2,kc hbq s3,kc hbq s4,kc hbq s5⟩,⟨kc hbq t0,kc hbq t1,kc hbq t2,kc hbq t3,kc hbq t4,kc hbq t5⟩,sb.trans (hbq.mono sb.size)⟩))) (first | (go_at_call 17; first | ((with_reducible refine (HO1.out _ (by have hh:= ‹(_∧_)∧(_∧_)∧Below w.heap.size w _›; exact hh.2.2)).mono ?_); rintro e w4 ⟨rfl,hbq⟩) | ((with_reducible refine (HO2.out _ (by have hh:= ‹(_∧_)∧(_∧_)∧Below w.heap.size w _›; exact hh.2.2)).mono ?_); rintro e w4 ⟨rfl,hbq⟩)) | (go_at_call 20; first | ((with_reducible refine (HC1.out _ (by have hh:= ‹(_∧_)∧(_∧_)∧Below w.heap.size w _›; exact hh.2.2)).mono ?_); rintro e w4 ⟨hy1,bs1,rfl,hown1,hnd1,hge1,hbq⟩) | ((with_reducible refine (HC2.out _ (by have hh:= ‹(_∧_)∧(_∧_)∧Below w.heap.size w _›; exact hh.2.2)).mono ?_); rintro e w5 ⟨hy2,bs2,rfl,hown2,hnd2,hge2,hbq⟩; have hown3:=hown1.below hbq)) | (go_at_call 57; (with_reducible refine (z91 (m+1) (m'+1) z z' hy1 hy2 _ b hown3.clean hown2.clean (HTZ.out _ _ _ hown3) HBZ.out).mono ?_); rintro e w6 ⟨rfl,hbq⟩)) | fail
     all_goals
      have hfin:= ‹(_∧_)∧(_∧_)∧Below w.heap.size w _›;have HFIN:=hid hfin.2.2;clear hfin;go_wp2;go_ret;exact ⟨rfl,HFIN.out⟩
end Go.Proofs.YtblcibgphccfkaaGreatDoor
