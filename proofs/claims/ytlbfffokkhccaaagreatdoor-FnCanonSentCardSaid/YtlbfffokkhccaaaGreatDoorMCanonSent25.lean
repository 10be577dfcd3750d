/- Texts of the proof of the law FnCanonSent, side by side: part 25. -/
import Derived.Test.YtlbfffokkhccaaaGreatDoorMCanonSent24
set_option maxHeartbeats 8000000
set_option maxRecDepth 100000
open Go.Lib (hid)
namespace Go.Proofs.YtlbfffokkhccaaaGreatDoor
open Go.RowKit Go.Deep
theorem z67 {ops:Array Oper}{rest:List Oper}{o:Oper}{a:Act}{w:World}{Q:Exit→Act→World→Prop}(hgd:o.guard=none)(s x:Operand)
 (ho:o.op= .call { callee:= .builtin .append,args:= #[s,x],argTypes:= #[z2d,3] })
 (v:Value) (n:Nat) (xs:List Value) (hs:a.eval s=v) (hown:w.ownsRow 0 nodeT 6 v n xs) (k:Nat) (hx:a.eval x= .int .i64 (k:Int)) (hb:n+k≤3000000)
 (h:∀A' c' w',Hid (w'.ownsRow 0 nodeT 6 (.slice A' (n+k) c') (n+k) (xs++rowOf (List.replicate k (z0i,nHd))))→Hid (w.grownBy w' v.ownBlock)→Hid ((Value.slice A' (n+k) c').ownBlock=v.ownBlock∨(Value.slice A' (n+k) c').ownBlock=some w.heap.size)→wpList Tryz.prog ops Q rest (a.put o.dst (.slice A' (n+k) c')) w') :
 wpList Tryz.prog ops Q (o :: rest) a w :=
 wpList_plain hgd fun K hK=>by
  obtain ⟨v',w',hr,h2,h3,h5⟩:=z87 o.type w v n xs hown k hb;obtain ⟨A',c',rfl⟩:=z3e h2;unfold Oper.wp execOp
  simp only[ho,resolve,invoke,builtin,Sem.run_bind,Sem.run_pure,Result.andThen_ok,List.map_toArray,List.map_cons,List.map_nil,hs,hx,hr]
  exact hK _ _ (h A' c' w' h2 h3 h5)
theorem rep0V (n:Nat):Lib.repeatL [0] n=List.replicate n (0:UInt8):=by
 induction n with
 | zero=>rfl
 | succ n ih=>rw[Lib.repeatL,ih,List.replicate_succ]; rfl
theorem zj6 (n:Nat)(w:World)(hn:n≤1000000):Calls Tryz.prog 176 #[.string ⟨#[0]⟩,.int .i64 (n:Int)] w fun e w'=>e= .returned (.string (zeroD n))∧Below w.heap.size w w':=by
 have:=Tryz.strings_Repeat ⟨#[0]⟩ n w (by omega) (by show 1*_≤_; omega);rw[show (⟨#[0]⟩:ByteArray).data.toList= [0] from rfl,rep0V] at this;exact this
def EvP (A:Option Addr)(c:Nat)(l:List Nd)(M:Nat)(bs:List Nat)(w:World)(e:Ending)(w':World):Prop :=
 e= .returned (.slice A l.length c)∧∃bs':List Nat,OwS w' (M+1) A c (evenL l) bs'∧bs'.Nodup∧(∀b∈bs',b∈bs∨w.heap.size≤b)∧OnlyIn bs w w'
def EvR (D P:Nat)(l:List Nd)(g c M:Nat)(bs:List Nat)(w:World)(k:Nat)(wr:World):Prop :=
 ∃pre post:List NB,pre.length=k∧(pre.map (·.1)=(l.take k).map (evenN D P)∧post.map (·.1)=l.drop k)∧RowG wr g c (pre++post) M∧(∀b∈blkB (pre++post),b∈bs∨w.heap.size≤b)∧OnlyIn bs w wr
theorem z9j (M g c:Nat)(l:List Nd)(bs:List Nat)(w:World)(hown:OwS w (M+2) (some ⟨g,0,none⟩) c l bs)(hnd:bs.Nodup)(hD:∀n∈l,n.data.size≤2000)(hP:∀n∈l,n.ptrs.length≤1000000)(hlm:l.length≤2000000) :
 Calls Tryz.prog 152 #[.slice (some ⟨g,0,none⟩) l.length c] w (EvP (some ⟨g,0,none⟩) c l (M+1) bs w):=by
 have HN:=hid (hown.nds _ _ _ _ _);obtain ⟨q,hq,hb,HG0⟩:=hown.rowG hnd;have HQ:=hid hq;have HBS:=hid hb;have HG:=hid HG0;have HDD:=hid (And.intro hD hP);clear hown hnd hq hb HG0 hD hP;go_enter Tryz.func152,Tryz.ntmps152;go_wp2
 go_loopw [3,4,11] (fun d p i wr=>∃k:Nat,d= .int .i64 (topD (l.take k):Nat)∧p= .int .i64 (topP (l.take k):Nat)∧i= .int .i64 k∧k≤l.length∧Hid (Below w.heap.size w wr)) (fun _ _ i _=>l.length-(intOf i).toNat)
 case atStart=>exact ⟨0,rfl,rfl,rfl,by omega,hid (Below.refl _ _)⟩
 case round =>
  obtain ⟨k,rfl,rfl,rfl,hk,HB⟩:=hrel
  by_cases hlt:k<l.length
  · obtain ⟨x,hd,hxe,hc, -⟩:=(HN.out.below HB.out).at_ hlt
    obtain rfl:(⟨g,0,none⟩:Addr)=x:=Option.some.inj hxe;obtain ⟨d0,d1,d2,d3,d4,d5⟩:=hc.flat;have htn:l.take k++ [l[k]]=l.take (k+1):=(List.take_succ_eq_append_getElem hlt).symm;have HT1:Hid (topD (l.take (k+1))=max (topD (l.take k)) l[k].data.size∧topP (l.take (k+1))=max (topP (l.take k)) l[k].ptrs.length):=hid ⟨by rw[← htn,zdu],by rw[← htn,zdy]⟩;have hba:=(Below.refl wr.heap.size wr).alloc (Nat.le_refl _) (.cells #[.int .i64 l[k].kind,.string l[k].data,.slice hd.A l[k].ptrs.length hd.a,.int .i64 l[k].size,.int .i64 l[k].count,.slice hd.B l[k].items.length hd.b] nodeT);have HB2:=hid (HB.out.trans (hba.mono HB.out.size));clear hc hxe htn hba;generalize l[k]=y at *;go_wp2
    go_roundw
    case rel=>exact ⟨k+1,by rw[HT1.out.1]; congr 1; omega,by rw[HT1.out.2]; congr 1; omega,by go_num,by omega,HB2⟩
    case measure=>simp[intOf]; omega
  · obtain rfl:k=l.length:=by omega
    rw[List.take_of_length_le (Nat.le_refl _)]
    obtain ⟨D,hDd⟩:∃D,D=topD l:=⟨_,rfl⟩
    obtain ⟨P,hPd⟩:∃P,P=topP l:=⟨_,rfl⟩
    rw[← hDd,← hPd];have HDP:=hid (And.intro hDd hPd)
    have hDb:D≤2000:=by rw[hDd]; exact zfy HDD.out.1
    have hPb:P≤1000000:=by rw[hPd]; exact zfd HDD.out.2
    have HO1:Hid (OnlyIn bs w wr):=hid (OnlyIn.of_below HB.out);have HG1:=hid (HG.out.below HB.out)
    have HBB:Hid (∀b∈blkB q,b∈bs∨w.heap.size≤b):=hid fun b hb=> .inl (by rw[HBS.out]; exact List.mem_cons_of_mem _ hb)
    clear hlt hDd hPd HB HG;go_wp2
    go_loopw [28] (fun i wr=>∃k:Nat,i= .int .i64 k∧k≤l.length∧Hid (EvR D P l g c (M+1) bs w k wr)) (fun i _=>l.length-(intOf i).toNat)
    case atStart=>exact ⟨0,rfl,by omega,hid ⟨[],q,rfl,⟨rfl,by rw[HQ.out]; rfl⟩,HG1.out,HBB.out,HO1.out⟩⟩
    case round =>
     clear HO1 HG1 HBB;obtain ⟨k,rfl,hkl,HEV⟩:=hrel;obtain ⟨pre,post,hpk,hm0,hg0,hbk0,ho0⟩:=HEV.out;subst hpk;have HM:=hid hm0;have HG:=hid hg0;have HBK:=hid hbk0;have HO:=hid ho0;clear hm0 hg0 hbk0 ho0 HEV
     cases post with
     | nil =>
      have hpl:l.length≤pre.length:=by
       have:=congrArg List.length HM.out.2
       simp at this; omega
      have hpl2:pre.length≤l.length:=by
       have:=congrArg List.length HM.out.1
       simp at this; omega
      have hple:pre.length=l.length:=by omega
      have HRES:Hid (EvP (some ⟨g,0,none⟩) c l (M+1) bs w (.returned (.slice (some ⟨g,0,none⟩) l.length c)) wr):=hid (by
       have hg:=HG.out;rw[List.append_nil] at hg;obtain ⟨o1,o2⟩:=hg.own;have hm:=HM.out.1;rw[hple,List.take_of_length_le (Nat.le_refl _)] at hm
       have he:evenL l=pre.map (·.1):=by rw[hm]; unfold evenL; rw[← HDP.out.1,← HDP.out.2]
       refine ⟨rfl,_,by rw[he]; exact o1,o2,fun b hb=>?_,HO.out⟩
       rcases List.mem_cons.1 hb with rfl | hb
       · exact .inl (by rw[HBS.out]; exact List.mem_cons_self)
       · exact HBK.out b (by rw[List.append_nil]; exact hb))
      clear HG HBK HO HM;go_wp2;go_ret;exact HRES.out
     | cons r t =>
      have hlen:l.length=pre.length+(t.length+1):=by
       have h1:=congrArg List.length HM.out.2;have h2:=congrArg List.length HM.out.1
       simp at h1 h2; omega
      have hlt:pre.length<l.length:=by omega
      have hdrop:l.drop pre.length=l[pre.length] :: l.drop (pre.length+1):=List.drop_eq_getElem_cons hlt
      have hr1:r.1=l[pre.length]∧t.map (·.1)=l.drop (pre.length+1):=by
       have:=HM.out.2;rw[hdrop,List.map_cons] at this
       injection this with e1 e2
       exact ⟨e1,e2⟩
      have hmem:r.1∈l:=by rw[hr1.1]; exact List.getElem_mem hlt
      have hrd:=HDD.out.1 _ hmem;have hrp:=HDD.out.2 _ hmem
      have hDr:r.1.data.size≤D:=by rw[HDP.out.1]; exact z7f _ _ hmem
      have hPr:r.1.ptrs.length≤P:=by rw[HDP.out.2]; exact z9b _ _ hmem
      have HM2:Hid ((pre.map (·.1)++ [evenN D P r.1])=(l.take (pre.length+1)).map (evenN D P)∧t.map (·.1)=l.drop (pre.length+1)):=hid ⟨by rw[HM.out.1,List.take_succ_eq_append_getElem hlt,List.map_append,hr1.1]; rfl,hr1.2⟩
      have hsub:((D:Int)-(r.1.data.size:Int))=((D-r.1.data.size:Nat):Int):=by omega
      obtain ⟨kz,hkz⟩:∃kz:Nat,P=r.1.ptrs.length+kz:=⟨P-r.1.ptrs.length,by omega⟩
      have HKZ:=hid hkz
      have hkzb:kz≤1000000:=by omega
      have hsub2:((P:Int)-(r.1.ptrs.length:Int))=(kz:Int):=by omega
      clear hkz;obtain ⟨d0,d1,d2,d3,d4,d5,df⟩:=HG.out.cells;have hba:=(Below.refl wr.heap.size wr).alloc (Nat.le_refl _) (.cells #[.int .i64 r.1.kind,.string r.1.data,.slice r.2.1.A r.1.ptrs.length r.2.1.a,.int .i64 r.1.size,.int .i64 r.1.count,.slice r.2.1.B r.1.items.length r.2.1.b] nodeT);have HG1:=hid (HG.out.below hba);have HX1:=hid (heap_alloc_new wr (.cells #[.int .i64 r.1.kind,.string r.1.data,.slice r.2.1.A r.1.ptrs.length r.2.1.a,.int .i64 r.1.size,.int .i64 r.1.count,.slice r.2.1.B r.1.items.length r.2.1.b] nodeT));have HO1:=hid (HO.out.trans (OnlyIn.of_below hba));have hgl:=HG.out.lt.1;have hw0:=HO.out.size
      have hs1:(wr.alloc (.cells #[.int .i64 r.1.kind,.string r.1.data,.slice r.2.1.A r.1.ptrs.length r.2.1.a,.int .i64 r.1.size,.int .i64 r.1.count,.slice r.2.1.B r.1.items.length r.2.1.b] nodeT)).heap.size=wr.heap.size+1:=by simp
      have HRP:=hid (fun W=>zj6 (D-r.1.data.size) W (by omega));have HSB:=hid (And.intro hsub hsub2);clear hba hdrop hr1 hmem HM HG HO hsub hsub2
      go_wp2_with fail
      clear d0 d1 d2 d3 d4 d5 df;generalize wr.alloc (.cells #[.int .i64 r.1.kind,.string r.1.data,.slice r.2.1.A r.1.ptrs.length r.2.1.a,.int .i64 r.1.size,.int .i64 r.1.count,.slice r.2.1.B r.1.items.length r.2.1.b] nodeT)=W1 at *;obtain ⟨d0,d1,d2,d3,d4,d5,df⟩:=HG1.out.cells;obtain ⟨b0,b1,b2,b3,b4,b5⟩:=z01 HX1.out;have hsub:=HSB.out.1
      have hpt:pre.length<pre.length+(t.length+1):=by omega
      have hd1:(W1.drew).heap.size=W1.heap.size:=rfl
      have hwr1:IntKind.i64.wrap ((D-r.1.data.size:Nat):Int)=((D-r.1.data.size:Nat):Int):=by rw[IntKind.wrap_i64]; omega
      go_region_with (go_at_call 176; (with_reducible refine (HRP.out _).mono ?_); rintro e w2 ⟨rfl,hb2⟩; have HG2:=hid (RowG.below (w:=W1.drew) (RowG.frame HG1.out (fun _ _=>rfl)) hb2); obtain ⟨q0,q1,q2,q3,q4,q5,qf⟩:=HG2.out.cells; have qf1:=qf (pre.length*6+1); have hzs:=z7n (D-r.1.data.size); have f1:¬9223372036854775807<r.1.data.size+(zeroD (D-r.1.data.size)).size:=by omega)
      all_goals
       have hO2:OnlyIn bs w w2:=HO1.out.trans (OnlyIn.of_below ⟨hb2.os,hb2.tape,hb2.output,hb2.size,hb2.block⟩);have hs2:W1.heap.size≤w2.heap.size:=hb2.size;have hX2:=(hb2.block _ (show wr.heap.size<W1.drew.heap.size by omega)).trans HX1.out
       have hG3:=HG2.out.set (n':= .mk r.1.kind (r.1.data++zeroD (D-r.1.data.size)) r.1.ptrs r.1.size r.1.count r.1.items) 1 (.string (r.1.data++zeroD (D-r.1.data.size))) (by decide) rfl (fun f hf hf1=>by
        match f,hf with
        | 0,_=>rfl
        | 1,_=>exact absurd rfl hf1
        | 2,_=>rfl
        | 3,_=>rfl
        | 4,_=>rfl
        | 5,_=>rfl) rfl rfl (by show (r.1.data++zeroD _).size≤maxLen; rw[z1g,z7n]; unfold maxLen; omega)
       have hgb:g∈bs:=by rw[HBS.out]; exact List.mem_cons_self
       have HO3:=hid (hO2.trans (OnlyIn.setCell (bs:=bs) (w:=w2) (p:=⟨g,pre.length*6+1,none⟩) hgb (.string (r.1.data++zeroD (D-r.1.data.size)))));have HX3:=hid ((Below.heap_setCell w2 ⟨g,pre.length*6+1,none⟩ (.string (r.1.data++zeroD (D-r.1.data.size))) wr.heap.size (show wr.heap.size≠g by omega)).trans hX2);have HG3:=hid hG3
       have hs3:(w2.setCell ⟨g,pre.length*6+1,none⟩ (.string (r.1.data++zeroD (D-r.1.data.size)))).heap.size=w2.heap.size:=by simp[World.setCell]
       clear hb2 hO2 hX2 hG3 d0 d1 d2 d3 d4 d5 df b0 b1 b2 b3 b4 b5 q0 q1 q2 q3 q4 q5 qf qf1 hzs f1 HG2 hsub hwr1;generalize w2.setCell ⟨g,pre.length*6+1,none⟩ (.string (r.1.data++zeroD (D-r.1.data.size)))=W3 at *;obtain ⟨b0,b1,b2,b3,b4,b5⟩:=z01 HX3.out;obtain ⟨q0,p2,hq0,hown0,hbb,hkids,hitems,hdm⟩:=HG3.out.ptrs;have HOW:Hid (W3.ownsRow 0 nodeT 6 (.slice r.2.1.A r.1.ptrs.length r.2.1.a) r.1.ptrs.length (rowB q0)):=hid hown0
       have hblr:blkB (pre++((.mk r.1.kind (r.1.data++zeroD (D-r.1.data.size)) r.1.ptrs r.1.size r.1.count r.1.items,r.2):NB) :: t)=blkB (pre++r :: t):=by rw[z27,z27,z22,z22]
       have hsubA:∀b∈blk r.2.1.A,b∈blkB (pre++r :: t):=fun b hm=>by
        rw[z27,z22];refine List.mem_append_right _ (List.mem_append_left _ ?_);have hbb':r.2.2=(blk r.2.1.A++blkB q0)++p2:=hbb;rw[hbb'];exact List.mem_append_left _ (List.mem_append_left _ hm)
       have hownb:∀b,some b=(Value.slice r.2.1.A r.1.ptrs.length r.2.1.a).ownBlock→b∈blk r.2.1.A:=fun b e=>by
        rw[zg3 r.2.1.A r.1.ptrs.length r.2.1.a,← e]; exact List.mem_singleton.2 rfl
       have hgne:some g≠(Value.slice r.2.1.A r.1.ptrs.length r.2.1.a).ownBlock:=fun e=>by
        obtain ⟨_,_,_,_,_,_,_,_,h8⟩:=HG3.out;rw[hblr] at h8;exact h8 (hsubA g (hownb g e))
       have HSA:=hid (And.intro hsubA hownb);have HPT:=hid (And.intro hq0 (And.intro hbb (And.intro hkids (And.intro hitems hdm))));obtain ⟨e0,e1,e2,e3,e4,e5,ef⟩:=HG3.out.cells;have hg3l:=HG3.out.lt.1;have HCE:=hid (And.intro e2 (ef (pre.length*6+2)));clear hq0 hown0 hbb hkids hitems hdm hblr hsubA hownb e0 e1 e2 e3 e4 e5 ef;have hsub2:=HSB.out.2
       have hwr2:IntKind.i64.wrap (kz:Int)=(kz:Int):=by rw[IntKind.wrap_i64]; omega
       have hlp:r.1.ptrs.length+kz≤3000000:=by omega
       go_wp2_with (at_builtin; go_must (refine z67 rfl (.tmp 50) (.tmp 55) rfl (.slice r.2.1.A r.1.ptrs.length r.2.1.a) r.1.ptrs.length (rowB q0) rfl HOW.out kz rfl hlp ?_); intro A4 c4 w4 hown4 hgrow4 hat4; have k4:=(World.cell?_of_block (w:=W3) (w':=w4) (a:=⟨g,pre.length*6+2,none⟩) (hgrow4.out.block g hg3l hgne)).trans HCE.out.1; have kf4:=(World.frozen?_of_block (w:=W3) (w':=w4) (a:=⟨g,pre.length*6+2,none⟩) (hgrow4.out.block g hg3l hgne)).trans HCE.out.2)
       obtain ⟨r',hr',hgr,hbr⟩:=HG3.out.grow (kz:=kz) HPT.out.1 HPT.out.2.1 HPT.out.2.2.1 HPT.out.2.2.2.1 HPT.out.2.2.2.2 hown4.out hgrow4.out hat4.out
       have hrE:r'.1=evenN D P r.1:=by rw[hr']; unfold evenN; rw[show P-r.1.ptrs.length=kz by have:=HKZ.out; omega]; rfl
       have HG5:Hid (RowG (w4.setCell ⟨g,pre.length*6+2,none⟩ (.slice A4 (r.1.ptrs.length+kz) c4)) g c ((pre++ [r'])++t) (M+1)):=hid (by rw[List.append_assoc]; exact hgr)
       have HM5:Hid ((pre++ [r']).map (·.1)=(l.take (pre++ [r']).length).map (evenN D P)∧t.map (·.1)=l.drop (pre++ [r']).length):=hid (by
        have hl:(pre++ [r']).length=pre.length+1:=by simp
        rw[hl,List.map_append,List.map_singleton,hrE]
        exact HM2.out)
       have HB5:Hid (∀b∈blkB ((pre++ [r'])++t),b∈bs∨w.heap.size≤b):=hid (fun b hm=>by
        rw[List.append_assoc,z27] at hm;have hold:∀b,b∈blkB (pre++r :: t)→b∈bs∨w.heap.size≤b:=HBK.out
        rcases List.mem_append.1 hm with hm | hm
        · exact hold b (by rw[z27]; exact List.mem_append_left _ hm)
        · rw[show [r']++t=r' :: t from rfl,z22] at hm
          rcases List.mem_append.1 hm with hm | hm
          · rcases hbr b hm with h | h
            · exact hold b (by rw[z27,z22]; exact List.mem_append_right _ (List.mem_append_left _ h))
            · right; omega
          · exact hold b (by rw[z27,z22]; exact List.mem_append_right _ (List.mem_append_right _ hm)))
       have HO5:Hid (OnlyIn bs w (w4.setCell ⟨g,pre.length*6+2,none⟩ (.slice A4 (r.1.ptrs.length+kz) c4))):=hid (by
        have hO4:OnlyIn bs w w4:=⟨hgrow4.out.os.trans HO3.out.os,hgrow4.out.tape.trans HO3.out.tape,hgrow4.out.output.trans HO3.out.output,Nat.le_trans HO3.out.size hgrow4.out.size,fun k hk hn=>(hgrow4.out.block k (Nat.lt_of_lt_of_le hk HO3.out.size) (fun e=>by
         rcases HBK.out k (HSA.out.1 k (HSA.out.2 k e)) with h | h
         · exact hn h
         · omega)).trans (HO3.out.block k hk hn)⟩
        exact hO4.trans (OnlyIn.setCell (p:=⟨g,pre.length*6+2,none⟩) hgb _))
       have HEV5:Hid (EvR D P l g c (M+1) bs w (pre.length+1) (w4.setCell ⟨g,pre.length*6+2,none⟩ (.slice A4 (r.1.ptrs.length+kz) c4))):=hid ⟨pre++ [r'],t,by simp,by have:=HM5.out; rw[show (pre++ [r']).length=pre.length+1 by simp] at this; exact this,HG5.out,HB5.out,HO5.out⟩;clear hown4 hgrow4 hat4 hr' hgr hbr hrE k4 kf4 HCE HPT HSA HM5 HG5 HB5 HO5;go_wp2
       go_roundw
       case rel=>exact ⟨_,_,.int .i64 ((pre.length:Int)+1),⟨pre.length+1,by go_num,by omega,HEV5⟩,rfl,rfl,rfl⟩
       case measure=>simp[intOf]; omega
theorem zg9 (c:Nat)(M:Nat)(bs:List Nat)(w:World)(hc:c=0)(hb:bs= []) :
 Calls Tryz.prog 152 #[.slice none 0 c] w (EvP none c [] M bs w):=by
 subst hc hb;have HRES:Hid (EvP none 0 [] M [] w (.returned (.slice none 0 0)) w):=hid ⟨rfl,[],OwS.nil w (M+1),List.nodup_nil,fun b h=>(by cases h),OnlyIn.refl _ _⟩;go_enter Tryz.func152,Tryz.ntmps152;go_wp2
 go_loopw [3,4,11] (fun p q i wr=>p= .int .i64 0∧q= .int .i64 0∧i= .int .i64 0∧wr=w) (fun _ _ _ _=>0)
 case atStart=>exact ⟨rfl,rfl,rfl,rfl⟩
 case round =>
  obtain ⟨rfl,rfl,rfl,rfl⟩:=hrel;go_wp2
  go_loopw [28] (fun i wq=>i= .int .i64 0∧wq=wr) (fun _ _=>0)
  case atStart=>exact ⟨rfl,rfl⟩
  case round =>
   obtain ⟨rfl,rfl⟩:=hrel;go_wp2;go_ret;exact HRES.out
theorem OwS.empty {w:World}{m k c:Nat}{A:Option Addr}{bs:List Nat}(h:OwS w (m+1) A c [] bs):OwS w (k+1) A c [] bs:=by
 obtain ⟨q,hq,ho,hb,hr⟩:=h
 obtain rfl:q= []:=by cases q with
  | nil=>rfl
  | cons a t=>cases hq
 exact ⟨[],rfl,ho,hb,fun r h=>by cases h⟩
theorem zo8 (m:Nat)(A:Option Addr)(c:Nat)(l:List Nd)(bs:List Nat)(w:World)(hown:OwS w (m+1) A c l bs)(hnd:bs.Nodup)(hm:m=0→l= [])(hD:∀n∈l,n.data.size≤2000)(hP:∀n∈l,n.ptrs.length≤1000000)(hlm:l.length≤2000000) :
 Calls Tryz.prog 152 #[.slice A l.length c] w (EvP A c l m bs w):=by
 rcases znc hown with ⟨rfl,rfl,rfl⟩ | ⟨⟨g,rfl⟩,_⟩
 · obtain ⟨q,hq,ho,hb,hr⟩:=hown
   obtain rfl:q= []:=by cases q with
    | nil=>rfl
    | cons a t=>cases hq
   exact zg9 0 m bs w rfl hb
 · cases m with
   | zero =>
    obtain rfl:=hm rfl;refine (z9j 0 g c [] bs w (hown.succ _ _ _ _ _) hnd hD hP hlm).mono ?_;rintro e w' ⟨he,bs',h1,h2,h3,h4⟩;exact ⟨he,bs',h1.empty,h2,h3,h4⟩
   | succ m=>exact z9j m g c l bs w hown hnd hD hP hlm
theorem zhn {n:Nd}(h:z0g n=true):n.ptrs.length≤199:=by
 obtain ⟨h1,h2⟩:=z21 h;rw[z1c h1] at h2
 have h3:n.ptrs.length≤ownN n:=by unfold ownN ownB; omega
 omega
theorem zap {n:Nd}(h:z0g n=true):∀z∈n.items.map canN,z.data.size≤2000∧z.ptrs.length≤1000000:=by
 intro z hz
 obtain ⟨y,hy,rfl⟩:=List.mem_map.1 hz;have hoy:=zm2 h y hy;have hk:=(z8k (z1h (z21 h).1).1 y hy).2.1;obtain ⟨h8,hs⟩:=zlc hoy hk;have hp:=zhn hoy;rw[z7l,hk];have l1:=z2j y.data;have l2:=tw_le y.data.data.toList
 have l3:y.data.data.toList.length=y.data.size:=by simp
 have l4:=z7c (y.ptrs.map canN);have l5:=z1q (y.ptrs.map canN);rw[List.length_map] at l4;refine ⟨?_,?_⟩
 · show (trimD y.data).size≤2000; omega
 · show (endP (y.ptrs.map canN)).length≤1000000; omega
theorem zpx {n:Nd} :n.items.length≤sizN n:=by
 rw[z38];have:=zcl n.items;omega
theorem zqd (m:Nat)(hS:FaS m):FoN m:=by
 intro n h w S hn hok hsz
 obtain ⟨qA,qa,qB,qb⟩:=h
 have hz1:sizL n.ptrs≤2000000:=by rw[z38] at hsz; omega
 have hz2:sizL n.items≤2000000:=by rw[z38] at hsz; omega
 have hil:n.items.length≤2000000:=Nat.le_trans zpx hsz
 have HM0:Hid (m=0→n.items.map canN= []):=hid fun h0=>by
  subst h0;have:n.items= []:=(show NdsAt w S 0 qB n.items from hn.2.2).zero
  rw[this]; rfl
 have HSM:=hid (zap hok);have HPL:Hid ((n.ptrs.map canN).length≤2000000):=hid (by rw[List.length_map]; have:=zhn hok; omega);have HIL:Hid ((n.items.map canN).length≤2000000):=hid (by rw[List.length_map]; exact hil)
 have HDA:Hid (n.kind=1→n.data.size%8=0∧n.data.size≤1600):=hid fun hk=>by have:=zlc hok hk; omega
 have HP:Hid (∀W:World,Below w.heap.size w W→Calls Tryz.prog 151 #[.slice qA n.ptrs.length qa,.func (.func 109) #[] #[]] W (NewOS (m+1) (n.ptrs.map canN) W)):=hid fun W hW=>hS qA qa n.ptrs W S ((show NdsAt w S m qA n.ptrs from hn.2.1).below hW) (ztg hok) hz1
 have HI:Hid (∀W:World,Below w.heap.size w W→Calls Tryz.prog 151 #[.slice qB n.items.length qb,.func (.func 109) #[] #[]] W (NewOS (m+1) (n.items.map canN) W)):=hid fun W hW=>hS qB qb n.items W S ((show NdsAt w S m qB n.items from hn.2.2).below hW) (zm2 hok) hz2
 have hdm:n.data.size≤maxLen:=hn.1;have hcan:=z7l n;unfold formT at hcan
 obtain ⟨Z0,hZ0⟩:∃Z0,Z0=canN n:=⟨_,rfl⟩
 rw[← hZ0];have HZE:=hid (hZ0.trans hcan);clear hcan hZ0 hn hok hsz hz1 hz2 hil hS;unfold NewOS at HP HI;generalize n.ptrs.map canN=PL at *;generalize n.items.map canN=IL at *;have hb0:Below w.heap.size w ((w.alloc (.cells #[.int .i64 n.kind,.string n.data,.slice qA n.ptrs.length qa,.int .i64 n.size,.int .i64 n.count,.slice qB n.items.length qb] nodeT)).alloc (.cells #[.int .i64 0,.string { data:= #[] },.slice none 0 0,.int .i64 0,.int .i64 0,.slice none 0 0] nodeT)):=((Below.refl _ w).alloc (Nat.le_refl _) _).alloc (by simp) _;have hx0:((w.alloc (.cells #[.int .i64 n.kind,.string n.data,.slice qA n.ptrs.length qa,.int .i64 n.size,.int .i64 n.count,.slice qB n.items.length qb] nodeT)).alloc (.cells #[.int .i64 0,.string { data:= #[] },.slice none 0 0,.int .i64 0,.int .i64 0,.slice none 0 0] nodeT)).heap[w.heap.size]? =some (.cells #[.int .i64 n.kind,.string n.data,.slice qA n.ptrs.length qa,.int .i64 n.size,.int .i64 n.count,.slice qB n.items.length qb] nodeT (0,0)):=z05 (heap_alloc_new w _) _
 have hz0:((w.alloc (.cells #[.int .i64 n.kind,.string n.data,.slice qA n.ptrs.length qa,.int .i64 n.size,.int .i64 n.count,.slice qB n.items.length qb] nodeT)).alloc (.cells #[.int .i64 0,.string { data:= #[] },.slice none 0 0,.int .i64 0,.int .i64 0,.slice none 0 0] nodeT)).heap[w.heap.size+1]? =some (.cells #[.int .i64 0,.string { data:= #[] },.slice none 0 0,.int .i64 0,.int .i64 0,.slice none 0 0] nodeT (0,0)):=by have:=heap_alloc_new (w.alloc (.cells #[.int .i64 n.kind,.string n.data,.slice qA n.ptrs.length qa,.int .i64 n.size,.int .i64 n.count,.slice qB n.items.length qb] nodeT)) (.cells #[.int .i64 0,.string { data:= #[] },.slice none 0 0,.int .i64 0,.int .i64 0,.slice none 0 0] nodeT); rwa [show (w.alloc (.cells #[.int .i64 n.kind,.string n.data,.slice qA n.ptrs.length qa,.int .i64 n.size,.int .i64 n.count,.slice qB n.items.length qb] nodeT)).heap.size=w.heap.size+1 by simp] at this
 have hs0:((w.alloc (.cells #[.int .i64 n.kind,.string n.data,.slice qA n.ptrs.length qa,.int .i64 n.size,.int .i64 n.count,.slice qB n.items.length qb] nodeT)).alloc (.cells #[.int .i64 0,.string { data:= #[] },.slice none 0 0,.int .i64 0,.int .i64 0,.slice none 0 0] nodeT)).heap.size=w.heap.size+2:=by simp
 have HB0:=hid hb0;have HX0:=hid hx0;have HZ0:=hid hz0;clear hb0 hx0 hz0;go_enter Tryz.func109,Tryz.ntmps109
 go_wp2_with fail
 generalize ((w.alloc (.cells #[.int .i64 n.kind,.string n.data,.slice qA n.ptrs.length qa,.int .i64 n.size,.int .i64 n.count,.slice qB n.items.length qb] nodeT)).alloc (.cells #[.int .i64 0,.string { data:= #[] },.slice none 0 0,.int .i64 0,.int .i64 0,.slice none 0 0] nodeT))=W0 at *;refine (HP.out _ HB0.out).mono ?_;rintro e w1 ⟨A1,c1,bs1,rfl,hown1,hnd1,hge1,hb1⟩;have hx1:=(hb1.block _ (z00 HX0.out)).trans HX0.out;have hz1:=(hb1.block _ (z00 HZ0.out)).trans HZ0.out;have hs1:=hb1.size;have hb1':=HB0.out.trans (hb1.mono HB0.out.size);have HX2:=hid (z08 hx1 2 (.slice A1 PL.length c1));have HZ2:=hid ((Below.heap_setCell w1 ⟨w.heap.size,2,none⟩ (.slice A1 PL.length c1) (w.heap.size+1) (by simp)).trans hz1);have HB2:=hid (hb1'.setCell (p:=⟨w.heap.size,2,none⟩) (Nat.le_refl _) (.slice A1 PL.length c1));have HO2:=hid (hown1.frame (w':=w1.setCell ⟨w.heap.size,2,none⟩ (.slice A1 PL.length c1)) _ _ _ _ _ (fun b hb=>Below.heap_setCell w1 ⟨w.heap.size,2,none⟩ _ b (by have:=hge1 b hb; show b≠w.heap.size; omega)));have HN2:=hid (And.intro hnd1 hge1)
 have hs2:(w1.setCell ⟨w.heap.size,2,none⟩ (.slice A1 PL.length c1)).heap.size=w1.heap.size:=by simp[World.setCell]
 obtain ⟨a0,a1,a2,a3,a4,a5⟩:=z01 hx1;have f1:=z02 hx1 2;obtain ⟨b0,b1,b2,b3,b4,b5⟩:=z01 HX2.out;clear hown1 hnd1 hge1 hb1 hx1 hz1 hb1' HX0 HZ0 HB0
 go_wp2_with fail
 clear a0 a1 a2 a3 a4 a5 f1 b0 b1 b2 b3 b4 b5;generalize w1.setCell ⟨w.heap.size,2,none⟩ (.slice A1 PL.length c1)=W2 at *;refine (HI.out _ HB2.out).mono ?_;rintro e w3 ⟨A2,c2,bs2,rfl,hown3,hnd3,hge3,hb3⟩;have HX3:=hid ((hb3.block _ (z00 HX2.out)).trans HX2.out);have HZ3:=hid ((hb3.block _ (z00 HZ2.out)).trans HZ2.out);have hs3:=hb3.size;have HB3:=hid (HB2.out.trans (hb3.mono HB2.out.size));have HO3:=hid (HO2.out.below hb3);have HLT2:=hid (fun b hb=>(HO2.out.lt _ _ _ _ _ b hb).1);have HE3:=hid (zo8 m A2 c2 IL bs2 w3 hown3 hnd3 HM0.out (fun z hz=>(HSM.out z hz).1) (fun z hz=>(HSM.out z hz).2) HIL.out);have HN3:=hid hge3;clear hown3 hnd3 hge3 hb3;unfold EvP at HE3
 go_wp2_with fail
 refine HE3.out.mono ?_;rintro e w4 ⟨rfl,bs3,hown4,hnd4,hin4,ho4⟩;have hgeb:∀b∈bs2,W2.heap.size≤b:=HN3.out;have hb4:Below W2.heap.size w3 w4:=ho4.below hs3 hgeb;have hx4:=(hb4.block _ (z00 HX2.out)).trans HX3.out;have hz4:=(hb4.block _ (z00 HZ2.out)).trans HZ3.out;have hs4:=ho4.size;have hb4':=HB3.out.trans (hb4.mono (by omega))
 have hge4:∀b∈bs3,W2.heap.size≤b:=fun b hb=>by
  rcases hin4 b hb with h | h
  · exact hgeb b h
  · omega
 have ho1:=HO3.out.frame (w':=w4) _ _ _ _ _ (fun b hb=>hb4.block b (HLT2.out b hb));have HX5:=hid (z08 hx4 5 (.slice A2 IL.length c2));have HZ5:=hid ((Below.heap_setCell w4 ⟨w.heap.size,5,none⟩ (.slice A2 IL.length c2) (w.heap.size+1) (by simp)).trans hz4);have HB5:=hid (hb4'.setCell (p:=⟨w.heap.size,5,none⟩) (Nat.le_refl _) (.slice A2 IL.length c2));have HO5:=hid (ho1.frame (w':=w4.setCell ⟨w.heap.size,5,none⟩ (.slice A2 IL.length c2)) _ _ _ _ _ (fun b hb=>Below.heap_setCell w4 ⟨w.heap.size,5,none⟩ _ b (by have:=HN2.out.2 b hb; show b≠w.heap.size; omega)));have HI5:=hid (hown4.frame (w':=w4.setCell ⟨w.heap.size,5,none⟩ (.slice A2 IL.length c2)) _ _ _ _ _ (fun b hb=>Below.heap_setCell w4 ⟨w.heap.size,5,none⟩ _ b (by have:=hge4 b hb; show b≠w.heap.size; omega)))
 have HND:Hid ((bs1++bs3).Nodup∧∀b∈bs1++bs3,w.heap.size+2≤b):=hid ⟨List.nodup_append.2 ⟨HN2.out.1,hnd4,fun a ha b hb e=>by have:=HLT2.out a ha; have:=hge4 b hb; omega⟩,fun b hb=>by
  rcases List.mem_append.1 hb with hb | hb
  · have:=HN2.out.2 b hb; omega
  · have:=hge4 b hb; omega⟩
 obtain ⟨a0,a1,a2,a3,a4,a5⟩:=z01 hx4;have f1:=z02 hx4 5;obtain ⟨b0,b1,b2,b3,b4,b5⟩:=z01 HX5.out;clear hown4 hnd4 hin4 ho4 hb4 hx4 hz4 hb4' hge4 ho1 hgeb HX3 HZ3 HB3 HO3 HX2 HZ2 HB2 HO2;have HLE:Hid ((evenL IL).length=IL.length):=hid (by unfold evenL; rw[List.length_map])
 by_cases hk:n.kind=1
 · have hze:=HZE.out
   rw[if_pos hk] at hze;subst hze
   have hkb:(n.kind==1)=true:=by rw[hk]; rfl
   have HWE:Hid (∀W:World,OwN W (m+1) (.mk n.kind n.data PL n.size n.count (evenL IL)) ⟨A1,c1,A2,c2⟩ (bs1++bs3)→Calls Tryz.prog 153 #[.agg #[.int .i64 n.kind,.string n.data,.slice A1 PL.length c1,.int .i64 n.size,.int .i64 n.count,.slice A2 IL.length c2]] W fun e w'=>e= .returned (.agg #[.int .i64 n.kind,.string (trimD n.data),.slice A1 (endC PL) c1,.int .i64 n.size,.int .i64 n.count,.slice A2 IL.length c2])∧Below W.heap.size W w'):=hid (fun W hW=>by
    have:=zcw (m+1) (.mk n.kind n.data PL n.size n.count (evenL IL)) ⟨A1,c1,A2,c2⟩ (bs1++bs3) W hW (HDA.out hk).1 (HDA.out hk).2 HPL.out;rw[show (Nd.mk n.kind n.data PL n.size n.count (evenL IL)).items.length=IL.length from HLE.out] at this
    exact this)
   clear HDA hk
   go_wp2_with fail
   clear a0 a1 a2 a3 a4 a5 f1 b0 b1 b2 b3 b4 b5;generalize w4.setCell ⟨w.heap.size,5,none⟩ (.slice A2 IL.length c2)=W5 at *;have hcw:=HWE.out W5 ⟨hdm,bs1,bs3,rfl,HO5.out,HI5.out⟩;refine hcw.mono ?_;rintro e w6 ⟨rfl,hb6⟩;have HZ6:=hid ((hb6.block _ (z00 HZ5.out)).trans HZ5.out);have HB6:=hid (HB5.out.trans (hb6.mono HB5.out.size));have HO6:=hid (HO5.out.below hb6);have HI6:=hid (HI5.out.below hb6);obtain ⟨z0,z1,z2,z3,z4,z5⟩:=z01 HZ6.out;have zf:=z02 HZ6.out;clear hb6 hcw HO5 HI5 HX5 HZ5 HB5
   go_wp2_with fail
   obtain ⟨wf,hwf,hrw,hbf,hkf⟩:=fin6w HZ6.out HB6.out (by omega) (.int .i64 n.kind) (.string (trimD n.data)) (.slice A1 (endC PL) c1) (.int .i64 n.size) (.int .i64 n.count) (.slice A2 IL.length c2);rw[hwf];obtain ⟨e0,e1,e2,e3,e4,e5⟩:=z01 hrw;obtain ⟨bs4,hot,hsub⟩:=HO6.out.take (endC PL) (z7c PL);refine bodyPost_ret (v:= .agg #[.int .i64 n.kind,.string (trimD n.data),.slice A1 (endC PL) c1,.int .i64 n.size,.int .i64 n.count,.slice A2 IL.length c2]) (by simp[results,Tryz.results109,go_sem,e0,e1,e2,e3,e4,e5]) rfl ⟨⟨A1,c1,A2,c2⟩,bs4++bs3,?_,?_,?_,?_,hbf⟩
   · show _=Ending.returned (.agg #[.int .i64 n.kind,.string (trimD n.data),.slice A1 (endP PL).length c1,.int .i64 n.size,.int .i64 n.count,.slice A2 (evenL IL).length c2])
     rw[z1q,HLE.out]
   · have hfr:∀b∈bs1++bs3,wf.heap[b]? =w6.heap[b]? :=fun b hb=>hkf b (by have:=HND.out.2 b hb; omega)
     refine ⟨?_,bs4,bs3,rfl,?_,?_⟩
     · show (trimD n.data).size≤maxLen
       have l1:=z2j n.data;have l2:=tw_le n.data.data.toList
       have l3:n.data.data.toList.length=n.data.size:=by simp
       omega
     · exact hot.frame _ _ _ _ _ (fun b hb=>hfr b (List.mem_append_left _ (hsub.subset hb)))
     · exact HI6.out.frame _ _ _ _ _ (fun b hb=>hfr b (List.mem_append_right _ hb))
   · exact HND.out.1.sublist (List.Sublist.append hsub (List.Sublist.refl _))
   · intro b hb
     have:b∈bs1++bs3:=(List.Sublist.append hsub (List.Sublist.refl _)).subset hb;have:=HND.out.2 b this;omega
 · have hze:=HZE.out
   rw[if_neg hk] at hze;subst hze
   have hkb:(n.kind==1)=false:=by simpa using hk
   have hz5:=HZ5.out;obtain ⟨z0,z1,z2,z3,z4,z5⟩:=z01 hz5;have zf:=z02 hz5;clear hk HDA hz5
   go_wp2_with fail
   clear a0 a1 a2 a3 a4 a5 f1;generalize w4.setCell ⟨w.heap.size,5,none⟩ (.slice A2 IL.length c2)=W5 at *;obtain ⟨wf,hwf,hrw,hbf,hkf⟩:=fin6w HZ5.out HB5.out (by omega) (.int .i64 n.kind) (.string n.data) (.slice A1 PL.length c1) (.int .i64 n.size) (.int .i64 n.count) (.slice A2 IL.length c2);rw[hwf];obtain ⟨e0,e1,e2,e3,e4,e5⟩:=z01 hrw;refine bodyPost_ret (v:= .agg #[.int .i64 n.kind,.string n.data,.slice A1 PL.length c1,.int .i64 n.size,.int .i64 n.count,.slice A2 IL.length c2]) (by simp[results,Tryz.results109,go_sem,e0,e1,e2,e3,e4,e5]) rfl ⟨⟨A1,c1,A2,c2⟩,bs1++bs3,?_,?_,HND.out.1,?_,hbf⟩
   · show _=Ending.returned (.agg #[.int .i64 n.kind,.string n.data,.slice A1 PL.length c1,.int .i64 n.size,.int .i64 n.count,.slice A2 (evenL IL).length c2])
     rw[HLE.out]
   · have hfr:∀b∈bs1++bs3,wf.heap[b]? =W5.heap[b]? :=fun b hb=>hkf b (by have:=HND.out.2 b hb; omega)
     exact ⟨hdm,bs1,bs3,rfl,HO5.out.frame _ _ _ _ _ (fun b hb=>hfr b (List.mem_append_left _ hb)),HI5.out.frame _ _ _ _ _ (fun b hb=>hfr b (List.mem_append_right _ hb))⟩
   · intro b hb
     have:=HND.out.2 b hb;omega
theorem zke:∀m,FaS m
 | 0=>zq8 0 (fun j h=>by cases h)
 | m+1=>zq8 (m+1) (fun j h=>by obtain rfl:m=j:=by omega
                               exact zqd m (zke m))
theorem zr0 (m:Nat):FoN m:=zqd m (zke m)
def canX (n:Nd):Nd:=if z0g n=true then canN n else z0i
theorem z6h (m:Nat)(n:Nd)(h:Hd)(w:World)(S:Nat→Prop)(hn:NdAt w S m n h)(ht:totN m n≤2000000) :
 Calls Tryz.prog 63 #[.agg #[.int .i64 n.kind,.string n.data,.slice h.A n.ptrs.length h.a,.int .i64 n.size,.int .i64 n.count,.slice h.B n.items.length h.b]] w (NewO (m+1) (canX n) w):=by
 have HO:Hid (∀W:World,Below w.heap.size w W→Calls Tryz.prog 32 #[.agg #[.int .i64 n.kind,.string n.data,.slice h.A n.ptrs.length h.a,.int .i64 n.size,.int .i64 n.count,.slice h.B n.items.length h.b]] W fun e w'=>e= .returned (.bool (z0g n))∧Below W.heap.size W w'):=hid fun W hW=>z1s m n h W S (hn.below hW) ht
 have HF:Hid (z0g n=true→∀W:World,Below w.heap.size w W→Calls Tryz.prog 109 #[.agg #[.int .i64 n.kind,.string n.data,.slice h.A n.ptrs.length h.a,.int .i64 n.size,.int .i64 n.count,.slice h.B n.items.length h.b],.func (.func 109) #[] #[]] W (NewO (m+1) (canN n) W)):=hid fun hok W hW=>zr0 m n h W S (hn.below hW) hok (by rw[← z3c hn]; exact ht)
 have hb0:Below w.heap.size w ((w.alloc (.cells #[.int .i64 n.kind,.string n.data,.slice h.A n.ptrs.length h.a,.int .i64 n.size,.int .i64 n.count,.slice h.B n.items.length h.b] nodeT)).alloc (.cells #[.int .i64 0,.string { data:= #[] },.slice none 0 0,.int .i64 0,.int .i64 0,.slice none 0 0] nodeT)):=((Below.refl _ w).alloc (Nat.le_refl _) _).alloc (by simp) _;have hx0:((w.alloc (.cells #[.int .i64 n.kind,.string n.data,.slice h.A n.ptrs.length h.a,.int .i64 n.size,.int .i64 n.count,.slice h.B n.items.length h.b] nodeT)).alloc (.cells #[.int .i64 0,.string { data:= #[] },.slice none 0 0,.int .i64 0,.int .i64 0,.slice none 0 0] nodeT)).heap[w.heap.size]? =some (.cells #[.int .i64 n.kind,.string n.data,.slice h.A n.ptrs.length h.a,.int .i64 n.size,.int .i64 n.count,.slice h.B n.items.length h.b] nodeT (0,0)):=z05 (heap_alloc_new w _) _
 have hz0:((w.alloc (.cells #[.int .i64 n.kind,.string n.data,.slice h.A n.ptrs.length h.a,.int .i64 n.size,.int .i64 n.count,.slice h.B n.items.length h.b] nodeT)).alloc (.cells #[.int .i64 0,.string { data:= #[] },.slice none 0 0,.int .i64 0,.int .i64 0,.slice none 0 0] nodeT)).heap[w.heap.size+1]? =some (.cells #[.int .i64 0,.string { data:= #[] },.slice none 0 0,.int .i64 0,.int .i64 0,.slice none 0 0] nodeT (0,0)):=by have:=heap_alloc_new (w.alloc (.cells #[.int .i64 n.kind,.string n.data,.slice h.A n.ptrs.length h.a,.int .i64 n.size,.int .i64 n.count,.slice h.B n.items.length h.b] nodeT)) (.cells #[.int .i64 0,.string { data:= #[] },.slice none 0 0,.int .i64 0,.int .i64 0,.slice none 0 0] nodeT); rwa [show (w.alloc (.cells #[.int .i64 n.kind,.string n.data,.slice h.A n.ptrs.length h.a,.int .i64 n.size,.int .i64 n.count,.slice h.B n.items.length h.b] nodeT)).heap.size=w.heap.size+1 by simp] at this
 have hs0:((w.alloc (.cells #[.int .i64 n.kind,.string n.data,.slice h.A n.ptrs.length h.a,.int .i64 n.size,.int .i64 n.count,.slice h.B n.items.length h.b] nodeT)).alloc (.cells #[.int .i64 0,.string { data:= #[] },.slice none 0 0,.int .i64 0,.int .i64 0,.slice none 0 0] nodeT)).heap.size=w.heap.size+2:=by simp
 have HB0:=hid hb0;have HX0:=hid hx0;have HZ0:=hid hz0
 obtain ⟨Z0,hZ0⟩:∃Z0,Z0=canX n:=⟨_,rfl⟩
 rw[← hZ0];have HZE:Hid (Z0=if z0g n=true then canN n else z0i):=hid hZ0;clear hb0 hx0 hz0 hn ht hZ0;unfold NewO at HF;go_enter Tryz.func63,Tryz.ntmps63
 go_wp2_with fail
 generalize ((w.alloc (.cells #[.int .i64 n.kind,.string n.data,.slice h.A n.ptrs.length h.a,.int .i64 n.size,.int .i64 n.count,.slice h.B n.items.length h.b] nodeT)).alloc (.cells #[.int .i64 0,.string { data:= #[] },.slice none 0 0,.int .i64 0,.int .i64 0,.slice none 0 0] nodeT))=W0 at *;refine (HO.out _ HB0.out).mono ?_;rintro e w1 ⟨rfl,hb1⟩;have HB1:=hid (HB0.out.trans (hb1.mono HB0.out.size));have HX1:=hid ((hb1.block _ (z00 HX0.out)).trans HX0.out);have HZ1:=hid ((hb1.block _ (z00 HZ0.out)).trans HZ0.out);have hs1:=hb1.size;clear hb1 HX0 HZ0 HB0;cases hok:z0g n
 · have hze:=HZE.out
   rw[if_neg (by rw[hok]; decide)] at hze;subst hze;clear hok HF HO;obtain ⟨z0,z1,z2,z3,z4,z5⟩:=z01 HZ1.out;have zf:=z02 HZ1.out
   go_wp2_with fail
   obtain ⟨wf,hwf,hrw,hbf,hkf⟩:=fin6w HZ1.out HB1.out (by omega) (.int .i64 0) (.string ⟨#[]⟩) (.slice none 0 0) (.int .i64 0) (.int .i64 0) (.slice none 0 0);rw[hwf];obtain ⟨e0,e1,e2,e3,e4,e5⟩:=z01 hrw;exact bodyPost_ret (v:= .agg #[.int .i64 0,.string ⟨#[]⟩,.slice none 0 0,.int .i64 0,.int .i64 0,.slice none 0 0]) (by simp[results,Tryz.results63,go_sem,e0,e1,e2,e3,e4,e5]) rfl ⟨nHd,[],rfl,OwN.none wf (m+1),List.nodup_nil,fun b h=>(by cases h),hbf⟩
 · have hze:=HZE.out
   rw[if_pos hok] at hze;rw[← hze] at HF;have HC:=hid (HF.out hok);clear HF HO hze hok HZE;obtain ⟨a0,a1,a2,a3,a4,a5⟩:=z01 HX1.out
   go_wp2_with fail
   clear a0 a1 a2 a3 a4 a5;refine (HC.out _ HB1.out).mono ?_;rintro e w2 ⟨hy,bs,rfl,hown,hnd,hge,hb2⟩;have HZ2:=hid ((hb2.block _ (z00 HZ1.out)).trans HZ1.out);have HB2:=hid (HB1.out.trans (hb2.mono HB1.out.size));have HOW:=hid hown;have HND:=hid (And.intro hnd hge);obtain ⟨z0,z1,z2,z3,z4,z5⟩:=z01 HZ2.out;have zf:=z02 HZ2.out;clear hb2 hown hnd hge
   go_wp2_with fail
   obtain ⟨wf,hwf,hrw,hbf,hkf⟩:=fin6w HZ2.out HB2.out (by omega) (.int .i64 Z0.kind) (.string Z0.data) (.slice hy.A Z0.ptrs.length hy.a) (.int .i64 Z0.size) (.int .i64 Z0.count) (.slice hy.B Z0.items.length hy.b);rw[hwf];obtain ⟨e0,e1,e2,e3,e4,e5⟩:=z01 hrw;exact bodyPost_ret (v:= .agg #[.int .i64 Z0.kind,.string Z0.data,.slice hy.A Z0.ptrs.length hy.a,.int .i64 Z0.size,.int .i64 Z0.count,.slice hy.B Z0.items.length hy.b]) (by simp[results,Tryz.results63,go_sem,e0,e1,e2,e3,e4,e5]) rfl ⟨hy,bs,rfl,HOW.out.frame (fun b hb=>hkf b (by have:=HND.out.2 b hb; omega)),HND.out.1,fun b hb=>by have:=HND.out.2 b hb; omega,hbf⟩
end Go.Proofs.YtlbfffokkhccaaaGreatDoor
namespace Go.Proofs.YtlbfffokkhccaaaGreatDoor
open Go.RowKit
theorem nd_eq (n n':Nd):n=n'↔n.kind=n'.kind∧n.data=n'.data∧n.size=n'.size∧n.count=n'.count∧n.ptrs=n'.ptrs∧n.items=n'.items:=by
 cases n;cases n'
 simp only[Nd.mk.injEq,Nd.kind,Nd.data,Nd.size,Nd.count,Nd.ptrs,Nd.items]
 exact ⟨fun h=>⟨h.1,h.2.1,h.2.2.2.1,h.2.2.2.2.1,h.2.2.1,h.2.2.2.2.2⟩,fun h=>⟨h.1,h.2.1,h.2.2.2.2.1,h.2.2.1,h.2.2.2.1,h.2.2.2.2.2⟩⟩
theorem z48 {b:Bool}{p:Prop}(h:b=true↔p)(hp:¬p):b=false:=by cases b; rfl; exact absurd (h.1 rfl) hp
theorem z9d {p:Prop}(hp:p):(true=true↔p):=⟨fun _=>hp,fun _=>rfl⟩
theorem zew {p:Prop}(hp:¬p):(false=true↔p):=⟨fun h=>(by cases h),fun h=>absurd h hp⟩
theorem z8l {w:World}{S S':Nat→Prop}{m m':Nat}{p:Addr}{n n':Nd}{h h':Hd}(ih:∀(m':Nat) (A:Option Addr) (l l':List Nd),NdsAt w S m A l→NdsAt w S' m' A l'→l.length=l'.length→l=l')
 (c:NdCell w p n h) (c':NdCell w p n' h') (a:NdAt w S m n h) (a':NdAt w S' m' n' h'):n=n':=by
 have e0:=Option.some.inj (c.c0.symm.trans c'.c0);have e1:=Option.some.inj (c.c1.symm.trans c'.c1);have e2:=Option.some.inj (c.c2.symm.trans c'.c2);have e3:=Option.some.inj (c.c3.symm.trans c'.c3);have e4:=Option.some.inj (c.c4.symm.trans c'.c4);have e5:=Option.some.inj (c.c5.symm.trans c'.c5)
 simp only[Value.int.injEq,Value.string.injEq,Value.slice.injEq,true_and] at e0 e1 e2 e3 e4 e5
 have a1:=a'.2.1;have a2:=a'.2.2;rw[← e2.1] at a1;rw[← e5.1] at a2;exact (nd_eq n n').2 ⟨e0,e1,e3,e4,ih m' h.A n.ptrs n'.ptrs a.2.1 a1 e2.2.1,ih m' h.B n.items n'.items a.2.2 a2 e5.2.1⟩
theorem zbu {w:World}{S S':Nat→Prop} :∀(m m':Nat) (A:Option Addr) (l l':List Nd),NdsAt w S m A l→NdsAt w S' m' A l'→l.length=l'.length→l=l'
 | 0,m',A,l,l',h,h',hl=>by
   obtain rfl:=h.zero;exact (List.eq_nil_of_length_eq_zero hl.symm).symm
 | m+1,m',A,l,l',h,h',hl=>by
   apply List.ext_getElem hl
   intro k h1 h2
   obtain ⟨x,hx,hA,c,n⟩:=h.at_ h1;obtain ⟨y,hy,hA',c',n'⟩:=(h'.mono (Nat.le_succ m')).at_ h2
   obtain rfl:x=y:=by rw[hA] at hA'; exact Option.some.inj hA'
   exact z8l (zbu m) c c' n n'
theorem zea {w:World}{S S':Nat→Prop}{m m':Nat}{p:Addr}{n n':Nd}{h h':Hd}(c:NdCell w p n h)(c':NdCell w p n' h')(a:NdAt w S m n h)(a':NdAt w S' m' n' h'):n=n':=z8l (zbu m) c c' a a'
def z7e (n n':Nd):Prop:=n.kind=n'.kind∧n.data=n'.data∧n.size=n'.size∧n.count=n'.count∧n.ptrs.length=n'.ptrs.length∧n.items.length=n'.items.length
def zbd (D:List (Nd×Nd))(l l':List Nd):Prop:=∀(k:Nat) x y,l[k]? =some x→l'[k]? =some y→(x,y)∈D
def zbk (D E:List (Nd×Nd)):Prop:=∀d∈D,z7e d.1 d.2∧zbd E d.1.ptrs d.2.ptrs∧zbd E d.1.items d.2.items
theorem zlo (n:Nd):SizeOf.sizeOf n.ptrs+SizeOf.sizeOf n.items<SizeOf.sizeOf n:=by
 cases n
 simp only[Nd.ptrs,Nd.items,Nd.mk.sizeOf_spec]
 omega
theorem zf1 {D:List (Nd×Nd)}{l l':List Nd}(hl:l.length=l'.length)(h:zbd D l l')(ih:∀x∈l,∀y,(x,y)∈D→x=y):l=l':=by
 apply List.ext_getElem hl
 intro k h1 h2
 exact ih _ (List.getElem_mem h1) _ (h k _ _ (List.getElem?_eq_getElem h1) (List.getElem?_eq_getElem h2))
theorem z6e {D:List (Nd×Nd)}(hD:zbk D D):∀(N:Nat) (n n':Nd),SizeOf.sizeOf n≤N→(n,n')∈D→n=n'
 | 0,n,n',h,_=>by have:=zlo n; omega
 | N+1,n,n',h,hm=>by
   obtain ⟨⟨e0,e1,e2,e3,e4,e5⟩,w1,w2⟩:=hD _ hm;have hs:=zlo n;refine (nd_eq n n').2 ⟨e0,e1,e2,e3,zf1 e4 w1 fun x hx y hy=>?_,zf1 e5 w2 fun x hx y hy=>?_⟩
   · have:=List.sizeOf_lt_of_mem hx
     exact z6e hD N x y (by omega) hy
   · have:=List.sizeOf_lt_of_mem hx
     exact z6e hD N x y (by omega) hy
abbrev PT:=(Addr×Addr)×(Nd×Nd)
def Lies (w:World)(S:Nat→Prop)(M:Nat)(t:PT):Prop:=S t.1.1.block∧S t.1.2.block∧∃(h h':Hd) (m':Nat),NdCell w t.1.1 t.2.1 h∧NdAt w S M t.2.1 h∧NdCell w t.1.2 t.2.2 h'∧NdAt w S m' t.2.2 h'
theorem Lies.one {w:World}{S:Nat→Prop}{M:Nat}{p:Addr×Addr}{d d':Nd×Nd}(h:Lies w S M (p,d))(h':Lies w S M (p,d')):d=d':=by
 obtain ⟨_,_,x,y,m',c,a,c',a'⟩:=h;obtain ⟨_,_,x2,y2,m2',c2,a2,c2',a2'⟩:=h';exact Prod.ext (zea c c2 a a2) (zea c' c2' a' a2')
def pts (x y:Addr):Nat→List Nd→List Nd→List PT
 | i,a :: l,b :: l'=>((x.add (i*6),y.add (i*6)),(a,b)) :: pts x y (i+1) l l'
 | _,_,_=> []
theorem z5v (x y:Addr):∀(i:Nat) (l l':List Nd),l.length=l'.length→(pts x y i l l').length=l.length
 | i,[],[],_=>rfl
 | i,a :: l,b :: l',h=>by
   simp only[pts,List.length_cons]
   rw[z5v x y (i+1) l l' (by simpa using h)]
 | i,[],b :: l',h=>by simp at h
 | i,a :: l,[],h=>by simp at h
theorem zh6 (x y:Addr):∀(i:Nat) (l l':List Nd) (k:Nat) (a b:Nd),l[k]? =some a→l'[k]? =some b→(pts x y i l l')[k]? =some ((x.add ((i+k)*6),y.add ((i+k)*6)),(a,b))
 | i,u :: l,v :: l',0,a,b,ha,hb=>by
   simp at ha hb
   subst ha hb
   rfl
 | i,u :: l,v :: l',k+1,a,b,ha,hb=>by
   have:=zh6 x y (i+1) l l' k a b (by simpa using ha) (by simpa using hb);rw[show i+1+k=i+(k+1) by omega] at this
   simpa [pts] using this
 | i,[],l',k,a,b,ha,hb=>by simp at ha
 | i,u :: l,[],k,a,b,ha,hb=>by simp at hb
theorem zl9 (x y:Addr)(i:Nat)(l l':List Nd)(t:PT)(hl:l.length=l'.length)(h:t∈pts x y i l l'):∃k,∃h1:k<l.length,∃h2:k<l'.length,t=((x.add ((i+k)*6),y.add ((i+k)*6)),(l[k],l'[k])):=by
 obtain ⟨k,hk0,rfl⟩:=List.mem_iff_getElem.1 h;have hk:=hk0;rw[z5v x y i l l' hl] at hk;refine ⟨k,hk,by omega,?_⟩;have:=zh6 x y i l l' k _ _ (List.getElem?_eq_getElem hk) (List.getElem?_eq_getElem (by omega));rw[List.getElem?_eq_getElem hk0] at this;exact Option.some.inj this
theorem zl6 (x y:Addr)(f:Nd→Nat):∀(i:Nat) (l l':List Nd),((pts x y i l l').map fun t=>f t.2.1).sum≤(l.map f).sum
 | i,[],l'=>by cases l' <;> simp[pts]
 | i,a :: l,[]=>by simp[pts]
 | i,a :: l,b :: l'=>by
   have:=zl6 x y f (i+1) l l'
   simp only[pts,List.map_cons,List.sum_cons]
   omega
def wt (M:Nat)(G:List PT):Nat:=(G.map fun t=>1+totN M t.2.1).sum
theorem zk3 (M:Nat)(G H:List PT):wt M (G++H)=wt M G+wt M H:=by unfold wt; rw[List.map_append,List.sum_append]
theorem ze3 (M:Nat):∀G:List PT,G.length≤wt M G
 | []=>Nat.le_refl _
 | t :: G=>by
   have:=ze3 M G
   show G.length+1≤(1+totN M t.2.1)+wt M G
   omega
theorem zhe {w:World}{S:Nat→Prop}{M:Nat}{A:Option Addr}{l:List Nd}(x y:Addr)(l':List Nd)(h:NdsAt w S M A l):wt M (pts x y 0 l l')≤totL M l:=by
 have h1:=zl6 x y (fun n=>1+totN M n) 0 l l'
 have h2:(l.map fun n=>1+totN M n).sum=totL M l:=by rw[← z0q]; exact z7o M A l h
 unfold wt;omega
theorem NdsAt.blk {w:World}{S:Nat→Prop}{m:Nat}{A:Option Addr}{l:List Nd}(h:NdsAt w S m A l){k:Nat}(hk:k<l.length):S (A.getD default).block:=by
 obtain ⟨j,rfl⟩:=h.pred hk;obtain ⟨_,q,rfl,hc,_⟩:=h;rw[List.length_map] at hk
 rcases hc with rfl | ⟨x,rfl,hs,_⟩
 · cases hk
 · exact hs
theorem zb2 (x y:Addr)(l l':List Nd):zbd ((pts x y 0 l l').map (·.2)) l l':=by
 intro k a b ha hb
 have:=zh6 x y 0 l l' k a b ha hb;exact List.mem_map.2 ⟨_,List.mem_of_getElem? this,rfl⟩
theorem zgi {w:World}{S:Nat→Prop}{M m':Nat}{A B:Option Addr}{l l':List Nd}(h:NdsAt w S M A l)(h':NdsAt w S m' B l')(hl:l.length=l'.length):∀t∈pts (A.getD default) (B.getD default) 0 l l',Lies w S M t:=by
 intro t ht
 obtain ⟨k,h1,h2,rfl⟩:=zl9 _ _ _ _ _ _ hl ht;have s1:=h.blk h1;have s2:=h'.blk h2;obtain ⟨j,rfl⟩:=h.pred h1;obtain ⟨j',rfl⟩:=h'.pred h2;obtain ⟨x,hx,rfl,c,n⟩:=h.at_ h1;obtain ⟨y,hy,rfl,c',n'⟩:=h'.at_ h2;rw[Nat.zero_add];exact ⟨by rw[z0r]; exact s1,by rw[z0r]; exact s2,hx,hy,j',c,n.mono (Nat.le_succ j),c',n'⟩
structure Inv (w:World) (S:Nat→Prop) (M:Nat) (n0 n0':Nd) (G:List PT) (K:List (Addr×Addr)) (D:List (Nd×Nd)):Prop where
 lies:∀t∈G,Lies w S M t
 keys:∀a∈K,∃d,Lies w S M (a,d)∧d∈D
 closed:zbk D (D++G.map (·.2))
 root:(n0,n0')∈D++G.map (·.2)
 sound:n0=n0'→∀t∈G,t.2.1=t.2.2
theorem zbk.sub {D E E':List (Nd×Nd)}(h:zbk D E)(hs:∀x∈E,x∈E'):zbk D E':=fun d hd=>⟨(h d hd).1,fun k x y a b=>hs _ ((h d hd).2.1 k x y a b),fun k x y a b=>hs _ ((h d hd).2.2 k x y a b)⟩
theorem Inv.end_ {w:World}{S:Nat→Prop}{M:Nat}{n0 n0':Nd}{K:List (Addr×Addr)}{D:List (Nd×Nd)}(h:Inv w S M n0 n0' [] K D):n0=n0':=by
 have hc:zbk D D:=h.closed.sub (by simp);exact z6e hc _ n0 n0' (Nat.le_refl _) (by simpa using h.root)
theorem Inv.skip {w:World}{S:Nat→Prop}{M:Nat}{n0 n0':Nd}{G:List PT}{t:PT}{K:List (Addr×Addr)}{D:List (Nd×Nd)}(h:Inv w S M n0 n0' (G++ [t]) K D)(hk:t.1∈K):Inv w S M n0 n0' G K D:=by
 obtain ⟨d,h1,h2⟩:=h.keys _ hk;obtain ⟨p,q⟩:=t;obtain rfl:=(h.lies (p,q) (by simp)).one h1
 have hs:∀x∈D++(G++ [(p,q)]).map (·.2),x∈D++G.map (·.2):=by
  intro x hx
  simp only[List.map_append,List.map_cons,List.map_nil,List.mem_append,List.mem_cons,List.not_mem_nil,or_false] at hx ⊢
  rcases hx with hx | hx | hx
  · exact .inl hx
  · exact .inr hx
  · exact .inl (hx ▸ h2)
 exact ⟨fun t ht=>h.lies t (List.mem_append_left _ ht),h.keys,h.closed.sub hs,hs _ h.root,fun e t ht=>h.sound e t (List.mem_append_left _ ht)⟩
theorem Inv.step {w:World}{S:Nat→Prop}{M:Nat}{n0 n0':Nd}{G H1 H2:List PT}{t:PT}{K:List (Addr×Addr)}{D:List (Nd×Nd)}(h:Inv w S M n0 n0' (G++ [t]) K D)(hp:z7e t.2.1 t.2.2)
 (l1:∀u∈H1,Lies w S M u) (l2:∀u∈H2,Lies w S M u) (i1:zbd (H1.map (·.2)) t.2.1.ptrs t.2.2.ptrs) (i2:zbd (H2.map (·.2)) t.2.1.items t.2.2.items)
 (s1:t.2.1=t.2.2→∀u∈H1,u.2.1=u.2.2) (s2:t.2.1=t.2.2→∀u∈H2,u.2.1=u.2.2):Inv w S M n0 n0' (G++H1++H2) (K++ [t.1]) (t.2 :: D):=by
 have hs:∀x∈D++(G++ [t]).map (·.2),x∈(t.2 :: D)++(G++H1++H2).map (·.2):=by
  intro x hx
  simp only[List.map_append,List.map_cons,List.map_nil,List.mem_append,List.mem_cons,List.not_mem_nil,or_false] at hx ⊢
  rcases hx with hx | hx | hx
  · exact .inl (.inr hx)
  · exact .inr (.inl (.inl hx))
  · exact .inl (.inl hx)
 refine ⟨fun u hu=>?_,fun a ha=>?_,fun d hd=>?_,hs _ h.root,fun e u hu=>?_⟩
 · simp only[List.mem_append] at hu
   rcases hu with (hu | hu) | hu
   · exact h.lies u (List.mem_append_left _ hu)
   · exact l1 u hu
   · exact l2 u hu
 · rcases List.mem_append.1 ha with ha | ha
   · obtain ⟨d,h1,h2⟩:=h.keys a ha
     exact ⟨d,h1,List.mem_cons_of_mem _ h2⟩
   · obtain rfl:=List.mem_singleton.1 ha
     exact ⟨t.2,h.lies t (by simp),List.mem_cons_self⟩
 · rcases List.mem_cons.1 hd with rfl | hd
   · refine ⟨hp,fun k x y a b=>?_,fun k x y a b=>?_⟩
     · have:=i1 k x y a b
       simp only[List.map_append,List.mem_append]
       exact .inr (.inl (.inr this))
     · have:=i2 k x y a b
       simp only[List.map_append,List.mem_append]
       exact .inr (.inr this)
   · exact (h.closed.sub hs) d hd
 · simp only[List.mem_append] at hu
   have ht:=h.sound e t (by simp)
   rcases hu with (hu | hu) | hu
   · exact h.sound e u (List.mem_append_left _ hu)
   · exact s1 ht u hu
   · exact s2 ht u hu
theorem zi9 (x y:Addr){l l':List Nd}(e:l=l'):∀u∈pts x y 0 l l',u.2.1=u.2.2:=by
 subst e
 intro u hu
 obtain ⟨k,h1,h2,rfl⟩:=zl9 _ _ _ _ _ _ rfl hu
 rfl
open Go.RowKit Go.Deep
abbrev prT:TypeId:=181
abbrev prsT:TypeId:=182
theorem zss:(Tryz.prog.info? prT).map (fun i=>(i.zero,i.size,i.bytes))=some (some (.agg #[.pointer none,.pointer none]),2,16):=by kernel_rfl
def rowP:List PT→List Value
 | []=> []
 | t :: r=> .pointer (some t.1.1) :: .pointer (some t.1.2) :: rowP r
theorem z2z:∀G,(rowP G).length=G.length*2
 | []=>rfl
 | t :: r=>by simp only[rowP,List.length_cons,z2z r]; omega
theorem z5i:∀(G H:List PT),rowP (G++H)=rowP G++rowP H
 | [],_=>rfl
 | t :: r,H=>by rw[List.cons_append,rowP,z5i r H]; rfl
theorem zgy:∀(G:List PT),∀u∈rowP G,u.oneCell'=true
 | [],_,h=>by cases h
 | t :: r,u,h=>by
   rcases List.mem_cons.1 h with rfl | h
   · rfl
   rcases List.mem_cons.1 h with rfl | h
   · rfl
   exact zgy r u h
theorem zlf (G:List PT)(t:PT):(rowP (G++ [t]))[G.length*2]? =some (.pointer (some t.1.1))∧(rowP (G++ [t]))[G.length*2+1]? =some (.pointer (some t.1.2)):=by
 rw[z5i];have h:=z2z G
 constructor
 · rw[List.getElem?_append_right (by omega),h,Nat.sub_self]; rfl
 · rw[List.getElem?_append_right (by omega),h,show G.length*2+1-G.length*2=1 by omega]; rfl
theorem z5z (base base2:Nat)(ty:TypeId)(w:World)(v v2:Value)(n:Nat)(xs:List Value)(G:List PT)(hown:w.ownsRow base prT 2 v n xs)(h2:w.ownsRow base2 prT 2 v2 G.length (rowP G))(hb:n+G.length≤4000002)(hbase:base≤w.heap.size) :
 ∃v' w',(Builtin.append_ #[prsT,prsT] ty #[v,v2]).run Tryz.prog w= .ok v' w'∧w'.ownsRow base prT 2 v' (n+G.length) (xs++rowP G)∧w.grownBy w' v.ownBlock:=by
 obtain ⟨i0,hi,hz0,hz1,hz2⟩:=info_parts zss;have hlen:=z2z G
 rcases h2.2 with ⟨rfl,h0⟩ | ⟨g,cap,cur,rfl,_,_⟩
 · obtain rfl:=List.eq_nil_of_length_eq_zero h0
   exact ⟨v,w,run_append_owned_none (P:=Tryz.prog) w base prsT ty prT i0 2 Tryz.underlying182 hi v n xs hown,by simpa [rowP] using hown,⟨rfl,rfl,rfl,Nat.le_refl _,fun _ _ _=>rfl⟩⟩
 · obtain ⟨v',w',h1,h3,h4,_⟩:=run_append_own (P:=Tryz.prog) w base prsT ty prT i0 _ 2 16 Tryz.underlying182 hi hz0 hz1 hz2 rfl (by decide) v n xs hown ⟨g,0,none⟩ G.length cap (rowP G) hlen (fun j u hj=>h2.cells (g:=g) rfl j u hj) (zgy G) (by unfold maxLen; omega) (by omega) hbase
   exact ⟨v',w',h1,h3,h4⟩
theorem z52 {ops:Array Oper}{o:Oper}{a:Act}{w:World}{K:Act→World→Prop}{Q:Exit→Act→World→Prop}{E:Prop}(hgd:o.guard=none)(s x:Operand)
 (ho:o.op= .call { callee:= .builtin .append,args:= #[s,x],argTypes:= #[prsT,prsT] })
 (base base2:Nat) (v v2:Value) (n:Nat) (xs:List Value) (G:List PT) (hs:a.eval s=v) (hx:a.eval x=v2) (hown:w.ownsRow base prT 2 v n xs) (h2:w.ownsRow base2 prT 2 v2 G.length (rowP G)) (hb:n+G.length≤4000002) (hbase:base≤w.heap.size)
 (h:∀A' c' w',Hid (w'.ownsRow base prT 2 (.slice A' (n+G.length) c') (n+G.length) (xs++rowP G))→Hid (w.grownBy w' v.ownBlock)→K (a.put o.dst (.slice A' (n+G.length) c')) w') :
 if Region.wanted o (yielded ops a.tmps)=true then Oper.wp Tryz.prog o a w K Q else E:=by
 have hw:Region.wanted o (yielded ops a.tmps)=true:=by simp[Region.wanted,hgd]
 rw[if_pos hw];obtain ⟨v',w',hr,h3,h4⟩:=z5z base base2 o.type w v v2 n xs G hown h2 hb hbase;obtain ⟨A',c',rfl⟩:=z3e h3;unfold Oper.wp execOp
 simp only[ho,resolve,invoke,builtin,Sem.run_bind,Sem.run_pure,Result.andThen_ok,List.map_toArray,List.map_cons,List.map_nil,hs,hx,hr]
 exact h A' c' w' h3 h4
theorem zmr (w:World)(t:PT):(w.alloc (.cells #[.pointer (some t.1.1),.pointer (some t.1.2)] prT)).ownsRow w.heap.size prT 2 (.slice (some ⟨w.heap.size,0,none⟩) 1 1) ([t]:List PT).length (rowP [t]) :=
 World.ownsRow_lit w #[.pointer (some t.1.1),.pointer (some t.1.2)] 1 (Nat.le_refl _) (by decide) rfl
theorem z2h (w:World)(d:Nat):Below w.heap.size w (redrawn w d):=⟨rfl,rfl,rfl,Nat.le_refl _,fun _ _=>rfl⟩
def z7s (n n':Nd):Bool:=decide (n.kind=n'.kind)&&decide (n.data=n'.data)&&decide (n.size=n'.size)&&decide (n.count=n'.count)&&decide (n.ptrs.length=n'.ptrs.length)&&decide (n.items.length=n'.items.length)
theorem z5q (n n':Nd):z7s n n'=true↔z7e n n':=by
 unfold z7s z7e
 simp only[Bool.and_eq_true,decide_eq_true_eq]
 exact ⟨fun ⟨⟨⟨⟨⟨a,b⟩,c⟩,d⟩,e⟩,f⟩=>⟨a,b,c,d,e,f⟩,fun ⟨a,b,c,d,e,f⟩=>⟨⟨⟨⟨⟨a,b⟩,c⟩,d⟩,e⟩,f⟩⟩
theorem zg1 (p p':Addr)(n n':Nd)(h h':Hd)(w:World)(c:NdCell w p n h)(c':NdCell w p' n' h')(_l1:n.ptrs.length≤maxLen)(_l2:n.items.length≤maxLen)(_l3:n'.ptrs.length≤maxLen)(_l4:n'.items.length≤maxLen) :
 Calls Tryz.prog 112 #[.pointer (some p),.pointer (some p')] w fun e w'=>e= .returned (.bool (z7s n n'))∧Below w.heap.size w w':=by
 obtain ⟨c0,c1,c2,c3,c4,c5⟩:=c;obtain ⟨d0,d1,d2,d3,d4,d5⟩:=c';unfold maxLen at _l1 _l2 _l3 _l4;have HQ:=hid (z5q n n');generalize z7s n n'=b at *
 by_cases hx:n.kind=n'.kind
 case neg =>
  have hxb:(n.kind==n'.kind)=false:=by simpa using hx
  obtain rfl:b=false:=z48 HQ.out (fun e=>hx e.1);clear hx;go_enter Tryz.func112,Tryz.ntmps112;go_wp2
  simp only[List.append_eq,List.cons_append,List.nil_append]
  go_big_quiet (fail)
  go_wp2;go_ret;exact ⟨rfl,z2h _ _⟩
 have t0:(n.kind==n'.kind)=true:=by simpa using hx
 have H0:=hid hx;clear hx
 by_cases hx:n.data=n'.data
 case neg =>
  have hxb:(n.data.toList==n'.data.toList)=false:=by rw[toList_eq]; exact decide_eq_false hx
  obtain rfl:b=false:=z48 HQ.out (fun e=>hx e.2.1);clear hx;go_enter Tryz.func112,Tryz.ntmps112;go_wp2
  simp only[List.append_eq,List.cons_append,List.nil_append]
  go_big_quiet (fail)
  go_wp2;go_ret;exact ⟨rfl,z2h _ _⟩
 have t1:(n.data.toList==n'.data.toList)=true:=by rw[toList_eq]; exact decide_eq_true hx
 have H1:=hid hx;clear hx
 by_cases hx:n.size=n'.size
 case neg =>
  have hxb:(n.size==n'.size)=false:=by simpa using hx
  obtain rfl:b=false:=z48 HQ.out (fun e=>hx e.2.2.1);clear hx;go_enter Tryz.func112,Tryz.ntmps112;go_wp2
  simp only[List.append_eq,List.cons_append,List.nil_append]
  go_big_quiet (fail)
  go_wp2;go_ret;exact ⟨rfl,z2h _ _⟩
 have t2:(n.size==n'.size)=true:=by simpa using hx
 have H2:=hid hx;clear hx
 by_cases hx:n.count=n'.count
 case neg =>
  have hxb:(n.count==n'.count)=false:=by simpa using hx
  obtain rfl:b=false:=z48 HQ.out (fun e=>hx e.2.2.2.1);clear hx;go_enter Tryz.func112,Tryz.ntmps112;go_wp2
  simp only[List.append_eq,List.cons_append,List.nil_append]
  go_big_quiet (fail)
  go_wp2;go_ret;exact ⟨rfl,z2h _ _⟩
 have t3:(n.count==n'.count)=true:=by simpa using hx
 have H3:=hid hx;clear hx
 by_cases hx:n.ptrs.length=n'.ptrs.length
 case neg =>
  have hxb:((n.ptrs.length:Int)==(n'.ptrs.length:Int))=false:=by simp; omega
  obtain rfl:b=false:=z48 HQ.out (fun e=>hx e.2.2.2.2.1);clear hx;go_enter Tryz.func112,Tryz.ntmps112;go_wp2
  simp only[List.append_eq,List.cons_append,List.nil_append]
  go_big_quiet (fail)
  go_wp2;go_ret;exact ⟨rfl,z2h _ _⟩
 have t4:((n.ptrs.length:Int)==(n'.ptrs.length:Int))=true:=by simp; omega
 have H4:=hid hx;clear hx
 by_cases hx:n.items.length=n'.items.length
 case neg =>
  have hxb:((n.items.length:Int)==(n'.items.length:Int))=false:=by simp; omega
  obtain rfl:b=false:=z48 HQ.out (fun e=>hx e.2.2.2.2.2);clear hx;go_enter Tryz.func112,Tryz.ntmps112;go_wp2
  simp only[List.append_eq,List.cons_append,List.nil_append]
  go_big_quiet (fail)
  go_wp2;go_ret;exact ⟨rfl,z2h _ _⟩
 have t5:((n.items.length:Int)==(n'.items.length:Int))=true:=by simp; omega
 have H5:=hid hx;clear hx;obtain rfl:b=true:=HQ.out.2 ⟨H0.out,H1.out,H2.out,H3.out,H4.out,H5.out⟩;go_enter Tryz.func112,Tryz.ntmps112;go_wp2;go_wp2
 try simp only[List.append_eq,List.cons_append,List.nil_append]
 go_big_quiet (fail)
 go_wp2;go_ret;exact ⟨rfl,z2h _ _⟩
def zhw (A B:Option Addr)(l l':List Nd)(w:World)(e:Ending)(w':World):Prop :=
 ∃v,e= .returned v∧w'.ownsRow w.heap.size prT 2 v (pts (A.getD default) (B.getD default) 0 l l').length (rowP (pts (A.getD default) (B.getD default) 0 l l'))∧Below w.heap.size w w'
theorem zp5 (x y:Addr)(l l':List Nd)(hl:l.length=l'.length)(k:Nat)(n n':Nd)(h:l[k]? =some n)(h':l'[k]? =some n'):(pts x y 0 l l').take (k+1)=(pts x y 0 l l').take k++ [((x.add (k*6),y.add (k*6)),(n,n'))]:=by
 have hp:=z5v x y 0 l l' hl;have:=zh6 x y 0 l l' k _ _ h h';obtain ⟨hk,he⟩:=List.getElem?_eq_some_iff.1 this;rw[List.take_succ_eq_append_getElem hk,he,Nat.zero_add]
theorem zdf (A B:Option Addr)(c c':Nat)(l l':List Nd)(w:World)(hA:l= []∨∃x,A=some x)(hB:l'= []∨∃y,B=some y)(hl:l.length=l'.length)(hm:l.length≤2000000) :
 Calls Tryz.prog 113 #[.slice A l.length c,.slice B l'.length c'] w (zhw A B l l' w):=by
 have hpl:=z5v (A.getD default) (B.getD default) 0 l l' hl
 have hts:∀k n n',l[k]? =some n→l'[k]? =some n'→(pts (A.getD default) (B.getD default) 0 l l').take (k+1)=(pts (A.getD default) (B.getD default) 0 l l').take k++ [(((A.getD default).add (k*6),(B.getD default).add (k*6)),(n,n'))]:=fun k n n' h h'=>zp5 _ _ l l' hl k n n' h h'
 rw[← hl];have HPL:=hid hpl;have HTS:=hid hts;unfold zhw;generalize hG:pts (A.getD default) (B.getD default) 0 l l'=G at *;have HA:=hid hA;have HBB:=hid hB;have HL:=hid hl;clear hG hpl hts hA hB hl;go_enter Tryz.func113,Tryz.ntmps113
 go_wp2_with fail
 go_loopw [5,9] (fun v i wr=>∃k:Nat,i= .int .i64 k∧k≤l.length∧Hid (wr.ownsRow w.heap.size prT 2 v k (rowP (G.take k)))∧Hid (Below w.heap.size w wr)) (fun _ i _=>l.length-(intOf i).toNat)
 case atStart=>exact ⟨0,rfl,by omega,hid (World.ownsRow_nil _ _ _ _),hid (Below.refl _ _)⟩
 case round =>
  obtain ⟨k,rfl,hk,HO,HB⟩:=hrel
  by_cases hlt:k<l.length
  · have hlt':k<l'.length:=by have:=HL.out; omega
    obtain ⟨x,rfl⟩:∃x,A=some x:=by
     rcases HA.out with h | h
     · subst h; cases hlt
     · exact h
    obtain ⟨y,rfl⟩:∃y,B=some y:=by
     rcases HBB.out with h | h
     · subst h; cases hlt'
     · exact h
    obtain ⟨n,hn⟩:∃n,l[k]? =some n:=⟨_,List.getElem?_eq_getElem hlt⟩
    obtain ⟨n',hn'⟩:∃n,l'[k]? =some n:=⟨_,List.getElem?_eq_getElem hlt'⟩
    have htk:=HTS.out k n n' hn hn';have HRT:Hid (rowP (G.take (k+1))=rowP (G.take k)++rowP [(((x.add (k*6)),(y.add (k*6))),(n,n'))]):=hid (by rw[htk,z5i]; rfl);have hwr:=HB.out.size
    have hk2:(k:Int)<(l.length:Int):=by omega
    clear htk hn hn'
    go_wp2_with fail
    go_region_law (first | (refine z52 rfl (.tmp 12) (.tmp 20) rfl w.heap.size wr.heap.size _ (.slice (some ⟨wr.heap.size,0,none⟩) 1 1) k _ [(((x.add (k*6)),(y.add (k*6))),(n,n'))] rfl rfl (HO.out.alloc _) (zmr wr (((x.add (k*6)),(y.add (k*6))),(n,n'))) (by simp; omega) (by simp; omega) ?_; intro A4 c4 w4 hown4 hgrow4))
    all_goals
     have HO4:Hid (w4.ownsRow w.heap.size prT 2 (.slice A4 (k+1) c4) (k+1) (rowP (G.take (k+1)))):=hid (by rw[HRT.out]; exact hown4.out);have HB4:=hid ((HB.out.alloc HB.out.size _).drew.grown hgrow4.out (by simp; omega) (fun k hk=>(HO.out.lt k hk).1));clear hown4 hgrow4;go_wp2
     go_roundw
     case rel=>exact ⟨k+1,by go_num,by omega,HO4,HB4⟩
     case measure=>simp[intOf]; omega
  · obtain rfl:k=l.length:=by omega
    have HO2:=hid HO.out;rw[show G.take l.length=G from List.take_of_length_le (by rw[HPL.out]; exact Nat.le_refl _)] at HO2;go_wp2;go_ret;exact ⟨_,rfl,by rw[HPL.out]; exact HO2.out,HB.out⟩
end Go.Proofs.YtlbfffokkhccaaaGreatDoor
