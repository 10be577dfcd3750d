/- Texts of the proof of the law FnRecordCanon, side by side: part 43. -/
import Derived.Test.YtblcibgphccfkaaGreatDoorMRecordCanon42
set_option maxHeartbeats 8000000
set_option maxRecDepth 100000
open Go.Lib (hid)
namespace Go.Proofs.YtblcibgphccfkaaGreatDoor
open Go.RowKit Go.Deep
theorem z5h {ops:Array Oper}{rest:List Oper}{o:Oper}{a:Act}{w:World}{Q:Exit→Act→World→Prop}(hgd:o.guard=none)(s x:Operand)
 (ho:o.op= .call { callee:= .builtin .append,args:= #[s,x],argTypes:= #[z28,3] })
 (v:Value) (n:Nat) (xs:List Value) (hs:a.eval s=v) (hown:w.ownsRow 0 nodeT 6 v n xs) (k:Nat) (hx:a.eval x= .int .i64 (k:Int)) (hb:n+k≤3000000)
 (h:∀A' c' w',Hid (w'.ownsRow 0 nodeT 6 (.slice A' (n+k) c') (n+k) (xs++rowOf (List.replicate k (z07,nHd))))→Hid (w.grownBy w' v.ownBlock)→Hid ((Value.slice A' (n+k) c').ownBlock=v.ownBlock∨(Value.slice A' (n+k) c').ownBlock=some w.heap.size)→wpList Tryz.prog ops Q rest (a.put o.dst (.slice A' (n+k) c')) w') :
 wpList Tryz.prog ops Q (o :: rest) a w :=
 wpList_plain hgd fun K hK=>by
  obtain ⟨v',w',hr,h2,h3,h5⟩:=z74 o.type w v n xs hown k hb;obtain ⟨A',c',rfl⟩:=z2d h2;unfold Oper.wp execOp
  simp only[ho,resolve,invoke,builtin,Sem.run_bind,Sem.run_pure,Result.andThen_ok,List.map_toArray,List.map_cons,List.map_nil,hs,hx,hr]
  exact hK _ _ (h A' c' w' h2 h3 h5)
theorem rep0V (n:Nat):Lib.repeatL [0] n=List.replicate n (0:UInt8):=by
 induction n with
 | zero=>rfl
 | succ n ih=>rw[Lib.repeatL,ih,List.replicate_succ]; rfl
theorem zgb (n:Nat)(w:World)(hn:n≤1000000):Calls Tryz.prog 76 #[.string ⟨#[0]⟩,.int .i64 (n:Int)] w fun e w'=>e= .returned (.string (zeroD n))∧Below w.heap.size w w':=by
 have:=Tryz.strings_Repeat ⟨#[0]⟩ n w (by omega) (by show 1*_≤_; omega);rw[show (⟨#[0]⟩:ByteArray).data.toList= [0] from rfl,rep0V] at this;exact this
def EvP (A:Option Addr)(c:Nat)(l:List Nd)(M:Nat)(bs:List Nat)(w:World)(e:Ending)(w':World):Prop :=
 e= .returned (.slice A l.length c)∧∃bs':List Nat,OwS w' (M+1) A c (evenL l) bs'∧bs'.Nodup∧(∀b∈bs',b∈bs∨w.heap.size≤b)∧OnlyIn bs w w'
def EvR (D P:Nat)(l:List Nd)(g c M:Nat)(bs:List Nat)(w:World)(k:Nat)(wr:World):Prop :=
 ∃pre post:List NB,pre.length=k∧(pre.map (·.1)=(l.take k).map (evenN D P)∧post.map (·.1)=l.drop k)∧RowG wr g c (pre++post) M∧(∀b∈blkB (pre++post),b∈bs∨w.heap.size≤b)∧OnlyIn bs w wr
theorem z8i (M g c:Nat)(l:List Nd)(bs:List Nat)(w:World)(hown:OwS w (M+2) (some ⟨g,0,none⟩) c l bs)(hnd:bs.Nodup)(hD:∀n∈l,n.data.size≤2000)(hP:∀n∈l,n.ptrs.length≤1000000)(hlm:l.length≤2000000) :
 Calls Tryz.prog 87 #[.slice (some ⟨g,0,none⟩) l.length c] w (EvP (some ⟨g,0,none⟩) c l (M+1) bs w):=by
 have HN:=hid (hown.nds _ _ _ _ _);obtain ⟨q,hq,hb,HG0⟩:=hown.rowG hnd;have HQ:=hid hq;have HBS:=hid hb;have HG:=hid HG0;have HDD:=hid (And.intro hD hP);clear hown hnd hq hb HG0 hD hP;go_enter Tryz.func87,Tryz.ntmps87;go_wp2
 go_loopw [3,4,11] (fun d p i wr=>∃k:Nat,d= .int .i64 (topD (l.take k):Nat)∧p= .int .i64 (topP (l.take k):Nat)∧i= .int .i64 k∧k≤l.length∧Hid (Below w.heap.size w wr)) (fun _ _ i _=>l.length-(intOf i).toNat)
 case atStart=>exact ⟨0,rfl,rfl,rfl,by omega,hid (Below.refl _ _)⟩
 case round =>
  obtain ⟨k,rfl,rfl,rfl,hk,HB⟩:=hrel
  by_cases hlt:k<l.length
  · obtain ⟨x,hd,hxe,hc, -⟩:=(HN.out.below HB.out).at_ hlt
    obtain rfl:(⟨g,0,none⟩:Addr)=x:=Option.some.inj hxe;obtain ⟨d0,d1,d2,d3,d4,d5⟩:=hc.flat;have htn:l.take k++ [l[k]]=l.take (k+1):=(List.take_succ_eq_append_getElem hlt).symm;have HT1:Hid (topD (l.take (k+1))=max (topD (l.take k)) l[k].data.size∧topP (l.take (k+1))=max (topP (l.take k)) l[k].ptrs.length):=hid ⟨by rw[← htn,zbv],by rw[← htn,zba]⟩;have hba:=(Below.refl wr.heap.size wr).alloc (Nat.le_refl _) (.cells #[.int .i64 l[k].kind,.string l[k].data,.slice hd.A l[k].ptrs.length hd.a,.int .i64 l[k].size,.int .i64 l[k].count,.slice hd.B l[k].items.length hd.b] nodeT);have HB2:=hid (HB.out.trans (hba.mono HB.out.size));clear hc hxe htn hba;generalize l[k]=y at *;go_wp2
    go_roundw
    case rel=>exact ⟨k+1,by rw[HT1.out.1]; congr 1; omega,by rw[HT1.out.2]; congr 1; omega,by go_num,by omega,HB2⟩
    case measure=>simp[intOf]; omega
  · obtain rfl:k=l.length:=by omega
    rw[List.take_of_length_le (Nat.le_refl _)]
    obtain ⟨D,hDd⟩:∃D,D=topD l:=⟨_,rfl⟩
    obtain ⟨P,hPd⟩:∃P,P=topP l:=⟨_,rfl⟩
    rw[← hDd,← hPd];have HDP:=hid (And.intro hDd hPd)
    have hDb:D≤2000:=by rw[hDd]; exact zcq HDD.out.1
    have hPb:P≤1000000:=by rw[hPd]; exact zck HDD.out.2
    have HO1:Hid (OnlyIn bs w wr):=hid (OnlyIn.of_below HB.out);have HG1:=hid (HG.out.below HB.out)
    have HBB:Hid (∀b∈blkB q,b∈bs∨w.heap.size≤b):=hid fun b hb=> .inl (by rw[HBS.out]; exact List.mem_cons_of_mem _ hb)
    clear hlt hDd hPd HB HG;go_wp2
    go_loopw [28] (fun i wr=>∃k:Nat,i= .int .i64 k∧k≤l.length∧Hid (EvR D P l g c (M+1) bs w k wr)) (fun i _=>l.length-(intOf i).toNat)
    case atStart=>exact ⟨0,rfl,by omega,hid ⟨[],q,rfl,⟨rfl,by rw[HQ.out]; rfl⟩,HG1.out,HBB.out,HO1.out⟩⟩
    case round =>
     clear HO1 HG1 HBB;obtain ⟨k,rfl,hkl,HEV⟩:=hrel;obtain ⟨pre,post,hpk,hm0,hg0,hbk0,ho0⟩:=HEV.out;subst hpk;have HM:=hid hm0;have HG:=hid hg0;have HBK:=hid hbk0;have HO:=hid ho0;clear hm0 hg0 hbk0 ho0 HEV
     cases post with
     | nil =>
      have hpl:l.length≤pre.length:=by
       have:=congrArg List.length HM.out.2
       simp at this; omega
      have hpl2:pre.length≤l.length:=by
       have:=congrArg List.length HM.out.1
       simp at this; omega
      have hple:pre.length=l.length:=by omega
      have HRES:Hid (EvP (some ⟨g,0,none⟩) c l (M+1) bs w (.returned (.slice (some ⟨g,0,none⟩) l.length c)) wr):=hid (by
       have hg:=HG.out;rw[List.append_nil] at hg;obtain ⟨o1,o2⟩:=hg.own;have hm:=HM.out.1;rw[hple,List.take_of_length_le (Nat.le_refl _)] at hm
       have he:evenL l=pre.map (·.1):=by rw[hm]; unfold evenL; rw[← HDP.out.1,← HDP.out.2]
       refine ⟨rfl,_,by rw[he]; exact o1,o2,fun b hb=>?_,HO.out⟩
       rcases List.mem_cons.1 hb with rfl | hb
       · exact .inl (by rw[HBS.out]; exact List.mem_cons_self)
       · exact HBK.out b (by rw[List.append_nil]; exact hb))
      clear HG HBK HO HM;go_wp2;go_ret;exact HRES.out
     | cons r t =>
      have hlen:l.length=pre.length+(t.length+1):=by
       have h1:=congrArg List.length HM.out.2;have h2:=congrArg List.length HM.out.1
       simp at h1 h2; omega
      have hlt:pre.length<l.length:=by omega
      have hdrop:l.drop pre.length=l[pre.length] :: l.drop (pre.length+1):=List.drop_eq_getElem_cons hlt
      have hr1:r.1=l[pre.length]∧t.map (·.1)=l.drop (pre.length+1):=by
       have:=HM.out.2;rw[hdrop,List.map_cons] at this
       injection this with e1 e2
       exact ⟨e1,e2⟩
      have hmem:r.1∈l:=by rw[hr1.1]; exact List.getElem_mem hlt
      have hrd:=HDD.out.1 _ hmem;have hrp:=HDD.out.2 _ hmem
      have hDr:r.1.data.size≤D:=by rw[HDP.out.1]; exact z6a _ _ hmem
      have hPr:r.1.ptrs.length≤P:=by rw[HDP.out.2]; exact z81 _ _ hmem
      have HM2:Hid ((pre.map (·.1)++ [evenN D P r.1])=(l.take (pre.length+1)).map (evenN D P)∧t.map (·.1)=l.drop (pre.length+1)):=hid ⟨by rw[HM.out.1,List.take_succ_eq_append_getElem hlt,List.map_append,hr1.1]; rfl,hr1.2⟩
      have hsub:((D:Int)-(r.1.data.size:Int))=((D-r.1.data.size:Nat):Int):=by omega
      obtain ⟨kz,hkz⟩:∃kz:Nat,P=r.1.ptrs.length+kz:=⟨P-r.1.ptrs.length,by omega⟩
      have HKZ:=hid hkz
      have hkzb:kz≤1000000:=by omega
      have hsub2:((P:Int)-(r.1.ptrs.length:Int))=(kz:Int):=by omega
      clear hkz;obtain ⟨d0,d1,d2,d3,d4,d5,df⟩:=HG.out.cells;have hba:=(Below.refl wr.heap.size wr).alloc (Nat.le_refl _) (.cells #[.int .i64 r.1.kind,.string r.1.data,.slice r.2.1.A r.1.ptrs.length r.2.1.a,.int .i64 r.1.size,.int .i64 r.1.count,.slice r.2.1.B r.1.items.length r.2.1.b] nodeT);have HG1:=hid (HG.out.below hba);have HX1:=hid (heap_alloc_new wr (.cells #[.int .i64 r.1.kind,.string r.1.data,.slice r.2.1.A r.1.ptrs.length r.2.1.a,.int .i64 r.1.size,.int .i64 r.1.count,.slice r.2.1.B r.1.items.length r.2.1.b] nodeT));have HO1:=hid (HO.out.trans (OnlyIn.of_below hba));have hgl:=HG.out.lt.1;have hw0:=HO.out.size
      have hs1:(wr.alloc (.cells #[.int .i64 r.1.kind,.string r.1.data,.slice r.2.1.A r.1.ptrs.length r.2.1.a,.int .i64 r.1.size,.int .i64 r.1.count,.slice r.2.1.B r.1.items.length r.2.1.b] nodeT)).heap.size=wr.heap.size+1:=by simp
      have HRP:=hid (fun W=>zgb (D-r.1.data.size) W (by omega));have HSB:=hid (And.intro hsub hsub2);clear hba hdrop hr1 hmem HM HG HO hsub hsub2
      go_wp2_with fail
      clear d0 d1 d2 d3 d4 d5 df;generalize wr.alloc (.cells #[.int .i64 r.1.kind,.string r.1.data,.slice r.2.1.A r.1.ptrs.length r.2.1.a,.int .i64 r.1.size,.int .i64 r.1.count,.slice r.2.1.B r.1.items.length r.2.1.b] nodeT)=W1 at *;obtain ⟨d0,d1,d2,d3,d4,d5,df⟩:=HG1.out.cells;obtain ⟨b0,b1,b2,b3,b4,b5⟩:=z04 HX1.out;have hsub:=HSB.out.1
      have hpt:pre.length<pre.length+(t.length+1):=by omega
      have hd1:(W1.drew).heap.size=W1.heap.size:=rfl
      have hwr1:IntKind.i64.wrap ((D-r.1.data.size:Nat):Int)=((D-r.1.data.size:Nat):Int):=by rw[IntKind.wrap_i64]; omega
      go_region_with (go_at_call 76; (with_reducible refine (HRP.out _).mono ?_); rintro e w2 ⟨rfl,hb2⟩; have HG2:=hid (RowG.below (w:=W1.drew) (RowG.frame HG1.out (fun _ _=>rfl)) hb2); obtain ⟨q0,q1,q2,q3,q4,q5,qf⟩:=HG2.out.cells; have qf1:=qf (pre.length*6+1); have hzs:=z66 (D-r.1.data.size); have f1:¬9223372036854775807<r.1.data.size+(zeroD (D-r.1.data.size)).size:=by omega)
      all_goals
       have hO2:OnlyIn bs w w2:=HO1.out.trans (OnlyIn.of_below ⟨hb2.os,hb2.tape,hb2.output,hb2.size,hb2.block⟩);have hs2:W1.heap.size≤w2.heap.size:=hb2.size;have hX2:=(hb2.block _ (show wr.heap.size<W1.drew.heap.size by omega)).trans HX1.out
       have hG3:=HG2.out.set (n':= .mk r.1.kind (r.1.data++zeroD (D-r.1.data.size)) r.1.ptrs r.1.size r.1.count r.1.items) 1 (.string (r.1.data++zeroD (D-r.1.data.size))) (by decide) rfl (fun f hf hf1=>by
        match f,hf with
        | 0,_=>rfl
        | 1,_=>exact absurd rfl hf1
        | 2,_=>rfl
        | 3,_=>rfl
        | 4,_=>rfl
        | 5,_=>rfl) rfl rfl (by show (r.1.data++zeroD _).size≤maxLen; rw[z1e,z66]; unfold maxLen; omega)
       have hgb:g∈bs:=by rw[HBS.out]; exact List.mem_cons_self
       have HO3:=hid (hO2.trans (OnlyIn.setCell (bs:=bs) (w:=w2) (p:=⟨g,pre.length*6+1,none⟩) hgb (.string (r.1.data++zeroD (D-r.1.data.size)))));have HX3:=hid ((Below.heap_setCell w2 ⟨g,pre.length*6+1,none⟩ (.string (r.1.data++zeroD (D-r.1.data.size))) wr.heap.size (show wr.heap.size≠g by omega)).trans hX2);have HG3:=hid hG3
       have hs3:(w2.setCell ⟨g,pre.length*6+1,none⟩ (.string (r.1.data++zeroD (D-r.1.data.size)))).heap.size=w2.heap.size:=by simp[World.setCell]
       clear hb2 hO2 hX2 hG3 d0 d1 d2 d3 d4 d5 df b0 b1 b2 b3 b4 b5 q0 q1 q2 q3 q4 q5 qf qf1 hzs f1 HG2 hsub hwr1;generalize w2.setCell ⟨g,pre.length*6+1,none⟩ (.string (r.1.data++zeroD (D-r.1.data.size)))=W3 at *;obtain ⟨b0,b1,b2,b3,b4,b5⟩:=z04 HX3.out;obtain ⟨q0,p2,hq0,hown0,hbb,hkids,hitems,hdm⟩:=HG3.out.ptrs;have HOW:Hid (W3.ownsRow 0 nodeT 6 (.slice r.2.1.A r.1.ptrs.length r.2.1.a) r.1.ptrs.length (rowB q0)):=hid hown0
       have hblr:blkB (pre++((.mk r.1.kind (r.1.data++zeroD (D-r.1.data.size)) r.1.ptrs r.1.size r.1.count r.1.items,r.2):NB) :: t)=blkB (pre++r :: t):=by rw[z1x,z1x,z1s,z1s]
       have hsubA:∀b∈blk r.2.1.A,b∈blkB (pre++r :: t):=fun b hm=>by
        rw[z1x,z1s];refine List.mem_append_right _ (List.mem_append_left _ ?_);have hbb':r.2.2=(blk r.2.1.A++blkB q0)++p2:=hbb;rw[hbb'];exact List.mem_append_left _ (List.mem_append_left _ hm)
       have hownb:∀b,some b=(Value.slice r.2.1.A r.1.ptrs.length r.2.1.a).ownBlock→b∈blk r.2.1.A:=fun b e=>by
        rw[zdp r.2.1.A r.1.ptrs.length r.2.1.a,← e]; exact List.mem_singleton.2 rfl
       have hgne:some g≠(Value.slice r.2.1.A r.1.ptrs.length r.2.1.a).ownBlock:=fun e=>by
        obtain ⟨_,_,_,_,_,_,_,_,h8⟩:=HG3.out;rw[hblr] at h8;exact h8 (hsubA g (hownb g e))
       have HSA:=hid (And.intro hsubA hownb);have HPT:=hid (And.intro hq0 (And.intro hbb (And.intro hkids (And.intro hitems hdm))));obtain ⟨e0,e1,e2,e3,e4,e5,ef⟩:=HG3.out.cells;have hg3l:=HG3.out.lt.1;have HCE:=hid (And.intro e2 (ef (pre.length*6+2)));clear hq0 hown0 hbb hkids hitems hdm hblr hsubA hownb e0 e1 e2 e3 e4 e5 ef;have hsub2:=HSB.out.2
       have hwr2:IntKind.i64.wrap (kz:Int)=(kz:Int):=by rw[IntKind.wrap_i64]; omega
       have hlp:r.1.ptrs.length+kz≤3000000:=by omega
       go_wp2_with (at_builtin; go_must (refine z5h rfl (.tmp 50) (.tmp 55) rfl (.slice r.2.1.A r.1.ptrs.length r.2.1.a) r.1.ptrs.length (rowB q0) rfl HOW.out kz rfl hlp ?_); intro A4 c4 w4 hown4 hgrow4 hat4; have k4:=(World.cell?_of_block (w:=W3) (w':=w4) (a:=⟨g,pre.length*6+2,none⟩) (hgrow4.out.block g hg3l hgne)).trans HCE.out.1; have kf4:=(World.frozen?_of_block (w:=W3) (w':=w4) (a:=⟨g,pre.length*6+2,none⟩) (hgrow4.out.block g hg3l hgne)).trans HCE.out.2)
       obtain ⟨r',hr',hgr,hbr⟩:=HG3.out.grow (kz:=kz) HPT.out.1 HPT.out.2.1 HPT.out.2.2.1 HPT.out.2.2.2.1 HPT.out.2.2.2.2 hown4.out hgrow4.out hat4.out
       have hrE:r'.1=evenN D P r.1:=by rw[hr']; unfold evenN; rw[show P-r.1.ptrs.length=kz by have:=HKZ.out; omega]; rfl
       have HG5:Hid (RowG (w4.setCell ⟨g,pre.length*6+2,none⟩ (.slice A4 (r.1.ptrs.length+kz) c4)) g c ((pre++ [r'])++t) (M+1)):=hid (by rw[List.append_assoc]; exact hgr)
       have HM5:Hid ((pre++ [r']).map (·.1)=(l.take (pre++ [r']).length).map (evenN D P)∧t.map (·.1)=l.drop (pre++ [r']).length):=hid (by
        have hl:(pre++ [r']).length=pre.length+1:=by simp
        rw[hl,List.map_append,List.map_singleton,hrE]
        exact HM2.out)
       have HB5:Hid (∀b∈blkB ((pre++ [r'])++t),b∈bs∨w.heap.size≤b):=hid (fun b hm=>by
        rw[List.append_assoc,z1x] at hm;have hold:∀b,b∈blkB (pre++r :: t)→b∈bs∨w.heap.size≤b:=HBK.out
        rcases List.mem_append.1 hm with hm | hm
        · exact hold b (by rw[z1x]; exact List.mem_append_left _ hm)
        · rw[show [r']++t=r' :: t from rfl,z1s] at hm
          rcases List.mem_append.1 hm with hm | hm
          · rcases hbr b hm with h | h
            · exact hold b (by rw[z1x,z1s]; exact List.mem_append_right _ (List.mem_append_left _ h))
            · right; omega
          · exact hold b (by rw[z1x,z1s]; exact List.mem_append_right _ (List.mem_append_right _ hm)))
       have HO5:Hid (OnlyIn bs w (w4.setCell ⟨g,pre.length*6+2,none⟩ (.slice A4 (r.1.ptrs.length+kz) c4))):=hid (by
        have hO4:OnlyIn bs w w4:=⟨hgrow4.out.os.trans HO3.out.os,hgrow4.out.tape.trans HO3.out.tape,hgrow4.out.output.trans HO3.out.output,Nat.le_trans HO3.out.size hgrow4.out.size,fun k hk hn=>(hgrow4.out.block k (Nat.lt_of_lt_of_le hk HO3.out.size) (fun e=>by
         rcases HBK.out k (HSA.out.1 k (HSA.out.2 k e)) with h | h
         · exact hn h
         · omega)).trans (HO3.out.block k hk hn)⟩
        exact hO4.trans (OnlyIn.setCell (p:=⟨g,pre.length*6+2,none⟩) hgb _))
       have HEV5:Hid (EvR D P l g c (M+1) bs w (pre.length+1) (w4.setCell ⟨g,pre.length*6+2,none⟩ (.slice A4 (r.1.ptrs.length+kz) c4))):=hid ⟨pre++ [r'],t,by simp,by have:=HM5.out; rw[show (pre++ [r']).length=pre.length+1 by simp] at this; exact this,HG5.out,HB5.out,HO5.out⟩;clear hown4 hgrow4 hat4 hr' hgr hbr hrE k4 kf4 HCE HPT HSA HM5 HG5 HB5 HO5;go_wp2
       go_roundw
       case rel=>exact ⟨_,_,.int .i64 ((pre.length:Int)+1),⟨pre.length+1,by go_num,by omega,HEV5⟩,rfl,rfl,rfl⟩
       case measure=>simp[intOf]; omega
theorem zcl (c:Nat)(M:Nat)(bs:List Nat)(w:World)(hc:c=0)(hb:bs= []) :
 Calls Tryz.prog 87 #[.slice none 0 c] w (EvP none c [] M bs w):=by
 subst hc hb;have HRES:Hid (EvP none 0 [] M [] w (.returned (.slice none 0 0)) w):=hid ⟨rfl,[],OwS.nil w (M+1),List.nodup_nil,fun b h=>(by cases h),OnlyIn.refl _ _⟩;go_enter Tryz.func87,Tryz.ntmps87;go_wp2
 go_loopw [3,4,11] (fun p q i wr=>p= .int .i64 0∧q= .int .i64 0∧i= .int .i64 0∧wr=w) (fun _ _ _ _=>0)
 case atStart=>exact ⟨rfl,rfl,rfl,rfl⟩
 case round =>
  obtain ⟨rfl,rfl,rfl,rfl⟩:=hrel;go_wp2
  go_loopw [28] (fun i wq=>i= .int .i64 0∧wq=wr) (fun _ _=>0)
  case atStart=>exact ⟨rfl,rfl⟩
  case round =>
   obtain ⟨rfl,rfl⟩:=hrel;go_wp2;go_ret;exact HRES.out
theorem OwS.empty {w:World}{m k c:Nat}{A:Option Addr}{bs:List Nat}(h:OwS w (m+1) A c [] bs):OwS w (k+1) A c [] bs:=by
 obtain ⟨q,hq,ho,hb,hr⟩:=h
 obtain rfl:q= []:=by cases q with
  | nil=>rfl
  | cons a t=>cases hq
 exact ⟨[],rfl,ho,hb,fun r h=>by cases h⟩
theorem zjp (m:Nat)(A:Option Addr)(c:Nat)(l:List Nd)(bs:List Nat)(w:World)(hown:OwS w (m+1) A c l bs)(hnd:bs.Nodup)(hm:m=0→l= [])(hD:∀n∈l,n.data.size≤2000)(hP:∀n∈l,n.ptrs.length≤1000000)(hlm:l.length≤2000000) :
 Calls Tryz.prog 87 #[.slice A l.length c] w (EvP A c l m bs w):=by
 rcases zit hown with ⟨rfl,rfl,rfl⟩ | ⟨⟨g,rfl⟩,_⟩
 · obtain ⟨q,hq,ho,hb,hr⟩:=hown
   obtain rfl:q= []:=by cases q with
    | nil=>rfl
    | cons a t=>cases hq
   exact zcl 0 m bs w rfl hb
 · cases m with
   | zero =>
    obtain rfl:=hm rfl;refine (z8i 0 g c [] bs w (hown.succ _ _ _ _ _) hnd hD hP hlm).mono ?_;rintro e w' ⟨he,bs',h1,h2,h3,h4⟩;exact ⟨he,bs',h1.empty,h2,h3,h4⟩
   | succ m=>exact z8i m g c l bs w hown hnd hD hP hlm
theorem zf8 {n:Nd}(h:z0l n=true):n.ptrs.length≤199:=by
 obtain ⟨h1,h2⟩:=z3q h;rw[z26 h1] at h2
 have h3:n.ptrs.length≤ownN n:=by unfold ownN ownB; omega
 omega
theorem z8z {n:Nd}(h:z0l n=true):∀z∈n.items.map canN,z.data.size≤2000∧z.ptrs.length≤1000000:=by
 intro z hz
 obtain ⟨y,hy,rfl⟩:=List.mem_map.1 hz;have hoy:=zj8 h y hy;have hk:=(z8e (z1o (z3q h).1).1 y hy).2.1;obtain ⟨h8,hs⟩:=zhv hoy hk;have hp:=zf8 hoy;rw[z6h,hk];have l1:=z2f y.data;have l2:=tw_le y.data.data.toList
 have l3:y.data.data.toList.length=y.data.size:=by simp
 have l4:=z6c (y.ptrs.map canN);have l5:=z21 (y.ptrs.map canN);rw[List.length_map] at l4;refine ⟨?_,?_⟩
 · show (trimD y.data).size≤2000; omega
 · show (endP (y.ptrs.map canN)).length≤1000000; omega
theorem zkh {n:Nd} :n.items.length≤sizN n:=by
 rw[z2a];have:=z7c n.items;omega
theorem zlw (m:Nat)(hS:FaS m):FoN m:=by
 intro n h w S hn hok hsz
 obtain ⟨qA,qa,qB,qb⟩:=h
 have hz1:sizL n.ptrs≤2000000:=by rw[z2a] at hsz; omega
 have hz2:sizL n.items≤2000000:=by rw[z2a] at hsz; omega
 have hil:n.items.length≤2000000:=Nat.le_trans zkh hsz
 have HM0:Hid (m=0→n.items.map canN= []):=hid fun h0=>by
  subst h0;have:n.items= []:=(show NdsAt w S 0 qB n.items from hn.2.2).zero
  rw[this]; rfl
 have HSM:=hid (z8z hok);have HPL:Hid ((n.ptrs.map canN).length≤2000000):=hid (by rw[List.length_map]; have:=zf8 hok; omega);have HIL:Hid ((n.items.map canN).length≤2000000):=hid (by rw[List.length_map]; exact hil)
 have HDA:Hid (n.kind=1→n.data.size%8=0∧n.data.size≤1600):=hid fun hk=>by have:=zhv hok hk; omega
 have HP:Hid (∀W:World,Below w.heap.size w W→Calls Tryz.prog 86 #[.slice qA n.ptrs.length qa,.func (.func 56) #[] #[]] W (NewOS (m+1) (n.ptrs.map canN) W)):=hid fun W hW=>hS qA qa n.ptrs W S ((show NdsAt w S m qA n.ptrs from hn.2.1).below hW) (zh5 hok) hz1
 have HI:Hid (∀W:World,Below w.heap.size w W→Calls Tryz.prog 86 #[.slice qB n.items.length qb,.func (.func 56) #[] #[]] W (NewOS (m+1) (n.items.map canN) W)):=hid fun W hW=>hS qB qb n.items W S ((show NdsAt w S m qB n.items from hn.2.2).below hW) (zj8 hok) hz2
 have hdm:n.data.size≤maxLen:=hn.1;have hcan:=z6h n;unfold formT at hcan
 obtain ⟨Z0,hZ0⟩:∃Z0,Z0=canN n:=⟨_,rfl⟩
 rw[← hZ0];have HZE:=hid (hZ0.trans hcan);clear hcan hZ0 hn hok hsz hz1 hz2 hil hS;unfold NewOS at HP HI;generalize n.ptrs.map canN=PL at *;generalize n.items.map canN=IL at *;have hb0:Below w.heap.size w ((w.alloc (.cells #[.int .i64 n.kind,.string n.data,.slice qA n.ptrs.length qa,.int .i64 n.size,.int .i64 n.count,.slice qB n.items.length qb] nodeT)).alloc (.cells #[.int .i64 0,.string { data:= #[] },.slice none 0 0,.int .i64 0,.int .i64 0,.slice none 0 0] nodeT)):=((Below.refl _ w).alloc (Nat.le_refl _) _).alloc (by simp) _;have hx0:((w.alloc (.cells #[.int .i64 n.kind,.string n.data,.slice qA n.ptrs.length qa,.int .i64 n.size,.int .i64 n.count,.slice qB n.items.length qb] nodeT)).alloc (.cells #[.int .i64 0,.string { data:= #[] },.slice none 0 0,.int .i64 0,.int .i64 0,.slice none 0 0] nodeT)).heap[w.heap.size]? =some (.cells #[.int .i64 n.kind,.string n.data,.slice qA n.ptrs.length qa,.int .i64 n.size,.int .i64 n.count,.slice qB n.items.length qb] nodeT (0,0)):=z02 (heap_alloc_new w _) _
 have hz0:((w.alloc (.cells #[.int .i64 n.kind,.string n.data,.slice qA n.ptrs.length qa,.int .i64 n.size,.int .i64 n.count,.slice qB n.items.length qb] nodeT)).alloc (.cells #[.int .i64 0,.string { data:= #[] },.slice none 0 0,.int .i64 0,.int .i64 0,.slice none 0 0] nodeT)).heap[w.heap.size+1]? =some (.cells #[.int .i64 0,.string { data:= #[] },.slice none 0 0,.int .i64 0,.int .i64 0,.slice none 0 0] nodeT (0,0)):=by have:=heap_alloc_new (w.alloc (.cells #[.int .i64 n.kind,.string n.data,.slice qA n.ptrs.length qa,.int .i64 n.size,.int .i64 n.count,.slice qB n.items.length qb] nodeT)) (.cells #[.int .i64 0,.string { data:= #[] },.slice none 0 0,.int .i64 0,.int .i64 0,.slice none 0 0] nodeT); rwa [show (w.alloc (.cells #[.int .i64 n.kind,.string n.data,.slice qA n.ptrs.length qa,.int .i64 n.size,.int .i64 n.count,.slice qB n.items.length qb] nodeT)).heap.size=w.heap.size+1 by simp] at this
 have hs0:((w.alloc (.cells #[.int .i64 n.kind,.string n.data,.slice qA n.ptrs.length qa,.int .i64 n.size,.int .i64 n.count,.slice qB n.items.length qb] nodeT)).alloc (.cells #[.int .i64 0,.string { data:= #[] },.slice none 0 0,.int .i64 0,.int .i64 0,.slice none 0 0] nodeT)).heap.size=w.heap.size+2:=by simp
 have HB0:=hid hb0;have HX0:=hid hx0;have HZ0:=hid hz0;clear hb0 hx0 hz0;go_enter Tryz.func56,Tryz.ntmps56
 go_wp2_with fail
 generalize ((w.alloc (.cells #[.int .i64 n.kind,.string n.data,.slice qA n.ptrs.length qa,.int .i64 n.size,.int .i64 n.count,.slice qB n.items.length qb] nodeT)).alloc (.cells #[.int .i64 0,.string { data:= #[] },.slice none 0 0,.int .i64 0,.int .i64 0,.slice none 0 0] nodeT))=W0 at *;refine (HP.out _ HB0.out).mono ?_;rintro e w1 ⟨A1,c1,bs1,rfl,hown1,hnd1,hge1,hb1⟩;have hx1:=(hb1.block _ (z00 HX0.out)).trans HX0.out;have hz1:=(hb1.block _ (z00 HZ0.out)).trans HZ0.out;have hs1:=hb1.size;have hb1':=HB0.out.trans (hb1.mono HB0.out.size);have HX2:=hid (z06 hx1 2 (.slice A1 PL.length c1));have HZ2:=hid ((Below.heap_setCell w1 ⟨w.heap.size,2,none⟩ (.slice A1 PL.length c1) (w.heap.size+1) (by simp)).trans hz1);have HB2:=hid (hb1'.setCell (p:=⟨w.heap.size,2,none⟩) (Nat.le_refl _) (.slice A1 PL.length c1));have HO2:=hid (hown1.frame (w':=w1.setCell ⟨w.heap.size,2,none⟩ (.slice A1 PL.length c1)) _ _ _ _ _ (fun b hb=>Below.heap_setCell w1 ⟨w.heap.size,2,none⟩ _ b (by have:=hge1 b hb; show b≠w.heap.size; omega)));have HN2:=hid (And.intro hnd1 hge1)
 have hs2:(w1.setCell ⟨w.heap.size,2,none⟩ (.slice A1 PL.length c1)).heap.size=w1.heap.size:=by simp[World.setCell]
 obtain ⟨a0,a1,a2,a3,a4,a5⟩:=z04 hx1;have f1:=z03 hx1 2;obtain ⟨b0,b1,b2,b3,b4,b5⟩:=z04 HX2.out;clear hown1 hnd1 hge1 hb1 hx1 hz1 hb1' HX0 HZ0 HB0
 go_wp2_with fail
 clear a0 a1 a2 a3 a4 a5 f1 b0 b1 b2 b3 b4 b5;generalize w1.setCell ⟨w.heap.size,2,none⟩ (.slice A1 PL.length c1)=W2 at *;refine (HI.out _ HB2.out).mono ?_;rintro e w3 ⟨A2,c2,bs2,rfl,hown3,hnd3,hge3,hb3⟩;have HX3:=hid ((hb3.block _ (z00 HX2.out)).trans HX2.out);have HZ3:=hid ((hb3.block _ (z00 HZ2.out)).trans HZ2.out);have hs3:=hb3.size;have HB3:=hid (HB2.out.trans (hb3.mono HB2.out.size));have HO3:=hid (HO2.out.below hb3);have HLT2:=hid (fun b hb=>(HO2.out.lt _ _ _ _ _ b hb).1);have HE3:=hid (zjp m A2 c2 IL bs2 w3 hown3 hnd3 HM0.out (fun z hz=>(HSM.out z hz).1) (fun z hz=>(HSM.out z hz).2) HIL.out);have HN3:=hid hge3;clear hown3 hnd3 hge3 hb3;unfold EvP at HE3
 go_wp2_with fail
 refine HE3.out.mono ?_;rintro e w4 ⟨rfl,bs3,hown4,hnd4,hin4,ho4⟩;have hgeb:∀b∈bs2,W2.heap.size≤b:=HN3.out;have hb4:Below W2.heap.size w3 w4:=ho4.below hs3 hgeb;have hx4:=(hb4.block _ (z00 HX2.out)).trans HX3.out;have hz4:=(hb4.block _ (z00 HZ2.out)).trans HZ3.out;have hs4:=ho4.size;have hb4':=HB3.out.trans (hb4.mono (by omega))
 have hge4:∀b∈bs3,W2.heap.size≤b:=fun b hb=>by
  rcases hin4 b hb with h | h
  · exact hgeb b h
  · omega
 have ho1:=HO3.out.frame (w':=w4) _ _ _ _ _ (fun b hb=>hb4.block b (HLT2.out b hb));have HX5:=hid (z06 hx4 5 (.slice A2 IL.length c2));have HZ5:=hid ((Below.heap_setCell w4 ⟨w.heap.size,5,none⟩ (.slice A2 IL.length c2) (w.heap.size+1) (by simp)).trans hz4);have HB5:=hid (hb4'.setCell (p:=⟨w.heap.size,5,none⟩) (Nat.le_refl _) (.slice A2 IL.length c2));have HO5:=hid (ho1.frame (w':=w4.setCell ⟨w.heap.size,5,none⟩ (.slice A2 IL.length c2)) _ _ _ _ _ (fun b hb=>Below.heap_setCell w4 ⟨w.heap.size,5,none⟩ _ b (by have:=HN2.out.2 b hb; show b≠w.heap.size; omega)));have HI5:=hid (hown4.frame (w':=w4.setCell ⟨w.heap.size,5,none⟩ (.slice A2 IL.length c2)) _ _ _ _ _ (fun b hb=>Below.heap_setCell w4 ⟨w.heap.size,5,none⟩ _ b (by have:=hge4 b hb; show b≠w.heap.size; omega)))
 have HND:Hid ((bs1++bs3).Nodup∧∀b∈bs1++bs3,w.heap.size+2≤b):=hid ⟨List.nodup_append.2 ⟨HN2.out.1,hnd4,fun a ha b hb e=>by have:=HLT2.out a ha; have:=hge4 b hb; omega⟩,fun b hb=>by
  rcases List.mem_append.1 hb with hb | hb
  · have:=HN2.out.2 b hb; omega
  · have:=hge4 b hb; omega⟩
 obtain ⟨a0,a1,a2,a3,a4,a5⟩:=z04 hx4;have f1:=z03 hx4 5;obtain ⟨b0,b1,b2,b3,b4,b5⟩:=z04 HX5.out;clear hown4 hnd4 hin4 ho4 hb4 hx4 hz4 hb4' hge4 ho1 hgeb HX3 HZ3 HB3 HO3 HX2 HZ2 HB2 HO2;have HLE:Hid ((evenL IL).length=IL.length):=hid (by unfold evenL; rw[List.length_map])
 by_cases hk:n.kind=1
 · have hze:=HZE.out
   rw[if_pos hk] at hze;subst hze
   have hkb:(n.kind==1)=true:=by rw[hk]; rfl
   have HWE:Hid (∀W:World,OwN W (m+1) (.mk n.kind n.data PL n.size n.count (evenL IL)) ⟨A1,c1,A2,c2⟩ (bs1++bs3)→Calls Tryz.prog 88 #[.agg #[.int .i64 n.kind,.string n.data,.slice A1 PL.length c1,.int .i64 n.size,.int .i64 n.count,.slice A2 IL.length c2]] W fun e w'=>e= .returned (.agg #[.int .i64 n.kind,.string (trimD n.data),.slice A1 (endC PL) c1,.int .i64 n.size,.int .i64 n.count,.slice A2 IL.length c2])∧Below W.heap.size W w'):=hid (fun W hW=>by
    have:=zam (m+1) (.mk n.kind n.data PL n.size n.count (evenL IL)) ⟨A1,c1,A2,c2⟩ (bs1++bs3) W hW (HDA.out hk).1 (HDA.out hk).2 HPL.out;rw[show (Nd.mk n.kind n.data PL n.size n.count (evenL IL)).items.length=IL.length from HLE.out] at this
    exact this)
   clear HDA hk
   go_wp2_with fail
   clear a0 a1 a2 a3 a4 a5 f1 b0 b1 b2 b3 b4 b5;generalize w4.setCell ⟨w.heap.size,5,none⟩ (.slice A2 IL.length c2)=W5 at *;have hcw:=HWE.out W5 ⟨hdm,bs1,bs3,rfl,HO5.out,HI5.out⟩;refine hcw.mono ?_;rintro e w6 ⟨rfl,hb6⟩;have HZ6:=hid ((hb6.block _ (z00 HZ5.out)).trans HZ5.out);have HB6:=hid (HB5.out.trans (hb6.mono HB5.out.size));have HO6:=hid (HO5.out.below hb6);have HI6:=hid (HI5.out.below hb6);obtain ⟨z0,z1,z2,z3,z4,z5⟩:=z04 HZ6.out;have zf:=z03 HZ6.out;clear hb6 hcw HO5 HI5 HX5 HZ5 HB5
   go_wp2_with fail
   obtain ⟨wf,hwf,hrw,hbf,hkf⟩:=fin6w HZ6.out HB6.out (by omega) (.int .i64 n.kind) (.string (trimD n.data)) (.slice A1 (endC PL) c1) (.int .i64 n.size) (.int .i64 n.count) (.slice A2 IL.length c2);rw[hwf];obtain ⟨e0,e1,e2,e3,e4,e5⟩:=z04 hrw;obtain ⟨bs4,hot,hsub⟩:=HO6.out.take (endC PL) (z6c PL);refine bodyPost_ret (v:= .agg #[.int .i64 n.kind,.string (trimD n.data),.slice A1 (endC PL) c1,.int .i64 n.size,.int .i64 n.count,.slice A2 IL.length c2]) (by simp[results,Tryz.results56,go_sem,e0,e1,e2,e3,e4,e5]) rfl ⟨⟨A1,c1,A2,c2⟩,bs4++bs3,?_,?_,?_,?_,hbf⟩
   · show _=Ending.returned (.agg #[.int .i64 n.kind,.string (trimD n.data),.slice A1 (endP PL).length c1,.int .i64 n.size,.int .i64 n.count,.slice A2 (evenL IL).length c2])
     rw[z21,HLE.out]
   · have hfr:∀b∈bs1++bs3,wf.heap[b]? =w6.heap[b]? :=fun b hb=>hkf b (by have:=HND.out.2 b hb; omega)
     refine ⟨?_,bs4,bs3,rfl,?_,?_⟩
     · show (trimD n.data).size≤maxLen
       have l1:=z2f n.data;have l2:=tw_le n.data.data.toList
       have l3:n.data.data.toList.length=n.data.size:=by simp
       omega
     · exact hot.frame _ _ _ _ _ (fun b hb=>hfr b (List.mem_append_left _ (hsub.subset hb)))
     · exact HI6.out.frame _ _ _ _ _ (fun b hb=>hfr b (List.mem_append_right _ hb))
   · exact HND.out.1.sublist (List.Sublist.append hsub (List.Sublist.refl _))
   · intro b hb
     have:b∈bs1++bs3:=(List.Sublist.append hsub (List.Sublist.refl _)).subset hb;have:=HND.out.2 b this;omega
 · have hze:=HZE.out
   rw[if_neg hk] at hze;subst hze
   have hkb:(n.kind==1)=false:=by simpa using hk
   have hz5:=HZ5.out;obtain ⟨z0,z1,z2,z3,z4,z5⟩:=z04 hz5;have zf:=z03 hz5;clear hk HDA hz5
   go_wp2_with fail
   clear a0 a1 a2 a3 a4 a5 f1;generalize w4.setCell ⟨w.heap.size,5,none⟩ (.slice A2 IL.length c2)=W5 at *;obtain ⟨wf,hwf,hrw,hbf,hkf⟩:=fin6w HZ5.out HB5.out (by omega) (.int .i64 n.kind) (.string n.data) (.slice A1 PL.length c1) (.int .i64 n.size) (.int .i64 n.count) (.slice A2 IL.length c2);rw[hwf];obtain ⟨e0,e1,e2,e3,e4,e5⟩:=z04 hrw;refine bodyPost_ret (v:= .agg #[.int .i64 n.kind,.string n.data,.slice A1 PL.length c1,.int .i64 n.size,.int .i64 n.count,.slice A2 IL.length c2]) (by simp[results,Tryz.results56,go_sem,e0,e1,e2,e3,e4,e5]) rfl ⟨⟨A1,c1,A2,c2⟩,bs1++bs3,?_,?_,HND.out.1,?_,hbf⟩
   · show _=Ending.returned (.agg #[.int .i64 n.kind,.string n.data,.slice A1 PL.length c1,.int .i64 n.size,.int .i64 n.count,.slice A2 (evenL IL).length c2])
     rw[HLE.out]
   · have hfr:∀b∈bs1++bs3,wf.heap[b]? =W5.heap[b]? :=fun b hb=>hkf b (by have:=HND.out.2 b hb; omega)
     exact ⟨hdm,bs1,bs3,rfl,HO5.out.frame _ _ _ _ _ (fun b hb=>hfr b (List.mem_append_left _ hb)),HI5.out.frame _ _ _ _ _ (fun b hb=>hfr b (List.mem_append_right _ hb))⟩
   · intro b hb
     have:=HND.out.2 b hb;omega
theorem zh0:∀m,FaS m
 | 0=>zlq 0 (fun j h=>by cases h)
 | m+1=>zlq (m+1) (fun j h=>by obtain rfl:m=j:=by omega
                               exact zlw m (zh0 m))
theorem zmw (m:Nat):FoN m:=zlw m (zh0 m)
end Go.Proofs.YtblcibgphccfkaaGreatDoor
