/- Texts of the proof of the law FnRecordCanon, side by side: part 13. -/
import Derived.Test.YtblcibgphccfkaaGreatDoorMRecordCanon12
set_option maxHeartbeats 8000000
set_option maxRecDepth 100000
open Go.Lib (hid)
namespace Go.Proofs.YtblcibgphccfkaaGreatDoor
open Go.RowKit
theorem z78 (s:ByteArray)(w:World)(hs:s.size≤maxLen) :
 Calls Tryz.prog 104 #[.string s] w fun e w'=>e= .returned (.bool (z0w s.size))∧w=w':=by
 unfold maxLen at hs
 by_cases h1:s.size%8=0
 all_goals
  go_enter Tryz.func104,Tryz.ntmps104;go_wp2;go_ret;refine ⟨z0f ?_,rfl⟩
  simp[z0w,h1]
 omega
theorem zbn (a b:ByteArray):(a++b).data.toList=a.data.toList++b.data.toList:=by simp
theorem z9s (s:ByteArray)(a:Nat)(l:List UInt8)(n:Nat)(hn:l.length=n)(h:a+n≤s.size) :
 s.extract 0 a++⟨l.toArray⟩++s.extract (a+n) s.size=⟨(putL s.data.toList a l).toArray⟩:=by
 subst hn
 apply zi8
 rw[zbn,zbn,Lib.extract_data,Lib.extract_data]
 simp[putL,List.take_of_length_le]
def putOk (l:List UInt8)(at_ size n:Int):Bool:=z2k at_ size&&(decide (at_<l.length)&&fitsB n size)
def putT (l:List UInt8)(at_ size n:Int):List UInt8:=if z0w l.length=true then (if putOk l at_ size n=true then putL l at_.toNat (leB n size.toNat) else l) else []
def putB (l:List UInt8)(at_ size n:Int):Bool:=z0w l.length&&putOk l at_ size n
theorem zgf {l:List UInt8}{a z n:Int}(h:putB l a z n=true) :
 (l.length%8=0∧l.length≤1600)∧z2k a z=true∧fitsB n z=true∧0≤a∧a.toNat+z.toNat≤l.length∧(z=1∨z=2∨z=4∨z=8):=by
 simp only[putB,putOk,Bool.and_eq_true,decide_eq_true_eq] at h
 obtain ⟨hw,hp,hin,hf⟩:=h
 have hw8:l.length%8=0∧l.length≤1600:=by simpa [z0w] using hw
 have hp':0≤a∧a≤1600∧((z=1∨z=2∨z=4∨z=8)∧a%z=0):=by simpa [z2k] using hp
 obtain ⟨ha0,ha1,hz,hm⟩:=hp';refine ⟨hw8,hp,hf,ha0,?_,hz⟩
 rcases hz with rfl | rfl | rfl | rfl <;> omega
theorem zcx {l:List UInt8}{a z n:Int}(h:putB l a z n=true):putT l a z n=putL l a.toNat (leB n z.toNat):=by
 simp only[putB,Bool.and_eq_true] at h
 rw[putT,if_pos h.1,if_pos h.2]
theorem z8f {l:List UInt8}{a z n:Int}(h:putB l a z n=true):(putT l a z n).length=l.length:=by
 obtain ⟨_,_,_,_,hin,_⟩:=zgf h;rw[zcx h,zd6 _ _ _ (by rw[z2s]; exact hin)]
theorem zma {l:List UInt8}{a z:Int}(hw:l.length%8=0∧l.length≤1600)(hp:z2k a z=true):getI l a z=wrap64 (leN l a.toNat z.toNat:Nat):=by
 rw[getI,if_pos ⟨by simpa [z0w] using hw,hp⟩]
def choN (l:List Fld)(n:Nd):Int:=if recB l n then (if tagL l<0 then -1 else wrap64 (leN n.data.data.toList (2*tagL l).toNat 2:Nat)) else -1
theorem z17 {l:List Fld}{n:Nd}(h:recB l n=true):n.data.size%8=0∧n.data.size≤1592∧z14 l=true:=by
 unfold recB isRec at h
 simp only[Bool.and_eq_true,decide_eq_true_eq] at h
 obtain ⟨h0,hk,ho⟩:=h
 obtain ⟨h8,hw⟩:=(by unfold z0l at ho; rw[Bool.and_eq_true,decide_eq_true_eq] at ho; exact ho:okN 8 n=true∧z0b 8 n≤199)
 have hf:formN n=true:=by
  cases hf:formN n with
  | true=>rfl
  | false=>rw[zap hf] at h8; cases h8
 have ho8:ownN n≤z0b 8 n:=z6v
 have hd:(n.data.size+7)/8≤ownN n:=by unfold ownN ownB; omega
 rcases z0y hf with hc | hc | hc
 · exact ⟨by omega,by omega,h0⟩
 · exact ⟨by omega,by omega,h0⟩
 · exact absurd hc.1 hk
theorem zdr {l:List Fld}{n:Nd}(h:recB l n=true)(ht:¬tagL l<0):getI n.data.data.toList (tagL l*2) 2=choN l n:=by
 obtain ⟨h8,hw,hok⟩:=z17 h;have hb:=z8d hok
 have hp:z2k (tagL l*2) 2=true:=by simp only[z2k,decide_eq_true_eq]; exact ⟨by omega,by omega,.inr (.inl trivial),by omega⟩
 have hl:n.data.data.toList.length=n.data.size:=by simp
 rw[zma (by rw[hl]; omega) hp];unfold choN;rw[if_pos h,if_neg ht,Int.mul_comm]
 rfl
theorem z64 (A:Option Addr)(c:Nat)(l:List Fld)(m:Nat)(n:Nd)(h:Hd)(w:World)(S:Nat→Prop)(ht:Tab w)(h1w:1<w.heap.size)(hl:Flds w A l)(hll:l.length≤10000000)(hn:NdAt w S m n h)(htn:totN m n≤2000000) :
 Calls Tryz.prog 18 #[.slice A l.length c,.agg #[.int .i64 n.kind,.string n.data,.slice h.A n.ptrs.length h.a,.int .i64 n.size,.int .i64 n.count,.slice h.B n.items.length h.b]] w fun e w'=>e= .returned (.int .i64 (choN l n))∧Below w.heap.size w w':=by
 have hbx:=(Below.refl w.heap.size w).alloc (Nat.le_refl _) (.cells #[.int .i64 n.kind,.string n.data,.slice h.A n.ptrs.length h.a,.int .i64 n.size,.int .i64 n.count,.slice h.B n.items.length h.b] nodeT);have HC:=hid (z36 A c l m n h _ S (ht.below hbx h1w) (by simp; omega) (hl.below hbx) hll (hn.below hbx) htn);have hd:=hn.1;have HBX:=hid hbx;clear hn ht hl hbx;go_enter Tryz.func18,Tryz.ntmps18
 go_wp2_with fail
 refine HC.out.mono ?_
 intro e w1 hrec
 rcases hrec with ⟨hok,v1,rfl,hown,hb1⟩ | ⟨hok,rfl,hb1⟩
 · obtain ⟨A1,cp1,rfl⟩:=z0h hown
   have hb2:=(Below.refl w1.heap.size w1).alloc (Nat.le_refl _) (.cells #[.slice A l.length c,.int .i64 ((layF l ps0).2.ls.words:Int),.int .i64 ((layF l ps0).2.ptrs:Int),(.slice A1 l.length cp1),.int .i64 (tagL l),.int .i64 n.kind,.string n.data,.slice h.A n.ptrs.length h.a,.int .i64 n.size,.int .i64 n.count,.slice h.B n.items.length h.b] recT);have hr:RecAt (w1.alloc (.cells #[.slice A l.length c,.int .i64 ((layF l ps0).2.ls.words:Int),.int .i64 ((layF l ps0).2.ptrs:Int),(.slice A1 l.length cp1),.int .i64 (tagL l),.int .i64 n.kind,.string n.data,.slice h.A n.ptrs.length h.a,.int .i64 n.size,.int .i64 n.count,.slice h.B n.items.length h.b] recT)) w1.heap.size A l.length c l (.slice A1 l.length cp1) n h:=heap_alloc_new w1 _;obtain ⟨c0,c1,c2,c3,c4,c5,c6,c7,c8,c9,c10⟩:=z08 hr;have HR:=hid hr;have HB2:=hid ((HBX.out.trans (hb1.mono HBX.out.size)).trans (hb2.mono (HBX.out.trans (hb1.mono HBX.out.size)).size));have HOK:=hid hok;clear hb1 hb2 hown hr hok;unfold recV
   by_cases htg:tagL l<0
   · have HX:Hid (choN l n= -1):=hid (by unfold choN; rw[if_pos HOK.out,if_pos htg])
     go_wp2_with fail
     go_ret;exact ⟨by rw[HX.out]; rfl,HB2.out⟩
   · have HX:=hid (zdr HOK.out htg)
     have hb:=z8d (z17 HOK.out).2.2
     have h0:0≤tagL l:=by omega
     have HT:=hid (zhe _ A l.length c l _ n h _ HR.out hd h0 (by omega));rw[HX.out] at HT
     go_wp2_with fail
     refine HT.out.mono ?_;rintro e w3 ⟨rfl,hb3⟩;have HB3:=hid (HB2.out.trans (hb3.mono HB2.out.size));clear hb3;go_wp2;go_ret;exact ⟨rfl,HB3.out⟩
 · have HX:Hid (choN l n= -1):=hid (by unfold choN; rw[hok]; rfl)
   have hb2:=(Below.refl w1.heap.size w1).alloc (Nat.le_refl _) (.cells #[.slice none 0 0,.int .i64 0,.int .i64 0,.slice none 0 0,.int .i64 0,.int .i64 0,.string { data:= #[] },.slice none 0 0,.int .i64 0,.int .i64 0,.slice none 0 0] recT);have HB2:=hid ((HBX.out.trans (hb1.mono HBX.out.size)).trans (hb2.mono (HBX.out.trans (hb1.mono HBX.out.size)).size));clear hb1 hb2 hok;unfold z8b
   go_wp2_with fail
   go_ret;exact ⟨by rw[HX.out]; rfl,HB2.out⟩
end Go.Proofs.YtblcibgphccfkaaGreatDoor
namespace Go.Proofs.YtblcibgphccfkaaGreatDoor
def inS (k a b:Nat):Prop:=a*2^(6-k)≤b∧b<(a+1)*2^(6-k)
def FreeB (s:LS)(b:Nat):Prop:=∃k,1≤k∧k≤6∧s.hole k≠0∧inS k (s.hole k) b
structure LInv (s:LS):Prop where
 apart:∀k k',1≤k→k≤6→1≤k'→k'≤6→k≠k'→s.hole k≠0→s.hole k'≠0→∀b,inS k (s.hole k) b→¬inS k' (s.hole k') b
 within:∀b,FreeB s b→b<64*s.words
theorem zk7 {k:Nat}(hk:k+1≤6):2^(6-k)=2*2^(6-(k+1)):=by
 rw[show 6-k=(6-(k+1))+1 by omega,Nat.pow_succ,Nat.mul_comm]
theorem zbw {k h b:Nat}(hk:k+1≤6):inS k h b↔inS (k+1) (2*h) b∨inS (k+1) (2*h+1) b:=by
 unfold inS;rw[zk7 hk];generalize 2^(6-(k+1))=p
 have e1:h*(2*p)=2*h*p:=by rw[← Nat.mul_assoc,Nat.mul_comm h 2]
 have e2:(h+1)*(2*p)=(2*h+1+1)*p:=by rw[← Nat.mul_assoc]; congr 1; omega
 rw[e1,e2];have e3:2*h*p≤(2*h+1)*p:=Nat.mul_le_mul_right _ (by omega);have e4:(2*h+1)*p≤(2*h+1+1)*p:=Nat.mul_le_mul_right _ (by omega);omega
theorem zb4 {k h b:Nat}(h1:inS k (2*h) b)(h2:inS k (2*h+1) b):False:=by
 unfold inS at h1 h2;omega
theorem ze4:∀(k:Nat) (s:LS),k≤6→LInv s→LInv (roomF k s).2∧s.words≤(roomF k s).2.words∧(∀b,(FreeB (roomF k s).2 b∨inS k (roomF k s).1 b)↔(FreeB s b∨(64*s.words≤b∧b<64*(roomF k s).2.words)))∧(∀b,FreeB (roomF k s).2 b→¬inS k (roomF k s).1 b)
 | 0,s,_,h=>by
   have hi:∀b,inS 0 s.words b↔(64*s.words≤b∧b<64*(s.words+1)):=fun b=>by unfold inS; simp only[Nat.sub_zero,show (2:Nat)^6=64 from rfl]; omega
   have hf:∀b,FreeB (roomF 0 s).2 b↔FreeB s b:=fun b=>Iff.rfl
   refine ⟨⟨h.apart,fun b hb=>?_⟩,Nat.le_succ _,fun b=>?_,fun b hb=>?_⟩
   · have:=h.within b hb; show b<64*(s.words+1); omega
   · show (FreeB s b∨inS 0 s.words b)↔(FreeB s b∨(64*s.words≤b∧b<64*(s.words+1)))
     rw[hi]
   · intro hin
     have h1:=h.within b hb;have h2:=(hi b).1 hin;omega
 | k+1,s,hk,h=>by
   by_cases h0:s.hole (k+1)=0
   · obtain ⟨i1,i2,i3,i4⟩:=ze4 k s (by omega) h
     have ha:(roomF k s).2.hole (k+1)=0:=by rw[z9h s (k+1) k (Nat.lt_succ_self k)]; exact h0
     rw[z4q k s h0];generalize roomF k s=r at *;obtain ⟨a,t⟩:=r
     simp only at *
     have hup:∀i,i≠k+1→(LS.mk t.words (upd t.hole (k+1) (2*a+1))).hole i=t.hole i:=fun i hi=>z22 _ _ _ _ hi
     have hus:(LS.mk t.words (upd t.hole (k+1) (2*a+1))).hole (k+1)=2*a+1:=z4b _ _ _
     have hfree:∀b,FreeB ⟨t.words,upd t.hole (k+1) (2*a+1)⟩ b↔(FreeB t b∨inS (k+1) (2*a+1) b):=by
      intro b
      constructor
      · rintro ⟨i,hi1,hi6,hne,hin⟩
        by_cases e:i=k+1
        · subst e; right; rw[hus] at hin; exact hin
        · left; rw[hup i e] at hne hin; exact ⟨i,hi1,hi6,hne,hin⟩
      · rintro (⟨i,hi1,hi6,hne,hin⟩ | hin)
        · have e:i≠k+1:=fun e=>hne (by rw[e]; exact ha)
          exact ⟨i,hi1,hi6,by rw[hup i e]; exact hne,by rw[hup i e]; exact hin⟩
        · exact ⟨k+1,by omega,hk,by rw[hus]; omega,by rw[hus]; exact hin⟩
     refine ⟨⟨?_,?_⟩,i2,?_,?_⟩
     · intro i j hi1 hi6 hj1 hj6 hij hni hnj b hbi hbj
       by_cases ei:i=k+1
       · subst ei
         have ej:j≠k+1:=fun e=>hij e.symm
         rw[hus] at hbi;rw[hup j ej] at hnj hbj;exact i4 b ⟨j,hj1,hj6,hnj,hbj⟩ ((zbw hk).2 (.inr hbi))
       · by_cases ej:j=k+1
         · subst ej
           rw[hus] at hbj;rw[hup i ei] at hni hbi;exact i4 b ⟨i,hi1,hi6,hni,hbi⟩ ((zbw hk).2 (.inr hbj))
         · rw[hup i ei] at hni hbi
           rw[hup j ej] at hnj hbj;exact i1.apart i j hi1 hi6 hj1 hj6 hij hni hnj b hbi hbj
     · intro b hb
       rcases (hfree b).1 hb with hb | hb
       · exact i1.within b hb
       · rcases (i3 b).1 (.inr ((zbw hk).2 (.inr hb))) with hs | hs
         · have:=h.within b hs; show b<64*t.words; omega
         · exact hs.2
     · intro b
       rw[hfree b,← i3 b,zbw hk]
       constructor
       · rintro ((hb | hb) | hb)
         · exact .inl hb
         · exact .inr (.inr hb)
         · exact .inr (.inl hb)
       · rintro (hb | hb | hb)
         · exact .inl (.inl hb)
         · exact .inr hb
         · exact .inl (.inr hb)
     · intro b hb hin
       rcases (hfree b).1 hb with hb | hb
       · exact i4 b hb ((zbw hk).2 (.inl hin))
       · exact zb4 hin hb
   · rw[z63 k s h0]
     have hup:∀i,i≠k+1→(LS.mk s.words (upd s.hole (k+1) 0)).hole i=s.hole i:=fun i hi=>z22 _ _ _ _ hi
     have hus:(LS.mk s.words (upd s.hole (k+1) 0)).hole (k+1)=0:=z4b _ _ _
     have hfree:∀b,FreeB ⟨s.words,upd s.hole (k+1) 0⟩ b→∃i,1≤i∧i≤6∧i≠k+1∧s.hole i≠0∧inS i (s.hole i) b:=by
      rintro b ⟨i,hi1,hi6,hne,hin⟩
      have e:i≠k+1:=fun e=>hne (by rw[e]; exact hus)
      exact ⟨i,hi1,hi6,e,by rw[hup i e] at hne; exact hne,by rw[hup i e] at hin; exact hin⟩
     refine ⟨⟨?_,?_⟩,Nat.le_refl _,?_,?_⟩
     · intro i j hi1 hi6 hj1 hj6 hij hni hnj b hbi hbj
       have ei:i≠k+1:=fun e=>hni (by rw[e]; exact hus)
       have ej:j≠k+1:=fun e=>hnj (by rw[e]; exact hus)
       rw[hup i ei] at hni hbi;rw[hup j ej] at hnj hbj;exact h.apart i j hi1 hi6 hj1 hj6 hij hni hnj b hbi hbj
     · intro b hb
       obtain ⟨i,hi1,hi6,_,hn,hin⟩:=hfree b hb;exact h.within b ⟨i,hi1,hi6,hn,hin⟩
     · intro b
       show (FreeB ⟨s.words,upd s.hole (k+1) 0⟩ b∨inS (k+1) (s.hole (k+1)) b)↔(FreeB s b∨(64*s.words≤b∧b<64*s.words))
       constructor
       · rintro (hb | hb)
         · obtain ⟨i,hi1,hi6,_,hn,hin⟩:=hfree b hb
           exact .inl ⟨i,hi1,hi6,hn,hin⟩
         · exact .inl ⟨k+1,by omega,hk,h0,hb⟩
       · rintro (⟨i,hi1,hi6,hn,hin⟩ | hb)
         · by_cases e:i=k+1
           · subst e; exact .inr hin
           · exact .inl ⟨i,hi1,hi6,by rw[hup i e]; exact hn,by rw[hup i e]; exact hin⟩
         · omega
     · intro b hb hin
       obtain ⟨i,hi1,hi6,e,hn,hin'⟩:=hfree b hb;exact h.apart i (k+1) hi1 hi6 (by omega) hk e hn h0 b hin' hin
def UsedB (s:LS)(b:Nat):Prop:=b<64*s.words∧¬FreeB s b
theorem z8w {k:Nat}{s:LS}(hk:k≤6)(h:LInv s):LInv (roomF k s).2∧(∀b,inS k (roomF k s).1 b→UsedB (roomF k s).2 b∧¬UsedB s b)∧(∀b,UsedB s b→UsedB (roomF k s).2 b):=by
 obtain ⟨i1,i2,i3,i4⟩:=ze4 k s hk h;refine ⟨i1,fun b hb=>⟨⟨?_,fun hf=>i4 b hf hb⟩,fun hu=>?_⟩,fun b hb=>⟨by have:=hb.1; omega,fun hf=>?_⟩⟩
 · rcases (i3 b).1 (.inr hb) with hs | hs
   · have:=h.within b hs; omega
   · exact hs.2
 · rcases (i3 b).1 (.inr hb) with hs | hs
   · exact hu.2 hs
   · have:=hu.1; omega
 · rcases (i3 b).1 (.inl hf) with hs | hs
   · exact hb.2 hs
   · have:=hb.1; omega
theorem linv0:LInv ⟨0,fun _=>0⟩:=⟨fun _ _ _ _ _ _ _ h=>absurd rfl h,fun b ⟨_,_,_,h,_⟩=>absurd rfl h⟩
def dat (f:Fld):Prop:=f.size≠6
def both (f g:Fld):Prop:=f.choice=true∧g.choice=true
structure GInv (s:PS) (D:List (Fld×Nat)) (N:Nat→Prop):Prop where
 inv:LInv s.ls
 sh6:∀r∈s.shared,r.1≤6
 nused:∀b,N b→UsedB s.ls b
 cused:∀r∈s.shared,∀b,inS r.1 r.2 b→UsedB s.ls b∧¬N b
 sapart:s.shared.Pairwise (fun r q=>∀b,inS r.1 r.2 b→¬inS q.1 q.2 b)
 tagN:0≤s.tag→∀b,inS 2 s.tag.toNat b→N b
 dN:∀x∈D,dat x.1→x.1.choice=false→∀b,inS (kOf x.1.size) x.2 b→N b
 dC:∀x∈D,dat x.1→x.1.choice=true→∃r∈s.shared,r.1≤kOf x.1.size∧x.2=r.2*2^(kOf x.1.size-r.1)
 dapart:D.Pairwise (fun x y=>dat x.1→dat y.1→¬both x.1 y.1→∀b,inS (kOf x.1.size) x.2 b→¬inS (kOf y.1.size) y.2 b)
 tagD:0≤s.tag→∀x∈D,dat x.1→∀b,inS 2 s.tag.toNat b→¬inS (kOf x.1.size) x.2 b
 ptr:∀x∈D,¬dat x.1→x.2<s.ptrs
 ptrC:∀x∈D,¬dat x.1→x.1.choice=true→(x.2:Int)=s.point
 ptrN:∀x∈D,¬dat x.1→x.1.choice=false→(x.2:Int)≠s.point
 point: -1≤s.point∧s.point<s.ptrs
 papart:D.Pairwise (fun x y=>¬dat x.1→¬dat y.1→¬both x.1 y.1→x.2≠y.2)
 tagm:0≤s.tag↔2≤s.many
 tagb: -1≤s.tag
 many:s.many=(D.filter fun x=>x.1.choice).length
theorem ginv0:GInv ps0 [] (fun _=>False) :=
 ⟨linv0,(fun _ h=>by cases h),(fun _ h=>h.elim),(fun _ h=>by cases h),List.Pairwise.nil,(fun h=>absurd h (by decide)),(fun _ h=>by cases h),(fun _ h=>by cases h),List.Pairwise.nil,(fun h=>absurd h (by decide)),(fun _ h=>by cases h),(fun _ h=>by cases h),(fun _ h=>by cases h),by decide,List.Pairwise.nil,by decide,by decide,rfl⟩
theorem z6b {k r a b:Nat}(hk:k≤6)(hr:r≤k)(h:inS k (a*2^(k-r)) b):inS r a b:=by
 unfold inS at *
 have e:2^(6-r)=2^(k-r)*2^(6-k):=by rw[← Nat.pow_add]; congr 1; omega
 have e1:a*2^(6-r)=a*2^(k-r)*2^(6-k):=by rw[e,Nat.mul_assoc]
 have e2:(a+1)*2^(6-r)=(a*2^(k-r)+2^(k-r))*2^(6-k):=by rw[e,← Nat.mul_assoc]; congr 1; rw[Nat.add_mul,Nat.one_mul]
 have hp:1≤2^(k-r):=Nat.pow_pos (by decide);have e3:(a*2^(k-r)+1)*2^(6-k)≤(a*2^(k-r)+2^(k-r))*2^(6-k):=Nat.mul_le_mul_right _ (by omega);omega
theorem zd5 (D:List (Fld×Nat))(x:Fld×Nat):((D++ [x]).filter fun x=>x.1.choice).length=(D.filter fun x=>x.1.choice).length+(if x.1.choice then 1 else 0):=by
 rw[List.filter_append,List.length_append]
 cases h:x.1.choice <;> simp[h]
structure GMid (s:PS) (D:List (Fld×Nat)) (N:Nat→Prop) (c:Bool):Prop where
 inv:LInv s.ls
 sh6:∀r∈s.shared,r.1≤6
 nused:∀b,N b→UsedB s.ls b
 cused:∀r∈s.shared,∀b,inS r.1 r.2 b→UsedB s.ls b∧¬N b
 sapart:s.shared.Pairwise (fun r q=>∀b,inS r.1 r.2 b→¬inS q.1 q.2 b)
 tagN:0≤s.tag→∀b,inS 2 s.tag.toNat b→N b
 dN:∀x∈D,dat x.1→x.1.choice=false→∀b,inS (kOf x.1.size) x.2 b→N b
 dC:∀x∈D,dat x.1→x.1.choice=true→∃r∈s.shared,r.1≤kOf x.1.size∧x.2=r.2*2^(kOf x.1.size-r.1)
 dapart:D.Pairwise (fun x y=>dat x.1→dat y.1→¬both x.1 y.1→∀b,inS (kOf x.1.size) x.2 b→¬inS (kOf y.1.size) y.2 b)
 tagD:0≤s.tag→∀x∈D,dat x.1→∀b,inS 2 s.tag.toNat b→¬inS (kOf x.1.size) x.2 b
 ptr:∀x∈D,¬dat x.1→x.2<s.ptrs
 ptrC:∀x∈D,¬dat x.1→x.1.choice=true→(x.2:Int)=s.point
 ptrN:∀x∈D,¬dat x.1→x.1.choice=false→(x.2:Int)≠s.point
 point: -1≤s.point∧s.point<s.ptrs
 papart:D.Pairwise (fun x y=>¬dat x.1→¬dat y.1→¬both x.1 y.1→x.2≠y.2)
 tagm:0≤s.tag↔2≤s.many
 tagb: -1≤s.tag
 many:s.many=(D.filter fun x=>x.1.choice).length+(if c then 1 else 0)
theorem GInv.dused {s:PS}{D:List (Fld×Nat)}{N:Nat→Prop}(h:GInv s D N):∀x∈D,dat x.1→∀b,inS (kOf x.1.size) x.2 b→UsedB s.ls b:=by
 intro x hx hd b hb
 cases hc:x.1.choice with
 | false=>exact h.nused b (h.dN x hx hd hc b hb)
 | true =>
  obtain ⟨r,hr,hrk,he⟩:=h.dC x hx hd hc;rw[he] at hb;exact (h.cused r hr b (z6b (z2x _) hrk hb)).1
theorem GMid.dused {s:PS}{D:List (Fld×Nat)}{N:Nat→Prop}{c:Bool}(h:GMid s D N c):∀x∈D,dat x.1→∀b,inS (kOf x.1.size) x.2 b→UsedB s.ls b:=by
 intro x hx hd b hb
 cases hc:x.1.choice with
 | false=>exact h.nused b (h.dN x hx hd hc b hb)
 | true =>
  obtain ⟨r,hr,hrk,he⟩:=h.dC x hx hd hc;rw[he] at hb;exact (h.cused r hr b (z6b (z2x _) hrk hb)).1
theorem zng {s:PS}{D:List (Fld×Nat)}{N:Nat→Prop}(h:GInv s D N)(c:Bool):∃N',GMid (tagF c s) D N' c:=by
 cases c with
 | false=>exact ⟨N,⟨h.inv,h.sh6,h.nused,h.cused,h.sapart,h.tagN,h.dN,h.dC,h.dapart,h.tagD,h.ptr,h.ptrC,h.ptrN,h.point,h.papart,h.tagm,h.tagb,by show s.many=_; rw[h.many]; rfl⟩⟩
 | true =>
  by_cases hm:s.many+1=2
  · obtain ⟨r1,r2,r3⟩:=z8w (k:=2) (by decide) h.inv
    have he:tagF true s= { s with many:=s.many+1,ls:=(roomF 2 s.ls).2,tag:=(roomF 2 s.ls).1 } :=by unfold tagF; rw[if_pos rfl,if_pos hm]
    rw[he];refine ⟨fun b=>N b∨inS 2 (roomF 2 s.ls).1 b,⟨r1,h.sh6,?_,?_,h.sapart,?_,?_,h.dC,h.dapart,?_,h.ptr,h.ptrC,h.ptrN,h.point,h.papart,?_,?_,?_⟩⟩
    · rintro b (hb | hb)
      · exact r3 b (h.nused b hb)
      · exact (r2 b hb).1
    · intro r hr b hb
      obtain ⟨c1,c2⟩:=h.cused r hr b hb;exact ⟨r3 b c1,fun hn=>hn.elim c2 (fun hi=>(r2 b hi).2 c1)⟩
    · intro _ b hb
      right
      simpa using hb
    · intro x hx hd hc b hb
      exact .inl (h.dN x hx hd hc b hb)
    · intro _ x hx hd b hb hi
      have hb':inS 2 (roomF 2 s.ls).1 b:=by simpa using hb
      exact (r2 b hb').2 (h.dused x hx hd b hi)
    · show (0:Int)≤((roomF 2 s.ls).1:Int)↔2≤s.many+1
      omega
    · show (-1:Int)≤((roomF 2 s.ls).1:Int)
      omega
    · show s.many+1=_
      rw[h.many]; rfl
  · have he:tagF true s= { s with many:=s.many+1 } :=by unfold tagF; rw[if_pos rfl,if_neg hm]
    rw[he];refine ⟨N,⟨h.inv,h.sh6,h.nused,h.cused,h.sapart,h.tagN,h.dN,h.dC,h.dapart,h.tagD,h.ptr,h.ptrC,h.ptrN,h.point,h.papart,?_,h.tagb,?_⟩⟩
    · show 0≤s.tag↔2≤s.many+1
      rw[h.tagm]; omega
    · show s.many+1=_
      rw[h.many]; rfl
theorem z2n {α:Type}{R:α→α→Prop}{l:List α}{x:α}(h:l.Pairwise R)(hx:∀y∈l,R y x):(l++ [x]).Pairwise R:=by
 rw[List.pairwise_append]
 exact ⟨h,List.pairwise_singleton _ _,fun a ha b hb=>by
  have e:b=x:=by simpa using hb
  rw[e]; exact hx a ha⟩
theorem zhq {s:PS}{D:List (Fld×Nat)}{N:Nat→Prop}(h:GInv s D N)(f:Fld):∃N',GInv (z11 f s).2 (D++ [(f,(z11 f s).1)]) N':=by
 obtain ⟨M,m⟩:=zng h f.choice
 have hmem:∀ {p:Fld×Nat→Prop} {a:Nat},(∀x∈D,p x)→p (f,a)→∀x∈D++ [(f,a)],p x:=fun h1 h2 x hx=>by
  rcases List.mem_append.1 hx with hx | hx
  · exact h1 x hx
  · obtain rfl:x=_:=by simpa using hx
    exact h2
 have hmany:∀(a:Nat),(tagF f.choice s).many=((D++ [(f,a)]).filter fun x=>x.1.choice).length:=fun a=>by rw[zd5,m.many]
 unfold z11
 by_cases hp:f.size=6
 · have hnd:¬dat f:=fun hd=>hd hp
   rw[if_pos hp]
   cases hc:f.choice with
   | false =>
    rw[hc] at m hmany;rw[if_neg (by simp)];refine ⟨M,⟨m.inv,m.sh6,m.nused,m.cused,m.sapart,m.tagN,?_,?_,?_,?_,?_,?_,?_,?_,?_,m.tagm,m.tagb,hmany _⟩⟩
    · exact hmem m.dN (fun hd=>absurd hd hnd)
    · exact hmem m.dC (fun hd=>absurd hd hnd)
    · exact z2n m.dapart (fun y _ _ hd=>absurd hd hnd)
    · intro ht; exact hmem (m.tagD ht) (fun hd=>absurd hd hnd)
    · refine hmem (fun x hx hd=>?_) (fun _=>?_)
      · have:=m.ptr x hx hd; show x.2<(tagF false s).ptrs+1; omega
      · show (tagF false s).ptrs<(tagF false s).ptrs+1; omega
    · exact hmem m.ptrC (fun _ hcc=>by rw[hc] at hcc; cases hcc)
    · refine hmem m.ptrN (fun _ _=>?_)
      have:=m.point.2
      show ((tagF false s).ptrs:Int)≠(tagF false s).point
      omega
    · have:=m.point
      exact ⟨this.1,by show (tagF false s).point<(((tagF false s).ptrs+1:Nat):Int); omega⟩
    · refine z2n m.papart (fun y hy hyd _ _=>?_)
      have:=m.ptr y hy hyd
      show y.2≠(tagF false s).ptrs
      omega
   | true =>
    rw[hc] at m hmany;rw[if_pos rfl];unfold z1d
    by_cases hq:(tagF true s).point<0
    · rw[if_pos hq]
      refine ⟨M,⟨m.inv,m.sh6,m.nused,m.cused,m.sapart,m.tagN,?_,?_,?_,?_,?_,?_,?_,?_,?_,m.tagm,m.tagb,hmany _⟩⟩
      · exact hmem m.dN (fun hd=>absurd hd hnd)
      · exact hmem m.dC (fun hd=>absurd hd hnd)
      · exact z2n m.dapart (fun y _ _ hd=>absurd hd hnd)
      · intro ht; exact hmem (m.tagD ht) (fun hd=>absurd hd hnd)
      · refine hmem (fun x hx hd=>?_) (fun _=>?_)
        · have:=m.ptr x hx hd; show x.2<(tagF true s).ptrs+1; omega
        · show (tagF true s).ptrs<(tagF true s).ptrs+1; omega
      · refine hmem (fun x hx hd hxc=>?_) (fun _ _=>rfl)
        have:=m.ptrC x hx hd hxc; omega
      · refine hmem (fun x hx hd hxc=>?_) (fun _ hcc=>by rw[hc] at hcc; cases hcc)
        have:=m.ptr x hx hd
        show (x.2:Int)≠((tagF true s).ptrs:Int)
        omega
      · exact ⟨by show (-1:Int)≤((tagF true s).ptrs:Int); omega,by show ((tagF true s).ptrs:Int)<(((tagF true s).ptrs+1:Nat):Int); omega⟩
      · refine z2n m.papart (fun y hy hyd _ _=>?_)
        have:=m.ptr y hy hyd
        show y.2≠(tagF true s).ptrs
        omega
    · rw[if_neg hq]
      have hpt:=m.point;refine ⟨M,⟨m.inv,m.sh6,m.nused,m.cused,m.sapart,m.tagN,?_,?_,?_,?_,?_,?_,?_,m.point,?_,m.tagm,m.tagb,hmany _⟩⟩
      · exact hmem m.dN (fun hd=>absurd hd hnd)
      · exact hmem m.dC (fun hd=>absurd hd hnd)
      · exact z2n m.dapart (fun y _ _ hd=>absurd hd hnd)
      · intro ht; exact hmem (m.tagD ht) (fun hd=>absurd hd hnd)
      · refine hmem m.ptr (fun _=>?_)
        show (tagF true s).point.toNat<(tagF true s).ptrs; omega
      · refine hmem m.ptrC (fun _ _=>?_)
        show (((tagF true s).point.toNat:Nat):Int)=(tagF true s).point; omega
      · exact hmem m.ptrN (fun _ hcc=>by rw[hc] at hcc; cases hcc)
      · refine z2n m.papart (fun y hy hyd _ hb=>?_)
        have hyc:y.1.choice=false:=by
         cases hy':y.1.choice with
         | false=>rfl
         | true=>exact absurd ⟨hy',hc⟩ hb
        have:=m.ptrN y hy hyd hyc
        show y.2≠(tagF true s).point.toNat
        omega
 · have hd:dat f:=hp
   rw[if_neg hp];have hk:=z2x f.size
   cases hc:f.choice with
   | false =>
    rw[hc] at m hmany;rw[if_neg (by simp)];obtain ⟨r1,r2,r3⟩:=z8w hk m.inv;refine ⟨fun b=>M b∨inS (kOf f.size) (roomF (kOf f.size) (tagF false s).ls).1 b,⟨r1,m.sh6,?_,?_,m.sapart,?_,?_,?_,?_,?_,?_,?_,?_,m.point,?_,m.tagm,m.tagb,hmany _⟩⟩
    · rintro b (hb | hb)
      · exact r3 b (m.nused b hb)
      · exact (r2 b hb).1
    · intro r hr b hb
      obtain ⟨c1,c2⟩:=m.cused r hr b hb;exact ⟨r3 b c1,fun hn=>hn.elim c2 (fun hi=>(r2 b hi).2 c1)⟩
    · intro ht b hb; exact .inl (m.tagN ht b hb)
    · exact hmem (fun x hx hxd hxc b hb=> .inl (m.dN x hx hxd hxc b hb)) (fun _ _ b hb=> .inr hb)
    · exact hmem m.dC (fun _ hcc=>by rw[hc] at hcc; cases hcc)
    · exact z2n m.dapart (fun y hy hyd _ _ b hb hi=>(r2 b hi).2 (m.dused y hy hyd b hb))
    · intro ht
      exact hmem (m.tagD ht) (fun _ b hb hi=>(r2 b hi).2 (m.nused b (m.tagN ht b hb)))
    · exact hmem m.ptr (fun hnd=>absurd hd hnd)
    · exact hmem m.ptrC (fun hnd=>absurd hd hnd)
    · exact hmem m.ptrN (fun hnd=>absurd hd hnd)
    · exact z2n m.papart (fun y _ _ hnd=>absurd hd hnd)
   | true =>
    rw[hc] at m hmany;rw[if_pos rfl];unfold z2z
    cases hf:(tagF true s).shared.find? (fun r=>r.1≤kOf f.size) with
    | some r =>
     have hrm:=List.mem_of_find?_eq_some hf
     have hrk:r.1≤kOf f.size:=by simpa using List.find?_some hf
     refine ⟨M,⟨m.inv,m.sh6,m.nused,m.cused,m.sapart,m.tagN,?_,?_,?_,?_,?_,?_,?_,m.point,?_,m.tagm,m.tagb,hmany _⟩⟩
     · exact hmem m.dN (fun _ hcc=>by rw[hc] at hcc; cases hcc)
     · exact hmem m.dC (fun _ _=>⟨r,hrm,hrk,rfl⟩)
     · refine z2n m.dapart (fun y hy hyd _ hb b hbi hi=>?_)
       have hyc:y.1.choice=false:=by
        cases hy':y.1.choice with
        | false=>rfl
        | true=>exact absurd ⟨hy',hc⟩ hb
       exact (m.cused r hrm b (z6b hk hrk hi)).2 (m.dN y hy hyd hyc b hbi)
     · intro ht
       exact hmem (m.tagD ht) (fun _ b hb hi=>(m.cused r hrm b (z6b hk hrk hi)).2 (m.tagN ht b hb))
     · exact hmem m.ptr (fun hnd=>absurd hd hnd)
     · exact hmem m.ptrC (fun hnd=>absurd hd hnd)
     · exact hmem m.ptrN (fun hnd=>absurd hd hnd)
     · exact z2n m.papart (fun y _ _ hnd=>absurd hd hnd)
    | none =>
     obtain ⟨r1,r2,r3⟩:=z8w hk m.inv
     have hsm:∀ {p:Nat×Nat→Prop},(∀r∈(tagF true s).shared,p r)→p (kOf f.size,(roomF (kOf f.size) (tagF true s).ls).1)→∀r∈(tagF true s).shared++ [(kOf f.size,(roomF (kOf f.size) (tagF true s).ls).1)],p r:=fun h1 h2 r hr=>by
      rcases List.mem_append.1 hr with hr | hr
      · exact h1 r hr
      · obtain rfl:r=_:=by simpa using hr
        exact h2
     refine ⟨M,⟨r1,hsm m.sh6 hk,fun b hb=>r3 b (m.nused b hb),hsm (fun r hr b hb=>⟨r3 b (m.cused r hr b hb).1,(m.cused r hr b hb).2⟩) (fun b hb=>⟨(r2 b hb).1,fun hn=>(r2 b hb).2 (m.nused b hn)⟩),?_,m.tagN,?_,?_,?_,?_,?_,?_,?_,m.point,?_,m.tagm,m.tagb,hmany _⟩⟩
     · exact z2n m.sapart (fun r hr b hb hi=>(r2 b hi).2 (m.cused r hr b hb).1)
     · exact hmem m.dN (fun _ hcc=>by rw[hc] at hcc; cases hcc)
     · refine hmem (fun x hx hxd hxc=>?_) (fun _ _=>⟨_,List.mem_append_right _ (List.mem_singleton.2 rfl),Nat.le_refl _,by simp⟩)
       obtain ⟨r,hr,hrest⟩:=m.dC x hx hxd hxc;exact ⟨r,List.mem_append_left _ hr,hrest⟩
     · exact z2n m.dapart (fun y hy hyd _ _ b hb hi=>(r2 b hi).2 (m.dused y hy hyd b hb))
     · intro ht
       exact hmem (m.tagD ht) (fun _ b hb hi=>(r2 b hi).2 (m.nused b (m.tagN ht b hb)))
     · exact hmem m.ptr (fun hnd=>absurd hd hnd)
     · exact hmem m.ptrC (fun hnd=>absurd hd hnd)
     · exact hmem m.ptrN (fun hnd=>absurd hd hnd)
     · exact z2n m.papart (fun y _ _ hnd=>absurd hd hnd)
theorem zhp:∀(l:List Fld) (s:PS) (D:List (Fld×Nat)) (N:Nat→Prop),GInv s D N→∃N',GInv (layF l s).2 (D++l.zip (layF l s).1) N'
 | [],s,D,N,h=>⟨N,by simpa [layF] using h⟩
 | f :: r,s,D,N,h=>by
   obtain ⟨N1,h1⟩:=zhq h f;obtain ⟨N2,h2⟩:=zhp r _ _ N1 h1;refine ⟨N2,?_⟩
   have:D++(f :: r).zip (layF (f :: r) s).1=D++ [(f,(z11 f s).1)]++r.zip (layF r (z11 f s).2).1:=by
    rw[List.append_assoc]; rfl
   rw[this];exact h2
theorem zjv (l:List Fld):∃N,GInv (layF l ps0).2 (l.zip (layF l ps0).1) N:=by
 have:=zhp l ps0 [] _ ginv0
 simpa using this
end Go.Proofs.YtblcibgphccfkaaGreatDoor
