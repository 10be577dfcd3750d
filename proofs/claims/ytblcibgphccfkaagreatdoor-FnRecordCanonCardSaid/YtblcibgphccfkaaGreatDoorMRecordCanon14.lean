/- Texts of the proof of the law FnRecordCanon, side by side: part 14. -/
import Derived.Deep.RegionHeld3
import Derived.Test.YtblcibgphccfkaaGreatDoorMRecordCanon13
set_option maxHeartbeats 8000000
set_option maxRecDepth 100000
open Go.Lib (hid)
namespace Go.Proofs.YtblcibgphccfkaaGreatDoor
def atF (l:List Fld)(k:Nat):Nat:=(layF l ps0).1.getD k 0
def frF (z:Int)(a:Nat):Int:=(a:Int)*z23 z
def toF (z:Int)(a:Nat):Int:=(a:Int)*z23 z+z23 z
theorem zaq {z:Int}(h1:1≤z)(h2:z≤6)(h6:z≠6):z23 z=((2^(6-kOf z):Nat):Int):=by
 have:z=1∨z=2∨z=3∨z=4∨z=5:=by omega
 rcases this with rfl | rfl | rfl | rfl | rfl <;> decide
theorem z5j {z:Int}(h1:1≤z)(h2:z≤6)(h6:z≠6)(a b:Nat):inS (kOf z) a b↔(frF z a≤b∧(b:Int)<toF z a):=by
 unfold inS frF toF;rw[zaq h1 h2 h6,Nat.add_mul,Nat.one_mul];generalize 2^(6-kOf z)=p;rw[← Int.natCast_mul];omega
theorem fr_nn {z:Int}(h1:1≤z)(h2:z≤6)(h6:z≠6)(a:Nat):0≤frF z a∧1≤z23 z∧z23 z≤64:=by
 have hb:1≤z23 z∧z23 z≤64:=by
  have:z=1∨z=2∨z=3∨z=4∨z=5:=by omega
  rcases this with rfl | rfl | rfl | rfl | rfl <;> decide
 refine ⟨?_,hb⟩;unfold frF;rw[zaq h1 h2 h6,← Int.natCast_mul];omega
theorem zep {z y:Int}(h1:1≤z)(h2:z≤6)(h6:z≠6)(k1:1≤y)(k2:y≤6)(k6:y≠6){a c:Nat}(hm:frF z a<toF y c)(hm':frF y c<toF z a):∃b,inS (kOf z) a b∧inS (kOf y) c b:=by
 obtain ⟨z0,z1,z2⟩:=fr_nn h1 h2 h6 a;obtain ⟨y0,y1,y2⟩:=fr_nn k1 k2 k6 c;have ez:toF z a=frF z a+z23 z:=rfl;have ey:toF y c=frF y c+z23 y:=rfl
 by_cases h:frF z a≤frF y c
 · refine ⟨(frF y c).toNat,(z5j h1 h2 h6 _ _).2 ?_,(z5j k1 k2 k6 _ _).2 ?_⟩ <;> omega
 · refine ⟨(frF z a).toNat,(z5j h1 h2 h6 _ _).2 ?_,(z5j k1 k2 k6 _ _).2 ?_⟩ <;> omega
theorem zij (l:List Fld)(k:Nat)(hk:k<l.length):∃h,(l.zip (layF l ps0).1)[k]'h=(l[k],atF l k):=by
 have hl:=z0a l ps0;refine ⟨by simp[hl]; exact hk,?_⟩;rw[List.getElem_zip,atF,List.getD,List.getElem?_eq_getElem (by omega)]
 rfl
theorem z4n (l:List Fld)(k:Nat)(hk:k<l.length):(l[k],atF l k)∈l.zip (layF l ps0).1:=by
 obtain ⟨h,e⟩:=zij l k hk;rw[← e];exact List.getElem_mem h
theorem zds {R:Fld×Nat→Fld×Nat→Prop}(l:List Fld)(h:(l.zip (layF l ps0).1).Pairwise R){k i:Nat}(hki:k<i)(hi:i<l.length):R (l[k]'(by omega),atF l k) (l[i],atF l i):=by
 obtain ⟨h1,e1⟩:=zij l k (by omega);obtain ⟨h2,e2⟩:=zij l i hi;rw[← e1,← e2];exact List.pairwise_iff_getElem.1 h k i h1 h2 hki
theorem zm8 {α:Type}{R:α→α→Prop}{l:List α}(h:l.Pairwise R){x y:α}(hx:x∈l)(hy:y∈l)(h1:¬R x y)(h2:¬R y x):x=y:=by
 obtain ⟨i,hi,rfl⟩:=List.mem_iff_getElem.1 hx;obtain ⟨j,hj,rfl⟩:=List.mem_iff_getElem.1 hy
 rcases Nat.lt_trichotomy i j with h' | h' | h'
 · exact absurd (List.pairwise_iff_getElem.1 h i j hi hj h') h1
 · subst h'; rfl
 · exact absurd (List.pairwise_iff_getElem.1 h j i hj hi h') h2
structure LayOk (l:List Fld):Prop where
 size:∀k (hk:k<l.length),1≤(l[k]).size∧(l[k]).size≤6
 within:∀k (hk:k<l.length),(l[k]).size≠6→toF (l[k]).size (atF l k)≤64*((layF l ps0).2.ls.words:Int)
 tag:0≤(layF l ps0).2.tag→∀k (hk:k<l.length),(l[k]).size≠6→¬(frF (l[k]).size (atF l k)<16*(layF l ps0).2.tag+16∧16*(layF l ps0).2.tag<toF (l[k]).size (atF l k))
 tagIn:0≤(layF l ps0).2.tag→16*(layF l ps0).2.tag+16≤64*((layF l ps0).2.ls.words:Int)
 pair:∀k i (hki:k<i) (hi:i<l.length),(l[i]).size≠6→(l[k]'(by omega)).size≠6→¬((l[i]).choice=true∧(l[k]'(by omega)).choice=true)→¬(frF (l[i]).size (atF l i)<toF (l[k]'(by omega)).size (atF l k)∧frF (l[k]'(by omega)).size (atF l k)<toF (l[i]).size (atF l i))
 ptr:∀k (hk:k<l.length),(l[k]).size=6→atF l k<(layF l ps0).2.ptrs
 ptrs:∀k i (hki:k<i) (hi:i<l.length),(l[i]).size=6→(l[k]'(by omega)).size=6→¬((l[i]).choice=true∧(l[k]'(by omega)).choice=true)→atF l i≠atF l k
 share:∀k i (hki:k<i) (hi:i<l.length),(l[i]).size≠6→(l[k]'(by omega)).size≠6→(l[i]).choice=true→(l[k]'(by omega)).choice=true→frF (l[i]).size (atF l i)<toF (l[k]'(by omega)).size (atF l k)→frF (l[k]'(by omega)).size (atF l k)<toF (l[i]).size (atF l i)→frF (l[i]).size (atF l i)=frF (l[k]'(by omega)).size (atF l k)
 shareP:∀k i (hki:k<i) (hi:i<l.length),(l[i]).size=6→(l[k]'(by omega)).size=6→(l[i]).choice=true→(l[k]'(by omega)).choice=true→atF l i=atF l k
 many:0≤(layF l ps0).2.tag↔2≤(l.filter fun f=>f.choice).length
theorem z9k {z:Int}(h1:1≤z)(h2:z≤6)(h6:z≠6){a r c:Nat}(hr:r≤kOf z)(e:a=c*2^(kOf z-r)):frF z a=((c*2^(6-r):Nat):Int):=by
 unfold frF;rw[zaq h1 h2 h6,← Int.natCast_mul,e,Nat.mul_assoc,← Nat.pow_add];have:=z2x z;rw[show kOf z-r+(6-kOf z)=6-r by omega]
theorem za0:∀(l:List Fld) (m:List Nat),m.length=l.length→((l.zip m).filter fun x=>x.1.choice).length=(l.filter fun f=>f.choice).length
 | [],_,_=>by simp
 | f :: l,a :: m,h=>by
   have ih:=za0 l m (by simpa using h);rw[List.zip_cons_cons,List.filter_cons,List.filter_cons];cases hf:f.choice
   · simpa [hf] using ih
   · simp[hf,ih]
 | _ :: _,[],h=>by simp at h
theorem layOk (l:List Fld)(hs:∀k (hk:k<l.length),1≤(l[k]).size∧(l[k]).size≤6):LayOk l:=by
 obtain ⟨N,g⟩:=zjv l
 have used:∀k (hk:k<l.length),(l[k]).size≠6→∀b,inS (kOf (l[k]).size) (atF l k) b→b<64*(layF l ps0).2.ls.words:=fun k hk h6 b hb =>
  (g.dused _ (z4n l k hk) h6 b hb).1
 refine ⟨hs,?_,?_,?_,?_,?_,?_,?_,?_,?_⟩
 · intro k hk h6
   obtain ⟨h1,h2⟩:=hs k hk;obtain ⟨z0,z1,z2⟩:=fr_nn h1 h2 h6 (atF l k);have e:toF (l[k]).size (atF l k)=frF (l[k]).size (atF l k)+z23 (l[k]).size:=rfl;have:=used k hk h6 (toF (l[k]).size (atF l k)-1).toNat ((z5j h1 h2 h6 _ _).2 (by omega));omega
 · intro ht k hk h6 hm
   obtain ⟨h1,h2⟩:=hs k hk;obtain ⟨z0,z1,z2⟩:=fr_nn h1 h2 h6 (atF l k);have e:toF (l[k]).size (atF l k)=frF (l[k]).size (atF l k)+z23 (l[k]).size:=rfl
   by_cases hc:frF (l[k]).size (atF l k)≤16*(layF l ps0).2.tag
   · refine g.tagD ht _ (z4n l k hk) h6 (16*(layF l ps0).2.tag).toNat ?_ ((z5j h1 h2 h6 (atF l k) _).2 (by omega))
     unfold inS
     simp only[show (2:Nat)^(6-2)=16 from rfl]
     omega
   · refine g.tagD ht _ (z4n l k hk) h6 (frF (l[k]).size (atF l k)).toNat ?_ ((z5j h1 h2 h6 (atF l k) _).2 (by omega))
     unfold inS
     simp only[show (2:Nat)^(6-2)=16 from rfl]
     omega
 · intro ht
   have:=(g.nused _ (g.tagN ht (16*(layF l ps0).2.tag.toNat+15) (by unfold inS; simp only[show (2:Nat)^(6-2)=16 from rfl]; omega))).1;omega
 · intro k i hki hi h6 k6 hb hm
   obtain ⟨h1,h2⟩:=hs i hi;obtain ⟨k1,k2⟩:=hs k (by omega);obtain ⟨b,b1,b2⟩:=zep h1 h2 h6 k1 k2 k6 hm.1 hm.2;exact zds l g.dapart hki hi k6 h6 (fun hh=>hb ⟨hh.2,hh.1⟩) b b2 b1
 · intro k hk h6
   exact g.ptr _ (z4n l k hk) (fun h=>h h6)
 · intro k i hki hi h6 k6 hb he
   exact zds l g.papart hki hi (fun h=>h k6) (fun h=>h h6) (fun hh=>hb ⟨hh.2,hh.1⟩) he.symm
 · intro k i hki hi h6 k6 ci ck m1 m2
   obtain ⟨h1,h2⟩:=hs i hi;obtain ⟨k1,k2⟩:=hs k (by omega);obtain ⟨b,b1,b2⟩:=zep h1 h2 h6 k1 k2 k6 m1 m2;obtain ⟨r,hr,r1,r2⟩:=g.dC _ (z4n l i hi) h6 ci;obtain ⟨q,hq,q1,q2⟩:=g.dC _ (z4n l k (by omega)) k6 ck
   simp only at r1 r2 q1 q2
   have br:inS r.1 r.2 b:=z6b (z2x _) r1 (by rw[r2] at b1; exact b1);have bq:inS q.1 q.2 b:=z6b (z2x _) q1 (by rw[q2] at b2; exact b2);have:r=q:=zm8 g.sapart hr hq (fun h=>h b br bq) (fun h=>h b bq br);subst this;rw[z9k h1 h2 h6 r1 r2,z9k k1 k2 k6 q1 q2]
 · intro k i hki hi h6 k6 ci ck
   have a:=g.ptrC _ (z4n l i hi) (fun h=>h h6) ci;have b:=g.ptrC _ (z4n l k (by omega)) (fun h=>h k6) ck
   simp only at a b
   omega
 · rw[g.tagm,g.many,za0 l _ (z0a l ps0)]
open Go.RowKit
def bitN (l:List UInt8)(i:Nat):Nat:=(l[i/8]?.getD 0).toNat/2^(i%8)%2
theorem zmv (l:List UInt8)(at_:Int)(w:World)(hl:l.length=8)(h0:0≤at_)(h1:at_<64) :
 Calls Tryz.prog 149 #[.agg (wd l),.int .i64 at_] w fun e w'=>e= .returned (.int .i64 (bitN l at_.toNat:Nat))∧Below w.heap.size w w':=by
 obtain ⟨a,rfl⟩:=Int.eq_ofNat_of_zero_le h0;have hc:=zgp w l 180 (a/8) (by omega);have HL:=hid hl;clear hl;go_enter Tryz.func149,Tryz.ntmps149;go_wp2;go_ret;refine ⟨z15 ?_,(Below.refl _ _).alloc (Nat.le_refl _) _⟩;rw[znk _ _ (z8x l _)]
 rfl
theorem zay (s:ByteArray)(at_:Int)(w:World)(hs:s.size≤1600) :
 Calls Tryz.prog 147 #[.string s,.int .i64 at_] w fun e w'=>e= .returned (.bool (decide (0≤at_∧at_<8*s.size)))∧w=w':=by
 by_cases h1:0≤at_
 all_goals
  go_enter Tryz.func147,Tryz.ntmps147;go_wp2
  all_goals go_ret
  all_goals refine ⟨z0f ?_,rfl⟩
  all_goals (rw[Bool.eq_iff_iff]; simp; omega)
theorem z94 (s:ByteArray)(a:Nat)(w:World)(hs:s.size≤maxLen)(hw:z0w s.size=true)(hin:a<8*s.size)(h16:s.size≤1600) :
 Calls Tryz.prog 66 #[.string s,.int .i64 a] w fun e w'=>e= .returned (.int .i64 (bitN s.data.toList a:Nat))∧w=w':=by
 have h8:a/8<s.size:=by omega
 go_enter Tryz.func66,Tryz.ntmps66
 go_wp2_with (first | (go_at_call 104; refine (z78 _ _ hs).mono ?_; rintro e w' ⟨rfl,rfl⟩))
 go_ret;refine ⟨z15 ?_,rfl⟩;rw[zmu _ _ (s[a/8]).toNat_lt,bitN,zc8 s _ h8]
def bitB (l:List UInt8)(at_:Int):Bool:=z0w l.length&&decide (0≤at_∧at_<8*l.length)
def bitI (l:List UInt8)(at_:Int):Int:=if bitB l at_=true then (bitN l at_.toNat:Nat) else 0
theorem z90 (s:ByteArray)(at_:Int)(w:World)(hs:s.size≤maxLen) :
 Calls Tryz.prog 66 #[.string s,.int .i64 at_] w fun e w'=>e= .returned (.int .i64 (bitI s.data.toList at_))∧w=w':=by
 have hsl:s.data.toList.length=s.size:=by simp
 cases hw:z0w s.size
 · have hG:bitI s.data.toList at_=0:=by rw[bitI,bitB,hsl,hw,if_neg (by simp)]
   rw[hG];clear hG hsl;go_enter Tryz.func66,Tryz.ntmps66
   go_wp2_with (first | (go_at_call 104; refine (z78 _ _ hs).mono ?_; rintro e w' ⟨rfl,rfl⟩))
   go_ret;exact ⟨rfl,rfl⟩
 have hw8:s.size%8=0∧s.size≤1600:=by simpa [z0w] using hw
 obtain ⟨hw1,hw2⟩:=hw8
 by_cases h0:at_<0
 · have hG:bitI s.data.toList at_=0:=by rw[bitI,if_neg (by simp[bitB]; intros; omega)]
   rw[hG];clear hG hsl;go_enter Tryz.func66,Tryz.ntmps66
   go_wp2_with (first | (go_at_call 104; refine (z78 _ _ hs).mono ?_; rintro e w' ⟨rfl,rfl⟩))
   go_ret;exact ⟨rfl,rfl⟩
 obtain ⟨a,rfl⟩:=Int.eq_ofNat_of_zero_le (show 0≤at_ by omega)
 by_cases h1:a<8*s.size
 · have hG:bitI s.data.toList a=(bitN s.data.toList a:Nat):=by rw[bitI,bitB,hsl,hw,if_pos (by simp; omega)]; rfl
   rw[hG];exact z94 s a w hs hw h1 hw2
 · have hG:bitI s.data.toList a=0:=by rw[bitI,bitB,hsl,if_neg (by simp; intros; omega)]
   rw[hG];clear hG hsl;go_enter Tryz.func66,Tryz.ntmps66
   go_wp2_with (first | (go_at_call 104; refine (z78 _ _ hs).mono ?_; rintro e w' ⟨rfl,rfl⟩))
   go_ret;exact ⟨rfl,rfl⟩
theorem zgx (l:List UInt8)(a:Nat):bitN ((l.drop (8*(a/64))).take 8) (a%64)=bitN l a:=by
 rw[bitN,bitN,List.getElem?_take_of_lt (by omega),List.getElem?_drop,show 8*(a/64)+a%64/8=a/8 by omega,show a%64%8=a%8 by omega]
theorem z96 (s:ByteArray)(at_:Int)(w:World)(hs:s.size≤maxLen) :
 Calls Tryz.prog 125 #[.string s,.int .i64 at_] w fun e w'=>e= .returned (.int .i64 (bitI s.data.toList at_))∧Below w.heap.size w w':=by
 have hsl:s.data.toList.length=s.size:=by simp
 cases hw:z0w s.size
 · have hG:bitI s.data.toList at_=0:=by rw[bitI,bitB,hsl,hw,if_neg (by simp)]
   rw[hG];clear hG hsl;go_enter Tryz.func125,Tryz.ntmps125
   go_wp2_with (first | (go_at_call 142; refine (z1z _ _ hs).mono ?_; rintro e w' ⟨rfl,rfl⟩))
   go_ret;exact ⟨rfl,Below.refl _ _⟩
 have hw8:s.size%8=0∧s.size≤1600:=by simpa [z0w] using hw
 obtain ⟨hw1,hw2⟩:=hw8
 by_cases hin:0≤at_∧at_<8*s.size
 · obtain ⟨a,rfl⟩:=Int.eq_ofNat_of_zero_le hin.1
   have hlt:a<8*s.size:=by omega
   have hG:bitI s.data.toList a=(bitN ((s.data.toList.drop (8*(a/64))).take 8) (a%64):Nat):=by rw[bitI,bitB,hsl,hw,if_pos (by simp; omega),zgx]; rfl
   have hlen:((s.data.toList.drop (8*(a/64))).take 8).length=8:=by simp; omega
   have hb:decide (0≤(a:Int)∧(a:Int)<8*s.size)=true:=by simp; omega
   have HI:=hid hb;have HL:=hid hlen;rw[hG];clear hG hsl hlen hin hb;go_enter Tryz.func125,Tryz.ntmps125
   go_wp2_with (first | (go_at_call 142; refine (z1z _ _ hs).mono ?_; rintro e w' ⟨rfl,rfl⟩) | (go_at_call 147; refine (zay _ _ _ hw2).mono ?_; rw[HI.out]; rintro e w' ⟨rfl,rfl⟩) | (go_at_call 148; go_must (refine (z6e s _ _ hs (by omega) (by omega)).mono ?_); rintro e w1 ⟨rfl,hb1⟩) | (go_at_call 149; go_must (refine (zmv _ _ _ (by exact HL.out) (by omega) (by omega)).mono ?_); rintro e w2 ⟨rfl,hb2⟩))
   go_ret;exact ⟨rfl,hb1.trans (hb2.mono hb1.size)⟩
 · have hG:bitI s.data.toList at_=0:=by rw[bitI,bitB,hsl,if_neg (by simp; intros; omega)]
   have hb:decide (0≤at_∧at_<8*s.size)=false:=by simpa using hin
   have HI:=hid hb;rw[hG];clear hG hsl hin hb;go_enter Tryz.func125,Tryz.ntmps125
   go_wp2_with (first | (go_at_call 142; refine (z1z _ _ hs).mono ?_; rintro e w' ⟨rfl,rfl⟩) | (go_at_call 147; refine (zay _ _ _ hw2).mono ?_; rw[HI.out]; rintro e w' ⟨rfl,rfl⟩))
   go_ret;exact ⟨rfl,Below.refl _ _⟩
open Go.RowKit Go.Deep
abbrev byR (n:Nd):List UInt8:=n.data.data.toList
def plcN (l:List Fld)(k:Nat):Nat:=(l.take k).countP (fun f=>f.choice)
def wdF (z:Int):Int:=if z=2 then 1 else if z=3 then 2 else if z=4 then 4 else 8
def rawI (f:Fld)(s:Nat)(n:Nd):Int:=if f.size=1 then bitI (byR n) (s:Int) else getI (byR n) ((s:Int)*wdF f.size) (wdF f.size)
def fldK (l:List Fld)(k:Nat):Fld:=l[k]?.getD ⟨0,false,0⟩
theorem z1n {l:List Fld}{k:Nat}(h:k<l.length):fldK l k=l[k]:=by unfold fldK; rw[List.getElem?_eq_getElem h]; rfl
def z2v (l:List Fld)(k:Nat):Bool:=(fldK l k).choice&&decide (0≤tagL l)
def seenB (l:List Fld)(n:Nd)(k:Nat):Bool:= !z2v l k||decide (choN l n=(plcN l k:Int))
def rgB (l:List Fld)(n:Nd)(a:Int):Bool:=recB l n&&(withB a l.length&&seenB l n a.toNat)
def fNum (l:List Fld)(n:Nd)(k:Nat):Int:=if (fldK l k).size=6 then 0 else xorI (rawI (fldK l k) (atF l k) n) (fldK l k).els
def fNod (l:List Fld)(n:Nd)(k:Nat):Nd:=if (fldK l k).size=6 then n.ptrs[atF l k]?.getD z07 else z07
def rgN (l:List Fld)(n:Nd)(a:Int):Int:=if rgB l n a=true then fNum l n a.toNat else 0
def rgY (l:List Fld)(n:Nd)(a:Int):Nd:=if rgB l n a=true then fNod l n a.toNat else z07
theorem zlm {l:List Fld}(hok:z14 l=true){k:Nat}(hk:k<l.length):atF l k≤2000:=by
 have hl:=z0n hok;refine zb5 l pbd0 (by omega) _ ?_;unfold atF;rw[List.getD,List.getElem?_eq_getElem (by rw[z0a]; exact hk)];exact List.getElem_mem _
theorem zbg {l:List Fld}(h:z14 l=true){k:Nat}(hk:k<l.length):fldOk l[k]=true:=by
 unfold z14 at h;rw[Bool.and_eq_true] at h;exact List.all_eq_true.mp h.1 _ (List.getElem_mem hk)
theorem zmj {f:Fld}(h:fldOk f=true)(h6:f.size=6):f.els=0:=by
 unfold fldOk fitB at h;rw[h6] at h
 simpa [inB] using h
theorem zmh {l:List UInt8}{a z:Int}(hw:l.length%8=0∧l.length≤1600)(hz:z=1∨z=2∨z=4∨z=8)(h0:0≤a)(hm:a%z=0):getI l a z=wrap64 (leN l a.toNat z.toNat:Nat):=by
 have hwb:z0w l.length=true:=by simp[z0w,hw]
 by_cases h1:a≤1600
 · unfold getI
   rw[if_pos ⟨hwb,by simp[z2k]; omega⟩]
 · unfold getI
   rw[if_neg (by simp[z2k]; omega),zdl _ _ _ (by omega)]
   simp[wrap64]
theorem zdy (z:Int):wdF z=1∨wdF z=2∨wdF z=4∨wdF z=8:=by
 unfold wdF
 split
 · exact .inl rfl
 · split
   · exact .inr (.inl rfl)
   · split
     · exact .inr (.inr (.inl rfl))
     · exact .inr (.inr (.inr rfl))
theorem zia {l:List Fld}{n:Nd}(h:recB l n=true):(byR n).length%8=0∧(byR n).length≤1600:=by
 obtain ⟨h8,hw, -⟩:=z17 h
 have e:(byR n).length=n.data.size:=by simp[byR]
 rw[e];exact ⟨h8,by omega⟩
theorem z7d {l:List Fld}{j:Nat}(h:j<l.length):plcN l (j+1)=plcN l j+(if (l[j]).choice then 1 else 0):=by
 unfold plcN;rw[List.take_succ_eq_append_getElem h,List.countP_append,List.countP_singleton]
theorem z4k (l:List Fld)(k:Nat):plcN l k≤k:=by
 unfold plcN;exact Nat.le_trans List.countP_le_length (by rw[List.length_take]; omega)
theorem zcf (A:Option Addr)(c:Nat)(l:List Fld)(k:Nat)(hk:k<l.length)(hc:l.length≤c)(w:World)(h:Flds w A l)(hl:l.length≤12) :
 Calls Tryz.prog 30 #[.slice A l.length c,.int .i64 (k:Int)] w fun e w'=>e= .returned (.int .i64 (plcN l k:Nat))∧Below w.heap.size w w':=by
 have HF:=hid h;obtain ⟨x,rfl,hxb, -⟩:=h.at2 hk
 have hkc:k≤c:=by omega
 have hk12:k≤12:=by omega
 clear h;go_enter Tryz.func30,Tryz.ntmps30;go_wp2
 go_loopw [5,12] (fun q i wr=>∃(j u:Nat),i= .int .i64 (j:Int)∧q= .int .i64 (u:Int)∧j≤k∧u≤12∧Hid (u=plcN l j)∧Hid (Below w.heap.size w wr)) (fun _ i _=>k-(intOf i).toNat)
 case atStart=>exact ⟨0,0,rfl,rfl,by omega,by omega,hid rfl,hid (Below.refl _ _)⟩
 case round =>
  obtain ⟨j,u,rfl,rfl,hj,hu,HU,HB⟩:=hrel
  by_cases hlt:j<k
  · obtain ⟨x',hx',hxb',hx⟩:=(HF.out.below HB.out).at2 (k:=j) (by omega)
    obtain rfl:=Option.some.inj hx';have HTK:=hid (z7d (l:=l) (j:=j) (by omega));have HP:=hid (z4k l (j+1));generalize l[j]=f at hx HTK;obtain ⟨z,fc,el⟩:=f;obtain ⟨c0,c1,c2⟩:=hx;have HB2:=hid (HB.out.alloc HB.out.size (.cells #[.int .i64 z,.bool fc,.int .i64 el] 41));cases fc
    · go_wp2
      go_roundw
      case rel=>exact ⟨j+1,u,by go_num,rfl,by omega,by omega,hid (by rw[HTK.out,HU.out]; rfl),HB2⟩
      case measure=>simp[intOf]; omega
    · have hu1:u+1≤12:=by have h1:=HP.out; have h2:=HTK.out; have h3:=HU.out; simp at h2; omega
      go_wp2
      go_roundw
      case rel=>exact ⟨j+1,u+1,by go_num,by go_num,by omega,hu1,hid (by rw[HTK.out,HU.out]; rfl),HB2⟩
      case measure=>simp[intOf]; omega
  · obtain rfl:j=k:=by omega
    go_wp2;go_ret;exact ⟨by rw[← HU.out]; rfl,HB.out⟩
theorem z1m (A:Option Addr)(c:Nat)(l:List Fld)(k:Nat)(hk:k<l.length)(w:World)(h:Flds w A l)(hl:l.length≤12) :
 Calls Tryz.prog 37 #[.slice A l.length c,.int .i64 (k:Int)] w fun e w'=>e= .returned (.int .i64 (plcN l k:Nat))∧Below w.heap.size w w':=by
 have HF:=hid h;obtain ⟨x,rfl,hxb, -⟩:=h.at2 hk
 have hk12:k≤12:=by omega
 clear h;go_enter Tryz.func37,Tryz.ntmps37;go_wp2
 go_loopw [5,6] (fun q i wr=>∃(j u:Nat),i= .int .i64 (j:Int)∧q= .int .i64 (u:Int)∧j≤k∧u≤12∧Hid (u=plcN l j)∧Hid (Below w.heap.size w wr)) (fun _ i _=>k-(intOf i).toNat)
 case atStart=>exact ⟨0,0,rfl,rfl,by omega,by omega,hid rfl,hid (Below.refl _ _)⟩
 case round =>
  obtain ⟨j,u,rfl,rfl,hj,hu,HU,HB⟩:=hrel
  by_cases hlt:j<k
  · obtain ⟨x',hx',hxb',hx⟩:=(HF.out.below HB.out).at2 (k:=j) (by omega)
    obtain rfl:=Option.some.inj hx';have HTK:=hid (z7d (l:=l) (j:=j) (by omega));have HP:=hid (z4k l (j+1));generalize l[j]=f at hx HTK;obtain ⟨z,fc,el⟩:=f;obtain ⟨c0,c1,c2⟩:=hx
    have hjl:j<l.length:=by omega
    cases fc
    · go_wp2
      go_roundw
      case rel=>exact ⟨j+1,u,by go_num,rfl,by omega,by omega,hid (by rw[HTK.out,HU.out]; rfl),HB⟩
      case measure=>simp[intOf]; omega
    · have hu1:u+1≤12:=by have h1:=HP.out; have h2:=HTK.out; have h3:=HU.out; simp at h2; omega
      go_wp2
      go_roundw
      case rel=>exact ⟨j+1,u+1,by go_num,by go_num,by omega,hu1,hid (by rw[HTK.out,HU.out]; rfl),HB⟩
      case measure=>simp[intOf]; omega
  · obtain rfl:j=k:=by omega
    go_wp2;go_ret;exact ⟨by rw[← HU.out]; rfl,HB.out⟩
theorem z43 {l:List Fld}{k:Nat}(hk:k<l.length):z2v l k=((l[k]).choice&&decide (0≤tagL l)):=by unfold z2v; rw[z1n hk]
theorem zdc (g:Nat)(x:Addr)(c:Nat)(l:List Fld)(v1:Value)(n:Nd)(h:Hd)(k:Nat)(hk:k<l.length)(w:World)(hr:RecAt w g (some x) l.length c l v1 n h)(hf:FldAt w (x.add (k*3)) l[k])(hl:l.length≤12) :
 Calls Tryz.prog 28 #[.pointer (some ⟨g,0,none⟩),.int .i64 (k:Int)] w fun e w'=>e= .returned (.bool (z2v l k))∧Below w.heap.size w w':=by
 obtain ⟨a0,a1,a2,a3,a4,a5,a6,a7,a8,a9,a10⟩:=z08 hr;rw[z43 hk];generalize l[k]=f at *;obtain ⟨z,fc,el⟩:=f;obtain ⟨c0,c1,c2⟩:=hf;clear hr;cases fc
 · go_enter Tryz.func28,Tryz.ntmps28
   go_wp2;go_ret;exact ⟨rfl,Below.refl _ _⟩
 · go_enter Tryz.func28,Tryz.ntmps28
   go_wp2;go_ret;exact ⟨by simp,Below.refl _ _⟩
abbrev numA (z:Int):Value:= .agg #[.int .i64 z,.int .i64 0,.string { data:= #[] },.slice none 0 0,.int .i64 0,.int .i64 0,.slice none 0 0]
theorem zjr (n:Nd)(h:Hd)(at_:Int)(w:World)(hd:n.data.size≤maxLen) :
 Calls Tryz.prog 96 #[.agg #[.int .i64 n.kind,.string n.data,.slice h.A n.ptrs.length h.a,.int .i64 n.size,.int .i64 n.count,.slice h.B n.items.length h.b],.int .i64 at_] w fun e w'=>e= .returned (numV (bitI n.data.data.toList at_))∧Below w.heap.size w w':=by
 have hax:(w.alloc (.cells #[.int .i64 n.kind,.string n.data,.slice h.A n.ptrs.length h.a,.int .i64 n.size,.int .i64 n.count,.slice h.B n.items.length h.b] nodeT)).heap.size=w.heap.size+1:=by simp
 have hbx:Below w.heap.size w ((w.alloc (.cells #[.int .i64 n.kind,.string n.data,.slice h.A n.ptrs.length h.a,.int .i64 n.size,.int .i64 n.count,.slice h.B n.items.length h.b] nodeT)).alloc (.cells #[.int .i64 0,.int .i64 0,.string { data:= #[] },.slice none 0 0,.int .i64 0,.int .i64 0,.slice none 0 0] valT)):=((Below.refl _ _).alloc (Nat.le_refl _) _).alloc (by simp) _;have hg0:((w.alloc (.cells #[.int .i64 n.kind,.string n.data,.slice h.A n.ptrs.length h.a,.int .i64 n.size,.int .i64 n.count,.slice h.B n.items.length h.b] nodeT)).alloc (.cells #[.int .i64 0,.int .i64 0,.string { data:= #[] },.slice none 0 0,.int .i64 0,.int .i64 0,.slice none 0 0] valT)).heap[w.heap.size]? =some (.cells #[.int .i64 n.kind,.string n.data,.slice h.A n.ptrs.length h.a,.int .i64 n.size,.int .i64 n.count,.slice h.B n.items.length h.b] nodeT (0,0)):=z02 (heap_alloc_new w _) _;have hg1:((w.alloc (.cells #[.int .i64 n.kind,.string n.data,.slice h.A n.ptrs.length h.a,.int .i64 n.size,.int .i64 n.count,.slice h.B n.items.length h.b] nodeT)).alloc (.cells #[.int .i64 0,.int .i64 0,.string { data:= #[] },.slice none 0 0,.int .i64 0,.int .i64 0,.slice none 0 0] valT)).heap[w.heap.size+1]? =some (.cells #[.int .i64 0,.int .i64 0,.string { data:= #[] },.slice none 0 0,.int .i64 0,.int .i64 0,.slice none 0 0] valT (0,0)):=hax ▸ heap_alloc_new _ _;obtain ⟨a0,a1,a2,a3,a4,a5⟩:=z04 hg0;have HB0:=hid hbx;have HG1:=hid hg1;clear hbx hg0 hg1 hax;go_enter Tryz.func96,Tryz.ntmps96
 go_wp2_with fail
 clear a0 a1 a2 a3 a4 a5;generalize ((w.alloc (.cells #[.int .i64 n.kind,.string n.data,.slice h.A n.ptrs.length h.a,.int .i64 n.size,.int .i64 n.count,.slice h.B n.items.length h.b] nodeT)).alloc (.cells #[.int .i64 0,.int .i64 0,.string { data:= #[] },.slice none 0 0,.int .i64 0,.int .i64 0,.slice none 0 0] valT))=W at *;refine (z96 n.data at_ W hd).mono ?_;rintro e w2 ⟨rfl,hb2⟩;have hs:=HB0.out.size;have HB2:=hid (HB0.out.trans (hb2.mono hs));have hr:=(hb2.block _ (z00 HG1.out)).trans HG1.out;have HR:=hid hr;obtain ⟨z0,z1,z2,z3,z4,z5,z6⟩:=zao hr;have zf:=z03 hr
 obtain ⟨gv,hgv⟩:∃gv,bitI n.data.data.toList at_=gv:=⟨_,rfl⟩
 have HGV:=hid hgv;rw[hgv];clear hgv;clear hb2 hr
 go_wp2_with fail
 obtain ⟨wf,hwf,hrw,hbf, -, -⟩:=fin7 (R:=w.heap.size) (.int .i64 gv) (.int .i64 0) (.string ⟨#[]⟩) (.slice none 0 0) (.int .i64 0) (.int .i64 0) (.slice none 0 0) HR.out HB2.out (by omega);rw[hwf];obtain ⟨e0,e1,e2,e3,e4,e5,e6⟩:=zao hrw;exact bodyPost_ret (v:=numV gv) (by simp[results,Tryz.results96,go_sem,numV,e0,e1,e2,e3,e4,e5,e6]) rfl ⟨by rw[HGV.out],hbf⟩
theorem zcz (n:Nd)(h:Hd)(at_:Int)(w:World)(h0:0≤at_)(hl:(n.ptrs.length:Int)≤at_)(hm:n.ptrs.length≤maxLen) :
 Calls Tryz.prog 99 #[.agg #[.int .i64 n.kind,.string n.data,.slice h.A n.ptrs.length h.a,.int .i64 n.size,.int .i64 n.count,.slice h.B n.items.length h.b],.int .i64 at_] w fun e w'=>e= .returned (numA 0)∧Below w.heap.size w w':=by
 have q0:=z0j w (.cells #[.int .i64 n.kind,.string n.data,.slice h.A n.ptrs.length h.a,.int .i64 n.size,.int .i64 n.count,.slice h.B n.items.length h.b] nodeT);have q1:=z0m q0 (.cells #[.int .i64 0,.int .i64 0,.string { data:= #[] },.slice none 0 0,.int .i64 0,.int .i64 0,.slice none 0 0] valT);have r0:=heap_alloc_new w (.cells #[.int .i64 n.kind,.string n.data,.slice h.A n.ptrs.length h.a,.int .i64 n.size,.int .i64 n.count,.slice h.B n.items.length h.b] nodeT);have r1:=z0s q0 #[.int .i64 0,.int .i64 0,.string { data:= #[] },.slice none 0 0,.int .i64 0,.int .i64 0,.slice none 0 0] valT;obtain ⟨a0,a1,a2,a3,a4,a5⟩:=z04 r0;obtain ⟨z0,z1,z2,z3,z4,z5,z6⟩:=z09 r1;have zf:=z03 r1;have HB0:=hid q1.2;have HR1:=hid r1;clear q1 q0 r0 r1;go_enter Tryz.func99,Tryz.ntmps99
 go_wp2_with fail
 obtain ⟨y0,y1,y2,y3,y4,y5,y6⟩:=z09 HR1.out;exact bodyPost_ret (v:=numA 0) (by simp[results,Tryz.results99,go_sem,y0,y1,y2,y3,y4,y5,y6]) rfl ⟨rfl,HB0.out⟩
theorem zg4 (n:Nd)(x:Addr)(ca:Nat)(B:Option Addr)(cb:Nat)(k:Nat)(y:Nd)(hy:Hd)(w:World)(hk:k<n.ptrs.length)(hm:n.ptrs.length≤maxLen)(hc:NdCell w (x.add (k*6)) y hy) :
 Calls Tryz.prog 99 #[.agg #[.int .i64 n.kind,.string n.data,.slice (some x) n.ptrs.length ca,.int .i64 n.size,.int .i64 n.count,.slice B n.items.length cb],.int .i64 (k:Int)] w fun e w'=>e= .returned (valV 0 y hy)∧Below w.heap.size w w':=by
 have q0:=z0j w (.cells #[.int .i64 n.kind,.string n.data,.slice (some x) n.ptrs.length ca,.int .i64 n.size,.int .i64 n.count,.slice B n.items.length cb] nodeT);have q1:=z0m q0 (.cells #[.int .i64 0,.int .i64 0,.string { data:= #[] },.slice none 0 0,.int .i64 0,.int .i64 0,.slice none 0 0] valT);have r0:=z02 (heap_alloc_new w (.cells #[.int .i64 n.kind,.string n.data,.slice (some x) n.ptrs.length ca,.int .i64 n.size,.int .i64 n.count,.slice B n.items.length cb] nodeT)) (.cells #[.int .i64 0,.int .i64 0,.string { data:= #[] },.slice none 0 0,.int .i64 0,.int .i64 0,.slice none 0 0] valT);have r1:=z0s q0 #[.int .i64 0,.int .i64 0,.string { data:= #[] },.slice none 0 0,.int .i64 0,.int .i64 0,.slice none 0 0] valT;obtain ⟨a0,a1,a2,a3,a4,a5⟩:=z04 r0;obtain ⟨z0,z1,z2,z3,z4,z5,z6⟩:=z09 r1;have zf:=z03 r1;obtain ⟨d0,d1,d2,d3,d4,d5⟩:=hc.block (q1.2.block _ hc.lt);have HB0:=hid q1.2;have HR1:=hid r1
 have hge:¬((n.ptrs.length:Int)≤k):=by omega
 clear q1 q0 r0 r1 hc;go_enter Tryz.func99,Tryz.ntmps99
 go_wp2_with fail
 have r2:=z0s (z0j w (.cells #[.int .i64 n.kind,.string n.data,.slice (some x) n.ptrs.length ca,.int .i64 n.size,.int .i64 n.count,.slice B n.items.length cb] nodeT)) #[.int .i64 0,.int .i64 y.kind,.string y.data,.slice hy.A y.ptrs.length hy.a,.int .i64 y.size,.int .i64 y.count,.slice hy.B y.items.length hy.b] valT;obtain ⟨y0,y1,y2,y3,y4,y5,y6⟩:=z09 r2;exact bodyPost_ret (v:=valV 0 y hy) (by simp[results,Tryz.results99,go_sem,y0,y1,y2,y3,y4,y5,y6]) rfl ⟨rfl,(z0m (z0j w (.cells #[.int .i64 n.kind,.string n.data,.slice (some x) n.ptrs.length ca,.int .i64 n.size,.int .i64 n.count,.slice B n.items.length cb] nodeT)) _).2⟩
end Go.Proofs.YtblcibgphccfkaaGreatDoor
