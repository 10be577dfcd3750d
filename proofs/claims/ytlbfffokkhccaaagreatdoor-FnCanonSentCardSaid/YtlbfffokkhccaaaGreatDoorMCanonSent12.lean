/- Texts of the proof of the law FnCanonSent, side by side: part 12. -/
import Derived.Deep.LoopGhost
import Derived.StillTailTactics
import Derived.Test.YtlbfffokkhccaaaGreatDoorMCanonSent11
set_option maxHeartbeats 8000000
set_option maxRecDepth 100000
open Go.Lib (hid)
namespace Go.Proofs.YtlbfffokkhccaaaGreatDoor
open Go.RowKit
theorem mk_sz (l:List UInt8):(⟨l.toArray⟩:ByteArray).size=l.length:=by simp[ByteArray.size]
def fitU (out:List UInt8):Option (List UInt8)→Option (List UInt8)
 | none=>none
 | some o=>if out.length+o.length≤1600 then some (out++o) else none
theorem zfx (out x:List UInt8)(o:Option (List UInt8)):fitU out (o.map (x++ ·))=fitU (out++x) o:=by
 cases o with
 | none=>rfl
 | some o=>simp[fitU,Nat.add_assoc]
theorem zac {out:List UInt8}(h:1600<out.length)(o:Option (List UInt8)):fitU out o=none:=by
 cases o with
 | none=>rfl
 | some o=>rw[fitU,if_neg (by omega)]
theorem zsa {out:List UInt8}(h:out.length≤1600):fitU out (unW [])=some out:=by
 rw[zks,fitU,if_pos (by simpa using h),List.append_nil]
def nouR (out l:List UInt8):Option (List UInt8):=if l.length=0 then none else fitU (out++List.replicate (8*(l.headD 0).toNat) 0) (unW l.tail)
def plaR (out l:List UInt8):Option (List UInt8):=if l.length<1+8*(l.headD 0).toNat then none else fitU (out++(l.drop 1).take (8*(l.headD 0).toNat)) (unW ((l.drop 1).drop (8*(l.headD 0).toNat)))
theorem zrh {out:List UInt8}(t:UInt8)(r:List UInt8)(h:r.length<popN 8 t.toNat):fitU out (unW (t :: r))=none:=by
 rw[zcm (by simp) (by rw[stepU,if_pos h])]; rfl
theorem zrz {out:List UInt8}(r:List UInt8):fitU out (unW (0 :: r))=nouR (out++z0m 8 0 []) r:=by
 have e0:popN 8 (0:UInt8).toNat=0:=by decide
 have es:z0m 8 0 []=List.replicate 8 0:=by decide
 rw[nouR]
 by_cases h:r.length=0
 · rw[if_pos h,zcm (by simp) (by rw[stepU,e0,if_neg (by omega),if_pos rfl,if_pos h])]; rfl
 · rw[if_neg h,z41 (show stepU (0 :: r)=some _ by rw[stepU,e0,if_neg (by omega),if_pos rfl,if_neg h]),zfx,es,List.append_assoc,List.replicate_append_replicate]
   congr 3; omega
theorem ziz:∀x:List UInt8,x.length=8→z0m 8 255 x=x
 | [a,b,c,d,e,f,g,i],_=>by simp[z0m]
theorem zr9 {out:List UInt8}(r:List UInt8)(h8:8≤r.length):fitU out (unW (255 :: r))=plaR (out++z0m 8 255 (r.take 8)) (r.drop 8):=by
 have e0:popN 8 (255:UInt8).toNat=8:=by decide
 rw[ziz _ (by simp; omega),plaR,List.length_drop];generalize hc:((r.drop 8).headD 0).toNat=c
 by_cases h:r.length<9+8*c
 · rw[if_pos (by omega),zcm (by simp) (by rw[stepU,e0,if_neg (by omega),if_neg (by decide),if_pos rfl,hc,if_pos h])]; rfl
 · rw[if_neg (by omega),z41 (show stepU (255 :: r)=some _ by rw[stepU,e0,if_neg (by omega),if_neg (by decide),if_pos rfl,hc,if_neg h]),zfx,List.append_assoc,show (r.drop 8).drop 1=r.drop 9 by rw[List.drop_drop]]
theorem zs9 {out:List UInt8}(t:UInt8)(r:List UInt8)(h:popN 8 t.toNat≤r.length)(h0:t≠0)(h255:t≠255) :
 fitU out (unW (t :: r))=fitU (out++z0m 8 t.toNat (r.take (popN 8 t.toNat))) (unW (r.drop (popN 8 t.toNat))):=by
 rw[z41 (show stepU (t :: r)=some _ by rw[stepU,if_neg (by omega),if_neg h0,if_neg h255]),zfx]
theorem zsl {out l:List UInt8}(h:1600<out.length):nouR out l=none:=by
 rw[nouR]; split
 · rfl
 · exact zac (by simp; omega) _
theorem zs8 {out l:List UInt8}(h:1600<out.length):plaR out l=none:=by
 rw[plaR]; split
 · rfl
 · exact zac (by simp; omega) _
inductive UJ (R:Option (List UInt8)) (B b:Nat):Nat→Value→World→Prop
 | tag (k:Nat) (out:List UInt8) (L:ByteArray) (w:World):US B b out L false w→out.length≤1600→fitU out (unW L.data.toList)=R→2*L.size+2≤k→UJ R B b k (uTag b) w
 | nou (k:Nat) (out:List UInt8) (L:ByteArray) (w:World):US B b out L false w→out.length≤1600→nouR out L.data.toList=R→2*L.size+3≤k→UJ R B b k (uNou b) w
 | pla (k:Nat) (out:List UInt8) (L:ByteArray) (w:World):US B b out L false w→out.length≤1600→plaR out L.data.toList=R→2*L.size+3≤k→UJ R B b k (uPla b) w
 | bro (k:Nat) (out:List UInt8) (L:ByteArray) (w:World):US B b out L false w→out.length≤1600→R=none→1≤k→UJ R B b k (uBro b) w
 | fin (k:Nat) (out:List UInt8) (L:ByteArray) (bad:Bool) (w:World):US B b out L bad w→(bad=true∧R=none∨bad=false∧R=some out)→UJ R B b k .nilFunc w
def UNext (R:Option (List UInt8))(B b k:Nat)(w:World)(e:Ending)(w':World):Prop:=∃v k',k'<k∧e= .returned v∧UJ R B b k' v w'∧Keeps B b w w'
theorem zlk (R:Option (List UInt8))(B b k:Nat)(out:List UInt8)(L:ByteArray)(w:World)(h:US B b out L false w)(hR:R=none)(hk:1≤k) :
 Calls Tryz.prog 145 #[.pointer (some ⟨b,0,none⟩)] w (UNext R B b k w) :=
 (zft B b out L false w h).mono fun e w' ⟨he,hU,hK⟩=>⟨_,0,by omega,he,.fin 0 out L true w' hU (.inl ⟨rfl,hR⟩),hK⟩
theorem zcg (L:ByteArray)(h:0<L.size):L.data.toList=L[0] :: (L.extract 1 L.size).data.toList:=by
 have hl:L.data.toList.length=L.size:=rfl;rw[Lib.extract_data,List.take_of_length_le (by simp <;> omega)]
 conv=>lhs; rw[← List.drop_zero (l:=L.data.toList),List.drop_eq_getElem_cons (by omega)]
 rfl
theorem rep0 (n:Nat):Lib.repeatL [0] n=List.replicate n (0:UInt8):=by
 induction n with
 | zero=>rfl
 | succ n ih=>rw[Lib.repeatL,ih,List.replicate_succ]; rfl
theorem zla (R:Option (List UInt8))(B b k:Nat)(out:List UInt8)(L:ByteArray)(w:World)(h:US B b out L false w)(ho:out.length≤1600)(hR:nouR out L.data.toList=R)(hk:2*L.size+3≤k)(hBw:B≤w.heap.size) :
 Calls Tryz.prog 146 #[.pointer (some ⟨b,0,none⟩)] w (UNext R B b k w):=by
 have hl:L.data.toList.length=L.size:=rfl
 by_cases h0:L.size<1
 · have hn:=z8c B b out L false 1 w h h0
   have HN:=hid hn
   have hr:R=none:=by rw[← hR,nouR,if_pos (by omega)]
   have HR:Hid (UNext R B b k w (.returned (uBro b)) w):=hid ⟨uBro b,1,by omega,rfl,.bro 1 out L w h ho hr (Nat.le_refl _),Keeps.refl _ _ _⟩;clear h hn hR hr hl;go_enter Tryz.func146,Tryz.ntmps146
   go_wp2_with (go_at_call 143; refine HN.out.mono ?_; rintro e w' ⟨rfl,rfl⟩)
   go_ret;exact HR.out
 · have hy:=z6u B b out L false 1 w h (by omega)
   have HY:=hid hy
   have hx0:0<(L.extract 0 1).size:=by simp; omega
   have hc:(L.extract 0 1)[0]=L[0]'(by omega):=by simp[ByteArray.getElem_eq_getElem_data]
   have hcut:=zcg L (by omega)
   have hr:fitU (out++List.replicate (8*(L[0]'(by omega)).toNat) 0) (unW (L.extract 1 L.size).data.toList)=R:=by
    rw[← hR,nouR,if_neg (by omega),hcut]; rfl
   have hs2:(L.extract 1 L.size).size+1=L.size:=by simp; omega
   generalize L[0]'(by omega)=c at hc hr;have hc256:=c.toNat_lt;have hc0:=hc;generalize hX:L.extract 0 1=X at hx0 hc HY;generalize L.extract 1 L.size=L' at hr hs2 HY
   have hrep:Hid (∀w:World,Calls Tryz.prog 176 #[.string ⟨#[0]⟩,.int .i64 ((c.toNat:Int)*8)] w fun e w'=>e= .returned (.string ⟨(List.replicate (8*c.toNat) 0).toArray⟩)∧Below w.heap.size w w'):=hid (fun w=>by
    have:=Tryz.strings_Repeat ⟨#[0]⟩ (8*c.toNat) w (by omega) (by show 1*_≤_; omega);rw[show (⟨#[0]⟩:ByteArray).data.toList= [0] from rfl,rep0] at this;rw[show (c.toNat:Int)*8=((8*c.toNat:Nat):Int) by omega]
    exact this)
   clear h hy hR hl hcut hX hc0;go_enter Tryz.func146,Tryz.ntmps146
   go_wp2_with fail
   refine HY.out.mono ?_;rintro e w1 ⟨rfl,hU,hK⟩;have HU:=hid hU;have HK:=hid hK;clear hU hK
   go_wp2_with fail
   refine (hrep.out _).mono ?_;rintro e w2 ⟨rfl,hb2⟩;have HU2:=hid (HU.out.below hb2);have HK2:=hid (HK.out.trans (Keeps.of_below (hb2.mono (Nat.le_trans hBw HK.out.size))));have hB2:=Nat.le_trans hBw HK2.out.size;clear hb2
   have hzs:(⟨(List.replicate (8*c.toNat) (0:UInt8)).toArray⟩:ByteArray).size=8*c.toNat:=by rw[mk_sz]; simp
   by_cases hbig:1600<out.length+8*c.toNat
   · have hr2:R=none:=by rw[← hr]; exact zac (by simp; omega) _
     have HR2:=hid hr2;have HW:=hid (z95 B b out L' false _ (uTag b) w2 HU2.out (by rw[hzs]; exact hbig) (by rw[hzs]; omega) ho);clear hr hr2 hzs;unfold uTag at HW
     go_wp2_with fail
     refine HW.out.mono ?_;rintro e w' ⟨rfl,rfl⟩;go_wp2;go_ret;exact ⟨uBro b,1,by omega,rfl,.bro 1 out L' w2 HU2.out ho HR2.out (Nat.le_refl _),HK2.out⟩
   · have HW:=hid (z7j B b out L' false _ (uTag b) w2 HU2.out (by rw[hzs]; omega) hB2)
     have HRR:=hid hr;clear hr hzs;unfold uTag at HW
     go_wp2_with fail
     refine HW.out.mono ?_;rintro e w3 ⟨rfl,hU3,hK3⟩;have HU3:=hid hU3;have HK3:=hid (HK2.out.trans hK3);clear hU3 hK3;go_wp2;go_ret;exact ⟨uTag b,2*L'.size+2,by omega,rfl,.tag _ _ L' w3 HU3.out (by simp; omega) HRR.out (Nat.le_refl _),HK3.out⟩
theorem zlz (R:Option (List UInt8))(B b k:Nat)(out:List UInt8)(L:ByteArray)(w:World)(h:US B b out L false w)(ho:out.length≤1600)(hR:plaR out L.data.toList=R)(hk:2*L.size+3≤k)(hBw:B≤w.heap.size) :
 Calls Tryz.prog 147 #[.pointer (some ⟨b,0,none⟩)] w (UNext R B b k w):=by
 have hl:L.data.toList.length=L.size:=rfl
 by_cases h0:L.size<1
 · have hn:=z8c B b out L false 1 w h h0
   have HN:=hid hn
   have hr:R=none:=by rw[← hR,plaR,if_pos (by omega)]
   have HR:Hid (UNext R B b k w (.returned (uBro b)) w):=hid ⟨uBro b,1,by omega,rfl,.bro 1 out L w h ho hr (Nat.le_refl _),Keeps.refl _ _ _⟩;clear h hn hR hr hl;go_enter Tryz.func147,Tryz.ntmps147
   go_wp2_with (go_at_call 143; refine HN.out.mono ?_; rintro e w' ⟨rfl,rfl⟩)
   go_ret;exact HR.out
 · have hy:=z6u B b out L false 1 w h (by omega)
   have HY:=hid hy
   have hx0:0<(L.extract 0 1).size:=by simp; omega
   have hc:(L.extract 0 1)[0]=L[0]'(by omega):=by simp[ByteArray.getElem_eq_getElem_data]
   have hcut:=zcg L (by omega)
   have hs2:(L.extract 1 L.size).size+1=L.size:=by simp; omega
   rw[hcut,plaR,List.length_cons,List.headD_cons,List.drop_succ_cons,List.drop_zero] at hR;generalize L[0]'(by omega)=c at hc hR;have hc256:=c.toNat_lt;generalize hX:L.extract 0 1=X at hx0 hc HY;generalize L.extract 1 L.size=L' at hR hs2 HY;have hl':L'.data.toList.length=L'.size:=rfl;rw[hl'] at hR;clear h hy hl hcut hX hl';go_enter Tryz.func147,Tryz.ntmps147
   go_wp2_with fail
   refine HY.out.mono ?_;rintro e w1 ⟨rfl,hU,hK⟩;have HU:=hid hU;have HK:=hid hK;clear hU hK
   have hcc:(c.toNat:Int)*8=((8*c.toNat:Nat):Int):=by omega
   by_cases hlt:L'.size<8*c.toNat
   · have hn:=z8c B b out L' false (8*c.toNat) w1 HU.out hlt
     rw[← hcc] at hn;have HN:=hid hn
     have hr:R=none:=by rw[← hR,if_pos (by omega)]
     have HR2:=hid hr;clear hn hr hR hcc
     go_wp2_with fail
     refine HN.out.mono ?_;rintro e w' ⟨rfl,rfl⟩;go_wp2;go_ret;exact ⟨uBro b,1,by omega,rfl,.bro 1 out L' w1 HU.out ho HR2.out (Nat.le_refl _),HK.out⟩
   · have hn:=z6u B b out L' false (8*c.toNat) w1 HU.out (by omega)
     rw[← hcc] at hn;have HN:=hid hn;rw[if_neg (by omega)] at hR
     have hxs:(L'.extract 0 (8*c.toNat)).size=8*c.toNat:=by simp; omega
     have hxl:(L'.extract 0 (8*c.toNat)).data.toList=L'.data.toList.take (8*c.toNat):=by rw[Lib.extract_data]; simp
     have hyl:(L'.extract (8*c.toNat) L'.size).data.toList=L'.data.toList.drop (8*c.toNat):=by rw[Lib.extract_data,List.take_of_length_le (by simp <;> omega)]
     have hys:(L'.extract (8*c.toNat) L'.size).size≤L'.size:=by simp
     rw[← hxl,← hyl] at hR;generalize L'.extract 0 (8*c.toNat)=X2 at hxs hR HN;generalize L'.extract (8*c.toNat) L'.size=L2 at hys hR HN;clear hn hcc hxl hyl
     go_wp2_with fail
     refine HN.out.mono ?_;rintro e w2 ⟨rfl,hU2,hK2⟩;have HU2:=hid hU2;have HK2:=hid (HK.out.trans hK2);have hB2:=Nat.le_trans hBw HK2.out.size;clear hU2 hK2
     by_cases hbig:1600<out.length+X2.size
     · have hr2:R=none:=by rw[← hR]; exact zac (by rw[List.length_append]; have:X2.data.toList.length=X2.size:=rfl; omega) _
       have HR2:=hid hr2;have HW:=hid (z95 B b out L2 false X2 (uTag b) w2 HU2.out hbig (by omega) ho);clear hR hr2 hxs;unfold uTag at HW
       go_wp2_with fail
       refine HW.out.mono ?_;rintro e w' ⟨rfl,rfl⟩;go_wp2;go_ret;exact ⟨uBro b,1,by omega,rfl,.bro 1 out L2 w2 HU2.out ho HR2.out (Nat.le_refl _),HK2.out⟩
     · have HW:=hid (z7j B b out L2 false X2 (uTag b) w2 HU2.out (by omega) hB2)
       have HRR:=hid hR;clear hR hxs;unfold uTag at HW
       go_wp2_with fail
       refine HW.out.mono ?_;rintro e w3 ⟨rfl,hU3,hK3⟩;have HU3:=hid hU3;have HK3:=hid (HK2.out.trans hK3);clear hU3 hK3;go_wp2;go_ret;exact ⟨uTag b,2*L2.size+2,by omega,rfl,.tag _ _ L2 w3 HU3.out (by rw[List.length_append]; have:X2.data.toList.length=X2.size:=rfl; omega) HRR.out (Nat.le_refl _),HK3.out⟩
theorem zfl (R:Option (List UInt8))(B b k:Nat)(out:List UInt8)(L x:ByteArray)(next:Value)(w:World)(h:US B b out L false w)(ho:out.length≤1600)(hx:x.size≤100000)(hk:2≤k)(hBw:B≤w.heap.size)
 (hN:1600<out.length+x.size→R=none) (hJ:∀w',US B b (out++x.data.toList) L false w'→out.length+x.size≤1600→∃k',k'<k∧UJ R B b k' next w') :
 Calls Tryz.prog 148 #[.pointer (some ⟨b,0,none⟩),.string x,next] w (UNext R B b k w):=by
 by_cases hbig:1600<out.length+x.size
 · refine (z95 B b out L false x next w h hbig hx ho).mono ?_
   rintro e w' ⟨rfl,rfl⟩;exact ⟨_,1,by omega,rfl,.bro 1 out L w h ho (hN hbig) (Nat.le_refl _),Keeps.refl _ _ _⟩
 · refine (z7j B b out L false x next w h (by omega) hBw).mono ?_
   rintro e w' ⟨rfl,hU,hK⟩;obtain ⟨k',hk',hj⟩:=hJ w' hU (by omega);exact ⟨_,k',hk',rfl,hj,hK⟩
theorem UNext.of {R:Option (List UInt8)}{B b k:Nat}{w w1:World}{e:Ending}{w':World}(h:UNext R B b k w1 e w')(hk:Keeps B b w w1):UNext R B b k w e w':=by
 obtain ⟨v,k',h1,h2,h3,h4⟩:=h;exact ⟨v,k',h1,h2,h3,hk.trans h4⟩
theorem zop:((List.range 256).all fun x=>Lib.onesCount x==popN 8 x)=true:=by decide +kernel
theorem zjv (t:Nat)(h:t<256):Lib.onesCount t=popN 8 t:=by
 have:=List.all_eq_true.1 zop t (List.mem_range.2 h)
 simpa using this
theorem zmu:∀k t,popN k t≤k
 | 0,_=>Nat.le_refl _
 | k+1,t=>by
   have:=zmu k (t/2)
   rw[popN]; omega
theorem zkd (R:Option (List UInt8))(B b k:Nat)(out:List UInt8)(L:ByteArray)(w:World)(h:US B b out L false w)(ho:out.length≤1600)(hR:fitU out (unW L.data.toList)=R)(hk:2*L.size+2≤k)(hBw:B≤w.heap.size) :
 Calls Tryz.prog 103 #[.pointer (some ⟨b,0,none⟩)] w (UNext R B b k w):=by
 have hl:L.data.toList.length=L.size:=rfl;have hcl:=h.left;have hfz:=BF.frozen h 2
 by_cases h0:L.size=0
 · have hl0:L.data.toList= []:=List.eq_nil_of_length_eq_zero (by omega)
   have hL:L=⟨#[]⟩:=by rw[← Lib.mk_data L,hl0]
   have hr:R=some out:=by rw[← hR,hl0]; exact zsa ho
   have HR:Hid (UNext R B b k w (.returned .nilFunc) w):=hid ⟨_,0,by omega,rfl,.fin 0 out L false w h (.inr ⟨rfl,hr⟩),Keeps.refl _ _ _⟩;rw[hL] at hcl;clear h hR hr hl hl0 hL hfz;go_enter Tryz.func103,Tryz.ntmps103;go_wp2;go_ret;exact HR.out
 have hne:L.toList.isEmpty=false:=by
  rw[ByteArray.toList_eq]
  cases hx:L.data.toList with
  | nil=>rw[hx] at hl; simp at hl; omega
  | cons a r=>rfl
 have hcut:=zcg L (by omega)
 have hs2:(L.extract 1 L.size).size+1=L.size:=by simp; omega
 have hset:=h.setLeft (L.extract 1 L.size);have hk2:=z0p B b w 2 (.string (L.extract 1 L.size))
 have hl1:1≤L.size:=by omega
 have hl0:0<L.size:=by omega
 obtain ⟨c,hc⟩:∃c,L[0]'(by omega)=c:=⟨_,rfl⟩
 rw[hc] at hcut;rw[hcut] at hR;have hc256:=c.toNat_lt
 have hones:=fun w=>Tryz.bits_OnesCount8 (c.toNat:Int) w (by omega) (by omega)
 rw[Int.toNat_natCast,zjv c.toNat hc256] at hones;have HON:=hid hones;have HC:=hid hc;have HSET:=hid hset;have HK2:=hid hk2;have hB2:B≤(w.setCell ⟨b,2,none⟩ (.string (L.extract 1 L.size))).heap.size:=Nat.le_trans hBw hk2.size;have HB2:=hid hB2
 obtain ⟨L',hL'⟩:∃L',L.extract 1 L.size=L':=⟨_,rfl⟩
 rw[hL'] at hR hs2;have HL':=hid hL';have hpl:=zmu 8 c.toNat
 obtain ⟨n,hn⟩:∃n,popN 8 c.toNat=n:=⟨_,rfl⟩
 rw[hn] at HON hpl;have HN:=hid hn;have HR:=hid hR;have hll:L'.data.toList.length=L'.size:=rfl;have HLL:=hid hll;clear h hset hk2 hB2 hcut hR hones hc hl hL' hn hll;go_enter Tryz.func103,Tryz.ntmps103
 go_wp2_with fail
 rw[HC.out];refine (HON.out _).mono ?_;rintro e w1 ⟨rfl,rfl⟩;rw[HL'.out] at HSET HK2 HB2 ⊢;clear hcl hfz hne;generalize w.setCell ⟨b,2,none⟩ (.string L')=w1 at HSET HK2 HB2 ⊢
 by_cases hlt:L'.size<n
 · have HT:=hid (z8c B b out L' false n w1 HSET.out hlt)
   have hr:R=none:=by rw[← HR.out]; exact zrh c _ (by rw[HN.out,HLL.out]; exact hlt)
   have HRR:=hid hr;clear hr
   go_wp2_with fail
   refine HT.out.mono ?_;rintro e w' ⟨rfl,rfl⟩;go_wp2;go_ret;exact ⟨uBro b,1,by omega,rfl,.bro 1 out L' w1 HSET.out ho HRR.out (Nat.le_refl _),HK2.out⟩
 have HT:=hid (z6u B b out L' false n w1 HSET.out (by omega))
 have hxs:(L'.extract 0 n).size=n:=by simp; omega
 have hxl:(L'.extract 0 n).data.toList=L'.data.toList.take n:=by rw[Lib.extract_data]; simp
 have hyl:(L'.extract n L'.size).data.toList=L'.data.toList.drop n:=by rw[Lib.extract_data,List.take_of_length_le (by simp <;> omega)]
 have hys:(L'.extract n L'.size).size+n=L'.size:=by simp; omega
 have hsp:=fun w=>zjp c.toNat (L'.extract 0 n) w hc256 (by rw[hxs,HN.out])
 rw[hxl] at hsp;have HSP:=hid hsp
 have hxlen:(⟨(z0m 8 c.toNat (L'.data.toList.take n)).toArray⟩:ByteArray).size=8:=by rw[mk_sz,z1o]
 have hwr:∀(next:Value) (w2:World),US B b out (L'.extract n L'.size) false w2→B≤w2.heap.size→(1600<out.length+8→R=none)→(∀w',US B b (out++z0m 8 c.toNat (L'.data.toList.take n)) (L'.extract n L'.size) false w'→out.length+8≤1600→∃k',k'<k∧UJ R B b k' next w') →
  Calls Tryz.prog 148 #[.pointer (some ⟨b,0,none⟩),.string ⟨(z0m 8 c.toNat (L'.data.toList.take n)).toArray⟩,next] w2 (UNext R B b k w2):=fun next w2 hu hb hN hJ =>
  zfl R B b k out _ _ next w2 hu ho (by rw[hxlen]; omega) (by omega) hb (by rw[hxlen]; exact hN) (by rw[hxlen]; exact hJ)
 have HWR:=hid hwr
 have hlen8:(out++z0m 8 c.toNat (L'.data.toList.take n)).length=out.length+8:=by rw[List.length_append,z1o]
 have HL8:=hid hlen8;clear hsp hxl hxs hwr hxlen hlen8;generalize L'.extract 0 n=X at HT HSP;generalize L'.extract n L'.size=L2 at HT HWR hyl hys;have HYL:=hid hyl;clear hyl
 go_wp2_with fail
 refine HT.out.mono ?_;rintro e w2 ⟨rfl,hU2,hK2⟩;have HU2:=hid hU2;have HK3:=hid (HK2.out.trans hK2);have HB3:=hid (Nat.le_trans HB2.out hK2.size);clear hU2 hK2
 have fin:∀(next:Value) (st:List UInt8→List UInt8→Option (List UInt8)),st (out++z0m 8 c.toNat (L'.data.toList.take n)) L2.data.toList=R→(∀o l,1600<o.length→st o l=none) →
  (∀w',US B b (out++z0m 8 c.toNat (L'.data.toList.take n)) L2 false w'→out.length+8≤1600→∃k',k'<k∧UJ R B b k' next w') →
  ∀w3,Below w2.heap.size w2 w3→Calls Tryz.prog 148 #[.pointer (some ⟨b,0,none⟩),.string ⟨(z0m 8 c.toNat (L'.data.toList.take n)).toArray⟩,next] w3 (UNext R B b k w):=fun next st hst hbg hJ w3 hb3 =>
  (HWR.out next w3 (HU2.out.below hb3) (Nat.le_trans HB3.out hb3.size) (fun hb=>by rw[← hst]; exact hbg _ _ (by rw[HL8.out]; exact hb)) hJ).mono fun e w' hu=>hu.of (HK3.out.trans (Keeps.of_below (hb3.mono HB3.out)))
 have FIN:=hid fin;clear fin
 by_cases hc0:c=0
 · have hst:nouR (out++z0m 8 c.toNat (L'.data.toList.take n)) L2.data.toList=R:=by
    have hn0:n=0:=by rw[← HN.out,hc0]; decide
    rw[← HR.out,HYL.out,hn0,hc0];exact (zrz _).symm
   have HF:=hid (FIN.out (uNou b) nouR hst (fun o l h=>zsl h) (fun w' hu h8=>⟨2*L2.size+3,by omega,.nou _ _ L2 w' hu (by rw[HL8.out]; exact h8) hst (Nat.le_refl _)⟩))
   have hci:((c.toNat:Int)==0)=true:=by rw[hc0]; rfl
   clear hst hc0;unfold uNou at HF
   go_wp2_with fail
   refine (HSP.out _).mono ?_;rintro e w3 ⟨rfl,hb3⟩;have HB3':=hid hb3;clear hb3
   go_wp2_with fail
   refine (HF.out _ HB3'.out).mono ?_;rintro e w4 ⟨v,k',h1,rfl,h3,h4⟩;go_wp2;go_ret;exact ⟨v,k',h1,rfl,h3,h4⟩
 have hci:((c.toNat:Int)==0)=false:=by
  rw[beq_eq_false_iff_ne]; intro h; exact hc0 (UInt8.toNat_inj.1 (by simpa using h))
 by_cases hc1:c=255
 · have hst:plaR (out++z0m 8 c.toNat (L'.data.toList.take n)) L2.data.toList=R:=by
    have hn8:n=8:=by rw[← HN.out,hc1]; decide
    rw[← HR.out,HYL.out,hn8,hc1];exact (zr9 _ (by rw[HLL.out]; omega)).symm
   have HF:=hid (FIN.out (uPla b) plaR hst (fun o l h=>zs8 h) (fun w' hu h8=>⟨2*L2.size+3,by omega,.pla _ _ L2 w' hu (by rw[HL8.out]; exact h8) hst (Nat.le_refl _)⟩))
   have hcj:((c.toNat:Int)==255)=true:=by rw[hc1]; rfl
   clear hst hc0 hc1;unfold uPla at HF
   go_wp2_with fail
   refine (HSP.out _).mono ?_;rintro e w3 ⟨rfl,hb3⟩;have HB3':=hid hb3;clear hb3
   go_wp2_with fail
   refine (HF.out _ HB3'.out).mono ?_;rintro e w4 ⟨v,k',h1,rfl,h3,h4⟩;go_wp2;go_ret;exact ⟨v,k',h1,rfl,h3,h4⟩
 · have hst:(fun o l=>fitU o (unW l)) (out++z0m 8 c.toNat (L'.data.toList.take n)) L2.data.toList=R:=by
    show fitU _ (unW L2.data.toList)=R
    rw[← HR.out,HYL.out,← HN.out];exact (zs9 c _ (by rw[HN.out,HLL.out]; omega) hc0 hc1).symm
   have HF:=hid (FIN.out (uTag b) (fun o l=>fitU o (unW l)) hst (fun o l h=>zac h _) (fun w' hu h8=>⟨2*L2.size+2,by omega,.tag _ _ L2 w' hu (by rw[HL8.out]; exact h8) hst (Nat.le_refl _)⟩))
   have hcj:((c.toNat:Int)==255)=false:=by
    rw[beq_eq_false_iff_ne]; intro h; exact hc1 (UInt8.toNat_inj.1 (show c.toNat=255 by omega))
   clear hst hc0 hc1;unfold uTag at HF
   go_wp2_with fail
   refine (HSP.out _).mono ?_;rintro e w3 ⟨rfl,hb3⟩;have HB3':=hid hb3;clear hb3
   go_wp2_with fail
   refine (HF.out _ HB3'.out).mono ?_;rintro e w4 ⟨v,k',h1,rfl,h3,h4⟩;go_wp2;go_ret;exact ⟨v,k',h1,rfl,h3,h4⟩
theorem zn6 (W:World):(binOp .neq 156 .nilFunc .nilFunc).run Tryz.prog W= .ok (.bool false) W:=by kernel_rfl
theorem z9l (f:Fn)(xs ys:Array Value)(W:World):(binOp .neq 156 (.func f xs ys) .nilFunc).run Tryz.prog W= .ok (.bool true) W:=by kernel_rfl
theorem UJ.parts {R:Option (List UInt8)}{B b k:Nat}{v:Value}{w:World}(h:UJ R B b k v w) :
 (∃out L,v=uTag b∧US B b out L false w∧out.length≤1600∧fitU out (unW L.data.toList)=R∧2*L.size+2≤k) ∨
 (∃out L,v=uNou b∧US B b out L false w∧out.length≤1600∧nouR out L.data.toList=R∧2*L.size+3≤k) ∨
 (∃out L,v=uPla b∧US B b out L false w∧out.length≤1600∧plaR out L.data.toList=R∧2*L.size+3≤k) ∨
 (∃out L,v=uBro b∧US B b out L false w∧out.length≤1600∧R=none∧1≤k) ∨
 (∃out L bad,v= .nilFunc∧US B b out L bad w∧(bad=true∧R=none∨bad=false∧R=some out)):=by
 match h with
 | .tag _ out L _ h1 h2 h3 h4=>exact .inl ⟨out,L,rfl,h1,h2,h3,h4⟩
 | .nou _ out L _ h1 h2 h3 h4=>exact .inr (.inl ⟨out,L,rfl,h1,h2,h3,h4⟩)
 | .pla _ out L _ h1 h2 h3 h4=>exact .inr (.inr (.inl ⟨out,L,rfl,h1,h2,h3,h4⟩))
 | .bro _ out L _ h1 h2 h3 h4=>exact .inr (.inr (.inr (.inl ⟨out,L,rfl,h1,h2,h3,h4⟩)))
 | .fin _ out L bad _ h1 h2=>exact .inr (.inr (.inr (.inr ⟨out,L,bad,rfl,h1,h2⟩)))
theorem UJ.ended {R:Option (List UInt8)}{B b k:Nat}{w:World}(h:UJ R B b k .nilFunc w):∃out L bad,US B b out L bad w∧(bad=true∧R=none∨bad=false∧R=some out):=by
 rcases h.parts with ⟨out,L,e,_⟩ | ⟨out,L,e,_⟩ | ⟨out,L,e,_⟩ | ⟨out,L,e,_⟩ | ⟨out,L,bad,_,h1,h2⟩
 · cases e
 · cases e
 · cases e
 · cases e
 · exact ⟨out,L,bad,h1,h2⟩
theorem zpq (R:Option (List UInt8))(B b k:Nat)(v:Value)(w:World)(h:UJ R B b k v w)(hBw:B≤w.heap.size) :
 Calls Tryz.prog 98 #[v] w fun e w'=>e= .returned (.tuple #[])∧(∃k',UJ R B b k' .nilFunc w')∧Keeps B b w w':=by
 have H:=hid h;clear h;go_enter Tryz.func98,Tryz.ntmps98
 go_wp2_with fail
 go_loopg [0] k (fun k s wr=>Hid (UJ R B b k s wr)∧Hid (Keeps B b w wr))
 case atStart=>exact ⟨H,Keeps.refl _ _ _⟩
 case round =>
  obtain ⟨HJ,HK⟩:=hrel;have hB:=Nat.le_trans hBw HK.out.size
  rcases HJ.out.parts with ⟨out,L,rfl,h1,h2,h3,h4⟩ | ⟨out,L,rfl,h1,h2,h3,h4⟩ | ⟨out,L,rfl,h1,h2,h3,h4⟩ | ⟨out,L,rfl,h1,h2,h3,h4⟩ | ⟨out,L,bad,rfl,h1,h2⟩
  · have HN:=hid (zkd R B b gk out L wr h1 h2 h3 h4 hB)
    clear h1 h3 HJ;unfold uTag;have hneq:=z9l
    go_wp2_with fail
    refine HN.out.mono ?_;rintro e w4 ⟨v,k',hk',rfl,hj4,hk4⟩;have HJ4:=hid hj4;have HK4:=hid (HK.out.trans hk4);clear hj4 hk4;go_wp2
    go_roundg k'
    case measure=>exact hk'
    case rel=>exact ⟨HJ4,HK4⟩
  · have HN:=hid (zla R B b gk out L wr h1 h2 h3 h4 hB)
    clear h1 h3 HJ;unfold uNou;have hneq:=z9l
    go_wp2_with fail
    refine HN.out.mono ?_;rintro e w4 ⟨v,k',hk',rfl,hj4,hk4⟩;have HJ4:=hid hj4;have HK4:=hid (HK.out.trans hk4);clear hj4 hk4;go_wp2
    go_roundg k'
    case measure=>exact hk'
    case rel=>exact ⟨HJ4,HK4⟩
  · have HN:=hid (zlz R B b gk out L wr h1 h2 h3 h4 hB)
    clear h1 h3 HJ;unfold uPla;have hneq:=z9l
    go_wp2_with fail
    refine HN.out.mono ?_;rintro e w4 ⟨v,k',hk',rfl,hj4,hk4⟩;have HJ4:=hid hj4;have HK4:=hid (HK.out.trans hk4);clear hj4 hk4;go_wp2
    go_roundg k'
    case measure=>exact hk'
    case rel=>exact ⟨HJ4,HK4⟩
  · have HN:=hid (zlk R B b gk out L wr h1 h3 h4)
    clear h1 h3 HJ;unfold uBro;have hneq:=z9l
    go_wp2_with fail
    refine HN.out.mono ?_;rintro e w4 ⟨v,k',hk',rfl,hj4,hk4⟩;have HJ4:=hid hj4;have HK4:=hid (HK.out.trans hk4);clear hj4 hk4;go_wp2
    go_roundg k'
    case measure=>exact hk'
    case rel=>exact ⟨HJ4,HK4⟩
  · clear h1 h2
    have hneq:=zn6;go_wp2
    go_end0
    exact ⟨rfl,⟨gk,HJ.out⟩,HK.out⟩
def unV (s:ByteArray):Value:=match fitU [] (unW s.data.toList) with
 | none=> .tuple #[.string ⟨#[]⟩,.bool false]
 | some o=> .tuple #[.string ⟨o.toArray⟩,.bool true]
theorem zai (s:ByteArray)(w:World) :
 Calls Tryz.prog 54 #[.string s] w fun e w'=>e= .returned (unV s)∧Below w.heap.size w w':=by
 have h0:=heap_alloc_new w (.cells #[.pointer none,.slice none 0 0,.string s,.bool false] 161);have hb0:Below w.heap.size w (w.alloc (.cells #[.pointer none,.slice none 0 0,.string s,.bool false] 161)):=(Below.refl _ _).alloc (Nat.le_refl _) _
 obtain ⟨w1,hw1⟩:∃w1,w.alloc (.cells #[.pointer none,.slice none 0 0,.string s,.bool false] 161)=w1:=⟨_,rfl⟩
 have hsz:w1.heap.size=w.heap.size+1:=by rw[← hw1]; simp
 rw[hw1] at h0 hb0;have hU:US (w.heap.size+1) w.heap.size [] s false w1:=BF.fresh (w.heap.size+1) h0;have hrun:=zpq (fitU [] (unW s.data.toList)) (w.heap.size+1) w.heap.size _ (uTag w.heap.size) w1 (.tag _ [] s w1 hU (by simp) rfl (Nat.le_refl _)) (by omega);have HRun:=hid hrun;have HW1:=hid hw1;have HB0:=hid hb0;clear h0 hb0 hU hrun hw1;unfold uTag at HRun;go_enter Tryz.func54,Tryz.ntmps54
 go_wp2_with fail
 rw[HW1.out];refine HRun.out.mono ?_;rintro e w2 ⟨rfl,⟨k,hj⟩,hk⟩;have HK:=hid (HB0.out.trans (hk.below (Nat.le_succ _) (Nat.le_refl _)));have hB2:=hk.size;obtain ⟨out,L,bad,h1,h2⟩:=hj.ended
 · have hbc:=h1.bad
   clear hj
   rcases h2 with ⟨rfl,hR⟩ | ⟨rfl,hR⟩
   · have hv:unV s= .tuple #[.string ⟨#[]⟩,.bool false]:=by rw[unV,hR]
     have HV:=hid hv;clear h1 hR hv hk;go_wp2
     go_ret2
     exact ⟨by rw[HV.out]; rfl,HK.out⟩
   · have hv:unV s= .tuple #[.string ⟨out.toArray⟩,.bool true]:=by rw[unV,hR]
     have HV:=hid hv;have HS:=hid (z8z 161 (w.heap.size+1) w.heap.size out [.string L,.bool false] w2 h1 (by omega));clear h1 hR hv hk
     go_wp2_with fail
     refine HS.out.mono ?_;rintro e w3 ⟨rfl,hb3⟩;have HB3:=hid (HK.out.trans (hb3.mono (Nat.le_succ _)));clear hb3;go_wp2
     go_ret2
     exact ⟨by rw[HV.out]; rfl,HB3.out⟩
def gN (l:List UInt8)(i:Nat):Nat:=leN l (4*i) 4
theorem gN_lt (l:List UInt8)(i:Nat):gN l i<4294967296:=by
 have:=zdb l 4 (4*i)
 simpa [gN] using this
def szs (l:List UInt8)(n:Nat):List Nat:=(List.range n).map fun i=>gN l (i+1)
theorem zha (l:List UInt8)(n:Nat):szs l (n+1)=szs l n++ [gN l (n+1)]:=by simp[szs,List.range_succ]
theorem z5j (l:List UInt8)(n:Nat):(szs l n).length=n:=by simp[szs]
theorem z7z (l:List UInt8)(n:Nat):(szs l (n+1)).sum=(szs l n).sum+gN l (n+1):=by simp[zha]
theorem zbl (l:List UInt8):∀n,(szs l n).sum≤4294967296*n
 | 0=>by simp[szs]
 | n+1=>by
   have:=zbl l n;have:=gN_lt l (n+1)
   rw[z7z]; omega
def cutB (s:ByteArray):Nat→List Nat→List ByteArray
 | _,[]=> []
 | a,z :: r=>s.extract a (a+8*z) :: cutB s (a+8*z) r
theorem z94 (s:ByteArray):∀(zs:List Nat) (a:Nat),(cutB s a zs).length=zs.length
 | [],_=>rfl
 | z :: r,a=>by simp[cutB,z94 s r]
theorem zeb (s:ByteArray):∀(zs:List Nat) (a z:Nat),cutB s a (zs++ [z])=cutB s a zs++ [s.extract (a+8*zs.sum) (a+8*zs.sum+8*z)]
 | [],a,z=>by simp[cutB]
 | y :: r,a,z=>by
   have e:a+8*y+8*r.sum=a+8*(y+r.sum):=by omega
   simp[cutB,zeb s r,e]
def z1a (n:Nat):Nat:=(n/2+1)*8
def fgZ (l:List UInt8)(n:Nat):Bool:=((l.take (z1a n)).drop (4*(n+1))).all (· ==0)
def fg (s:ByteArray):Int×List ByteArray :=
 if s.size<4 then (0,[]) else
 if 6<gN s.data.toList 0+1 then (-1,[]) else
 if s.size<z1a (gN s.data.toList 0+1) then (0,[]) else
 if fgZ s.data.toList (gN s.data.toList 0+1)=false∨200<(szs s.data.toList (gN s.data.toList 0+1)).sum then (-1,[]) else
 if s.size<z1a (gN s.data.toList 0+1)+8*(szs s.data.toList (gN s.data.toList 0+1)).sum then (0,[]) else
 (((z1a (gN s.data.toList 0+1)+8*(szs s.data.toList (gN s.data.toList 0+1)).sum:Nat):Int),cutB s (z1a (gN s.data.toList 0+1)) (szs s.data.toList (gN s.data.toList 0+1)))
theorem fg0 {s:ByteArray}(h:s.size<4):fg s=(0,[]):=by rw[fg,if_pos h]
theorem fg1 {s:ByteArray}{n:Nat}(hn:gN s.data.toList 0+1=n)(h:4≤s.size)(h1:6<n):fg s=(-1,[]):=by
 rw[fg,if_neg (by omega),hn,if_pos h1]
theorem fg2 {s:ByteArray}{n:Nat}(hn:gN s.data.toList 0+1=n)(h:4≤s.size)(h1:n≤6)(h2:s.size<z1a n):fg s=(0,[]):=by
 rw[fg,if_neg (by omega),hn,if_neg (by omega),if_pos h2]
theorem fg3 {s:ByteArray}{n:Nat}(hn:gN s.data.toList 0+1=n)(h:4≤s.size)(h1:n≤6)(h2:z1a n≤s.size)(h3:fgZ s.data.toList n=false∨200<(szs s.data.toList n).sum):fg s=(-1,[]):=by
 rw[fg,if_neg (by omega),hn,if_neg (by omega),if_neg (by omega),if_pos h3]
theorem fg4 {s:ByteArray}{n:Nat}(hn:gN s.data.toList 0+1=n)(h:4≤s.size)(h1:n≤6)(h2:z1a n≤s.size)(h3:fgZ s.data.toList n=true)(h4:(szs s.data.toList n).sum≤200)(h5:s.size<z1a n+8*(szs s.data.toList n).sum):fg s=(0,[]):=by
 rw[fg,if_neg (by omega),hn,if_neg (by omega),if_neg (by omega),if_neg (by rw[h3]; simp; omega),if_pos h5]
theorem fg5 {s:ByteArray}{n:Nat}(hn:gN s.data.toList 0+1=n)(h:4≤s.size)(h1:n≤6)(h2:z1a n≤s.size)(h3:fgZ s.data.toList n=true)(h4:(szs s.data.toList n).sum≤200)(h5:z1a n+8*(szs s.data.toList n).sum≤s.size) :
 fg s=(((z1a n+8*(szs s.data.toList n).sum:Nat):Int),cutB s (z1a n) (szs s.data.toList n)):=by
 rw[fg,if_neg (by omega),hn,if_neg (by omega),if_neg (by omega),if_neg (by rw[h3]; simp; omega),if_neg (by omega)]
theorem zpv {l m:List UInt8}(i:Nat)(h:∀j,j<4*i+4→l[j]? =m[j]?):gN l i=gN m i :=
 z2f _ _ 4 _ _ (fun k hk=>h (4*i+k) (by omega))
theorem zn4 {l m:List UInt8}(n:Nat)(h:∀j,j<4*n+4→l[j]? =m[j]?):szs l n=szs m n:=by
 unfold szs
 apply List.map_congr_left
 intro i hi
 exact zpv (i+1) (fun j hj=>h j (by have:=List.mem_range.1 hi; omega))
theorem z6q {P:Program}(w:World)(dT sT ty elem:TypeId)(g dCap:Nat)(s:ByteArray)(cur:List UInt8)(t:TypeId)
 (hu:P.underlying dT=some (.slice elem)) (hs:(P.info? elem).map (·.size)=some 1) (hg:w.heap[g]? =some (.cells (wd cur) t (0,0))) (hle:s.size≤cur.length) :
 (Builtin.copy_ #[dT,sT] ty #[.slice (some ⟨g,0,none⟩) cur.length dCap,.string s]).run P w =
  .ok (goInt s.size) (w.setRow g (wd (s.data.toList++cur.drop s.size))):=by
 have hlen:(Lib.byteCells s.data.toList).length=s.size:=by
  rw[Lib.byteCells_length,← Lib.size_eq]
 have hst:=run_storeCells_at P g 0 t (Lib.byteCells s.data.toList) 0 (wd cur) w hg (by rw[hlen]; simp[wd,Lib.byteCells_length]; omega) (Lib.byteCells_one _);have hmin:Nat.min s.size cur.length=s.size:=Nat.min_eq_left hle
 have htk:List.take s.size (List.map (fun b:UInt8=>Value.int IntKind.u8 (b.toNat:Int)) s.data.toList)=Lib.byteCells s.data.toList:=by
  rw[Lib.byteCells,List.take_of_length_le (by simp)]
 rw[hlen] at hst
 have hd:List.drop s.size (wd cur).toList=Lib.byteCells (cur.drop s.size):=by simp[wd,Lib.byteCells,List.map_drop]
 simp only[Nat.add_zero,Nat.zero_add,List.take_zero,List.nil_append,hd] at hst
 cases hq:P.info? elem with
 | none=>simp[hq] at hs
 | some i =>
  simp[Builtin.copy_,run_underlying hu,Builtin.lenOf,Builtin.firstCells,sizeOf,typeInfo,hq,hmin]
  rw[show (List.take s.size (List.map (fun b:UInt8=>Value.int IntKind.u8 (b.toNat:Int)) s.data.toList))=Lib.byteCells s.data.toList from htk,hst]
  simp[Result.andThen,wd,Lib.byteCells]
theorem z54 {P:Program}{ops:Array Oper}{rest:List Oper}{o:Oper}{a:Act}{w:World}{Q:Exit→Act→World→Prop}(hgd:o.guard=none)(d s:Operand)(dT sT:TypeId)
 (ho:o.op= .call { callee:= .builtin .copy,args:= #[d,s],argTypes:= #[dT,sT] }) (elem:TypeId) (hu:P.underlying dT=some (.slice elem)) (hsz:(P.info? elem).map (·.size)=some 1)
 (g dCap n:Nat) (S:ByteArray) (cur:List UInt8) (t:TypeId) (hn:cur.length=n) (hd:a.eval d= .slice (some ⟨g,0,none⟩) n dCap) (hs:a.eval s= .string S)
 (hg:w.heap[g]? =some (.cells (wd cur) t (0,0))) (hle:S.size≤n)
 (h:∀w',Hid (w'.heap[g]? =some (.cells (wd (S.data.toList++cur.drop S.size)) t (0,0)))→Hid (w.grownBy w' (some g))→wpList P ops Q rest (a.put o.dst (goInt S.size)) w') :
 wpList P ops Q (o :: rest) a w:=by
 subst hn
 refine wpList_plain hgd fun _ hK=>?_
 have hrun:=z6q (P:=P) w dT sT o.type elem g dCap S cur t hu hsz hg hle;unfold Oper.wp
 simp[execOp,ho,resolve,invoke,builtin,hd,hs,hrun,Result.andThen]
 exact hK _ _ (h _ (setRow_heap w g _ _ t _ hg) ⟨rfl,rfl,rfl,by simp[World.setRow],fun k _ hk=>setRow_other w g k _ (fun e=>hk (by rw[e]))⟩)
theorem zqx (s:ByteArray)(p:Nat)(h:4*p+4≤s.size):leN ((s.extract (4*p) (4*p+4)).data.toList++ [0,0,0,0]) 0 4=gN s.data.toList p:=by
 refine z2f _ _ 4 _ _ (fun i hi=>?_)
 have hl:s.data.toList.length=s.size:=by simp
 rw[Lib.extract_data,List.getElem?_append_left (by simp; omega),List.getElem?_take_of_lt (by omega),List.getElem?_drop,Nat.zero_add]
theorem z6y (s:ByteArray)(p:Nat)(w:World)(hs:s.size≤maxLen)(hp:4*p+4≤s.size) :
 Calls Tryz.prog 104 #[.string s,.int .i64 p] w fun e w'=>e= .returned (.int .i64 (gN s.data.toList p))∧Below w.heap.size w w':=by
 unfold maxLen at hs;have hcut:=zqx s p hp
 have hsz:(s.extract (p*4) ((p+1)*4)).size=4:=by simp; omega
 have e0:s.extract (4*p) (4*p+4)=s.extract (p*4) ((p+1)*4):=by rw[Nat.mul_comm 4 p,show p*4+4=(p+1)*4 by omega]
 rw[e0] at hcut
 have hlen:((s.extract (p*4) ((p+1)*4)).data.toList++ [(0:UInt8),0,0,0]).length=8:=by
  have h2:(s.extract (p*4) ((p+1)*4)).data.toList.length=(s.extract (p*4) ((p+1)*4)).size:=rfl;rw[List.length_append,h2,hsz,List.length_cons,List.length_cons,List.length_cons,List.length_cons,List.length_nil]
 have hgl:=gN_lt s.data.toList p;generalize gN s.data.toList p=G at hcut hgl ⊢;generalize hX:s.extract (p*4) ((p+1)*4)=X at hcut hlen hsz;have HX:=hid hX;have HC:=hid hcut;have HSZ:=hid hsz;clear hX hcut e0 hsz;go_enter Tryz.func104,Tryz.ntmps104;go_wp2
 have e1:IntKind.i64.wrap ((p:Int)*4)=(p:Int)*4:=by rw[IntKind.wrap_i64]; omega
 have e1b:IntKind.i64.wrap ((p:Int)+1)=(p:Int)+1:=by rw[IntKind.wrap_i64]; omega
 have e1c:IntKind.i64.wrap (((p:Int)+1)*4)=((p:Int)+1)*4:=by rw[IntKind.wrap_i64]; omega
 have e2:(0:Int)≤(p:Int)*4:=by omega
 have e2b:(p:Int)*4≤((p:Int)+1)*4:=by omega
 have e3:((p:Int)+1)*4≤(s.size:Int):=by omega
 have e4:((p:Int)*4).toNat=p*4:=by omega
 have e5:(((p:Int)+1)*4).toNat=(p+1)*4:=by omega
 have e6:(0:Int)≤((p:Int)+1)*4:=by omega
 have e7:(p:Int)≤(p:Int)+1:=by omega
 have hg0:=heap_alloc_new w (.cells #[.int .u8 0,.int .u8 0,.int .u8 0,.int .u8 0,.int .u8 0,.int .u8 0,.int .u8 0,.int .u8 0] 87);have HWB:=hid ((Below.refl _ w).alloc (Nat.le_refl _) (.cells #[.int .u8 0,.int .u8 0,.int .u8 0,.int .u8 0,.int .u8 0,.int .u8 0,.int .u8 0,.int .u8 0] 87));generalize w.alloc (.cells #[.int .u8 0,.int .u8 0,.int .u8 0,.int .u8 0,.int .u8 0,.int .u8 0,.int .u8 0,.int .u8 0] 87)=W at hg0 HWB ⊢;refine wp_region_still_tail 8 (by kernel_rfl) (by kernel_rfl) ?_
 simp only[List.take_succ_cons,List.take_zero,List.drop_succ_cons,List.drop_zero]
 refine wpStill_step (fun K hK=>?_)
 go_simp
 refine hK _ ?_;clear hK K
 still_step
 still_step
 still_step
 still_step
 still_step
 still_step
 refine wpStill_step (fun K hK=>?_)
 go_simp
 refine hK _ ?_;clear hK K;refine wpStill_nil ?_;clear e1 e1b e1c e2 e2b e3 e4 e5 e6 e7
 change wpList _ _ _ _ _ W.drew
 have hgD:W.drew.heap[w.heap.size]? =some (.cells (wd [0,0,0,0,0,0,0,0]) 87 (0,0)):=hg0;have hbD:Below w.heap.size w W.drew:=HWB.out.drew;generalize W.drew=W2 at hgD hbD ⊢;refine z54 rfl (.tmp 6) (.tmp 13) 22 9 rfl 5 Tryz.underlying22 size5 w.heap.size 8 8 (s.extract (p*4) ((p+1)*4)) [0,0,0,0,0,0,0,0] 87 rfl rfl rfl hgD (by rw[HX.out,HSZ.out]; decide) ?_
 intro w4 hg4 hb4
 rw[HX.out,HSZ.out] at hg4;have hB:=hid (hbD.grown hb4.out (by have:=hbD.size; omega) (fun k e=>by cases e; exact Nat.le_refl _));have hlen:=hid hlen;have hC:=HC;clear hb4 hbD hgD;generalize hl:X.data.toList++ [(0:UInt8),0,0,0]=l at hlen hC;have hg5:Hid (w4.heap[w.heap.size]? =some (.cells (wd l) 87 (0,0))):=hid (by rw[← hl]; exact hg4.out);clear hg4 hl HC HX HSZ hg0
 go_wp2_with (refine z1b rfl 87 (.tmp 5) rfl w.heap.size rfl 87 l _ hg5.out Tryz.underlying87 rfl (by rw[hlen.out]; exact z1w) ?_)
 refine (zax l 0 4 _ hlen.out (by decide) (by decide) (by decide)).mono ?_;rintro e w5 ⟨rfl,hb5⟩;rw[show (0:Int).toNat=0 from rfl,show (4:Int).toNat=4 from rfl,hC.out]
 have hw:IntKind.i64.wrap (G:Int)=G:=by rw[IntKind.wrap_i64]; omega
 go_wp2;go_ret;exact ⟨rfl,hB.out.trans (hb5.mono hB.out.size)⟩
open Go.RowKit Go.Shelf
def zly:Ren:=⟨fun | 231=>177 | 232=>178 | n=>n,fun | 9=>9 | 4=>4 | 3=>3 | 5=>5 | n=>n,fun n=>n⟩
theorem zoo:Go.Proofs.Lays.n231 Tryz.prog zly:= {
 mixed:=by kernel_rfl
 f231:=Tryz.func177.trans (congrArg some (by kernel_rfl))
 t3:=Tryz.underlying3,a3:=Tryz.isAgg3,z3:=Tryz.sizeOf3,v3:=Tryz.zeroValue3
 t4:=Tryz.underlying4,a4:=Tryz.isAgg4,z4:=Tryz.sizeOf4,v4:=Tryz.zeroValue4
 t5:=Tryz.underlying5,a5:=Tryz.isAgg5,z5:=Tryz.sizeOf5,v5:=Tryz.zeroValue5
 t9:=Tryz.underlying9,a9:=Tryz.isAgg9,z9:=Tryz.sizeOf9,v9:=Tryz.zeroValue9 }
theorem zn2:Go.Proofs.Lays.n232 Tryz.prog zly:= {
 mixed:=by kernel_rfl
 f232:=Tryz.func178.trans (congrArg some (by kernel_rfl))
 t3:=Tryz.underlying3,a3:=Tryz.isAgg3,z3:=Tryz.sizeOf3,v3:=Tryz.zeroValue3
 t4:=Tryz.underlying4,a4:=Tryz.isAgg4,z4:=Tryz.sizeOf4,v4:=Tryz.zeroValue4
 t5:=Tryz.underlying5,a5:=Tryz.isAgg5,z5:=Tryz.sizeOf5,v5:=Tryz.zeroValue5
 t9:=Tryz.underlying9,a9:=Tryz.isAgg9,z9:=Tryz.sizeOf9,v9:=Tryz.zeroValue9 }
theorem zdo (s:ByteArray)(w:World) :
 Calls Tryz.prog 177 #[.string s,.int .u8 0] w fun e w'=>e= .returned (.string ⟨(Lib.trimLeftB s.data.toList 0).toArray⟩)∧w'=w:=Any.strings_trimLeftByte zoo s 0 w
theorem zcf (s:ByteArray)(w:World)(hs:s.size≤9223372036854775807) :
 Calls Tryz.prog 178 #[.string s,.int .u8 0] w fun e w'=>e= .returned (.string ⟨(Lib.trimRightB s.data.toList 0).toArray⟩)∧w'=w:=Any.strings_trimRightByte zn2 s 0 w hs
theorem zqf (m:List UInt8):m.dropWhile (· ==(0:UInt8))= []↔∀b∈m,b=0:=by
 induction m with
 | nil=>simp
 | cons x r ih =>
  by_cases h:x=0
  · subst h
    rw[List.dropWhile_cons_of_pos (by rfl),ih]
    simp
  · rw[List.dropWhile_cons_of_neg (by simpa using h)]
    simp[h]
theorem zdd (l:List UInt8):Lib.trimB l 0= []↔∀b∈l,b=0:=by
 have hL:∀m:List UInt8,Lib.trimLeftB m 0= []↔∀b∈m,b=0:=fun m=>by
  exact zqf m
 unfold Lib.trimB;rw[hL];unfold Lib.trimRightB
 constructor
 · intro h
   have h2:l.reverse.dropWhile (· ==(0:UInt8))= []:=by
    cases hd:l.reverse.dropWhile (· ==(0:UInt8)) with
    | nil=>rfl
    | cons x r =>
     have hx:=List.head_dropWhile_not (fun b:UInt8=>b==0) (l:=l.reverse) (by rw[hd]; simp)
     have e:(l.reverse.dropWhile (· ==(0:UInt8))).head (by rw[hd]; simp)=x:=by simp[hd]
     rw[e] at hx;have:=h x (by rw[hd]; simp);subst this
     simp at hx
   rw[zqf] at h2
   intro b hb
   exact h2 b (by simpa using hb)
 · intro h b hb
   have:b∈l.reverse.dropWhile (· ==(0:UInt8)):=by simpa using hb
   exact h b (by simpa using (List.dropWhile_sublist _).subset this)
theorem zlu (s:ByteArray)(w:World)(hs:s.size≤1048576) :
 Calls Tryz.prog 150 #[.string s,.string ⟨#[0]⟩] w fun e w'=>e= .returned (.string ⟨(Lib.trimB s.data.toList 0).toArray⟩)∧Below w.heap.size w w':=by
 have hR:=zcf s;have hL:=zdo ⟨(Lib.trimRightB s.data.toList 0).toArray⟩;have hR':=hid hR;have hL':=hid hL;clear hR hL;go_enter Tryz.func150,Tryz.ntmps150;go_wp2
 · have hl:s.data.toList= []:=by rw[← Lib.toList_data]; assumption
   go_ret;refine ⟨?_,Below.refl _ _⟩
   show Ending.returned (Value.string s)=_
   have hs0:s=⟨#[]⟩:=by rw[← Lib.mk_data s,hl]
   rw[hl,(zdd []).2 (by simp),hs0]
 · rename_i h1 h2
   exact absurd (by simpa using h2) h1
 · go_region_with (first
    | (refine (hR'.out _ (by omega)).mono ?_; rintro e w' ⟨rfl,rfl⟩)
    | (refine (hL'.out _).mono ?_; rintro e w' ⟨rfl,rfl⟩))
   all_goals (go_wp2; go_ret; exact ⟨rfl,(Below.refl _ _).drew⟩)
end Go.Proofs.YtlbfffokkhccaaaGreatDoor
namespace Go.Proofs.YtlbfffokkhccaaaGreatDoor
open Go.RowKit
theorem zsc:(Tryz.prog.info? 3).map (fun i=>(i.zero,i.size,i.bytes))=some (some (.int .i64 0),1,8):=by kernel_rfl
def z39 (zs:List Nat):List Value:=zs.map fun z:Nat=> .int .i64 ((z:Int)*8)
theorem zdm (zs:List Nat)(z:Nat):z39 (zs++ [z])=z39 zs++ [.int .i64 ((z:Int)*8)]:=by simp[z39]
theorem z43 (zs:List Nat):(z39 zs).length=zs.length:=by simp[z39]
theorem z8m {w:World}{B e n:Nat}{v:Value}{xs:List Value}(h:w.ownsRow B e 1 v n xs):∃A cap,v= .slice A n cap:=by
 rcases h.2 with ⟨rfl,rfl⟩ | ⟨g,cap,_,rfl,_⟩
 · exact ⟨none,0,rfl⟩
 · exact ⟨_,cap,rfl⟩
def FSz (h:ByteArray)(n:Nat)(w:World)(e:Ending)(w':World):Prop :=
 ∃v,e= .returned (.tuple #[v,.bool (fgZ h.data.toList n&&decide ((szs h.data.toList n).sum≤200))])∧w'.ownsRow w.heap.size 3 1 v n (z39 (szs h.data.toList n))∧Below w.heap.size w w'
theorem z90 (l:List UInt8):(⟨l.toArray⟩:ByteArray).toList.isEmpty=l.isEmpty:=by rw[ByteArray.toList_eq]
theorem zal (h:ByteArray)(n:Nat)(w:World)(hn1:1≤n)(hn:n≤6)(hs:h.size=z1a n) :
 Calls Tryz.prog 105 #[.string h,.int .i64 n] w (FSz h n w):=by
 have hs2:=hs;unfold z1a at hs2
 have hsm:h.size≤32:=by omega
 have hs4:4*n+4≤h.size:=by omega
 have hZ:fgZ h.data.toList n=(h.data.toList.drop (4*(n+1))).all (· ==0):=by
  have e:h.data.toList.length=h.size:=rfl;rw[fgZ,List.take_of_length_le (by omega)]
 have HZ:=hid hZ;have HS:=hid hs;obtain ⟨i0,hi,hz0,hz1,hz2⟩:=info_parts zsc;clear hs hs2 hZ;go_enter Tryz.func105,Tryz.ntmps105
 go_wp2_with fail
 go_loopw [6,7,12] (fun v t i wr=>∃k:Nat,k≤n∧i= .int .i64 k∧t= .int .i64 ((szs h.data.toList k).sum*8:Nat)∧Hid (wr.ownsRow w.heap.size 3 1 v k (z39 (szs h.data.toList k)))∧Hid (Below w.heap.size w wr)) (fun _ _ i _=>n-(intOf i).toNat)
 case atStart=>exact ⟨0,by omega,rfl,rfl,hid (World.ownsRow_nil _ _ _ _),Below.refl _ _⟩
 case round =>
  obtain ⟨k,hk,rfl,rfl,HO,HB⟩:=hrel;obtain ⟨A,cp,rfl⟩:=z8m HO.out;have hsl:=zbl h.data.toList k
  by_cases hk1:k<n
  · have hg:=gN_lt h.data.toList (k+1)
    have hstep:=zha h.data.toList k;have hsum:=z7z h.data.toList k;have HSt:=hid hstep;have HSu:=hid hsum;generalize (szs h.data.toList k).sum=T at hsl HSu ⊢;clear hstep hsum
    go_wp2_with fail
    refine (z6y h (k+1) _ (by unfold maxLen; omega) (by omega)).mono ?_;rintro e w1 ⟨rfl,hb1⟩;generalize hG:gN h.data.toList (k+1)=G at hg HSt HSu ⊢;have HO1:=hid (HO.out.kept (row:=none) ⟨hb1.os,hb1.tape,hb1.output,hb1.size,fun k hk _=>hb1.block k hk⟩ (Classical.em _));have HB1:=hid (HB.out.trans (hb1.mono HB.out.size));have hsz1:=HB1.out.size;clear hb1 hG
    go_wp2_with (at_builtin; go_must (refine wpList_append_own _ rfl (.tmp 20) (.tmp 22) 50 rfl w.heap.size 3 i0 (.int .i64 0) 1 8 Tryz.underlying50 hi hz0 hz1 hz2 rfl (by decide) _ _ _ rfl (HO1.out.alloc _) ⟨w1.heap.size,0,none⟩ 1 1 [.int .i64 ((G:Int)*8)] rfl rfl (cell_one_new _ _ _) (by simp[Value.oneCell']) (by unfold maxLen; omega) (by omega) (by simp <;> omega) ?_); intro v' wn hown' hgrow _)
    have HON:=hid (show wn.ownsRow w.heap.size 3 1 v' (k+1) (z39 (szs h.data.toList (k+1))) by rw[HSt.out,zdm]; exact hown');have HBN:=hid (z3y HB1.out hsz1 HO1.out hgrow);clear hgrow hown';go_wp2
    go_roundw
    case rel=>exact ⟨k+1,by omega,by go_num,by rw[HSu.out]; go_num,HON,HBN⟩
    case measure=>simp[intOf]; omega
  · obtain rfl:k=n:=by omega
    have hcut:(h.extract ((k+1)*4) h.size).data.toList=h.data.toList.drop (4*(k+1)):=by
     have e:h.data.toList.length=h.size:=rfl;rw[Lib.extract_data,List.take_of_length_le (by simp <;> omega),Nat.mul_comm]
    have hxs:(h.extract ((k+1)*4) h.size).size≤1048576:=by simp; omega
    have hz:Lib.trimB (h.extract ((k+1)*4) h.size).data.toList 0= []↔fgZ h.data.toList k=true:=by
     rw[zdd,hcut,HZ.out,List.all_eq_true]
     simp only[beq_iff_eq]
    have HZZ:=hid hz;clear hcut hz;generalize hT:(szs h.data.toList k).sum=T at hsl ⊢;generalize hL:Lib.trimB (h.extract ((k+1)*4) h.size).data.toList 0=L at HZZ;have HT:=hid hT;have HL:=hid hL;clear hT hL
    go_wp2_with fail
    refine (zlu _ _ hxs).mono ?_;rintro e w1 ⟨rfl,hb1⟩;rw[HL.out];have HO1:=hid (HO.out.kept (row:=none) ⟨hb1.os,hb1.tape,hb1.output,hb1.size,fun k hk _=>hb1.block k hk⟩ (Classical.em _));have HB1:=hid (HB.out.trans (hb1.mono HB.out.size));clear hb1
    have hres:∀b:Bool,∀c:Bool,fgZ h.data.toList k=b→decide (T≤200)=c→FSz h k w (.returned (.tuple #[.slice A k cp,.bool (b&&c)])) w1:=fun b c hb hc=>⟨.slice A k cp,by rw[hb,HT.out,hc],HO1.out,HB1.out⟩
    have HR:=hid hres;clear hres
    by_cases hL:L= []
    · have hf:=HZZ.out.1 hL
      subst hL;have HF:=hid hf;clear hf;have HD:Hid (decide ((T:Int)*8≤1600)=decide (T≤200)):=hid (by rw[decide_eq_decide]; omega);go_wp2
      go_ret2
      have h3:=HR.out true (decide (T≤200)) HF.out rfl;rw[← HD.out] at h3;exact h3
    · have hf:fgZ h.data.toList k=false:=by
       cases hz:fgZ h.data.toList k
       · rfl
       · exact absurd (HZZ.out.2 hz) hL
      have hx:(⟨L.toArray⟩:ByteArray).toList.isEmpty=false:=by
       rw[z90]
       cases L with
       | nil=>exact absurd rfl hL
       | cons a r=>rfl
      generalize (⟨L.toArray⟩:ByteArray)=X at hx ⊢;have HF:=hid hf;clear hf hL;go_wp2
      go_ret2
      have:=HR.out false (decide (T≤200)) HF.out rfl;exact this
def Ones (w:World)(A:Option Addr)(xs:List Value):Prop :=
 xs= []∨∃a:Addr,A=some a∧a.block<w.heap.size∧∀i (h:i<xs.length),w.cell? (a.add i)=some xs[i]
theorem Ones.below {w w':World}{A:Option Addr}{xs:List Value}(h:Ones w A xs)(hb:Below w.heap.size w w'):Ones w' A xs:=by
 rcases h with h0 | ⟨a,ha,hlt,hc⟩
 · exact .inl h0
 · refine .inr ⟨a,ha,Nat.lt_of_lt_of_le hlt hb.size,fun i hi=>?_⟩
   exact (hb.cell (p:=a.add i) (by rw[z3k]; exact hlt)).trans (hc i hi)
theorem Ones.own {w:World}{B e n cap:Nat}{A:Option Addr}{xs:List Value}(h:w.ownsRow B e 1 (.slice A n cap) n xs):Ones w A xs:=by
 rcases h.2 with ⟨_,h0⟩ | ⟨g,cap,_,he,_⟩
 · exact .inl (List.eq_nil_of_length_eq_zero (by rw[h.1,h0]))
 · cases he
   refine .inr ⟨_,rfl,(h.lt g rfl).2,fun i hi=>?_⟩;exact h.cells rfl i _ (by simp[List.getElem?_eq_getElem hi])
def zlj (s:ByteArray)(a:Nat)(zs:List Nat)(w:World)(e:Ending)(w':World):Prop :=
 ∃v,e= .returned (.tuple #[v,.int .i64 ((a+8*zs.sum:Nat):Int)])∧w'.ownsRow w.heap.size 9 1 v zs.length ((cutB s a zs).map Value.string)∧Below w.heap.size w w'
def CutNo (w:World)(e:Ending)(w':World):Prop:=e= .returned (.tuple #[.slice none 0 0,.int .i64 0])∧Below w.heap.size w w'
theorem z7v (zs:List Nat)(k:Nat):(zs.take k).sum≤zs.sum:=by
 conv=>rhs; rw[← List.take_append_drop k zs]
 rw[List.sum_append]; omega
theorem zaj (zs:List Nat)(k:Nat)(h:k<zs.length):(zs.take (k+1)).sum=(zs.take k).sum+zs[k]:=by
 rw[List.take_succ_eq_append_getElem h,List.sum_append]; simp
theorem zkn (s:ByteArray)(a:Nat)(zs:List Nat)(k:Nat)(h:k<zs.length):cutB s a (zs.take (k+1))=cutB s a (zs.take k)++ [s.extract (a+8*(zs.take k).sum) (a+8*(zs.take k).sum+8*zs[k])]:=by
 rw[List.take_succ_eq_append_getElem h,zeb]
theorem z9p (s:ByteArray)(a:Nat)(A:Option Addr)(cap:Nat)(zs:List Nat)(w:World)(hs:s.size≤1099511627776)(ha:a≤s.size)(hn:zs.length≤6)(hz:zs.sum≤200)(h:Ones w A (z39 zs)) :
 Calls Tryz.prog 106 #[.string s,.int .i64 a,.slice A zs.length cap] w (fun e w'=>if s.size<a+8*zs.sum then CutNo w e w' else zlj s a zs w e w'):=by
 have hpost:∃P:Ending→World→Prop,P=(fun e w'=>if s.size<a+8*zs.sum then CutNo w e w' else zlj s a zs w e w'):=⟨_,rfl⟩
 obtain ⟨P,hP⟩:=hpost;rw[← hP];have HP:=hid hP;have H:=hid h;obtain ⟨i0,hi,hz0,hz1,hz2⟩:=info_parts zr2;clear h hP;go_enter Tryz.func106,Tryz.ntmps106
 go_wp2_with fail
 go_loopw [1,8,13] (fun at_ v i wr=>∃k:Nat,k≤zs.length∧i= .int .i64 k∧at_= .int .i64 ((a+8*(zs.take k).sum:Nat):Int)∧a+8*(zs.take k).sum≤s.size∧Hid (wr.ownsRow w.heap.size 9 1 v k ((cutB s a (zs.take k)).map Value.string))∧Hid (Below w.heap.size w wr)) (fun _ _ i _=>zs.length-(intOf i).toNat)
 case atStart=>exact ⟨0,by omega,rfl,by simp,by simpa using ha,hid (World.ownsRow_nil _ _ _ _),Below.refl _ _⟩
 case round =>
  obtain ⟨k,hk,rfl,rfl,hat,HO,HB⟩:=hrel;obtain ⟨A2,cp,rfl⟩:=z8m HO.out
  by_cases hk1:k<zs.length
  · obtain ⟨ad,rfl,_,hc⟩:=(H.out.below HB.out).resolve_left (by intro h; have:=z43 zs; rw[h] at this; simp at this; omega)
    have hck:=hc k (by rw[z43]; exact hk1)
    have he:(z39 zs)[k]'(by rw[z43]; exact hk1)= .int .i64 ((zs[k]:Int)*8):=by simp[z39]
    rw[he] at hck;have hs1:=zaj zs k hk1;have hs2:=z7v zs (k+1);have hs3:=z7v zs k;have hct:=zkn s a zs k hk1;have HCT:=hid hct;have HS1:=hid hs1;generalize hz':zs[k]=z at hck hs1 HCT HS1;generalize (zs.take k).sum=T at hs1 hs2 hs3 hat HO HCT HS1 ⊢
    have hzl:z≤200:=by omega
    have HS2:=hid hs2;clear hc hct hs1 hs2 he
    by_cases hlt:s.size<a+8*T+8*z
    · have hd:((s.size:Nat):Int)<(a:Int)+8*(T:Int)+(z:Int)*8:=by omega
      go_wp2;rw[HP.out]
      show if s.size<a+8*zs.sum then _ else _
      rw[if_pos (by have:=HS1.out; have:=HS2.out; omega)];exact ⟨rfl,HB.out⟩
    · have hd:¬((s.size:Nat):Int)<(a:Int)+8*(T:Int)+(z:Int)*8:=by omega
      have hcutE:s.extract (a+8*T) (a+8*T+8*z)=s.extract (a+8*T) (a+8*T+z*8):=by rw[Nat.mul_comm 8 z]
      rw[hcutE] at HCT;clear hcutE
      have g1:(0:Int)≤(a:Int)+8*(T:Int):=by omega
      have hsz1:=HB.out.size
      go_wp2_with (at_builtin; go_must (refine wpList_append_own _ rfl (.tmp 23) (.tmp 30) 28 rfl w.heap.size 9 i0 (.string ByteArray.empty) 1 16 Tryz.underlying28 hi hz0 hz1 hz2 rfl (by decide) _ _ _ rfl (HO.out.alloc _) ⟨wr.heap.size,0,none⟩ 1 1 [.string (s.extract (a+8*T) (a+8*T+z*8))] rfl rfl (cell_one_new _ _ _) (by simp[Value.oneCell']) (by unfold maxLen; omega) (by omega) (by simp <;> omega) ?_); intro v' wn hown' hgrow _)
      have HON:=hid (show wn.ownsRow w.heap.size 9 1 v' (k+1) ((cutB s a (zs.take (k+1))).map Value.string) by rw[HCT.out,List.map_append]; exact hown');have HBN:=hid (z3y HB.out hsz1 HO.out hgrow);clear hgrow hown';go_wp2
      go_roundw
      case rel=>exact ⟨k+1,by omega,by go_num,by rw[HS1.out]; go_num,by rw[HS1.out]; omega,HON,HBN⟩
      case measure=>simp[intOf]; omega
  · obtain rfl:k=zs.length:=by omega
    go_wp2;rw[HP.out]
    show if s.size<a+8*zs.sum then _ else _
    rw[List.take_length] at hat HO ⊢;rw[if_neg (by omega)];exact ⟨_,by simp,HO.out,HB.out⟩
theorem bsize:(Tryz.prog.info? 119).map (·.size)=some 2:=by kernel_rfl
theorem blies:liesAt Tryz.prog Tryz.prog.depth 119 (2/Tryz.prog.cellsOf 119) 0 119 1=true:=by kernel_rfl
theorem zsq:(Tryz.prog.info? 5).map (fun i=>(i.zero,i.size,i.bytes))=some (some (.int .u8 0),1,1):=by kernel_rfl
theorem zan (b:Nat)(w:World)(h0:w.cell? ⟨b,0,none⟩=some (.pointer (some ⟨b,0,none⟩))) :
 Calls Tryz.prog 121 #[.pointer (some ⟨b,0,none⟩)] w fun e w'=>e= .returned (.tuple #[])∧w'=w:=by
 obtain ⟨j,hj,_⟩:=Option.map_eq_some_iff.1 bsize;have hne:=Lib.run_neq_ptr_same (P:=Tryz.prog) w (tp:=117) (te:=119) ⟨b,0,none⟩ Tryz.underlying117 hj;go_enter Tryz.func121,Tryz.ntmps121;go_wp2
 go_end0
 exact ⟨rfl,rfl⟩
theorem za7 (b:Nat)(w:World)(h0:w.cell? ⟨b,0,none⟩=some (.pointer none))(hsh:w.shape? b=some (119,2))(hfz:w.frozen? ⟨b,0,none⟩=false) :
 Calls Tryz.prog 121 #[.pointer (some ⟨b,0,none⟩)] w fun e w'=>e= .returned (.tuple #[])∧w'=w.setCell ⟨b,0,none⟩ (.pointer (some ⟨b,0,none⟩)):=by
 obtain ⟨j,hj,hjs⟩:=Option.map_eq_some_iff.1 bsize;have hto:=Lib.run_to_unsafe (P:=Tryz.prog) w (src:=117) (dst:=134) (t:=119) ⟨b,0,none⟩ Tryz.underlying117 Tryz.underlying134 hj (by rw[hjs]; decide) hsh (Nat.zero_lt_succ 1);have hfrom:=Lib.run_from_unsafe (P:=Tryz.prog) w (src:=134) (dst:=117) (u:=119) ⟨b,0,none⟩ Tryz.underlying134 Tryz.underlying117 hj hsh blies
 have hesc:(callFunc 161 #[.pointer (some ⟨b,0,none⟩)]).run Tryz.prog w= .ok (.value (.pointer (some ⟨b,0,none⟩))) w:=by
  rw[run_callFunc_extern Tryz.func161 (by kernel_rfl) (by kernel_rfl) (by kernel_rfl) (e:=Extern.AbiNoEscape.same) (by kernel_rfl),Lib.run_noEscape]
  rfl
 go_enter Tryz.func121,Tryz.ntmps121;go_wp2
 go_end0
 exact ⟨rfl,rfl⟩
def Bld (B b:Nat)(bs:List Value)(w:World):Prop :=
 ∃p v,(p= .pointer none∨p= .pointer (some ⟨b,0,none⟩))∧w.heap[b]? =some (.cells #[p,v] 119 (0,0))∧w.ownsRow B 5 1 v bs.length bs
theorem Bld.fresh {w:World}{b:Nat}(B:Nat)(h:w.heap[b]? =some (.cells #[.pointer none,.slice none 0 0] 119 (0,0))):Bld B b [] w :=
 ⟨_,_,.inl rfl,h,World.ownsRow_nil _ _ _ _⟩
theorem Bld.is {B b B':Nat}{bs:List Value}{w:World}(h:Bld B b bs w)(h1:B'≤B)(h2:B'≤b):Lib.IsBuilder 119 5 B' b bs w:=by
 obtain ⟨p,v,hp,hb,hown⟩:=h;have hne:=Lib.ownBlock_ne hown hb (by decide)
 have hown':w.ownsRow B' 5 1 v bs.length bs:=⟨hown.1,hown.2.imp (fun x=>x) (fun ⟨g,cap,cur,hv,hg,r⟩=>⟨g,cap,cur,hv,Nat.le_trans h1 hg,r⟩)⟩
 rcases hp with rfl | rfl
 · exact .inl ⟨h2,v,hb,hown',hne⟩
 · exact .inr ⟨h2,v,hb,hown',hne⟩
theorem zns {w:World}{b:Nat}{p v q:Value}{T:TypeId}(h:w.heap[b]? =some (.cells #[p,v] T (0,0))):(w.setCell ⟨b,0,none⟩ q).heap[b]? =some (.cells #[q,v] T (0,0)):=by
 simp[World.setCell,Array.getElem?_modify,h]
theorem zf0 (w:World)(b i:Nat)(u:Value):w.grownBy (w.setCell ⟨b,i,none⟩ u) (some b) :=
 ⟨rfl,rfl,rfl,by simp[World.setCell],fun k _ hk=>Below.heap_setCell w ⟨b,i,none⟩ u k (fun e=>hk (by rw[e]))⟩
def Self (B b:Nat)(v:Value)(bs:List Value)(w0 w:World):Prop :=
 w.heap[b]? =some (.cells #[.pointer (some ⟨b,0,none⟩),v] 119 (0,0))∧w.ownsRow B 5 1 v bs.length bs∧Keeps B b w0 w∧w.heap.size=w0.heap.size
theorem zc2 (B b:Nat)(bs:List Value)(w:World)(h:Bld B b bs w) :
 ∃v,Calls Tryz.prog 121 #[.pointer (some ⟨b,0,none⟩)] w fun e w'=>e= .returned (.tuple #[])∧Self B b v bs w w':=by
 obtain ⟨p,v,hp,hb,hown⟩:=h;have hne:=Lib.ownBlock_ne hown hb (by decide);obtain ⟨c0,_⟩:=z04 hb
 rcases hp with rfl | rfl
 · refine ⟨v,(za7 b w c0 (by simp[World.shape?,hb]) (Lib.frozen_of_heap hb 0)).mono ?_⟩
   rintro e w' ⟨rfl,rfl⟩;exact ⟨rfl,zns hb,hown.kept (zf0 w b 0 _) (.inr hne),z0p B b w 0 _,by simp[World.setCell]⟩
 · refine ⟨v,(zan b w c0).mono ?_⟩
   rintro e w' ⟨rfl,rfl⟩;exact ⟨rfl,hb,hown,Keeps.refl _ _ _,rfl⟩
theorem Self.put {B b:Nat}{bs new:List Value}{v v':Value}{w0 w1 w2:World}(h:Self B b v bs w0 w1){wx:World}(hx:Keeps w1.heap.size w1.heap.size w1 wx)(hg:wx.grownBy w2 v.ownBlock)(hown:w2.ownsRow B 5 1 v' (bs++new).length (bs++new)) :
 w2.heap[b]? =some (.cells #[.pointer (some ⟨b,0,none⟩),v] 119 (0,0))∧Bld B b (bs++new) (w2.setCell ⟨b,1,none⟩ v')∧(B≤w1.heap.size→Keeps B b w0 (w2.setCell ⟨b,1,none⟩ v')):=by
 obtain ⟨hb,ho,hk,_⟩:=h;have hne:=Lib.ownBlock_ne ho hb (by decide)
 have hlt:b<w1.heap.size:=by
  rcases Nat.lt_or_ge b w1.heap.size with hlt | hge
  · exact hlt
  · rw[Array.getElem?_eq_none hge] at hb; cases hb
 have h2:w2.heap[b]? =some (.cells #[.pointer (some ⟨b,0,none⟩),v] 119 (0,0)) :=
  (hg.block b (Nat.lt_of_lt_of_le hlt hx.size) (Ne.symm hne)).trans ((hx.block b hlt (by omega)).trans hb)
 have hne2:=Lib.ownBlock_ne hown h2 (by decide);refine ⟨h2,⟨_,_,.inr rfl,z9o h2,hown.kept (zf0 w2 b 1 _) (.inr hne2)⟩,fun hB=>hk.trans ?_⟩;refine Keeps.trans (c:=w2) ⟨hg.os.trans hx.os,hg.tape.trans hx.tape,hg.output.trans hx.output,Nat.le_trans hx.size hg.size,fun k hk' hn=>?_⟩ (z0p B b w2 1 _);refine (hg.block k (Nat.lt_of_lt_of_le (Nat.lt_of_lt_of_le hk' hB) hx.size) (fun e=>?_)).trans (hx.block k (by omega) (by omega));have:=(ho.lt k e.symm).1;omega
theorem zn8 {w:World}{B e n:Nat}{v:Value}{xs:List Value}(h:w.ownsRow B e 1 v n xs):∃A cap,v= .slice A n cap:=by
 rcases h.2 with ⟨rfl,rfl⟩ | ⟨g,cap,_,rfl,_⟩
 · exact ⟨none,0,rfl⟩
 · exact ⟨_,cap,rfl⟩
theorem z9r {B b:Nat}{bs:List Value}{w w':World}(h:Bld B b bs w)(hb:Below w.heap.size w w'):Bld B b bs w':=by
 obtain ⟨p,v,hp,hr,hown⟩:=h;exact ⟨p,v,hp,(hb.block b (z00 hr)).trans hr,hown.kept (row:=none) ⟨hb.os,hb.tape,hb.output,hb.size,fun k hk _=>hb.block k hk⟩ (Classical.em _)⟩
theorem z1k (B b:Nat)(bs:List Value)(s:ByteArray)(w:World)(h:Bld B b bs w)(hlen:bs.length≤1099511627776)(hs:s.size≤1099511627776)(hBw:B≤w.heap.size) :
 Calls Tryz.prog 75 #[.pointer (some ⟨b,0,none⟩),.string s] w fun e w'=>e= .returned (.tuple #[.int .i64 s.size,.nilIface])∧(Bld B b (bs++Lib.strCells s) w'∧Keeps B b w w'):=by
 obtain ⟨i0,hi,hz0,hz1,hz2⟩:=info_parts zsq;obtain ⟨v,hcc⟩:=zc2 B b bs w h;have HC:=hid hcc;clear hcc h;have hsl:=Lib.strCells_length s;have HSL:=hid hsl;clear hsl;go_enter Tryz.func75,Tryz.ntmps75
 go_wp2_with (first | (go_at_call 121; refine HC.out.mono ?_; rintro e w1 ⟨rfl,hS⟩; have hT:=hid hS; have hsz:=Nat.le_trans hBw (Nat.le_of_eq hS.2.2.2.symm); have c1:=(z04 hS.1).2; clear hS) | (at_builtin; go_must (refine Lib.wpList_append_own_string _ rfl (.tmp 12) (.tmp 13) 22 9 rfl B 5 i0 Tryz.underlying22 Tryz.underlying9 hi hz0 hz1 hz2 v _ _ rfl hT.out.2.1 s rfl (by unfold maxLen; omega) (by omega) hsz ?_); intro v' w2 hown' hgrow _; obtain ⟨h2,hU,hKp⟩:=hT.out.put (new:=Lib.strCells s) (Keeps.refl _ _ _) hgrow (by rw[List.length_append,HSL.out]; exact hown'); have d1:=(z04 h2).2; have f1:=Lib.frozen_of_heap h2 1; obtain ⟨g,cap,rfl⟩:=zn8 hown'; clear h2 hgrow))
 go_ret2
 exact ⟨rfl,hU,hKp hsz⟩
theorem zs2 (B b:Nat)(bs:List Value)(w:World)(h:Bld B b bs w) :
 Calls Tryz.prog 93 #[.pointer (some ⟨b,0,none⟩)] w fun e w'=>e= .returned (.int .i64 bs.length)∧w=w':=by
 obtain ⟨p,v,hp,hb,hown⟩:=h;obtain ⟨g,cap,rfl⟩:=zn8 hown;obtain ⟨_,c1⟩:=z04 hb;clear hb hown hp;go_enter Tryz.func93,Tryz.ntmps93;go_wp2;go_ret;exact ⟨rfl,rfl⟩
open Go.Shelf Go.RowKit
def zq6:Go.Shelf.Ren:=⟨fun | 169=>76 | n=>n,fun | 70=>117 | 9=>9 | 0=>0 | 72=>119 | 37=>22 | 127=>188 | 3=>3 | 5=>5 | n=>n,fun | n=>n⟩
theorem zr6:Go.Proofs.Lays.n169 Tryz.prog zq6:= {
 mixed:=by kernel_rfl
 f169:=Tryz.func76.trans (congrArg some (by kernel_rfl))
 t0:=Tryz.underlying0,a0:=Tryz.isAgg0,z0:=Tryz.sizeOf0,v0:=Tryz.zeroValue0
 t3:=Tryz.underlying3,a3:=Tryz.isAgg3,z3:=Tryz.sizeOf3,v3:=Tryz.zeroValue3
 t9:=Tryz.underlying9,a9:=Tryz.isAgg9,z9:=Tryz.sizeOf9,v9:=Tryz.zeroValue9
 t37:=Tryz.underlying22,a37:=Tryz.isAgg22,z37:=Tryz.sizeOf22,v37:=Tryz.zeroValue22
 t70:=Tryz.underlying117,a70:=Tryz.isAgg117,z70:=Tryz.sizeOf117,v70:=Tryz.zeroValue117
 t72:=Tryz.underlying119,a72:=Tryz.isAgg119,z72:=Tryz.sizeOf119,v72:=Tryz.zeroValue119
 t127:=Tryz.underlying188,a127:=Tryz.isAgg188,z127:=Tryz.sizeOf188,v127:=Tryz.zeroValue188 }
theorem zpj:Builder.Extra Tryz.prog zq6:= {
 sizeBuilder:=by kernel_rfl
 liesBuilder:=by kernel_rfl
 t5:=Tryz.underlying5,a5:=Tryz.isAgg5,z5:=Tryz.sizeOf5,v5:=Tryz.zeroValue5
 infoByte:=by kernel_rfl
 cellsByte:=by kernel_rfl
 sizeByte:=by kernel_rfl
 neB5:=by decide }
theorem z7p (B b:Nat)(l:List UInt8)(w:World)(h:Lib.IsBuilder 119 5 B b (Lib.byteCells l) w)(hBw:B≤w.heap.size) :
 Calls Tryz.prog 76 #[.pointer (some ⟨b,0,none⟩)] w fun e w'=>e= .returned (.string ⟨l.toArray⟩)∧Below B w w':=Any.Builder_String_any zr6 zpj B b l w h hBw
end Go.Proofs.YtlbfffokkhccaaaGreatDoor
