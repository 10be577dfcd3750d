/- Texts of the proof of the law FnCanonSent, side by side: part 22. -/
import Derived.OpenShut
import Derived.Test.YtlbfffokkhccaaaGreatDoorMCanonSent21
set_option maxHeartbeats 8000000
set_option maxRecDepth 100000
open Go.Lib (hid)
namespace Go.Proofs.YtlbfffokkhccaaaGreatDoor
open Go.RowKit
theorem zqe (a:ByteArray):a.size=a.data.toList.length:=rfl
theorem z6v {a:ByteArray}{l R:List UInt8}(h:a.data.toList++l=R):a.size≤R.length:=by rw[zqe,← h,List.length_append]; omega
theorem zgu (a b:ByteArray):(a++b).data.toList=a.data.toList++b.data.toList:=by simp
theorem conv1 (c:Nat)(hc:c<256)(W:World):(convert 22 9 (.slice (some ⟨W.heap.size,0,none⟩) 1 1)).run Tryz.prog (W.alloc (.cells #[.int .u8 (c:Int)] 5))= .ok (.string ⟨#[UInt8.ofNat c]⟩) (W.alloc (.cells #[.int .u8 (c:Int)] 5)):=by
 refine z5k _ _ _ 5 W.heap.size 1 1 [UInt8.ofNat c] rfl Tryz.underlying22 Tryz.underlying5 Tryz.underlying9 (heap_alloc_new W _) ?_
 have:(UInt8.ofNat c).toNat=c:=by rw[UInt8.toNat_ofNat']; omega
 simp[Lib.byteCells]; omega
theorem zku (ws:List (List UInt8))(n:Nat)(hw:Wds ws)(hn:n≤ws.length):ws.flatten.take (8*n)=(ws.take n).flatten:=by
 have h:ws.flatten=(ws.take n).flatten++(ws.drop n).flatten:=by rw[← List.flatten_append,List.take_append_drop]
 have hl:(ws.take n).flatten.length=8*n:=by rw[z2x (hw.take n),List.length_take]; omega
 rw[h,List.take_append_of_le_length (by omega),List.take_of_length_le (by omega)]
theorem zdc {s:ByteArray}{ws:List (List UInt8)}(h:s.data.toList=ws.flatten)(hw:Wds ws)(k n a b:Nat)(ha:a=8*k)(hb:b=8*(k+n))(hk:k+n≤ws.length):s.extract a b=⟨((ws.drop k).take n).flatten.toArray⟩:=by
 apply z61
 rw[Lib.extract_data,h,ha,hb,z9s ws k hw (by omega),show 8*(k+n)-8*k=8*n by omega,zku _ n (hw.drop k) (by rw[List.length_drop]; omega)]
theorem z4y {s:ByteArray}{ws:List (List UInt8)}(h:s.data.toList=ws.flatten)(hw:Wds ws)(k a b:Nat)(ha:a=8*k)(hb:b=8*(k+1))(hk:k<ws.length):s.extract a b=⟨ws[k].toArray⟩:=by
 rw[zdc h hw k 1 a b ha hb hk,List.drop_eq_getElem_cons hk,List.take_succ_cons,List.take_zero,List.flatten_cons,List.flatten_nil,List.append_nil]
theorem zp6 (x:List UInt8)(j:Nat)(h:j<x.length):((⟨x.toArray⟩:ByteArray).extract j (j+1)).data.toList= [x[j]]:=by
 rw[Lib.extract_data,List.drop_eq_getElem_cons (by simpa using h),show j+1-j=0+1 by omega,List.take_succ_cons,List.take_zero]
theorem zdl (p:List UInt8→Bool)(r:List (List UInt8)):runN p r=255∨runN p r=r.length∨∃h:runN p r<r.length,p r[runN p r]=false:=by
 obtain ⟨h1,h2⟩:=z5c p r
 by_cases h3:runN p r=255
 · exact .inl h3
 by_cases h4:runN p r=r.length
 · exact .inr (.inl h4)
 have hlt:runN p r<r.length:=by omega
 have:=zne p (r.take 255) (runN p r) (by rw[List.length_take]; omega) rfl;rw[List.getElem_take] at this;exact .inr (.inr ⟨hlt,this⟩)
theorem zqp (p:List UInt8→Bool)(r:List (List UInt8))(j:Nat)(h:j<runN p r)(hj:j<r.length):p r[j]=true :=
 zjw p r _ (by rw[List.mem_take_iff_getElem]; exact ⟨j,by omega,rfl⟩)
theorem zmw (x:List UInt8)(r:List (List UInt8))(h:maskN x=0):packW (x :: r)=UInt8.ofNat (maskN x) :: (nzL x++(UInt8.ofNat (runN zerL r) :: packW (r.drop (runN zerL r)))):=by
 have hz:=(z25 x).1 h
 have hn:nzL x= []:=by
  rw[nzL,List.filter_eq_nil_iff]
  intro b hb
  have:=List.all_eq_true.1 hz b hb
  simpa using this
 rw[packW,if_pos hz,hn,h]; rfl
theorem zje (x:List UInt8)(r:List (List UInt8))(h8:x.length=8)(h:maskN x=255):packW (x :: r)=UInt8.ofNat (maskN x) :: (nzL x++(UInt8.ofNat (runN fewL r) :: ((r.take (runN fewL r)).flatten++packW (r.drop (runN fewL r))))):=by
 have hf:=(z2y h8).1 h
 have hz:zerL x=false:=by
  cases hz:zerL x
  · rfl
  · have:=(z25 x).2 hz; omega
 rw[packW,hz,if_neg (by simp),if_pos hf,zfw hf,h]; rfl
theorem zj9 (x:List UInt8)(r:List (List UInt8))(h8:x.length=8)(h0:maskN x≠0)(h:maskN x≠255):packW (x :: r)=UInt8.ofNat (maskN x) :: (nzL x++packW r):=by
 have hf:fullL x=false:=by
  cases hf:fullL x
  · rfl
  · exact absurd ((z2y h8).2 hf) h
 have hz:zerL x=false:=by
  cases hz:zerL x
  · rfl
  · exact absurd ((z25 x).2 hz) h0
 rw[packW,hz,hf,if_neg (by simp),if_neg (by simp)]
theorem zih (s:ByteArray)(ws:List (List UInt8))(w:World)(hsw:s.data.toList=ws.flatten)(hw:Wds ws)(hl:ws.length≤200) :
 Calls Tryz.prog 53 #[.string s] w fun e w'=>e= .returned (.string ⟨(packW ws).toArray⟩)∧Below w.heap.size w w':=by
 have hsl:s.size=8*ws.length:=by
  have h1:s.data.toList.length=s.size:=rfl;rw[← h1,hsw,z2x hw]
 have hpl:=zc3 hw
 obtain ⟨R,hR⟩:∃R,packW ws=R:=⟨_,rfl⟩
 rw[hR] at hpl ⊢;have HR:=hid hR;have HSW:=hid hsw;have HWd:=hid hw;clear hsw hR hw;go_enter Tryz.func53,Tryz.ntmps53
 go_wp2_with fail
 go_loopw [3,4] (fun o i wr=>∃(k:Nat) (u:ByteArray),k≤ws.length∧i= .int .i64 (8*(k:Int))∧o= .string u∧u.size≤2000∧Hid (u.data.toList++packW (ws.drop k)=R)∧Hid (Below w.heap.size w wr)) (fun _ i _=>s.size-(intOf i).toNat)
 case atStart=>exact ⟨0,ByteArray.empty,by omega,rfl,rfl,by decide,by rw[List.drop_zero]; exact HR.out,Below.refl _ _⟩
 case round =>
  obtain ⟨k,u,hk,rfl,rfl,hu,HF,HB⟩:=hrel
  by_cases hk1:k<ws.length
  · have hx8:(ws[k]).length=8:=HWd.out _ (List.getElem_mem hk1)
    have hX:=z4y HSW.out HWd.out k (8*k) (8*k+8) rfl (by omega) hk1;have hdr:ws.drop k=ws[k] :: ws.drop (k+1):=List.drop_eq_getElem_cons hk1
    obtain ⟨x,hx⟩:∃x,ws[k]=x:=⟨_,rfl⟩
    rw[hx] at hx8 hX hdr;have hf:=HF.out;rw[hdr] at hf
    have hxs:(⟨x.toArray⟩:ByteArray).size=8:=by rw[mk_sz]; exact hx8
    have hT:=z3x x;rw[hx8] at hT
    have hTag:=fun w=>zm4 ⟨x.toArray⟩ w hxs
    obtain ⟨T,hTT⟩:∃T,maskN x=T:=⟨_,rfl⟩
    simp only[hTT] at hTag hT
    have hT2:T<256:=hT;have HTag:=hid hTag;have HX:=hid hX;have HX8:=hid hx8;have HTT:=hid hTT;have HF2:=hid hf;have HXS:=hid hxs;have hcv:=conv1 T hT2
    have hbu:u.size+1≤2001:=by omega
    obtain ⟨Y,hY⟩:∃Y,u++(⟨#[UInt8.ofNat T]⟩:ByteArray)=Y:=⟨_,rfl⟩
    have hYd:Y.data.toList=u.data.toList++ [UInt8.ofNat T]:=by rw[← hY]; simp
    have hYs:Y.size=u.size+1:=by rw[← hY,ByteArray.size_append]; rfl
    have f1:¬9223372036854775807<u.size+(⟨#[UInt8.ofNat T]⟩:ByteArray).size:=by
     have:(⟨#[UInt8.ofNat T]⟩:ByteArray).size=1:=rfl;omega
    have HY:=hid hY;have HYd:=hid hYd;have HYs:=hid hYs;clear hX hTag hdr hf hT hTT hx hx8 hY hYd hYs hxs
    go_wp2_with fail
    rw[HX.out]
    with_reducible (refine (HTag.out _).mono ?_)
    rintro e w2 ⟨rfl,rfl⟩
    go_wp2_with fail
    rw[HY.out];clear hcv f1 hbu HY HX HTag;have hx8:=HX8.out
    obtain ⟨W2,hW2⟩:∃W2,W2=wr.alloc (.cells #[.int .u8 (T:Int)] 5):=⟨_,rfl⟩
    have hB2:Hid (Below w.heap.size w W2):=hid (by rw[hW2]; exact HB.out.alloc HB.out.size _);rw[← hW2];clear hW2
    go_loop [3,7] (fun o i=>∃(j:Nat) (v:ByteArray),j≤8∧i= .int .i64 j∧o= .string v∧v.size≤2001+j∧Hid (v.data.toList=Y.data.toList++nzL (x.take j))) (fun _ i=>8-(intOf i).toNat)
    case atStart=>exact ⟨0,Y,by omega,rfl,rfl,by rw[HYs.out]; omega,by simp[Hid,nzL]⟩
    case round =>
     obtain ⟨j,v,hj,rfl,rfl,hv,HV⟩:=hrel
     by_cases hj1:j<8
     · have hnt:=zg7 x j (by omega)
       have hxs:=HXS.out
       have hjx:j<(⟨x.toArray⟩:ByteArray).size:=by omega
       have hbg:(⟨x.toArray⟩:ByteArray)[j]=x[j]'(by omega):=rfl;have heb:=zp6 x j (by omega)
       obtain ⟨c,hc⟩:∃c,(⟨x.toArray⟩:ByteArray)[j]=c:=⟨_,rfl⟩
       rw[← hbg,hc] at hnt heb;have HNT:=hid hnt;have HEB:=hid heb;clear hnt heb hbg
       by_cases hz:c=0
       · have hz1:((c.toNat:Int)==0)=true:=by rw[hz]; rfl
         have hz2:((c.toNat:Int) != 0)=false:=by rw[hz]; rfl
         have HZ:=hid hz;clear hz;go_wp2
         go_round
         case rel=>exact ⟨j+1,v,by omega,by go_num,rfl,by omega,by rw[Hid,HNT.out,if_pos HZ.out,List.append_nil]; exact HV.out⟩
         case measure=>simp[intOf]; omega
       · have hz1:((c.toNat:Int)==0)=false:=by
          rw[beq_eq_false_iff_ne]; intro h; exact hz (UInt8.toNat_inj.1 (show c.toNat=0 by omega))
         have hz2:((c.toNat:Int) != 0)=true:=by simp[bne,hz1]
         have HZ:=hid hz;clear hz
         have hes:((⟨x.toArray⟩:ByteArray).extract j (j+1)).size=1:=by rw[zqe,HEB.out]; rfl
         have f1:¬9223372036854775807<v.size+((⟨x.toArray⟩:ByteArray).extract j (j+1)).size:=by omega
         have HES:=hid hes;clear hes;go_wp2
         go_round
         case rel=>exact ⟨j+1,_,by omega,by go_num,rfl,by rw[ByteArray.size_append,HES.out]; omega,by rw[Hid,HNT.out,if_neg HZ.out,zgu,HV.out,HEB.out,List.append_assoc]⟩
         case measure=>simp[intOf]; omega
     · obtain rfl:j=8:=by omega
       have hv1:=HV.out;rw[List.take_of_length_le (by omega)] at hv1;have HV1:=hid hv1;clear HV hv1
       have hvs:v.size≤2009:=by omega
       by_cases hT0:T=0
       · have hTT:=HTT.out
         have hF3:=HF2.out;rw[zmw x _ (by rw[hTT]; exact hT0)] at hF3
         obtain ⟨r,hr⟩:∃r,ws.drop (k+1)=r:=⟨_,rfl⟩
         rw[hr] at hF3
         have hrl:r.length=ws.length-(k+1):=by rw[← hr,List.length_drop]
         obtain ⟨hn1,hn2⟩:=z5c zerL r;have hst:=zdl zerL r;have hat:=zqp zerL r
         obtain ⟨N,hN⟩:∃N,runN zerL r=N:=⟨_,rfl⟩
         rw[hN] at hF3 hn1 hn2 hst hat;have HRd:=hid hr;have HRL:=hid hrl
         have hnk:k+1+N≤ws.length:=by omega
         have HST:=hid hst;have HAT:=hid hat;have HF3:=hid hF3;clear hTT hF3 hr hN hst hat hrl hn1;have hcv:=conv1 N (by omega)
         have f2:¬9223372036854775807<v.size+(⟨#[UInt8.ofNat N]⟩:ByteArray).size:=by
          have:(⟨#[UInt8.ofNat N]⟩:ByteArray).size=1:=rfl;omega
         obtain ⟨Y2,hY2⟩:∃Y2,v++(⟨#[UInt8.ofNat N]⟩:ByteArray)=Y2:=⟨_,rfl⟩
         have HY2:=hid hY2;have HY2S:Hid (Y2.size=v.size+1):=hid (by rw[← hY2,ByteArray.size_append]; rfl)
         have HEND:Hid (Y2.data.toList++packW (ws.drop (k+1+N))=R):=hid (by
          rw[← HF3.out,← hY2,zgu,HV1.out,HYd.out,← HRd.out,List.drop_drop,HTT.out]
          simp)
         clear hY2
         have hT1f:((T:Int)==255)=false:=by rw[hT0]; rfl
         have hT0f:((T:Int)==0)=true:=by rw[hT0]; rfl
         have HT0:=hid hT0f;have HT1:=hid hT1f;clear hT0f hT1f hT0;have e0:=HT0.out
         go_wp2_with fail
         clear e0
         go_loop [8] (fun i=>∃n:Nat,n≤N∧i= .int .i64 n) (fun i=>N-(intOf i).toNat)
         case atStart=>exact ⟨0,by omega,rfl⟩
         case round =>
          obtain ⟨n,hn,rfl⟩:=hrel
          by_cases hnN:n<N
          · have hnr:n<r.length:=by have:=HRL.out; omega
            have hp:=HAT.out n hnN hnr
            have hx2e:r[n]=ws[k+1+n]'(by omega):=by simp[← HRd.out]
            have hX2:=z4y HSW.out HWd.out (k+1+n) (8*k+8*(n+1)) (8*k+8*(n+2)) (by omega) (by omega) (by omega);have hx28:(ws[k+1+n]'(by omega)).length=8:=HWd.out _ (List.getElem_mem _);rw[← hx2e] at hX2 hx28
            obtain ⟨x2,hx2⟩:∃x2,r[n]=x2:=⟨_,rfl⟩
            rw[hx2] at hX2 hx28 hp;have HX2S:Hid ((⟨x2.toArray⟩:ByteArray).size=8):=hid (by rw[mk_sz]; exact hx28);have HX2:=hid hX2;have HP2:=hid hp
            have hd1:decide ((n:Int)<255)=true:=by simp; omega
            clear hx2e hX2 hx28 hx2 hp hnr
            go_wp2_with fail
            rw[HX2.out]
            with_reducible (refine (zbw ⟨x2.toArray⟩ W2 (by unfold maxLen; rw[HX2S.out]; decide)).mono ?_)
            rintro e w3 ⟨rfl,rfl⟩;have hpv:zerB x2=true:=HP2.out;go_wp2
            go_round
            case rel=>exact ⟨n+1,by omega,by go_num⟩
            case measure=>simp[intOf]; omega
          · obtain rfl:n=N:=by omega
            have HRL2:=HRL.out;clear hnN hn;have e0:=HT0.out;have e1:=HT1.out
            rcases HST.out with h255 | hrn | ⟨hlt,hnz⟩
            · have hd1:decide ((n:Int)<255)=false:=by simp; omega
              clear h255 HRL2
              skip
              go_wp2_with fail
              rw[HY2.out];go_wp2
              go_roundw
              case rel=>exact ⟨k+1+n,Y2,by omega,by go_num,rfl,by have:=z6v HEND.out; omega,HEND.out,hB2.out.alloc hB2.out.size _⟩
              case measure=>simp[intOf]; omega
            · have hnk2:k+1+n=ws.length:=by omega
              have hge:8*(ws.length:Int)≤8*(k:Int)+8*((n:Int)+1):=by omega
              have hd1:decide ((n:Int)<255)=true:=by simp; omega
              clear hrn HRL2 hnk2
              skip
              go_wp2_with fail
              rw[HY2.out];go_wp2
              go_roundw
              case rel=>exact ⟨k+1+n,Y2,by omega,by go_num,rfl,by have:=z6v HEND.out; omega,HEND.out,hB2.out.alloc hB2.out.size _⟩
              case measure=>simp[intOf]; omega
            · have hlk:k+1+n<ws.length:=by omega
              have hx2e:r[n]=ws[k+1+n]'(by omega):=by simp[← HRd.out]
              have hX2:=z4y HSW.out HWd.out (k+1+n) (8*k+8*(n+1)) (8*k+8*(n+2)) (by omega) (by omega) (by omega);have hx28:(ws[k+1+n]'(by omega)).length=8:=HWd.out _ (List.getElem_mem _);rw[← hx2e] at hX2 hx28
              obtain ⟨x2,hx2⟩:∃x2,r[n]=x2:=⟨_,rfl⟩
              rw[hx2] at hX2 hx28 hnz;have HX2S:Hid ((⟨x2.toArray⟩:ByteArray).size=8):=hid (by rw[mk_sz]; exact hx28);have HX2:=hid hX2;have HP2:=hid hnz
              have hnn:n<255∨n=255:=by omega
              clear hx2e hX2 hx28 hx2 hnz hlt HRL2
              rcases hnn with hlt255 | h255
              · have hd1:decide ((n:Int)<255)=true:=by simp; omega
                go_wp2_with fail
                rw[HX2.out]
                with_reducible (refine (zbw ⟨x2.toArray⟩ W2 (by unfold maxLen; rw[HX2S.out]; decide)).mono ?_)
                rintro e w3 ⟨rfl,rfl⟩;have hpv:zerB x2=false:=HP2.out
                skip
                go_wp2_with fail
                rw[HY2.out];go_wp2
                go_roundw
                case rel=>exact ⟨k+1+n,Y2,by omega,by go_num,rfl,by have:=z6v HEND.out; omega,HEND.out,hB2.out.alloc hB2.out.size _⟩
                case measure=>simp[intOf]; omega
              · have hd1:decide ((n:Int)<255)=false:=by simp; omega
                clear h255
                skip
                go_wp2_with fail
                rw[HY2.out];go_wp2
                go_roundw
                case rel=>exact ⟨k+1+n,Y2,by omega,by go_num,rfl,by have:=z6v HEND.out; omega,HEND.out,hB2.out.alloc hB2.out.size _⟩
                case measure=>simp[intOf]; omega
       by_cases hT1:T=255
       · have hTT:=HTT.out
         have hF3:=HF2.out;rw[zje x _ HX8.out (by rw[hTT]; exact hT1)] at hF3
         obtain ⟨r,hr⟩:∃r,ws.drop (k+1)=r:=⟨_,rfl⟩
         rw[hr] at hF3
         have hrl:r.length=ws.length-(k+1):=by rw[← hr,List.length_drop]
         obtain ⟨hn1,hn2⟩:=z5c fewL r;have hst:=zdl fewL r;have hat:=zqp fewL r
         obtain ⟨N,hN⟩:∃N,runN fewL r=N:=⟨_,rfl⟩
         rw[hN] at hF3 hn1 hn2 hst hat;have HRd:=hid hr;have HRL:=hid hrl
         have hnk:k+1+N≤ws.length:=by omega
         have HST:=hid hst;have HAT:=hid hat;have HF3:=hid hF3;clear hTT hF3 hr hN hst hat hrl hn1;have hcv:=conv1 N (by omega)
         have f2:¬9223372036854775807<v.size+(⟨#[UInt8.ofNat N]⟩:ByteArray).size:=by
          have:(⟨#[UInt8.ofNat N]⟩:ByteArray).size=1:=rfl;omega
         have hE:=zdc HSW.out HWd.out (k+1) N (8*k+8) (8*k+8*(N+1)) (by omega) (by omega) hnk;rw[HRd.out] at hE
         obtain ⟨E,hE0⟩:∃E,s.extract (8*k+8) (8*k+8*(N+1))=E:=⟨_,rfl⟩
         have hEd:E.data.toList=(r.take N).flatten:=by rw[← hE0,hE]
         have hEs:E.size≤1600:=by rw[← hE0]; simp; omega
         obtain ⟨Y2,hY2⟩:∃Y2,v++(⟨#[UInt8.ofNat N]⟩:ByteArray)++E=Y2:=⟨_,rfl⟩
         have f3:¬9223372036854775807<(v++(⟨#[UInt8.ofNat N]⟩:ByteArray)).size+(s.extract (8*k+8) (8*k+8*(N+1))).size:=by
          have:(⟨#[UInt8.ofNat N]⟩:ByteArray).size=1:=rfl
          rw[hE0,ByteArray.size_append]; omega
         have HY2:=hid hY2;have HE0:=hid hE0
         have HEND:Hid (Y2.data.toList++packW (ws.drop (k+1+N))=R):=hid (by
          rw[← HF3.out,← hY2,zgu,zgu,hEd,HV1.out,HYd.out,← HRd.out,List.drop_drop,HTT.out]
          simp)
         clear hY2 hE hE0 hEd hEs
         have hT1f:((T:Int)==255)=true:=by rw[hT1]; rfl
         have hT0f:((T:Int)==0)=false:=by rw[hT1]; rfl
         have HT0:=hid hT0f;have HT1:=hid hT1f;clear hT0f hT1f hT0 hT1;have e0:=HT0.out;have e1:=HT1.out
         go_wp2_with fail
         clear e0
         go_loop [8] (fun i=>∃n:Nat,n≤N∧i= .int .i64 n) (fun i=>N-(intOf i).toNat)
         case atStart=>exact ⟨0,by omega,rfl⟩
         case round =>
          obtain ⟨n,hn,rfl⟩:=hrel
          by_cases hnN:n<N
          · have hnr:n<r.length:=by have:=HRL.out; omega
            have hp:=HAT.out n hnN hnr
            have hx2e:r[n]=ws[k+1+n]'(by omega):=by simp[← HRd.out]
            have hX2:=z4y HSW.out HWd.out (k+1+n) (8*k+8*(n+1)) (8*k+8*(n+2)) (by omega) (by omega) (by omega);have hx28:(ws[k+1+n]'(by omega)).length=8:=HWd.out _ (List.getElem_mem _);rw[← hx2e] at hX2 hx28
            obtain ⟨x2,hx2⟩:∃x2,r[n]=x2:=⟨_,rfl⟩
            rw[hx2] at hX2 hx28 hp;have HX2S:Hid ((⟨x2.toArray⟩:ByteArray).size=8):=hid (by rw[mk_sz]; exact hx28);have HX2:=hid hX2;have HP2:=hid hp
            have hd1:decide ((n:Int)<255)=true:=by simp; omega
            clear hx2e hX2 hx28 hx2 hp hnr
            go_wp2_with fail
            rw[HX2.out]
            with_reducible (refine (zdw ⟨x2.toArray⟩ W2 HX2S.out).mono ?_)
            rintro e w3 ⟨rfl,rfl⟩;have hpv:fewL x2=true:=HP2.out;go_wp2
            go_round
            case rel=>exact ⟨n+1,by omega,by go_num⟩
            case measure=>simp[intOf]; omega
          · obtain rfl:n=N:=by omega
            have HRL2:=HRL.out;clear hnN hn;have e0:=HT0.out;have e1:=HT1.out
            rcases HST.out with h255 | hrn | ⟨hlt,hnz⟩
            · have hd1:decide ((n:Int)<255)=false:=by simp; omega
              clear h255 HRL2
              skip
              have hcvD:(convert 22 9 (.slice (some ⟨W2.heap.size,0,none⟩) 1 1)).run Tryz.prog (W2.alloc (.cells #[.int .u8 (n:Int)] 5)).drew= .ok (.string ⟨#[UInt8.ofNat n]⟩) (W2.alloc (.cells #[.int .u8 (n:Int)] 5)).drew:=conv1 n (by omega) W2.drew
              go_wp2_with fail
              go_region
              all_goals
               rw[HE0.out,HY2.out];go_wp2
               go_roundw
               case rel=>exact ⟨k+1+n,Y2,by omega,by go_num,rfl,by have:=z6v HEND.out; omega,HEND.out,(hB2.out.alloc hB2.out.size _).drew⟩
               case measure=>simp[intOf]; omega
            · have hnk2:k+1+n=ws.length:=by omega
              have hge:8*(ws.length:Int)≤8*(k:Int)+8*((n:Int)+1):=by omega
              have hd1:decide ((n:Int)<255)=true:=by simp; omega
              clear hrn HRL2 hnk2
              skip
              have hcvD:(convert 22 9 (.slice (some ⟨W2.heap.size,0,none⟩) 1 1)).run Tryz.prog (W2.alloc (.cells #[.int .u8 (n:Int)] 5)).drew= .ok (.string ⟨#[UInt8.ofNat n]⟩) (W2.alloc (.cells #[.int .u8 (n:Int)] 5)).drew:=conv1 n (by omega) W2.drew
              go_wp2_with fail
              go_region
              all_goals
               rw[HE0.out,HY2.out];go_wp2
               go_roundw
               case rel=>exact ⟨k+1+n,Y2,by omega,by go_num,rfl,by have:=z6v HEND.out; omega,HEND.out,(hB2.out.alloc hB2.out.size _).drew⟩
               case measure=>simp[intOf]; omega
            · have hlk:k+1+n<ws.length:=by omega
              have hx2e:r[n]=ws[k+1+n]'(by omega):=by simp[← HRd.out]
              have hX2:=z4y HSW.out HWd.out (k+1+n) (8*k+8*(n+1)) (8*k+8*(n+2)) (by omega) (by omega) (by omega);have hx28:(ws[k+1+n]'(by omega)).length=8:=HWd.out _ (List.getElem_mem _);rw[← hx2e] at hX2 hx28
              obtain ⟨x2,hx2⟩:∃x2,r[n]=x2:=⟨_,rfl⟩
              rw[hx2] at hX2 hx28 hnz;have HX2S:Hid ((⟨x2.toArray⟩:ByteArray).size=8):=hid (by rw[mk_sz]; exact hx28);have HX2:=hid hX2;have HP2:=hid hnz
              have hnn:n<255∨n=255:=by omega
              clear hx2e hX2 hx28 hx2 hnz hlt HRL2
              rcases hnn with hlt255 | h255
              · have hd1:decide ((n:Int)<255)=true:=by simp; omega
                go_wp2_with fail
                rw[HX2.out]
                with_reducible (refine (zdw ⟨x2.toArray⟩ W2 HX2S.out).mono ?_)
                rintro e w3 ⟨rfl,rfl⟩;have hpv:fewL x2=false:=HP2.out
                skip
                have hcvD:(convert 22 9 (.slice (some ⟨W2.heap.size,0,none⟩) 1 1)).run Tryz.prog (W2.alloc (.cells #[.int .u8 (n:Int)] 5)).drew= .ok (.string ⟨#[UInt8.ofNat n]⟩) (W2.alloc (.cells #[.int .u8 (n:Int)] 5)).drew:=conv1 n (by omega) W2.drew
                go_wp2_with fail
                go_region
                all_goals
                 rw[HE0.out,HY2.out];go_wp2
                 go_roundw
                 case rel=>exact ⟨k+1+n,Y2,by omega,by go_num,rfl,by have:=z6v HEND.out; omega,HEND.out,(hB2.out.alloc hB2.out.size _).drew⟩
                 case measure=>simp[intOf]; omega
              · have hd1:decide ((n:Int)<255)=false:=by simp; omega
                clear h255
                skip
                have hcvD:(convert 22 9 (.slice (some ⟨W2.heap.size,0,none⟩) 1 1)).run Tryz.prog (W2.alloc (.cells #[.int .u8 (n:Int)] 5)).drew= .ok (.string ⟨#[UInt8.ofNat n]⟩) (W2.alloc (.cells #[.int .u8 (n:Int)] 5)).drew:=conv1 n (by omega) W2.drew
                go_wp2_with fail
                go_region
                all_goals
                 rw[HE0.out,HY2.out];go_wp2
                 go_roundw
                 case rel=>exact ⟨k+1+n,Y2,by omega,by go_num,rfl,by have:=z6v HEND.out; omega,HEND.out,(hB2.out.alloc hB2.out.size _).drew⟩
                 case measure=>simp[intOf]; omega
       · have hTT:=HTT.out
         have hF3:=HF2.out;rw[zj9 x _ HX8.out (by rw[hTT]; exact hT0) (by rw[hTT]; exact hT1),hTT] at hF3
         have HEND:Hid (v.data.toList++packW (ws.drop (k+1))=R):=hid (by
          rw[← hF3,HV1.out,HYd.out]; simp)
         have e0:((T:Int)==0)=false:=by rw[beq_eq_false_iff_ne]; omega
         have e1:((T:Int)==255)=false:=by rw[beq_eq_false_iff_ne]; omega
         clear hTT hF3 hT0 hT1;go_wp2
         go_roundw
         case rel=>exact ⟨k+1,v,by omega,by go_num,rfl,by have:=z6v HEND.out; omega,HEND.out,hB2.out⟩
         case measure=>simp[intOf]; omega
  · obtain rfl:k=ws.length:=by omega
    have hu2:=HF.out;rw[List.drop_length,packW,List.append_nil] at hu2
    have hu3:u=⟨R.toArray⟩:=by apply z61; rw[hu2]
    have HU3:=hid hu3;clear hu2 hu3;go_wp2;go_ret;exact ⟨by rw[HU3.out]; rfl,HB.out⟩
theorem zln (s:ByteArray)(w:World)(hs:s.size≤maxLen) :
 Calls Tryz.prog 52 #[.string s] w fun e w'=>e= .returned (.bool (z1d s.size))∧w=w':=by
 unfold maxLen at hs
 by_cases h1:s.size%8=0
 all_goals
  go_enter Tryz.func52,Tryz.ntmps52;go_wp2;go_ret;refine ⟨z0j ?_,rfl⟩
  simp[z1d,h1]
 omega
theorem znf (l:List UInt8)(h:l.length%8=0):(wl (z15 l)).flatten=l:=by
 have hw:=zb7 (z15 l)
 have hlen:(wl (z15 l)).length=l.length/8:=by rw[z9w,z2m]
 have hfl:(wl (z15 l)).flatten.length=l.length:=by rw[z2x hw,hlen]; omega
 apply List.ext_getElem?
 intro i
 by_cases hi:i<l.length
 · have hk:i/8<(wl (z15 l)).length:=by rw[hlen]; omega
   have h1:=zgb (wl (z15 l)) (i/8) (i%8) hw hk (by omega);rw[show 8*(i/8)+i%8=i by omega] at h1
   have h2:(wl (z15 l))[i/8]=(wordQ l (i/8)).1:=by simp[wl,z15]
   rw[h1,h2,zcx l (i/8) (by omega),List.getElem?_take,if_pos (by omega),List.getElem?_drop,show 8*(i/8)+i%8=i by omega]
 · rw[List.getElem?_eq_none (by omega),List.getElem?_eq_none (by omega)]
open Go.RowKit Go.Deep
def sndF (r:Option Segs):ByteArray:=⟨(z11 (txR r)).toArray⟩
def sndB (r:Option Segs):Bool:=r.isSome&&z1d (sndF r).size
def sndS (r:Option Segs):ByteArray:=if sndB r=true then ⟨(packB (sndF r).data.toList).toArray⟩ else { data:= #[] }
theorem zlg (ss:List ByteArray):(numsL ss).length≤4*ss.length:=by
 induction ss with
 | nil=>exact Nat.le_refl _
 | cons s t ih =>
  unfold numsL at ih ⊢;rw[List.flatMap_cons,List.length_append,z07,List.length_cons];omega
theorem zkp (ss:List ByteArray):(bodyL ss).length=tot ss:=by
 induction ss with
 | nil=>rfl
 | cons s t ih =>
  unfold bodyL tot at ih ⊢;rw[List.flatMap_cons,List.length_append,ih,List.map_cons,List.sum_cons]
  rfl
theorem zes (r:Option Segs):(sndF r).size≤10000:=by
 have h:∀ss,(z11 ss).length≤10000:=fun ss=>by
  unfold z11
  split
  · rename_i h
    have h2:(1≤ss.length∧ss.length≤6)∧tot ss≤1600:=by
     unfold frOk at h
     simp only[Bool.and_eq_true,decide_eq_true_eq] at h
     exact ⟨h.1,h.2.2⟩
    have h3:=zlg ss;have h4:=zkp ss
    have h5:(fillL ss.length).length≤8:=by
     have:∀k,k≤6→(fillL k).length≤8:=by decide
     exact this _ h2.1.2
    simp only[List.length_append,z07]
    omega
  · exact Nat.zero_le _
 have:(sndF r).size=(z11 (txR r)).length:=by simp[sndF,ByteArray.size]
 rw[this];exact h _
theorem zik (m:Nat)(n:Nd)(h:Hd)(w:World)(S:Nat→Prop)(size:Int)(hmx:∀x∈txR (bldV n size),x.size≤maxLen)(h6:(txR (bldV n size)).length≤6)(hn:NdAt w S m n h)(ht:totN m n≤2000000) :
 Calls Tryz.prog 22 #[.agg #[.int .i64 n.kind,.string n.data,.slice h.A n.ptrs.length h.a,.int .i64 n.size,.int .i64 n.count,.slice h.B n.items.length h.b],.int .i64 size] w fun e w'=>e= .returned (.tuple #[.string (sndS (bldV n size)),.bool (sndB (bldV n size))])∧Below w.heap.size w w':=by
 obtain ⟨qA,qa,qB,qb⟩:=h;have hb0:=(Below.refl w.heap.size w).alloc (Nat.le_refl _) (.cells #[.int .i64 n.kind,.string n.data,.slice qA n.ptrs.length qa,.int .i64 n.size,.int .i64 n.count,.slice qB n.items.length qb] nodeT);have HB0:=hid hb0;have HC:=hid ((zag m n ⟨qA,qa,qB,qb⟩ _ S size (hn.below hb0) ht).mono (fun _ _ h=>h.uni))
 dsimp only at HC ⊢
 have HMX:=hid hmx;have hfs:=zes (bldV n size);have HFP:=hid (fun (W:World) (A:Option Addr) (c:Nat) (hs:Strs W A (txR (bldV n size)))=>z84 A c (txR (bldV n size)) W hs (by omega));have HIW:=hid (fun (W:World)=>z2w (sndF (bldV n size)) W (by unfold maxLen; omega));have HPK:=hid (fun (W:World)=>ze8 (sndF (bldV n size)) W (by unfold maxLen; omega));have HFE:Hid ((⟨(z11 (txR (bldV n size))).toArray⟩:ByteArray)=sndF (bldV n size)):=hid rfl;rw[HFE.out] at HFP;have hsB:sndB (bldV n size)=((bldV n size).isSome&&z1d (sndF (bldV n size)).size):=rfl
 have hsS:sndS (bldV n size)=if sndB (bldV n size)=true then ⟨(packB (sndF (bldV n size)).data.toList).toArray⟩ else { data:= #[] } :=rfl
 rw[hsS,hsB];clear hsB hsS HFE hn hb0 hmx;generalize txR (bldV n size)=ss at *;generalize hF:sndF (bldV n size)=F at *;generalize hO:(bldV n size).isSome=ok at *;generalize (⟨(packB F.data.toList).toArray⟩:ByteArray)=PK at *
 cases hw:z1d F.size <;> cases ok
 all_goals
  rw[hw] at HIW
  simp only[Bool.and_true,Bool.and_false,Bool.true_and,Bool.false_and,if_true,Bool.false_eq_true,if_false]
  clear hw hF hO;go_enter Tryz.func22,Tryz.ntmps22
  go_wp2_with fail
  refine HC.out.mono ?_;rintro e w1 ⟨A,c,rfl,ho,hb1⟩;have HB1:=hid (HB0.out.trans (hb1.mono HB0.out.size));have HST:=hid (z9f ho HMX.out);clear hb1 ho HC
  go_wp2_with fail
  refine (HFP.out _ A c HST.out).mono ?_;rintro e w2 ⟨rfl,hb2⟩;have HB2:=hid (HB1.out.trans (hb2.mono HB1.out.size));clear hb2
  go_wp2_with (first | (go_at_call 48; refine (HIW.out _).mono ?_; rintro e w3 ⟨rfl,rfl⟩) | (go_at_call 50; refine (HPK.out _).mono ?_; rintro e w4 ⟨rfl,hb4⟩; have HB2:=hid (HB2.out.trans (hb4.mono HB2.out.size)); clear hb4))
 · exact bodyPost_ret (v:= .tuple #[.string { data:= #[] },.bool false]) (by simp[results,Tryz.results22,go_sem]) rfl ⟨rfl,HB2.out⟩
 · exact bodyPost_ret (v:= .tuple #[.string { data:= #[] },.bool false]) (by simp[results,Tryz.results22,go_sem]) rfl ⟨rfl,HB2.out⟩
 · exact bodyPost_ret (v:= .tuple #[.string { data:= #[] },.bool false]) (by simp[results,Tryz.results22,go_sem]) rfl ⟨rfl,HB2.out⟩
 · exact bodyPost_ret (v:= .tuple #[.string PK,.bool true]) (by simp[results,Tryz.results22,go_sem]) rfl ⟨rfl,HB2.out⟩
theorem zkr (s:ByteArray)(W:World)(hw:z1d s.size=true):Calls Tryz.prog 53 #[.string s] W fun e w'=>e= .returned (.string ⟨(packB s.data.toList).toArray⟩)∧Below W.heap.size W w':=by
 have hsl:s.data.toList.length=s.size:=rfl
 have hT:packB s.data.toList=packW (wl (z15 s.data.toList)):=by rw[packB,hsl,hw,if_pos rfl]
 have hw8:s.size%8=0∧s.size≤1600:=by simpa [z1d] using hw
 rw[hT];exact zih s (wl (z15 s.data.toList)) W (znf _ (by rw[hsl]; exact hw8.1)).symm (zb7 _) (by rw[z9w,z2m,hsl]; omega)
theorem zj1 (m:Nat)(n:Nd)(h:Hd)(w:World)(S:Nat→Prop)(size:Int)(hmx:∀x∈txR (bldV n size),x.size≤maxLen)(htot:tot (txR (bldV n size))≤1099511627776)(h6:(txR (bldV n size)).length≤6)(hn:NdAt w S m n h)(ht:totN m n≤2000000) :
 Calls Tryz.prog 23 #[.agg #[.int .i64 n.kind,.string n.data,.slice h.A n.ptrs.length h.a,.int .i64 n.size,.int .i64 n.count,.slice h.B n.items.length h.b],.int .i64 size] w fun e w'=>e= .returned (.tuple #[.string (sndS (bldV n size)),.bool (sndB (bldV n size))])∧Below w.heap.size w w':=by
 obtain ⟨qA,qa,qB,qb⟩:=h;have hb0:=(Below.refl w.heap.size w).alloc (Nat.le_refl _) (.cells #[.int .i64 n.kind,.string n.data,.slice qA n.ptrs.length qa,.int .i64 n.size,.int .i64 n.count,.slice qB n.items.length qb] nodeT);have HB0:=hid hb0;have HC:=hid ((zg5 m n ⟨qA,qa,qB,qb⟩ _ S size (hn.below hb0) ht).mono (fun _ _ h=>h.uni))
 dsimp only at HC ⊢
 have HMX:=hid hmx;have hfs:=zes (bldV n size);have HFP:=hid (fun (W:World) (A:Option Addr) (c:Nat) (hs:Strs W A (txR (bldV n size)))=>z86 A c (txR (bldV n size)) W hs (by omega) htot);have HIW:=hid (fun (W:World)=>zln (sndF (bldV n size)) W (by unfold maxLen; omega));have HPK:Hid (z1d (sndF (bldV n size)).size=true→∀W:World,Calls Tryz.prog 53 #[.string (sndF (bldV n size))] W fun e w'=>e= .returned (.string ⟨(packB (sndF (bldV n size)).data.toList).toArray⟩)∧Below W.heap.size W w'):=hid (fun hw W=>zkr _ W hw);have HFE:Hid ((⟨(z11 (txR (bldV n size))).toArray⟩:ByteArray)=sndF (bldV n size)):=hid rfl;rw[HFE.out] at HFP;have hsB:sndB (bldV n size)=((bldV n size).isSome&&z1d (sndF (bldV n size)).size):=rfl
 have hsS:sndS (bldV n size)=if sndB (bldV n size)=true then ⟨(packB (sndF (bldV n size)).data.toList).toArray⟩ else { data:= #[] } :=rfl
 rw[hsS,hsB];clear hsB hsS HFE hn hb0 hmx;generalize txR (bldV n size)=ss at *;generalize hF:sndF (bldV n size)=F at *;generalize hO:(bldV n size).isSome=ok at *;generalize (⟨(packB F.data.toList).toArray⟩:ByteArray)=PK at *
 cases hw:z1d F.size <;> cases ok
 all_goals
  rw[hw] at HIW;have HPK:=hid (fun (e:z1d F.size=true)=>HPK.out e);have HWE:=hid hw
  simp only[Bool.and_true,Bool.and_false,Bool.true_and,Bool.false_and,if_true,Bool.false_eq_true,if_false]
  clear hw hF hO;go_enter Tryz.func23,Tryz.ntmps23
  go_wp2_with fail
  refine HC.out.mono ?_;rintro e w1 ⟨A,c,rfl,hst, -, -,hb1⟩;have HB1:=hid (HB0.out.trans (hb1.mono HB0.out.size));have HST:=hid hst;clear hb1 hst HC
 · go_wp2
   exact bodyPost_ret (v:= .tuple #[.string { data:= #[] },.bool false]) (by simp[results,Tryz.results23,go_sem]) rfl ⟨rfl,HB1.out⟩
 · go_wp2_with fail
   refine (HFP.out _ A c HST.out).mono ?_;rintro e w2 ⟨rfl,hb2⟩;have HB2:=hid (HB1.out.trans (hb2.mono HB1.out.size));clear hb2
   go_wp2_with (first | (go_at_call 52; refine (HIW.out _).mono ?_; rintro e w3 ⟨rfl,rfl⟩) | (go_at_call 53; refine (HPK.out HWE.out _).mono ?_; rintro e w4 ⟨rfl,hb4⟩; have HB2:=hid (HB2.out.trans (hb4.mono HB2.out.size)); clear hb4))
   exact bodyPost_ret (v:= .tuple #[.string { data:= #[] },.bool false]) (by simp[results,Tryz.results23,go_sem]) rfl ⟨rfl,HB2.out⟩
 · go_wp2
   exact bodyPost_ret (v:= .tuple #[.string { data:= #[] },.bool false]) (by simp[results,Tryz.results23,go_sem]) rfl ⟨rfl,HB1.out⟩
 · go_wp2_with fail
   refine (HFP.out _ A c HST.out).mono ?_;rintro e w2 ⟨rfl,hb2⟩;have HB2:=hid (HB1.out.trans (hb2.mono HB1.out.size));clear hb2
   go_wp2_with (first | (go_at_call 52; refine (HIW.out _).mono ?_; rintro e w3 ⟨rfl,rfl⟩) | (go_at_call 53; refine (HPK.out HWE.out _).mono ?_; rintro e w4 ⟨rfl,hb4⟩; have HB2:=hid (HB2.out.trans (hb4.mono HB2.out.size)); clear hb4))
   exact bodyPost_ret (v:= .tuple #[.string PK,.bool true]) (by simp[results,Tryz.results23,go_sem]) rfl ⟨rfl,HB2.out⟩
end Go.Proofs.YtlbfffokkhccaaaGreatDoor
namespace Go.Proofs.YtlbfffokkhccaaaGreatDoor
open Go.RowKit
theorem zr3 {n:Nd}{z:Int}{ss:Segs}(h:bldV n z=some ss):SOk LS ss:=by
 unfold bldV at h
 split at h
 · rename_i hh
   obtain ⟨h1,h2⟩:=z21 hh.1;have hs:=(z2b 200 z.toNat 8 n [zer 1] 0 0 ss h1 (SOKL 200 (by omega)) (by decide) (by decide) h).1;exact ⟨hs.wds,hs.one,hs.six,Nat.le_trans hs.totS (by decide)⟩
 · cases h
theorem zeq (n:Nd)(z:Int):(∀x∈txR (bldV n z),x.size≤maxLen)∧(txR (bldV n z)).length≤6∧tot (txR (bldV n z))≤1099511627776:=by
 cases h:bldV n z with
 | none=>exact ⟨(fun x hx=>by cases hx),by decide,by decide⟩
 | some ss =>
  have hk:=zr3 h;refine ⟨fun s hs=>?_,by rw[show txR (some ss)=txS ss from rfl,z29]; exact hk.six,zmq hk⟩
  change s∈txS ss at hs
  obtain ⟨x,hx,rfl⟩:=List.mem_map.1 hs;obtain ⟨i,hi,e⟩:=List.getElem_of_mem hx;have h1:=zbj hk i;rw[z9i hi,e] at h1
  have hs:(⟨x.toArray⟩:ByteArray).size=x.length:=by simp[ByteArray.size]
  rw[hs];unfold maxLen;omega
theorem zfz {l:List UInt8}(h:z1d l.length=true):packB l=packW (wl (z15 l)):=by rw[packB,if_pos h]
theorem zjh (n:Nat):z1d n=true↔n%8=0∧n≤1600:=by simp[z1d]
theorem znn {l:List UInt8}(h:z1d l.length=true):unW (packB l)=some l:=by
 rw[zfz h,zpc (zb7 _),znf l ((zjh _).1 h).1]
theorem zqq {s:ByteArray}{l:List UInt8}(h:unW s.data.toList=some l)(hl:l.length≤1600):unV s= .tuple #[.string ⟨l.toArray⟩,.bool true]:=by
 have h2:fitU [] (unW s.data.toList)=some l:=by rw[h]; simp[fitU,hl]
 rw[unV,h2]
def Arg (w:World)(a:Option Addr)(len cap:Nat):Prop:=Code w w.heap.size a len∧len≤cap∧(a=none→len=0)
theorem zf2 {w w1 w2:World}{R n:Nat}(hR:w.heap.size≤R)(hb:Below w.heap.size w w1)(hp:z0h w1 R n w2):Below w.heap.size w w2 :=
 hb.trans (hp.2.below hb.size hR)
theorem arg_nil (w:World):Arg w none 0 0:=⟨⟨by decide,.inl rfl⟩,Nat.le_refl _,fun _=>rfl⟩
theorem wf_u8 {n:Int}(h:(Lit.int .u8 n).wf=true):∃b:UInt8,n=(b.toNat:Int):=by
 simp[Lit.wf,IntKind.min,IntKind.max,IntKind.bits,IntKind.signed] at h
 refine ⟨UInt8.ofNat n.toNat,?_⟩;rw[UInt8.toNat_ofNat'];omega
theorem arg_row {w:World}{x:Addr}{l c:Nat}{zs:List Int}(hl:l≤c)(hm:c≤maxLen)(hz:zs.length=c)(hcell:∀i,i<zs.length→w.cell? (x.add i)=some (.int .u8 (zs.getD i 0)))(hwz:∀n∈zs,(Lit.int .u8 n).wf=true) :
 Arg w (some x) l c:=by
 refine ⟨⟨Nat.le_trans hl hm,?_⟩,hl,fun h=>by cases h⟩
 by_cases h0:l=0
 · exact .inl h0
 · refine .inr ⟨x,rfl,?_,fun i hi=>?_⟩
   · have h:=World.block_lt_of_cell? w _ (hcell 0 (by omega))
     rwa [z0r] at h
   · have hi':i<zs.length:=by omega
     obtain ⟨b,hb⟩:=wf_u8 (hwz zs[i] (List.getElem_mem hi'));refine ⟨b,?_⟩;rw[hcell i hi',List.getD,List.getElem?_eq_getElem hi',← hb]
     rfl
def pkS (s:ByteArray):ByteArray:=⟨(packB s.data.toList).toArray⟩
open Go.RowKit Go.Deep
def dK:Nat→Nat
 | 0=>0
 | d+1=>50+6*dK d
def dT:Nat→Nat
 | 0=>0
 | d+1=>1001+6*dT d
def DrN (d:Nat):Prop:=∀(R n:Nat) (w:World),Rd w R n→n+dK d≤500000→Calls Tryz.prog 65 #[.pointer (some ⟨R,0,none⟩),.int .i64 (d:Int)] w (NdP (2*d) (dT d) R (n+dK d) w)
theorem NdAt.picked {w w':World}{R n B m:Nat}{x:Nd}{h:Hd}(hn:NdAt w (FromC w B) m x h)(hp:z0h w R n w')(hR:R<B):NdAt w' (FromC w' B) m x h :=
 hn.map' (fun k hk hs=>⟨hs.1,z5e hs.2 (hp.2.block k hk (by have:=hs.1; omega))⟩) (fun p _ _ hs hc=>hc.block (hp.2.block _ hc.lt (by have:=hs.1; omega)))
def StD (g:Nat)(k:Nat)(w:World):Prop:=∃dd:ByteArray,dd.size=8*k∧w.heap[g]? =some (.cells #[.int .i64 1,.string dd,.slice none 0 0,.int .i64 0,.int .i64 0,.slice none 0 0] nodeT (0,0))
theorem zci (d:Nat)(hN:DrN d)(R n:Nat)(data ptrs:Nat)(w:World)(h:Rd w R n)(hn:n+3*data+ptrs*dK d≤500000)(hd:data≤3)(hp:ptrs≤3)(hdd:d≤8)(_hkd:dK d≤20000)(_htd:dT d≤300000) :
 Calls Tryz.prog 115 #[.pointer (some ⟨R,0,none⟩),.int .i64 data,.int .i64 ptrs,.int .i64 ((d:Int)+1)] w (NdP (2*d+1) (8*data+ptrs*(1+dT d)) R (n+3*data+ptrs*dK d) w):=by
 have hRw:=h.lt;obtain ⟨i0,hi,hz0,hz1,hz2⟩:=info_parts z63;have hq0:=h.self.below (((Below.refl w.heap.size w).alloc (Nat.le_refl _) (.cells #[.int .i64 0,.string { data:= #[] },.slice none 0 0,.int .i64 0,.int .i64 0,.slice none 0 0] nodeT)).alloc (by simp) (.cells #[.int .i64 1,.string { data:= #[] },.slice none 0 0,.int .i64 0,.int .i64 0,.slice none 0 0] nodeT));have hr0:((w.alloc (.cells #[.int .i64 0,.string { data:= #[] },.slice none 0 0,.int .i64 0,.int .i64 0,.slice none 0 0] nodeT)).alloc (.cells #[.int .i64 1,.string { data:= #[] },.slice none 0 0,.int .i64 0,.int .i64 0,.slice none 0 0] nodeT)).heap[w.heap.size]? =some (.cells #[.int .i64 0,.string { data:= #[] },.slice none 0 0,.int .i64 0,.int .i64 0,.slice none 0 0] nodeT (0,0)):=(Below.heap_alloc _ _ _ (by simp)).trans (heap_alloc_new w _)
 have hx0:((w.alloc (.cells #[.int .i64 0,.string { data:= #[] },.slice none 0 0,.int .i64 0,.int .i64 0,.slice none 0 0] nodeT)).alloc (.cells #[.int .i64 1,.string { data:= #[] },.slice none 0 0,.int .i64 0,.int .i64 0,.slice none 0 0] nodeT)).heap[w.heap.size+1]? =some (.cells #[.int .i64 1,.string { data:= #[] },.slice none 0 0,.int .i64 0,.int .i64 0,.slice none 0 0] nodeT (0,0)):=by have:=heap_alloc_new (w.alloc (.cells #[.int .i64 0,.string { data:= #[] },.slice none 0 0,.int .i64 0,.int .i64 0,.slice none 0 0] nodeT)) (.cells #[.int .i64 1,.string { data:= #[] },.slice none 0 0,.int .i64 0,.int .i64 0,.slice none 0 0] nodeT); rwa [show (w.alloc (.cells #[.int .i64 0,.string { data:= #[] },.slice none 0 0,.int .i64 0,.int .i64 0,.slice none 0 0] nodeT)).heap.size=w.heap.size+1 by simp] at this
 have hs0:((w.alloc (.cells #[.int .i64 0,.string { data:= #[] },.slice none 0 0,.int .i64 0,.int .i64 0,.slice none 0 0] nodeT)).alloc (.cells #[.int .i64 1,.string { data:= #[] },.slice none 0 0,.int .i64 0,.int .i64 0,.slice none 0 0] nodeT)).heap.size=w.heap.size+2:=by simp
 have HQ0:=hid hq0;have HR0:=hid hr0;have HX0:=hid hx0;have HNN:=hid hN;clear h hq0 hr0 hx0 hN;go_enter Tryz.func115,Tryz.ntmps115
 go_wp2_with fail
 generalize (w.alloc (.cells #[.int .i64 0,.string { data:= #[] },.slice none 0 0,.int .i64 0,.int .i64 0,.slice none 0 0] nodeT)).alloc (.cells #[.int .i64 1,.string { data:= #[] },.slice none 0 0,.int .i64 0,.int .i64 0,.slice none 0 0] nodeT)=W0 at *
 go_loopw [10] (fun i wr=>∃k:Nat,i= .int .i64 k∧k≤data∧Hid (StD (w.heap.size+1) k wr)∧Hid (wr.heap[w.heap.size]? =some (.cells #[.int .i64 0,.string { data:= #[] },.slice none 0 0,.int .i64 0,.int .i64 0,.slice none 0 0] nodeT (0,0)))∧Hid (z0h w R (n+3*k) wr∧w.heap.size+2≤wr.heap.size)) (fun i _=>data-(intOf i).toNat)
 case atStart=>exact ⟨0,rfl,by omega,hid ⟨_,rfl,HX0.out⟩,HR0,hid ⟨HQ0.out,by omega⟩⟩
 case round =>
  obtain ⟨k,rfl,hk,HS,HZ,HP⟩:=hrel;obtain ⟨dd,hds,hrow⟩:=HS.out;obtain ⟨hpk,hsz⟩:=HP.out
  have hdb:dd.size≤24:=by omega
  by_cases hlt:k<data
  · have hc:=z01 hrow
    obtain ⟨c0,c1,c2,c3,c4,c5⟩:=hc;have hfr:=z02 hrow 1;have HPK:=hid hpk;have HROW:=hid hrow;have HDS:=hid hds;have hdr:(wr.drew).heap.size=wr.heap.size:=rfl;clear hpk hrow hds HS HP
    go_wp2_with fail
    go_region_with (go_at_call 156; go_must (refine (z8v R (n+3*k) _ (by exact HPK.out.1.below ⟨rfl,rfl,rfl,Nat.le_refl _,fun _ _=>rfl⟩) (by omega)).mono ?_); rintro e w2 ⟨u,hu,rfl,hp2⟩; have hx2:=z0e (w:=wr.drew) HROW.out hp2 (by omega); obtain ⟨q0,q1,q2,q3,q4,q5⟩:=z01 hx2; have qf:=z02 hx2 1; have f1:¬9223372036854775807<dd.size+u.size:=by omega)
    all_goals
     have hp3:z0h wr R (n+3*k+3) w2:=⟨hp2.1,⟨hp2.2.os,hp2.2.tape,hp2.2.output,hp2.2.size,hp2.2.block⟩⟩
     have HP3:=hid (z0o (HPK.out.then hp3) hRw (b:=w.heap.size+1) (by omega) 1 (.string (dd++u)));have HS3:Hid (StD (w.heap.size+1) (k+1) (w2.setCell ⟨w.heap.size+1,1,none⟩ (.string (dd++u)))):=hid ⟨dd++u,by rw[z1g,HDS.out,hu]; omega,z08 hx2 1 _⟩;have HZ3:=hid ((Below.heap_setCell w2 ⟨w.heap.size+1,1,none⟩ (.string (dd++u)) w.heap.size (by simp)).trans (z0e (w:=wr) HZ.out hp3 (by omega)))
     have hsz3:w.heap.size+2≤(w2.setCell ⟨w.heap.size+1,1,none⟩ (.string (dd++u))).heap.size:=by have:=hp3.2.size; simp[World.setCell]; omega
     have HPP:=hid (And.intro (HP3.out.mono (show n+3*k+3≤n+3*(k+1) by omega)) hsz3);clear hp2 hp3 hx2 q0 q1 q2 q3 q4 q5 qf hsz3 hu;go_wp2
     go_roundw
     case rel=>exact ⟨k+1,by go_num,by omega,HS3,HZ3,HPP⟩
     case measure=>simp[intOf]; omega
  · obtain rfl:k=data:=by omega
    have HROW:=hid hrow;have HPK:=hid hpk;have HZ1:=hid HZ.out;have HDS:=hid hds;clear hrow hpk hds HS HP hlt
    go_wp2_with fail
    go_loopw [11] (fun i wr=>∃j:Nat,i= .int .i64 j∧j≤ptrs∧Hid (∃(v:Value) (q:List (Nd×Hd)),wr.heap[w.heap.size+1]? =some (.cells #[.int .i64 1,.string dd,v,.int .i64 0,.int .i64 0,.slice none 0 0] nodeT (0,0))∧q.length=j∧NRowC wr (w.heap.size+2) v q (2*d) (dT d))∧Hid (wr.heap[w.heap.size]? =some (.cells #[.int .i64 0,.string { data:= #[] },.slice none 0 0,.int .i64 0,.int .i64 0,.slice none 0 0] nodeT (0,0)))∧Hid (z0h w R (n+3*k+j*dK d) wr∧w.heap.size+2≤wr.heap.size)) (fun i _=>ptrs-(intOf i).toNat)
    case atStart=>exact ⟨0,rfl,by omega,hid ⟨_,[],HROW.out,rfl,NRowC.nil _ _ _ _⟩,HZ1,hid ⟨by have:=HPK.out; simpa using this,hsz⟩⟩
    case round =>
     clear hsz;obtain ⟨j,rfl,hj,HS,HZ,HP⟩:=hrel;obtain ⟨v,q,hrow,hql,hnr⟩:=HS.out;obtain ⟨hpk,hsz⟩:=HP.out;have HQL:=hid hql
     by_cases hlt:j<ptrs
     · obtain ⟨c0,c1,c2,c3,c4,c5⟩:=z01 hrow
       have hq1000:q.length≤1000:=by omega
       have HPK2:=hid hpk;have HROW2:=hid hrow;have HNR:=hid hnr;have hdr:(wr.drew).heap.size=wr.heap.size:=rfl
       have hjk:j*dK d+dK d≤ptrs*dK d:=by have:=Nat.mul_le_mul_right (dK d) (show j+1≤ptrs by omega); rw[Nat.add_mul] at this; omega
       have hwr:IntKind.i64.wrap (d:Int)=(d:Int):=by rw[IntKind.wrap_i64]; omega
       have HC:=hid (HNN.out R (n+3*k+j*dK d) wr.drew (by exact HPK2.out.1.below ⟨rfl,rfl,rfl,Nat.le_refl _,fun _ _=>rfl⟩) (by omega));unfold NdP at HC;clear hpk hrow hnr HS HP hql
       go_wp2_with fail
       go_region_law (first | (refine z47 rfl (.tmp 30) (.tmp 35) rfl (w.heap.size+2) v q.length (rowOf q) (by simp[Act.eval]) (HO2.out.1.alloc _) ⟨w2.heap.size,0,none⟩ 1 (y,hy) (by simp[Act.eval]) (z28 w2 (y,hy) _) hq1000 (by simp; omega) ?_; intro A4 c4 w4 hown4 hgrow4 hat4; have hx4:=(hgrow4.out.block (w.heap.size+1) (by simp; omega) (fun e=>by have:=(HO2.out.1.lt _ e.symm).1; omega)).trans ((Below.heap_alloc w2 _ (w.heap.size+1) (by omega)).trans HX2.out); have qf4:=z02 hx4 2; obtain ⟨r0,r1,r2,r3,r4,r5⟩:=z01 hx4) | (go_simp; go_at_call 65; (with_reducible refine HC.out.mono ?_); rintro e w2 ⟨y,hy,rfl,hny,hty,hp2⟩; have hx2:=z0e (w:=wr.drew) HROW2.out hp2 (by omega); have HX2:=hid hx2; have HO2:=hid (NRowC.picked (w:=wr.drew) HNR.out.drew hp2 (by omega)); have hsz2:wr.heap.size≤w2.heap.size:=hp2.2.size; obtain ⟨q0,q1,q2,q3,q4,q5⟩:=z01 hx2; have hlt2:=z00 hx2; have qa:∀o,(w2.alloc o).cell? ⟨w.heap.size+1,2,none⟩=some v:=fun o=>(((Below.refl w2.heap.size w2).alloc (Nat.le_refl _) o).cell hlt2).trans q2))
       all_goals
        have hp3:z0h wr R (n+3*k+j*dK d+dK d) w2:=⟨hp2.1,⟨hp2.2.os,hp2.2.tape,hp2.2.output,hp2.2.size,hp2.2.block⟩⟩
        have hbel:Below w.heap.size w2 w4:=((Below.refl w.heap.size w2).alloc (by omega) _).grown hgrow4.out (by simp; omega) (fun k hk=>by have:=(HO2.out.1.lt k hk).1; omega)
        have hp4:z0h w R (n+3*k+j*dK d+dK d) w4:=by
         obtain ⟨⟨a,l,c,p,hpn,hr,hc⟩,hk⟩:=HPK2.out.then hp3
         exact ⟨⟨a,l,c,p,hpn,(hbel.block R hRw).trans hr,hc.keeps (R:=w.heap.size) (Keeps.of_below hbel) (Nat.le_of_lt hRw) (Nat.le_of_lt hRw)⟩,⟨hbel.os.trans hk.os,hbel.tape.trans hk.tape,hbel.output.trans hk.output,Nat.le_trans hk.size hbel.size,fun k hk1 hk2=>(hbel.block k hk1).trans (hk.block k hk1 hk2)⟩⟩
        have hnx:=(HO2.out.alloc _).next (hny.belowC ((Below.refl w2.heap.size w2).alloc (Nat.le_refl _) _)) hty.1 (show w.heap.size+2≤(wr.drew).heap.size from hsz) (fun k hk=>(HNR.out.1.lt k hk).2) hown4.out hgrow4.out hat4.out;have HS5:Hid (∃(v':Value) (q':List (Nd×Hd)),(w4.setCell ⟨w.heap.size+1,2,none⟩ (.slice A4 (q.length+1) c4)).heap[w.heap.size+1]? =some (.cells #[.int .i64 1,.string dd,v',.int .i64 0,.int .i64 0,.slice none 0 0] nodeT (0,0))∧q'.length=j+1∧NRowC (w4.setCell ⟨w.heap.size+1,2,none⟩ (.slice A4 (q.length+1) c4)) (w.heap.size+2) v' q' (2*d) (dT d)):=hid ⟨_,_,z08 hx4 2 _,by have:=HQL.out; simp; omega,hnx.store (by omega)⟩;have HZ5:=hid ((Below.heap_setCell w4 ⟨w.heap.size+1,2,none⟩ (.slice A4 (q.length+1) c4) w.heap.size (by simp)).trans ((hgrow4.out.block w.heap.size (by simp; omega) (fun e=>by have:=(HO2.out.1.lt _ e.symm).1; omega)).trans ((Below.heap_alloc w2 _ w.heap.size (by omega)).trans (z0e (w:=wr) HZ.out hp3 (by omega)))));have HP5:Hid (z0h w R (n+3*k+(j+1)*dK d) (w4.setCell ⟨w.heap.size+1,2,none⟩ (.slice A4 (q.length+1) c4))∧w.heap.size+2≤(w4.setCell ⟨w.heap.size+1,2,none⟩ (.slice A4 (q.length+1) c4)).heap.size):=hid ⟨(z0o hp4 hRw (b:=w.heap.size+1) (by omega) 2 _).mono (by rw[Nat.add_mul]; omega),by have:=hbel.size; simp[World.setCell]; omega⟩;clear hp2 hp3 hp4 hbel hnx hx4 hx2 hown4 hgrow4 hat4 q0 q1 q2 q3 q4 q5 r0 r1 r2 r3 r4 r5 qf4 qa hlt2 hny hty;go_wp2
        go_roundw
        case rel=>exact ⟨j+1,by go_num,by omega,HS5,HZ5,HP5⟩
        case measure=>simp[intOf]; omega
     · obtain rfl:j=ptrs:=by omega
       obtain ⟨A,cap,hv,hnds,htot⟩:=hnr.nds (by omega);subst hv;have HND:=hid hnds;have HTOT:=hid htot;have HROW3:=hid hrow;have HPK3:=hid hpk;obtain ⟨c0,c1,c2,c3,c4,c5⟩:=z01 hrow
       have hz0:∀k,wr.cell? ⟨w.heap.size,k,none⟩=(#[.int .i64 0,.string { data:= #[] },.slice none 0 0,.int .i64 0,.int .i64 0,.slice none 0 0]:Array Value)[k]? :=fun k=>cell_of_row _ _ _ _ _ _ HZ.out
       have hzf:=z02 HZ.out;clear hnr hnds htot hrow hpk HS HP hql hlt hi
       go_wp2_with fail
       obtain ⟨wf,hwf,hrw,hpw,huw⟩:=z4v (w1:=wr) (b:=w.heap.size) HZ.out HPK3.out hRw (Nat.le_refl _) (.int .i64 1) (.string dd) (.slice A q.length cap) (.int .i64 0) (.int .i64 0) (.slice none 0 0);rw[hwf];obtain ⟨e0,e1,e2,e3,e4,e5⟩:=z01 hrw
       exact bodyPost_ret (v:= .agg #[.int .i64 1,.string dd,.slice A q.length cap,.int .i64 0,.int .i64 0,.slice none 0 0])
        (by simp[results,Tryz.results115,go_sem,e0,e1,e2,e3,e4,e5]) rfl
        ⟨.mk 1 dd (q.map (·.1)) 0 0 [],⟨A,cap,none,0⟩,by show _=Ending.returned (.agg #[.int .i64 1,.string dd,.slice A (q.map (·.1)).length cap,.int .i64 0,.int .i64 0,.slice none 0 0]); rw[List.length_map],⟨by show dd.size≤maxLen; unfold maxLen; omega,((HND.out.fromC (by omega)).uponC huw).fromC (by omega),NdsAt.nil _ _ _ _⟩,⟨by
         have h1:=HTOT.out;rw[HQL.out] at h1
         show dd.size+totL (2*d+1) (q.map (·.1))+totL (2*d+1) []≤_
         have h2:totL (2*d+1) []=0:=rfl;have h3:=HDS.out
         omega,SB.small (by show dd.size≤1100; have h3:=HDS.out; omega) (show (0:Nat)≤1000 by decide)⟩,hpw.mono (by omega)⟩
end Go.Proofs.YtlbfffokkhccaaaGreatDoor
