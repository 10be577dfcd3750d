/- Texts of the proof of the law FnCanonSent, side by side: part 16. -/
import Derived.Test.YtlbfffokkhccaaaGreatDoorMCanonSent15
set_option maxHeartbeats 8000000
set_option maxRecDepth 100000
open Go.Lib (hid)
namespace Go.Proofs.YtlbfffokkhccaaaGreatDoor
open Go.RowKit Go.Deep
theorem zsz:(Tryz.prog.info? stT).map (fun i=>(i.zero,i.size,i.bytes))=some (some (.string ByteArray.empty),1,16):=by kernel_rfl
theorem Sb.app {w w1:World}{base b size:Nat}{ss:Segs}{P:Nat→Prop}{v v':Value}{x:Obj}(hb:w.heap[b]? =some (.cells #[v,.int .i64 size,.bool false] wrT (0,0)))(ho:w.ownsRow base stT 1 v ss.length (ss.map strS))(hl:base≤b)(hPb:P b)(hv:∀k,v.ownBlock=some k→P k)
 (hown:w1.ownsRow base stT 1 v' (ss.length+1) (ss.map strS++ [strS []])) (hg:(w.alloc x).grownBy w1 v.ownBlock) (hat:v'.ownBlock=v.ownBlock∨v'.ownBlock=some (w.heap.size+1)) :
 KP P w (w1.setCell ⟨b,0,none⟩ v')∧Sb (w1.setCell ⟨b,0,none⟩ v') base b size (ss++ [[]]) false (fun k=>P k∨w.heap.size<k)∧w1.heap[b]? =some (.cells #[v,.int .i64 size,.bool false] wrT (0,0)):=by
 have hne:∀k c,w.heap[k]? =some (.cells c stT (0,0))→k≠b:=fun k c hc=>ne_T hc hb (by decide)
 have hva:v.ownBlock≠some b:=fun e=>by obtain ⟨c,hc⟩:=own_T ho e; exact hne _ _ hc rfl
 have hblt:=z00 hb;have hb1:w1.heap[b]? =some (.cells #[v,.int .i64 size,.bool false] wrT (0,0)):=(hg.block b (by simp; omega) (fun e=>hva e.symm)).trans (z05 hb x)
 have hv1:v'.ownBlock≠some b:=fun e=>by obtain ⟨c,hc⟩:=own_T hown e; exact ne_T hc hb1 (by decide) rfl
 have hk1:KP P w w1:=⟨hg.os,hg.tape,hg.output,Nat.le_trans (by simp) hg.size,fun k hk hn=>by
  rw[hg.block k (by simp; omega) (fun e=>hn (hv k e.symm))]
  exact (Below.refl w.heap.size w).alloc (Nat.le_refl _) x |>.block k hk⟩
 refine ⟨hk1.trans (KP.set hPb w1 0 _) (fun _ _ h=>h),⟨v',z08 hb1 0 _,?_,hl,.inl hPb,fun k hk=>?_⟩,hb1⟩
 · have:=z13 hown (w':=w1.setCell ⟨b,0,none⟩ v') (fun k hk=>Below.heap_setCell w1 ⟨b,0,none⟩ _ k (fun e=>hv1 (by rw[hk]; exact congrArg some e)))
   rw[List.length_append,List.map_append];exact this
 · rcases hat with e | e
   · rw[e] at hk; exact .inl (hv k hk)
   · rw[e] at hk; injection hk with hk; right; omega
theorem zbj {ss:Segs}(hk:SOk LS ss)(j:Nat):(sgS ss j).length≤100000:=by
 have h1:=z10 hk.wds j;have h2:=z09 ss j;have h3:=hk.totS;unfold LS at h3;omega
structure FarF (size:Nat) (n:Nd) (ss s1:Segs) (i a j pad:Nat) (S2:Segs):Prop where
 pd:wn (sgS s1 j)=pad
 room:roomP LS size n ss i a=some (S2,j,pad+1)
 j1:j<s1.length
 l1:(sgS s1 j).length≤100000
 i2:i<(growB s1 j (1+ownN n)).length
 a2:8*a+8≤(sgS (growB s1 j (1+ownN n)) i).length
 l2:(sgS (growB s1 j (1+ownN n)) i).length≤100000
 j3:j<(putS (growB s1 j (1+ownN n)) i a (farW pad j)).length
 a3:8*pad+8≤(sgS (putS (growB s1 j (1+ownN n)) i a (farW pad j)) j).length
 l3:(sgS (putS (growB s1 j (1+ownN n)) i a (farW pad j)) j).length≤100000
 s2:putS (putS (growB s1 j (1+ownN n)) i a (farW pad j)) j pad (ptrW n 0)=S2
 ok:SOk LS S2
 j4:j<S2.length
 a4:pad+1+ownN n≤wn (sgS S2 j)
 p5:pad≤1000
 j5:j≤10
 tot:totS S2≤totS ss+ownN n+1
theorem zep {size:Nat}{n:Nd}{ss s1:Segs}{i a j:Nat}(hk:SOk LS ss)(hi:i<ss.length)(ha:a<wn (sgS ss i))(hp:1≤ownN n)(hfit:¬wn (sgS ss i)+ownN n≤size)(hot:z2e size ss (1+ownN n)=some (s1,j))(htt:totS ss+2*ownN n≤LS):∃pad S2,FarF size n ss s1 i a j pad S2:=by
 obtain ⟨h1,h2,h3⟩:=z4a hk hot
 have h0:totS s1=totS ss:=by
  unfold z2e at hot
  split at hot
  · injection hot with ho; injection ho with e; rw[e]
  · split at hot
    · injection hot with ho; injection ho with e; rw[← e,z6p]; rfl
    · cases hot
 have hR:roomP LS size n ss i a=some (putS (putS (growB s1 j (1+ownN n)) i a (farW (wn (sgS s1 j)) j)) j (wn (sgS s1 j)) (ptrW n 0),j,wn (sgS s1 j)+1):=by
  unfold roomP;rw[if_neg hfit,hot]
  dsimp only
  rw[if_pos (by omega)]
 obtain ⟨k1,k2,k3,k4⟩:=z3l hk hi ha hR;have hg:=h1.grow h3 (k:=1+ownN n) (by omega)
 have hi':i<(growB s1 j (1+ownN n)).length:=by rw[z0b]; exact Nat.lt_of_lt_of_le hi h2.1
 have hai:a<wn (sgS (growB s1 j (1+ownN n)) i):=Nat.lt_of_lt_of_le ha ((h2.trans (z2p h3)).wn i);have hr:=room8 (k:=1) hg.wds (i:=i) (a:=a) (by omega)
 have hp1:8*a+(farW (wn (sgS s1 j)) j).length≤(sgS (growB s1 j (1+ownN n)) i).length:=by rw[z1e]; omega
 have hj2:j<(putS (growB s1 j (1+ownN n)) i a (farW (wn (sgS s1 j)) j)).length:=by rw[z0a,z0b]; exact h3
 have hg2:=hg.put hi' hp1
 have hwj:wn (sgS (putS (growB s1 j (1+ownN n)) i a (farW (wn (sgS s1 j)) j)) j)=wn (sgS s1 j)+(1+ownN n):=by rw[← (z0s hi' hp1).wn,z2q h3]
 have hr2:=room8 (k:=1) hg2.wds (i:=j) (a:=wn (sgS s1 j)) (by omega);have hpd:=z09 s1 j;have hts:=h1.totS;unfold LS at hts;exact ⟨wn (sgS s1 j),_,rfl,hR,h3,zbj h1 j,hi',by omega,zbj hg i,hj2,by omega,zbj hg2 j,rfl,k1,k3,k4,by omega,by have:=h1.six; omega,zcq hk hi ha hR⟩
theorem Sb.open2 {w:World}{base b size:Nat}{ss:Segs}{bad:Bool}{P:Nat→Prop}(h:Sb w base b size ss bad P)(h1:1≤ss.length):∃r cap,w.heap[b]? =some (.cells #[.slice (some ⟨r,0,none⟩) ss.length cap,.int .i64 size,.bool bad] wrT (0,0))∧w.ownsRow base stT 1 (.slice (some ⟨r,0,none⟩) ss.length cap) ss.length (ss.map strS)∧base≤b∧P b∧P r ∧
 (∀i,i<ss.length→w.cell? ⟨r,i,none⟩=some (strS (sgS ss i))∧w.frozen? ⟨r,i,none⟩=false):=by
 obtain ⟨v,hb,ho,hl,hP,hv⟩:=h;obtain ⟨r,cap,cur,rfl,e2,e3,e4,e5,e6,e7⟩:=z2s ho h1;refine ⟨r,cap,hb,ho,hl,hP,hv r rfl,fun i hi=>⟨?_,z02 e3 i⟩⟩;have:=ho.cells (g:=r) rfl i (strS (sgS ss i)) (by rw[List.getElem?_map,List.getElem?_eq_getElem hi,z9i hi]; rfl)
 rwa [z1r] at this
theorem zaw {w:World}{B T sz n:Nat}{v:Value}{xs:List Value}(h:w.ownsRow B T sz v n xs):∃A c,v= .slice A n c:=by
 rcases h.2 with ⟨e1,e2⟩ | ⟨g,cap,cur,e1,_⟩
 · subst e2; exact ⟨none,0,e1⟩
 · exact ⟨_,_,e1⟩
theorem zb1 (size d:Nat)(base b:Nat)(ss:Segs)(P:Nat→Prop)(w:World)(i a m:Nat)(n:Nd)(h1:Hd)(h:Sb w base b size ss false P)(hP0:∀k,P k→base≤k∧k<w.heap.size)(hk:SOk LS ss)(hi:i<ss.length)(ha:a<wn (sgS ss i))
 (hn:NdAt w (fun k=>k<base) m n h1) (hok:okN d n=true) (hm:totN m n≤2000000) (hws:z03 d n≤300) (htt:totS ss+2*z03 d n≤LS) (hk0:n.kind=0) :
 Calls Tryz.prog 79 #[.pointer (some ⟨b,0,none⟩),.agg #[.int .i64 n.kind,.string n.data,.slice h1.A n.ptrs.length h1.a,.int .i64 n.size,.int .i64 n.count,.slice h1.B n.items.length h1.b],.int .i64 (i:Int),.int .i64 (a:Int)] w (SWrQ base b size P w (wrP LS size d n ss i a)):=by
 obtain ⟨qA,qa,qB,qb⟩:=h1
 dsimp only at hn ⊢
 have hf:=z1m hok;have hwi:=z09 ss i;have hto:=hk.totS;have hb0:Below w.heap.size w (w.alloc (.cells #[.int .i64 n.kind,.string n.data,.slice qA n.ptrs.length qa,.int .i64 n.size,.int .i64 n.count,.slice qB n.items.length qb] nodeT)):=(Below.refl _ w).alloc (Nat.le_refl _) _;have HB0:=hid hb0;have R0:=hid (heap_alloc_new w (.cells #[.int .i64 n.kind,.string n.data,.slice qA n.ptrs.length qa,.int .i64 n.size,.int .i64 n.count,.slice qB n.items.length qb] nodeT))
 have hs0:((w.alloc (.cells #[.int .i64 n.kind,.string n.data,.slice qA n.ptrs.length qa,.int .i64 n.size,.int .i64 n.count,.slice qB n.items.length qb] nodeT))).heap.size=w.heap.size+1:=by simp
 have hbb:base≤w.heap.size:=by have:=h.base; omega
 have HN:=hid hn;have HH:=hid h;have HP0:=hid hP0;have HK:=hid hk;have HOW:=hid (z99 m n ⟨qA,qa,qB,qb⟩ (w.alloc (.cells #[.int .i64 n.kind,.string n.data,.slice qA n.ptrs.length qa,.int .i64 n.size,.int .i64 n.count,.slice qB n.items.length qb] nodeT)) _ (hn.below hb0) hf hm)
 dsimp only at HOW
 have HE:Hid (wrP LS size d n ss i a=some ss):=hid (by cases d with
  | zero=>rfl
  | succ d=>simp only[wrP]; rw[if_pos hk0])
 rw[HE.out]
 have hkb:(n.kind==0)=true:=by rw[hk0]; rfl
 clear h hn hP0 hk hok hf hb0 hs0 hws htt hk0 HE;go_enter Tryz.func79,Tryz.ntmps79
 go_wp2_with fail
 refine HOW.out.mono ?_;rintro e w1 ⟨rfl,hb1⟩;have HB1:=hid (HB0.out.trans (hb1.mono HB0.out.size));have HR1:=hid ((hb1.block _ (z00 R0.out)).trans R0.out);obtain ⟨n0,n1,n2,n3,n4,n5⟩:=z01 HR1.out;clear hb1 HB0 R0 HOW;go_wp2
 go_end0
 exact ⟨rfl,KP.of_below HB1.out,.inr ⟨ss,rfl,(HH.out.low HB1.out).weak (fun _ h=> .inl h)⟩⟩
theorem zjo (size d:Nat)(base b:Nat)(ss:Segs)(P:Nat→Prop)(w:World)(i a m:Nat)(n:Nd)(h1:Hd)(h:Sb w base b size ss false P)(hP0:∀k,P k→base≤k∧k<w.heap.size)(hk:SOk LS ss)(hi:i<ss.length)(ha:a<wn (sgS ss i))
 (hn:NdAt w (fun k=>k<base) m n h1) (hok:okN (d+1) n=true) (hm:totN m n≤2000000) (hws:z03 (d+1) n≤300) (htt:totS ss+2*z03 (d+1) n≤LS) (hk0:n.kind≠0) (hp:ownN n=0) :
 Calls Tryz.prog 79 #[.pointer (some ⟨b,0,none⟩),.agg #[.int .i64 n.kind,.string n.data,.slice h1.A n.ptrs.length h1.a,.int .i64 n.size,.int .i64 n.count,.slice h1.B n.items.length h1.b],.int .i64 (i:Int),.int .i64 (a:Int)] w (SWrQ base b size P w (wrP LS size (d+1) n ss i a)):=by
 obtain ⟨qA,qa,qB,qb⟩:=h1
 dsimp only at hn ⊢
 have hf:=z1m hok;have hwi:=z09 ss i;have hto:=hk.totS;have hb0:Below w.heap.size w (w.alloc (.cells #[.int .i64 n.kind,.string n.data,.slice qA n.ptrs.length qa,.int .i64 n.size,.int .i64 n.count,.slice qB n.items.length qb] nodeT)):=(Below.refl _ w).alloc (Nat.le_refl _) _;have HB0:=hid hb0;have R0:=hid (heap_alloc_new w (.cells #[.int .i64 n.kind,.string n.data,.slice qA n.ptrs.length qa,.int .i64 n.size,.int .i64 n.count,.slice qB n.items.length qb] nodeT))
 have hs0:((w.alloc (.cells #[.int .i64 n.kind,.string n.data,.slice qA n.ptrs.length qa,.int .i64 n.size,.int .i64 n.count,.slice qB n.items.length qb] nodeT))).heap.size=w.heap.size+1:=by simp
 have hbb:base≤w.heap.size:=by have:=h.base; omega
 have HN:=hid hn;have HH:=hid h;have HP0:=hid hP0;have HK:=hid hk;have HOW:=hid (z99 m n ⟨qA,qa,qB,qb⟩ (w.alloc (.cells #[.int .i64 n.kind,.string n.data,.slice qA n.ptrs.length qa,.int .i64 n.size,.int .i64 n.count,.slice qB n.items.length qb] nodeT)) _ (hn.below hb0) hf hm)
 dsimp only at HOW
 have hown:ownN n≤300:=by omega
 have HF:=hid hf;have HK0:=hid hk0;unfold LS at hto;have HE:Hid (wrP LS size (d+1) n ss i a=some (putS ss i a (ptrW n (if n.kind=1 then -1 else 0)))):=hid (by simp only[wrP]; rw[if_neg hk0,if_pos hp]);rw[HE.out]
 have hkb:(n.kind==0)=false:=by simpa using hk0
 have hl8:=z10 hk.wds i
 have hlw:(sgS ss i).length≤100000:=by omega
 obtain ⟨B,hB⟩:∃B:Bool,(n.kind==1)=B:=⟨_,rfl⟩
 have HOFF:Hid ((if n.kind=1 then (-1:Int) else 0)=if B=true then -1 else 0):=hid (by
  rw[← hB]
  by_cases h:n.kind=1
  · simp[h]
  · simp[h])
 have HPT:=hid (fun (W:World) (off:Int) (hW:Below base w W)=>z8n m n ⟨qA,qa,qB,qb⟩ off W _ (z2o hn hW) hf hm hown hk0)
 dsimp only at HPT
 have HL2:=hid (fun (W:World) (off:Int) (h0: -100000≤off) (h1:off≤100000)=>zpy n off W hf hown hk0 h0 h1);have HPUT:=hid (fun (W:World) (off:Int) (hW:Below w.heap.size w W)=>z3d base b size ss P W (h.low hW) i a (ptrW n off) hi (by rw[z0f]; omega) hlw)
 have hoz:((ownN n:Nat):Int)=0:=by rw[hp]; rfl
 rw[HOFF.out];rw[hoz] at HOW;clear h hn hP0 hk hok hf hb0 hs0 hws htt hk0 HE hl8 hlw HOFF hp hoz hown;cases B
 all_goals
  go_enter Tryz.func79,Tryz.ntmps79
  go_wp2_with fail
  refine HOW.out.mono ?_;rintro e w1 ⟨rfl,hb1⟩;have HB1:=hid (HB0.out.trans (hb1.mono HB0.out.size));have HR1:=hid ((hb1.block _ (z00 R0.out)).trans R0.out);obtain ⟨n0,n1,n2,n3,n4,n5⟩:=z01 HR1.out;clear hb1 HB0 R0 HOW
  go_wp2_with fail
  with_reducible refine (HPT.out _ _ (HB1.out.mono hbb)).mono ?_
  rintro e w2 ⟨rfl,hb2⟩;have HB2:=hid (HB1.out.trans (hb2.mono HB1.out.size));clear hb2
  go_wp2_with fail
  with_reducible refine (HL2.out _ _ (by omega) (by omega)).mono ?_
  rintro e w3 ⟨rfl,hb3⟩;have HB3:=hid (HB2.out.trans (hb3.mono HB2.out.size));clear hb3
  go_wp2_with fail
  with_reducible refine (HPUT.out _ _ HB3.out).mono ?_
  rintro e w4 ⟨rfl,hk4,hB4⟩;have HQ:=hid (SWrQ.from HB3.out ⟨rfl,hk4,.inr ⟨_,rfl,hB4.weak (fun _ h=> .inl h)⟩⟩);clear hk4 hB4;go_wp2
  go_end0
  exact HQ.out
theorem zm9 (size d:Nat)(IH:SWrD size d)(base b:Nat)(ss:Segs)(P:Nat→Prop)(w:World)(i a m:Nat)(n:Nd)(h1:Hd)(h:Sb w base b size ss false P)(hP0:∀k,P k→base≤k∧k<w.heap.size)(hk:SOk LS ss)(hi:i<ss.length)(ha:a<wn (sgS ss i))
 (hn:NdAt w (fun k=>k<base) m n h1) (hok:okN (d+1) n=true) (hm:totN m n≤2000000) (hws:z03 (d+1) n≤300) (htt:totS ss+2*z03 (d+1) n≤LS) (hk0:n.kind≠0) (hp:1≤ownN n) (hz:size≤200) :
 Calls Tryz.prog 79 #[.pointer (some ⟨b,0,none⟩),.agg #[.int .i64 n.kind,.string n.data,.slice h1.A n.ptrs.length h1.a,.int .i64 n.size,.int .i64 n.count,.slice h1.B n.items.length h1.b],.int .i64 (i:Int),.int .i64 (a:Int)] w (SWrQ base b size P w (wrP LS size (d+1) n ss i a)):=by
 obtain ⟨qA,qa,qB,qb⟩:=h1
 dsimp only at hn ⊢
 have hf:=z1m hok;have hwi:=z09 ss i;have hto:=hk.totS;have hb0:Below w.heap.size w (w.alloc (.cells #[.int .i64 n.kind,.string n.data,.slice qA n.ptrs.length qa,.int .i64 n.size,.int .i64 n.count,.slice qB n.items.length qb] nodeT)):=(Below.refl _ w).alloc (Nat.le_refl _) _;have HB0:=hid hb0;have R0:=hid (heap_alloc_new w (.cells #[.int .i64 n.kind,.string n.data,.slice qA n.ptrs.length qa,.int .i64 n.size,.int .i64 n.count,.slice qB n.items.length qb] nodeT))
 have hs0:((w.alloc (.cells #[.int .i64 n.kind,.string n.data,.slice qA n.ptrs.length qa,.int .i64 n.size,.int .i64 n.count,.slice qB n.items.length qb] nodeT))).heap.size=w.heap.size+1:=by simp
 have hbb:base≤w.heap.size:=by have:=h.base; omega
 have HN:=hid hn;have HH:=hid h;have HP0:=hid hP0;have HK:=hid hk;have HOW:=hid (z99 m n ⟨qA,qa,qB,qb⟩ (w.alloc (.cells #[.int .i64 n.kind,.string n.data,.slice qA n.ptrs.length qa,.int .i64 n.size,.int .i64 n.count,.slice qB n.items.length qb] nodeT)) _ (hn.below hb0) hf hm)
 dsimp only at HOW
 have hown:ownN n≤300:=Nat.le_trans z3z hws;have e3:z03 (d+1) n=ownN n+((ptrsL n).map (z03 d)).sum:=rfl
 have hwin:((ptrsL n).map (z03 d)).sum≤300:=by omega
 have HTT:Hid (totS ss+2*ownN n+2*((ptrsL n).map (z03 d)).sum≤LS):=hid (by omega);have HWI:=hid (z1n hok hk0);have HF:=hid hf;have HK0:=hid hk0;unfold LS at hto
 have hkb:(n.kind==0)=false:=by simpa using hk0
 have hob:(((ownN n:Nat):Int)==0)=false:=by simp; omega
 have hob2:(ownN n==0)=false:=by simp; omega
 have HPT:=hid (fun (W:World) (off:Int) (hW:Below base w W)=>z8n m n ⟨qA,qa,qB,qb⟩ off W _ (z2o hn hW) hf hm hown hk0)
 dsimp only at HPT
 have HL2:=hid (fun (W:World) (off:Int) (h0: -100000≤off) (h1:off≤100000)=>zpy n off W hf hown hk0 h0 h1);have HE:Hid (wrP LS size (d+1) n ss i a=(roomP LS size n ss i a).bind fun r=>fillP (wrP LS size d) n r.1 r.2.1 r.2.2):=hid (by simp only[wrP]; rw[if_neg hk0,if_neg (show ¬ownN n=0 by omega)]);have HBODY:=hid (fun (Q:Nat→Prop) (W:World) (s1:Segs) (j c:Nat) (hW:Below base w W) (hS:Sb W base b size s1 false Q) (hQ:∀k,Q k→base≤k∧k<W.heap.size) (k1:SOk LS s1) (k2:j<s1.length) (k3:c+ownN n≤wn (sgS s1 j)) (k4:totS s1+2*((ptrsL n).map (z03 d)).sum≤LS)=>zm6 size d IH base b s1 Q W j c m n ⟨qA,qa,qB,qb⟩ hS hQ k1 k2 k3 hown (z2o hn hW) hf (z1n hok hk0) hm hwin k4 hk0)
 dsimp only at HBODY
 have hl8:=z10 hk.wds i
 by_cases hfit:wn (sgS ss i)+ownN n≤size
 · have HR:Hid (roomP LS size n ss i a=some (putS (growB ss i (ownN n)) i a (ptrW n ((wn (sgS ss i):Int)-a-1)),i,wn (sgS ss i))):=hid (by unfold roomP; rw[if_pos hfit,if_pos (by have:=HTT.out; omega)])
   obtain ⟨ko1,ko2,ko3,ko4⟩:=z3l hk hi ha HR.out;have HKO1:=hid ko1;have HT2:Hid (totS (putS (growB ss i (ownN n)) i a (ptrW n ((wn (sgS ss i):Int)-a-1)))+2*((ptrsL n).map (z03 d)).sum≤LS):=hid (by have:=zcq hk hi ha HR.out; have:=HTT.out; omega);rw[HE.out,HR.out,Option.bind_some]
   dsimp only
   have hig:i<(growB ss i (ownN n)).length:=by rw[z0b]; exact hi
   have hwg:=z2q (k:=ownN n) hi;have hlg:=z10 (z5s (k:=ownN n) hi hk.wds) i;have HPUT:=hid (fun (W:World) (off:Int) (hW:Sb W base b size (growB ss i (ownN n)) false P)=>z3d base b size (growB ss i (ownN n)) P W hW i a (ptrW n off) hig (by rw[z0f]; omega) (by omega));have HROOM:=hid (fun (W:World) (hW:Below w.heap.size w W)=>z8r base b size ss P W (h.low hW) i (ownN n) hi (by omega) (by omega));have HOPEN:=hid (fun (W:World) (hW:Below w.heap.size w W)=>(h.low hW).open_ (by omega))
   have hss:(⟨(sgS ss i).toArray⟩:ByteArray).size=(sgS ss i).length:=by simp[ByteArray.size]
   generalize hwi2:wn (sgS ss i)=wi at *;have HWI2:=hid hwi2
   have hq8:((⟨(sgS ss i).toArray⟩:ByteArray).size:Int)/8=(wi:Int):=by rw[hss,hl8]; omega
   obtain ⟨S,hS⟩:∃S:ByteArray,S=⟨(sgS ss i).toArray⟩:=⟨_,rfl⟩
   rw[← hS] at hq8;have HSV:=hid hS;generalize how:ownN n=ow at *
   have hli:(i:Int)<(ss.length:Int):=by omega
   have hx1:IntKind.i64.wrap (wi:Int)=(wi:Int):=by rw[IntKind.wrap_i64]; omega
   have hx2:IntKind.i64.wrap ((wi:Int)+(ow:Int))=(wi:Int)+(ow:Int):=by rw[IntKind.wrap_i64]; omega
   have hxd:decide ((wi:Int)+(ow:Int)≤(size:Int))=true:=decide_eq_true (by omega)
   have hxn:(wi:Int)+(ow:Int)≤(size:Int):=by omega
   have hx3:IntKind.i64.wrap ((wi:Int)-(a:Int))=(wi:Int)-(a:Int):=by rw[IntKind.wrap_i64]; omega
   have hx4:IntKind.i64.wrap ((wi:Int)-(a:Int)-1)=(wi:Int)-(a:Int)-1:=by rw[IntKind.wrap_i64]; omega
   have hof1: -100000≤(wi:Int)-(a:Int)-1:=by omega
   have hof2:(wi:Int)-(a:Int)-1≤100000:=by omega
   clear h hn hP0 hk hok hf hb0 hs0 hws htt hk0 HE HR hl8 hfit hwg hlg hss hS ko1 hwi2 how hwi hto;go_enter Tryz.func79,Tryz.ntmps79
   go_wp2_with fail
   refine HOW.out.mono ?_;rintro e w1 ⟨rfl,hb1⟩;have HB1:=hid (HB0.out.trans (hb1.mono HB0.out.size));have HR1:=hid ((hb1.block _ (z00 R0.out)).trans R0.out);obtain ⟨n0,n1,n2,n3,n4,n5⟩:=z01 HR1.out;clear hb1 HB0 R0 HOW;obtain ⟨r,cap,hb,⟨hPr,hrl,hrb⟩,hc, -⟩:=HOPEN.out w1 HB1.out;obtain ⟨c0,c1,c2⟩:=z0k hb;obtain ⟨hci,hfi⟩:=hc i hi;unfold strS at hci;rw[← HSV.out] at hci;clear hb hPr hrl hrb hc
   go_wp2_with fail
   go_region
   have HBD:Hid (Below w.heap.size w w1.drew):=hid HB1.out.drew;clear c0 c1 c2 hci hfi n0 n1 n2 n3 n4 n5
   go_wp2_with fail
   refine (HROOM.out w1.drew HBD.out).mono ?_;rintro e w2 ⟨rfl,hk2,hB2⟩;rw[HWI2.out];have HKB:=hid ((KP.of_below HBD.out).trans hk2 (fun _ _ h=>h):KP P w w2);have HB2:=hid hB2;have HR2:=hid (hk2.rowS (w:=w1.drew) HR1.out (fun hp=>by have:=(HP0.out _ hp).2; omega));obtain ⟨n0,n1,n2,n3,n4,n5⟩:=z01 HR2.out;clear hk2 hB2
   go_wp2_with fail
   with_reducible refine (HPT.out w2 _ (HKB.out.below hbb (fun k hk=>(HP0.out k hk).1))).mono ?_
   rintro e w3 ⟨rfl,hb3⟩;have HB3:=hid hb3;clear hb3
   go_wp2_with fail
   with_reducible refine (HL2.out _ _ hof1 hof2).mono ?_
   rintro e w4 ⟨rfl,hb4⟩;have HB4:=hid (HB3.out.trans (hb4.mono HB3.out.size));clear hb4
   go_wp2_with fail
   with_reducible refine (HPUT.out _ _ (HB2.out.low HB4.out)).mono ?_
   rintro e w5 ⟨rfl,hk5,hB5⟩;have HK5:=hid ((HKB.out.trans (KP.of_below HB4.out) (fun _ _ h=>h)).trans hk5 (fun _ _ h=>h):KP P w w5);have HB5:=hid hB5;have HR5:=hid (hk5.rowS ((HB4.out.block _ (z00 HR2.out)).trans HR2.out) (fun hp=>by have:=(HP0.out _ hp).2; omega));clear hk5 hB5 n0 n1 n2 n3 n4 n5;obtain ⟨n0,n1,n2,n3,n4,n5⟩:=z01 HR5.out
   go_wp2_with fail
   refine (HBODY.out P w5 _ i wi (HK5.out.below hbb (fun k hk=>(HP0.out k hk).1)) HB5.out (fun k hk=>⟨(HP0.out k hk).1,Nat.lt_of_lt_of_le (HP0.out k hk).2 HK5.out.size⟩) HKO1.out ko3 ko4 HT2.out).mono ?_;rintro e w6 ⟨rfl,hk6,hor⟩
   have HQ:Hid (SWrQ base b size P w (fillP (wrP LS size d) n (putS (growB ss i ow) i a (ptrW n ((wi:Int)-a-1))) i wi) (.returned (.tuple #[])) w6):=hid ⟨rfl,HK5.out.trans hk6 (fun _ _ h=>h),by
    have hsz:=HK5.out.size
    have hq:∀k,P k∨w5.heap.size≤k→P k∨w.heap.size≤k:=fun k hk=>hk.imp id (fun h=>by omega)
    rcases hor with ⟨h3,s1,h4⟩ | ⟨s1,h3,h4⟩
    · exact .inl ⟨h3,s1,h4.weak hq⟩
    · exact .inr ⟨s1,h3,h4.weak hq⟩⟩
   clear hk6 hor;go_wp2
   go_end0
   exact HQ.out
 · by_cases hC:wn (sgS ss (ss.length-1))+(1+ownN n)≤size
   · have hot:z2e size ss (1+ownN n)=some (ss,ss.length-1):=by unfold z2e; rw[if_pos hC]
     obtain ⟨pad,S2,ff⟩:=zep hk hi ha hp hfit hot (by have:=HTT.out; omega);rw[HE.out,ff.room,Option.bind_some]
     dsimp only
     have FF:=hid ff;have HA4:=hid ff.a4;have HS2E:=hid ff.s2;have HT2:Hid (totS S2+2*((ptrsL n).map (z03 d)).sum≤LS):=hid (by have h1:=ff.tot; have h2:=HTT.out; omega);have HROOMX:=hid (fun (Q:Nat→Prop) (W:World) (hS:Sb W base b size ss false Q)=>z8r base b size ss Q W hS (ss.length-1) (1+ownN n) ff.j1 (by omega) ff.l1);have HFAR:Hid (∀W:World,Calls Tryz.prog 125 #[.agg #[.int .i64 3,.int .i64 (pad:Int),.int .i64 0,.int .i64 0,.int .i64 0,.int .i64 0,.int .i64 ((ss.length-1):Nat),.bool false]] W fun e w'=>e= .returned (.string ⟨(farW pad (ss.length-1)).toArray⟩)∧Below W.heap.size W w'):=hid (fun W=>z8y (pad:Int) ((ss.length-1):Nat) W (by omega) (by have:=ff.p5; omega));have HPUTX:=hid (fun (Q:Nat→Prop) (W:World) (hS:Sb W base b size (growB ss (ss.length-1) (1+ownN n)) false Q)=>z3d base b size (growB ss (ss.length-1) (1+ownN n)) Q W hS i a (farW pad (ss.length-1)) ff.i2 (by rw[z1e]; exact ff.a2) ff.l2);have HPUTY:=hid (fun (Q:Nat→Prop) (W:World) (hS:Sb W base b size (putS (growB ss (ss.length-1) (1+ownN n)) i a (farW pad (ss.length-1))) false Q)=>z3d base b size (putS (growB ss (ss.length-1) (1+ownN n)) i a (farW pad (ss.length-1))) Q W hS (ss.length-1) pad (ptrW n 0) ff.j3 (by rw[z0f]; exact ff.a3) ff.l3);have hpw:=ff.p5
     have hL0:ss.length-1<ss.length:=by have:=hk.one; omega
     have hl8L:=z10 hk.wds (ss.length-1);have hwiL:=z09 ss (ss.length-1);have HOPEN:=hid (fun (W:World) (hW:Below w.heap.size w W)=>(h.low hW).open2 (by omega))
     have hss:(⟨(sgS ss i).toArray⟩:ByteArray).size=(sgS ss i).length:=by simp[ByteArray.size]
     have hssL:(⟨(sgS ss (ss.length-1)).toArray⟩:ByteArray).size=(sgS ss (ss.length-1)).length:=by simp[ByteArray.size]
     have hsix:=hk.six;have hone:=hk.one;have HSIX:=hid hsix;generalize hwi2:wn (sgS ss i)=wi at *;have HLI:Hid (ss.length-1=i→wn (sgS ss (ss.length-1))=wi):=hid (fun e=>by rw[e]; exact hwi2);generalize hwl2:wn (sgS ss (ss.length-1))=wl at *
     have hq8:((⟨(sgS ss i).toArray⟩:ByteArray).size:Int)/8=(wi:Int):=by rw[hss,hl8]; omega
     have hq8L:((⟨(sgS ss (ss.length-1)).toArray⟩:ByteArray).size:Int)/8=(wl:Int):=by rw[hssL,hl8L]; omega
     obtain ⟨S,hS⟩:∃S:ByteArray,S=⟨(sgS ss i).toArray⟩:=⟨_,rfl⟩
     obtain ⟨SL,hSL⟩:∃SL:ByteArray,SL=⟨(sgS ss (ss.length-1)).toArray⟩:=⟨_,rfl⟩
     rw[← hS] at hq8;rw[← hSL] at hq8L;have HSV:=hid hS;have HSLV:=hid hSL;generalize how:ownN n=ow at *
     obtain ⟨L,hL⟩:∃L,ss.length-1=L:=⟨_,rfl⟩
     have HLE:=hid hL;rw[hL] at HSLV HLI hL0 FF HROOMX HFAR HPUTX HPUTY HA4 HS2E ⊢
     have hli:(i:Int)<(ss.length:Int):=by omega
     have hlL:(L:Int)<(ss.length:Int):=by omega
     have hLc:(ss.length:Int)-1=(L:Int):=by omega
     have hLw:IntKind.i64.wrap ((ss.length:Int)-1)=(L:Int):=by rw[IntKind.wrap_i64]; omega
     have hLx:IntKind.i64.wrap (L:Int)=(L:Int):=by rw[IntKind.wrap_i64]; omega
     have hLy:IntKind.i64.wrap ((L:Int)+1)=(L:Int)+1:=by rw[IntKind.wrap_i64]; omega
     have hx1:IntKind.i64.wrap (wi:Int)=(wi:Int):=by rw[IntKind.wrap_i64]; omega
     have hx2:IntKind.i64.wrap ((wi:Int)+(ow:Int))=(wi:Int)+(ow:Int):=by rw[IntKind.wrap_i64]; omega
     have hxd:decide ((wi:Int)+(ow:Int)≤(size:Int))=false:=decide_eq_false (by omega)
     have hxn:¬((wi:Int)+(ow:Int)≤(size:Int)):=by omega
     have hy1:IntKind.i64.wrap (wl:Int)=(wl:Int):=by rw[IntKind.wrap_i64]; omega
     have hy2:IntKind.i64.wrap ((wl:Int)+(ow:Int))=(wl:Int)+(ow:Int):=by rw[IntKind.wrap_i64]; omega
     have hy3:IntKind.i64.wrap ((wl:Int)+(ow:Int)+1)=(wl:Int)+(ow:Int)+1:=by rw[IntKind.wrap_i64]; omega
     have hy4:IntKind.i64.wrap ((ow:Int)+1)=(ow:Int)+1:=by rw[IntKind.wrap_i64]; omega
     have hyd:decide ((size:Int)<(wl:Int)+(ow:Int)+1)=false:=decide_eq_false (by omega)
     have hyn:¬((size:Int)<(wl:Int)+(ow:Int)+1):=by omega
     have hLi:L≠i:=fun e=>by have:=HLI.out e; omega
     have hls:((L:Int)==(i:Int))=false:=by simp; omega
     have hpw1:IntKind.i64.wrap ((pad:Int)+1)=(pad:Int)+1:=by rw[IntKind.wrap_i64]; omega
     clear h hn hP0 hk hok hf hb0 hs0 hws htt hk0 HE hl8 hl8L hfit hss hssL hS hSL hwi2 hwl2 how hwi hwiL hto hL hsix hone hot ff hLi hC;go_enter Tryz.func79,Tryz.ntmps79
     go_wp2_with fail
     refine HOW.out.mono ?_;rintro e w1 ⟨rfl,hb1⟩;have HB1:=hid (HB0.out.trans (hb1.mono HB0.out.size));have HR1:=hid ((hb1.block _ (z00 R0.out)).trans R0.out);obtain ⟨n0,n1,n2,n3,n4,n5⟩:=z01 HR1.out;clear hb1 HB0 R0 HOW;obtain ⟨r,cap,hb,ho,hlb,hPb,hPr,hc⟩:=HOPEN.out w1 HB1.out;have HBX:=hid hb;have HOX:=hid ho;have HPB:=hid (And.intro hlb (And.intro hPb hPr));obtain ⟨c0,c1,c2⟩:=z0k hb;obtain ⟨hci,hfi⟩:=hc i hi;obtain ⟨hcL,hfL⟩:=hc L hL0;have hgb:=z02 hb 2;unfold strS at hci hcL;rw[← HSV.out] at hci;rw[← HSLV.out] at hcL;clear hb ho hlb hPb hPr hc
     go_wp2_with fail
     go_region
     go_wp2_with fail
     go_region
     have HKX:Hid (KP P w w1.drew.drew):=hid (KP.of_below HB1.out.drew.drew);have HRX:Hid (w1.drew.drew.heap[w.heap.size]? =some (.cells #[.int .i64 n.kind,.string n.data,.slice qA n.ptrs.length qa,.int .i64 n.size,.int .i64 n.count,.slice qB n.items.length qb] nodeT (0,0))):=hid HR1.out
     obtain ⟨Q,HSX,HQ0,HQP,HQN⟩:∃Q:Nat→Prop,Hid (Sb w1.drew.drew base b size ss false Q)∧Hid (∀k,Q k→base≤k∧k<w1.drew.drew.heap.size)∧Hid (∀k,k<w.heap.size→Q k→P k)∧Hid (¬Q w.heap.size) :=
      ⟨P,hid (HH.out.low HB1.out).drew.drew,hid (fun k hk=>⟨(HP0.out k hk).1,Nat.lt_of_lt_of_le (HP0.out k hk).2 HB1.out.size⟩),hid (fun _ _ h=>h),hid (fun hp=>by have:=(HP0.out _ hp).2; omega)⟩
     have HROOM:=hid (HROOMX.out Q _ HSX.out);have HPUTA:=hid (HPUTX.out Q);have HPUTB:=hid (HPUTY.out Q);clear HROOMX HPUTX HPUTY n0 n1 n2 n3 n4 n5 c0 c1 c2 hci hcL hfi hfL hgb HBX HOX;rw[show ((1+ow:Nat):Int)=(ow:Int)+1 by omega] at HROOM
     go_wp2_with fail
     -- behind the second region:a segment is there
     with_reducible refine HROOM.out.mono ?_
     rintro e w2 ⟨rfl,hk2,hB2⟩;rw[FF.out.pd];have HKB:=hid (HKX.out.trans hk2 HQP.out:KP P w w2);have HB2:=hid hB2;have HR2:=hid (hk2.rowS HRX.out HQN.out);have HQ2:Hid (∀k,Q k→base≤k∧k<w2.heap.size):=hid (fun k hk=>⟨(HQ0.out k hk).1,Nat.lt_of_lt_of_le (HQ0.out k hk).2 hk2.size⟩);obtain ⟨n0,n1,n2,n3,n4,n5⟩:=z01 HR2.out;clear hk2 hB2
     go_wp2_with fail
     with_reducible refine (HFAR.out w2).mono ?_
     rintro e w3 ⟨rfl,hb3⟩;have HB3:=hid hb3;clear hb3
     go_wp2_with fail
     with_reducible refine (HPUTA.out _ (HB2.out.low HB3.out)).mono ?_
     rintro e w4 ⟨rfl,hk4,hB4⟩;have HK4:=hid ((HKB.out.trans (KP.of_below HB3.out) (fun _ _ h=>h)).trans hk4 (fun k hk hq=>HQP.out k hk hq):KP P w w4);have HB4:=hid hB4;have HR4:=hid (hk4.rowS ((HB3.out.block _ (z00 HR2.out)).trans HR2.out) HQN.out);have HQ4:Hid (∀k,Q k→base≤k∧k<w4.heap.size):=hid (fun k hk=>⟨(HQ0.out k hk).1,Nat.lt_of_lt_of_le (HQ2.out k hk).2 (Nat.le_trans HB3.out.size hk4.size)⟩);clear hk4 hB4 n0 n1 n2 n3 n4 n5;obtain ⟨n0,n1,n2,n3,n4,n5⟩:=z01 HR4.out
     go_wp2_with fail
     with_reducible refine (HPT.out w4 0 (HK4.out.below hbb (fun k hk=>(HP0.out k hk).1))).mono ?_
     rintro e w5 ⟨rfl,hb5⟩;have HB5:=hid hb5;clear hb5
     go_wp2_with fail
     with_reducible refine (HL2.out _ 0 (by omega) (by omega)).mono ?_
     rintro e w6 ⟨rfl,hb6⟩;have HB6:=hid (HB5.out.trans (hb6.mono HB5.out.size));clear hb6
     go_wp2_with fail
     with_reducible refine (HPUTB.out _ (HB4.out.low HB6.out)).mono ?_
     rintro e w7 ⟨rfl,hk7,hB7⟩;have HK7:=hid ((HK4.out.trans (KP.of_below HB6.out) (fun _ _ h=>h)).trans hk7 (fun k hk hq=>HQP.out k hk hq):KP P w w7);have HB7:=hid hB7;have HR7:=hid (hk7.rowS ((HB6.out.block _ (z00 HR4.out)).trans HR4.out) HQN.out);have HQ7:Hid (∀k,Q k→base≤k∧k<w7.heap.size):=hid (fun k hk=>⟨(HQ0.out k hk).1,Nat.lt_of_lt_of_le (HQ4.out k hk).2 (Nat.le_trans HB6.out.size hk7.size)⟩);clear hk7 hB7 n0 n1 n2 n3 n4 n5;obtain ⟨n0,n1,n2,n3,n4,n5⟩:=z01 HR7.out;rw[HS2E.out] at HB7
     go_wp2_with fail
     rw[show ((pad:Int)+1)=((pad+1:Nat):Int) by omega]
     with_reducible refine (HBODY.out Q w7 S2 L (pad+1) (HK7.out.below hbb (fun k hk=>(HP0.out k hk).1)) HB7.out HQ7.out FF.out.ok FF.out.j4 HA4.out HT2.out).mono ?_
     rintro e w8 ⟨rfl,hk8,hor⟩
     have HQ:Hid (SWrQ base b size P w (fillP (wrP LS size d) n S2 L (pad+1)) (.returned (.tuple #[])) w8):=hid ⟨rfl,HK7.out.trans hk8 (fun k hk hq=>HQP.out k hk hq),by
      have hsz:=HK7.out.size
      have hq:∀k,Q k∨w7.heap.size≤k→P k∨w.heap.size≤k:=fun k hk=>by
       by_cases hkl:k<w.heap.size
       · rcases hk with hk | hk
         · exact .inl (HQP.out k hkl hk)
         · omega
       · exact .inr (by omega)
      rcases hor with ⟨h3,s9,h4⟩ | ⟨s9,h3,h4⟩
      · exact .inl ⟨h3,s9,h4.weak hq⟩
      · exact .inr ⟨s9,h3,h4.weak hq⟩⟩
     clear hk8 hor;go_wp2
     go_end0
     exact HQ.out
   · by_cases h6:ss.length<6
     · have hot:z2e size ss (1+ownN n)=some (ss++ [[]],ss.length):=by unfold z2e; rw[if_neg hC,if_pos h6]
       obtain ⟨i0,hi0,hz0,hz1,hz2⟩:=info_parts zsz;obtain ⟨pad,S2,ff⟩:=zep hk hi ha hp hfit hot (by have:=HTT.out; omega);rw[HE.out,ff.room,Option.bind_some]
       dsimp only
       have FF:=hid ff;have HA4:=hid ff.a4;have HS2E:=hid ff.s2;have HT2:Hid (totS S2+2*((ptrsL n).map (z03 d)).sum≤LS):=hid (by have h1:=ff.tot; have h2:=HTT.out; omega);have HROOMX:=hid (fun (Q:Nat→Prop) (W:World) (hS:Sb W base b size (ss++ [[]]) false Q)=>z8r base b size (ss++ [[]]) Q W hS ss.length (1+ownN n) ff.j1 (by omega) ff.l1);have HFAR:Hid (∀W:World,Calls Tryz.prog 125 #[.agg #[.int .i64 3,.int .i64 (pad:Int),.int .i64 0,.int .i64 0,.int .i64 0,.int .i64 0,.int .i64 (ss.length:Nat),.bool false]] W fun e w'=>e= .returned (.string ⟨(farW pad ss.length).toArray⟩)∧Below W.heap.size W w'):=hid (fun W=>z8y (pad:Int) (ss.length:Nat) W (by omega) (by have:=ff.p5; omega));have HPUTX:=hid (fun (Q:Nat→Prop) (W:World) (hS:Sb W base b size (growB (ss++ [[]]) ss.length (1+ownN n)) false Q)=>z3d base b size (growB (ss++ [[]]) ss.length (1+ownN n)) Q W hS i a (farW pad ss.length) ff.i2 (by rw[z1e]; exact ff.a2) ff.l2);have HPUTY:=hid (fun (Q:Nat→Prop) (W:World) (hS:Sb W base b size (putS (growB (ss++ [[]]) ss.length (1+ownN n)) i a (farW pad ss.length)) false Q)=>z3d base b size (putS (growB (ss++ [[]]) ss.length (1+ownN n)) i a (farW pad ss.length)) Q W hS ss.length pad (ptrW n 0) ff.j3 (by rw[z0f]; exact ff.a3) ff.l3);have hpw:=ff.p5
       have hL0:ss.length-1<ss.length:=by have:=hk.one; omega
       have hl8L:=z10 hk.wds (ss.length-1);have hwiL:=z09 ss (ss.length-1);have HOPEN:=hid (fun (W:World) (hW:Below w.heap.size w W)=>(h.low hW).open2 (by omega))
       have hss:(⟨(sgS ss i).toArray⟩:ByteArray).size=(sgS ss i).length:=by simp[ByteArray.size]
       have hssL:(⟨(sgS ss (ss.length-1)).toArray⟩:ByteArray).size=(sgS ss (ss.length-1)).length:=by simp[ByteArray.size]
       have hsix:=hk.six;have hone:=hk.one;have HSIX:=hid hsix;generalize hwi2:wn (sgS ss i)=wi at *;have HLI:Hid (ss.length-1=i→wn (sgS ss (ss.length-1))=wi):=hid (fun e=>by rw[e]; exact hwi2);generalize hwl2:wn (sgS ss (ss.length-1))=wl at *
       have hq8:((⟨(sgS ss i).toArray⟩:ByteArray).size:Int)/8=(wi:Int):=by rw[hss,hl8]; omega
       have hq8L:((⟨(sgS ss (ss.length-1)).toArray⟩:ByteArray).size:Int)/8=(wl:Int):=by rw[hssL,hl8L]; omega
       obtain ⟨S,hS⟩:∃S:ByteArray,S=⟨(sgS ss i).toArray⟩:=⟨_,rfl⟩
       obtain ⟨SL,hSL⟩:∃SL:ByteArray,SL=⟨(sgS ss (ss.length-1)).toArray⟩:=⟨_,rfl⟩
       rw[← hS] at hq8;rw[← hSL] at hq8L;have HSV:=hid hS;have HSLV:=hid hSL;generalize how:ownN n=ow at *
       obtain ⟨L,hL⟩:∃L,ss.length-1=L:=⟨_,rfl⟩
       have HLE:=hid hL;rw[hL] at HSLV HLI hL0
       have hli:(i:Int)<(ss.length:Int):=by omega
       have hlL:(L:Int)<(ss.length:Int):=by omega
       have hLc:(ss.length:Int)-1=(L:Int):=by omega
       have hLw:IntKind.i64.wrap ((ss.length:Int)-1)=(L:Int):=by rw[IntKind.wrap_i64]; omega
       have hLx:IntKind.i64.wrap (L:Int)=(L:Int):=by rw[IntKind.wrap_i64]; omega
       have hLy:IntKind.i64.wrap ((L:Int)+1)=(ss.length:Int):=by rw[IntKind.wrap_i64]; omega
       have hx1:IntKind.i64.wrap (wi:Int)=(wi:Int):=by rw[IntKind.wrap_i64]; omega
       have hx2:IntKind.i64.wrap ((wi:Int)+(ow:Int))=(wi:Int)+(ow:Int):=by rw[IntKind.wrap_i64]; omega
       have hxd:decide ((wi:Int)+(ow:Int)≤(size:Int))=false:=decide_eq_false (by omega)
       have hxn:¬((wi:Int)+(ow:Int)≤(size:Int)):=by omega
       have hy1:IntKind.i64.wrap (wl:Int)=(wl:Int):=by rw[IntKind.wrap_i64]; omega
       have hy2:IntKind.i64.wrap ((wl:Int)+(ow:Int))=(wl:Int)+(ow:Int):=by rw[IntKind.wrap_i64]; omega
       have hy3:IntKind.i64.wrap ((wl:Int)+(ow:Int)+1)=(wl:Int)+(ow:Int)+1:=by rw[IntKind.wrap_i64]; omega
       have hy4:IntKind.i64.wrap ((ow:Int)+1)=(ow:Int)+1:=by rw[IntKind.wrap_i64]; omega
       have hyd:decide ((size:Int)<(wl:Int)+(ow:Int)+1)=true:=decide_eq_true (by omega)
       have hyn:(size:Int)<(wl:Int)+(ow:Int)+1:=by omega
       have h66:decide ((6:Int)≤(ss.length:Int))=false:=decide_eq_false (by omega)
       have h67:¬((6:Int)≤(ss.length:Int)):=by omega
       have H6:=hid h6
       have hpw1:IntKind.i64.wrap ((pad:Int)+1)=(pad:Int)+1:=by rw[IntKind.wrap_i64]; omega
       clear h hn hP0 hk hok hf hb0 hs0 hws htt hk0 HE hl8 hl8L hfit hss hssL hS hSL hwi2 hwl2 how hwi hwiL hto hL hsix hone hot ff hC h6
       by_cases hLi:L=i
       · have hls:((L:Int)==(i:Int))=true:=by rw[hLi]; simp
         clear hLi;go_enter Tryz.func79,Tryz.ntmps79
         go_wp2_with fail
         refine HOW.out.mono ?_;rintro e w1 ⟨rfl,hb1⟩;have HB1:=hid (HB0.out.trans (hb1.mono HB0.out.size));have HR1:=hid ((hb1.block _ (z00 R0.out)).trans R0.out);obtain ⟨n0,n1,n2,n3,n4,n5⟩:=z01 HR1.out;clear hb1 HB0 R0 HOW;obtain ⟨r,cap,hb,ho,hlb,hPb,hPr,hc⟩:=HOPEN.out w1 HB1.out;have HBX:=hid hb;have HOX:=hid ho;have HPB:=hid (And.intro hlb (And.intro hPb hPr));obtain ⟨c0,c1,c2⟩:=z0k hb;obtain ⟨hci,hfi⟩:=hc i hi;obtain ⟨hcL,hfL⟩:=hc L hL0;have hgb:=z02 hb 2;unfold strS at hci hcL;rw[← HSV.out] at hci;rw[← HSLV.out] at hcL;clear hb ho hlb hPb hPr hc
         go_wp2_with fail
         go_region
         go_wp2_with fail
         go_region
         have HOY:Hid (w1.drew.drew.ownsRow base stT 1 (.slice (some ⟨r,0,none⟩) ss.length cap) ss.length (ss.map strS)):=hid HOX.out;have hsd:w1.drew.drew.heap.size=w1.heap.size:=rfl;have hbw1:base≤w1.heap.size:=Nat.le_trans hbb HB1.out.size;clear n0 n1 n2 n3 n4 n5 hci hcL hfi hfL
         go_wp2_with (at_builtin; refine wpList_append_own_at _ rfl (.tmp 120) (.tmp 121) 28 rfl base stT i0 (.string ByteArray.empty) 1 16 Tryz.underlying28 hi0 hz0 hz1 hz2 rfl (by decide) _ ss.length _ rfl (HOY.out.alloc _) ⟨w1.heap.size,0,none⟩ 1 1 [strS []] ?c0 rfl ?c1 (by simp[Value.oneCell']) (by have:=H6.out; unfold maxLen; omega) (by have:=H6.out; omega) (by simp; omega) ?_)
         case c0=>rfl
         case c1=>exact cell_one_new _ _ _
         intro v' wn1 hown' hgrow _ hat
         obtain ⟨A',c',rfl⟩:=zaw hown';obtain ⟨k1,k2,k3⟩:=Sb.app (w:=w1.drew.drew) HBX.out HOY.out HPB.out.1 HPB.out.2.1 (fun k hk=>Option.some.inj hk ▸ HPB.out.2.2) hown' hgrow hat;have kf0:=z02 k3 0;obtain ⟨kc0,kc1,kc2⟩:=z0k k3;have HKX:=hid ((KP.of_below HB1.out.drew.drew).trans k1 (fun _ _ h=>h));have HRX:=hid (k1.rowS (w:=w1.drew.drew) HR1.out (fun hp=>by have:=(HP0.out _ hp).2; omega));have HS9:=hid k2;have hs1:=HB1.out.size;clear k1 k2 k3 hown' hgrow hat c0 c1 c2 hgb
         go_wp2_with fail
         generalize wn1.setCell ⟨b,0,none⟩ (.slice A' (ss.length+1) c')=wx at *;clear kf0 kc0 kc1 kc2
         obtain ⟨Q,HSX,HQ0,HQP,HQN⟩:∃Q:Nat→Prop,Hid (Sb wx base b size (ss++ [[]]) false Q)∧Hid (∀k,Q k→base≤k∧k<wx.heap.size)∧Hid (∀k,k<w.heap.size→Q k→P k)∧Hid (¬Q w.heap.size) :=
          ⟨_,hid HS9.out.tight,hid (fun k hk=>hk.2),hid (fun k hk hq=>by
           rcases hq.1 with h | h
           · exact h
           · rw[hsd] at h; omega),hid (fun hp=>by
           rcases hp.1 with h | h
           · have:=(HP0.out _ h).2; omega
           · rw[hsd] at h; omega)⟩
         have HROOM:=hid (HROOMX.out Q _ HSX.out);have HPUTA:=hid (HPUTX.out Q);have HPUTB:=hid (HPUTY.out Q);clear HROOMX HPUTX HPUTY HBX HOX HOY HS9 hsd hs1 hbw1;rw[show ((1+ow:Nat):Int)=(ow:Int)+1 by omega] at HROOM;generalize ss++ [[]]=s1 at *
         -- behind the second region:a segment is there
         with_reducible refine HROOM.out.mono ?_
         rintro e w2 ⟨rfl,hk2,hB2⟩;rw[FF.out.pd];have HKB:=hid (HKX.out.trans hk2 HQP.out:KP P w w2);have HB2:=hid hB2;have HR2:=hid (hk2.rowS HRX.out HQN.out);have HQ2:Hid (∀k,Q k→base≤k∧k<w2.heap.size):=hid (fun k hk=>⟨(HQ0.out k hk).1,Nat.lt_of_lt_of_le (HQ0.out k hk).2 hk2.size⟩);obtain ⟨n0,n1,n2,n3,n4,n5⟩:=z01 HR2.out;clear hk2 hB2
         go_wp2_with fail
         with_reducible refine (HFAR.out w2).mono ?_
         rintro e w3 ⟨rfl,hb3⟩;have HB3:=hid hb3;clear hb3
         go_wp2_with fail
         with_reducible refine (HPUTA.out _ (HB2.out.low HB3.out)).mono ?_
         rintro e w4 ⟨rfl,hk4,hB4⟩;have HK4:=hid ((HKB.out.trans (KP.of_below HB3.out) (fun _ _ h=>h)).trans hk4 (fun k hk hq=>HQP.out k hk hq):KP P w w4);have HB4:=hid hB4;have HR4:=hid (hk4.rowS ((HB3.out.block _ (z00 HR2.out)).trans HR2.out) HQN.out);have HQ4:Hid (∀k,Q k→base≤k∧k<w4.heap.size):=hid (fun k hk=>⟨(HQ0.out k hk).1,Nat.lt_of_lt_of_le (HQ2.out k hk).2 (Nat.le_trans HB3.out.size hk4.size)⟩);clear hk4 hB4 n0 n1 n2 n3 n4 n5;obtain ⟨n0,n1,n2,n3,n4,n5⟩:=z01 HR4.out
         go_wp2_with fail
         with_reducible refine (HPT.out w4 0 (HK4.out.below hbb (fun k hk=>(HP0.out k hk).1))).mono ?_
         rintro e w5 ⟨rfl,hb5⟩;have HB5:=hid hb5;clear hb5
         go_wp2_with fail
         with_reducible refine (HL2.out _ 0 (by omega) (by omega)).mono ?_
         rintro e w6 ⟨rfl,hb6⟩;have HB6:=hid (HB5.out.trans (hb6.mono HB5.out.size));clear hb6
         go_wp2_with fail
         with_reducible refine (HPUTB.out _ (HB4.out.low HB6.out)).mono ?_
         rintro e w7 ⟨rfl,hk7,hB7⟩;have HK7:=hid ((HK4.out.trans (KP.of_below HB6.out) (fun _ _ h=>h)).trans hk7 (fun k hk hq=>HQP.out k hk hq):KP P w w7);have HB7:=hid hB7;have HR7:=hid (hk7.rowS ((HB6.out.block _ (z00 HR4.out)).trans HR4.out) HQN.out);have HQ7:Hid (∀k,Q k→base≤k∧k<w7.heap.size):=hid (fun k hk=>⟨(HQ0.out k hk).1,Nat.lt_of_lt_of_le (HQ4.out k hk).2 (Nat.le_trans HB6.out.size hk7.size)⟩);clear hk7 hB7 n0 n1 n2 n3 n4 n5;obtain ⟨n0,n1,n2,n3,n4,n5⟩:=z01 HR7.out;rw[HS2E.out] at HB7
         go_wp2_with fail
         rw[show ((pad:Int)+1)=((pad+1:Nat):Int) by omega]
         with_reducible refine (HBODY.out Q w7 S2 ss.length (pad+1) (HK7.out.below hbb (fun k hk=>(HP0.out k hk).1)) HB7.out HQ7.out FF.out.ok FF.out.j4 HA4.out HT2.out).mono ?_
         rintro e w8 ⟨rfl,hk8,hor⟩
         have HQ:Hid (SWrQ base b size P w (fillP (wrP LS size d) n S2 ss.length (pad+1)) (.returned (.tuple #[])) w8):=hid ⟨rfl,HK7.out.trans hk8 (fun k hk hq=>HQP.out k hk hq),by
          have hsz:=HK7.out.size
          have hq:∀k,Q k∨w7.heap.size≤k→P k∨w.heap.size≤k:=fun k hk=>by
           by_cases hkl:k<w.heap.size
           · rcases hk with hk | hk
             · exact .inl (HQP.out k hkl hk)
             · omega
           · exact .inr (by omega)
          rcases hor with ⟨h3,s9,h4⟩ | ⟨s9,h3,h4⟩
          · exact .inl ⟨h3,s9,h4.weak hq⟩
          · exact .inr ⟨s9,h3,h4.weak hq⟩⟩
         clear hk8 hor;go_wp2
         go_end0
         exact HQ.out
       · have hls:((L:Int)==(i:Int))=false:=by simp; omega
         clear hLi;go_enter Tryz.func79,Tryz.ntmps79
         go_wp2_with fail
         refine HOW.out.mono ?_;rintro e w1 ⟨rfl,hb1⟩;have HB1:=hid (HB0.out.trans (hb1.mono HB0.out.size));have HR1:=hid ((hb1.block _ (z00 R0.out)).trans R0.out);obtain ⟨n0,n1,n2,n3,n4,n5⟩:=z01 HR1.out;clear hb1 HB0 R0 HOW;obtain ⟨r,cap,hb,ho,hlb,hPb,hPr,hc⟩:=HOPEN.out w1 HB1.out;have HBX:=hid hb;have HOX:=hid ho;have HPB:=hid (And.intro hlb (And.intro hPb hPr));obtain ⟨c0,c1,c2⟩:=z0k hb;obtain ⟨hci,hfi⟩:=hc i hi;obtain ⟨hcL,hfL⟩:=hc L hL0;have hgb:=z02 hb 2;unfold strS at hci hcL;rw[← HSV.out] at hci;rw[← HSLV.out] at hcL;clear hb ho hlb hPb hPr hc
         go_wp2_with fail
         go_region
         go_wp2_with fail
         go_region
         have HOY:Hid (w1.drew.drew.ownsRow base stT 1 (.slice (some ⟨r,0,none⟩) ss.length cap) ss.length (ss.map strS)):=hid HOX.out;have hsd:w1.drew.drew.heap.size=w1.heap.size:=rfl;have hbw1:base≤w1.heap.size:=Nat.le_trans hbb HB1.out.size;clear n0 n1 n2 n3 n4 n5 hci hcL hfi hfL
         go_wp2_with (at_builtin; refine wpList_append_own_at _ rfl (.tmp 120) (.tmp 121) 28 rfl base stT i0 (.string ByteArray.empty) 1 16 Tryz.underlying28 hi0 hz0 hz1 hz2 rfl (by decide) _ ss.length _ rfl (HOY.out.alloc _) ⟨w1.heap.size,0,none⟩ 1 1 [strS []] ?c0 rfl ?c1 (by simp[Value.oneCell']) (by have:=H6.out; unfold maxLen; omega) (by have:=H6.out; omega) (by simp; omega) ?_)
         case c0=>rfl
         case c1=>exact cell_one_new _ _ _
         intro v' wn1 hown' hgrow _ hat
         obtain ⟨A',c',rfl⟩:=zaw hown';obtain ⟨k1,k2,k3⟩:=Sb.app (w:=w1.drew.drew) HBX.out HOY.out HPB.out.1 HPB.out.2.1 (fun k hk=>Option.some.inj hk ▸ HPB.out.2.2) hown' hgrow hat;have kf0:=z02 k3 0;obtain ⟨kc0,kc1,kc2⟩:=z0k k3;have HKX:=hid ((KP.of_below HB1.out.drew.drew).trans k1 (fun _ _ h=>h));have HRX:=hid (k1.rowS (w:=w1.drew.drew) HR1.out (fun hp=>by have:=(HP0.out _ hp).2; omega));have HS9:=hid k2;have hs1:=HB1.out.size;clear k1 k2 k3 hown' hgrow hat c0 c1 c2 hgb
         go_wp2_with fail
         generalize wn1.setCell ⟨b,0,none⟩ (.slice A' (ss.length+1) c')=wx at *;clear kf0 kc0 kc1 kc2
         obtain ⟨Q,HSX,HQ0,HQP,HQN⟩:∃Q:Nat→Prop,Hid (Sb wx base b size (ss++ [[]]) false Q)∧Hid (∀k,Q k→base≤k∧k<wx.heap.size)∧Hid (∀k,k<w.heap.size→Q k→P k)∧Hid (¬Q w.heap.size) :=
          ⟨_,hid HS9.out.tight,hid (fun k hk=>hk.2),hid (fun k hk hq=>by
           rcases hq.1 with h | h
           · exact h
           · rw[hsd] at h; omega),hid (fun hp=>by
           rcases hp.1 with h | h
           · have:=(HP0.out _ h).2; omega
           · rw[hsd] at h; omega)⟩
         have HROOM:=hid (HROOMX.out Q _ HSX.out);have HPUTA:=hid (HPUTX.out Q);have HPUTB:=hid (HPUTY.out Q);clear HROOMX HPUTX HPUTY HBX HOX HOY HS9 hsd hs1 hbw1;rw[show ((1+ow:Nat):Int)=(ow:Int)+1 by omega] at HROOM;generalize ss++ [[]]=s1 at *
         -- behind the second region:a segment is there
         with_reducible refine HROOM.out.mono ?_
         rintro e w2 ⟨rfl,hk2,hB2⟩;rw[FF.out.pd];have HKB:=hid (HKX.out.trans hk2 HQP.out:KP P w w2);have HB2:=hid hB2;have HR2:=hid (hk2.rowS HRX.out HQN.out);have HQ2:Hid (∀k,Q k→base≤k∧k<w2.heap.size):=hid (fun k hk=>⟨(HQ0.out k hk).1,Nat.lt_of_lt_of_le (HQ0.out k hk).2 hk2.size⟩);obtain ⟨n0,n1,n2,n3,n4,n5⟩:=z01 HR2.out;clear hk2 hB2
         go_wp2_with fail
         with_reducible refine (HFAR.out w2).mono ?_
         rintro e w3 ⟨rfl,hb3⟩;have HB3:=hid hb3;clear hb3
         go_wp2_with fail
         with_reducible refine (HPUTA.out _ (HB2.out.low HB3.out)).mono ?_
         rintro e w4 ⟨rfl,hk4,hB4⟩;have HK4:=hid ((HKB.out.trans (KP.of_below HB3.out) (fun _ _ h=>h)).trans hk4 (fun k hk hq=>HQP.out k hk hq):KP P w w4);have HB4:=hid hB4;have HR4:=hid (hk4.rowS ((HB3.out.block _ (z00 HR2.out)).trans HR2.out) HQN.out);have HQ4:Hid (∀k,Q k→base≤k∧k<w4.heap.size):=hid (fun k hk=>⟨(HQ0.out k hk).1,Nat.lt_of_lt_of_le (HQ2.out k hk).2 (Nat.le_trans HB3.out.size hk4.size)⟩);clear hk4 hB4 n0 n1 n2 n3 n4 n5;obtain ⟨n0,n1,n2,n3,n4,n5⟩:=z01 HR4.out
         go_wp2_with fail
         with_reducible refine (HPT.out w4 0 (HK4.out.below hbb (fun k hk=>(HP0.out k hk).1))).mono ?_
         rintro e w5 ⟨rfl,hb5⟩;have HB5:=hid hb5;clear hb5
         go_wp2_with fail
         with_reducible refine (HL2.out _ 0 (by omega) (by omega)).mono ?_
         rintro e w6 ⟨rfl,hb6⟩;have HB6:=hid (HB5.out.trans (hb6.mono HB5.out.size));clear hb6
         go_wp2_with fail
         with_reducible refine (HPUTB.out _ (HB4.out.low HB6.out)).mono ?_
         rintro e w7 ⟨rfl,hk7,hB7⟩;have HK7:=hid ((HK4.out.trans (KP.of_below HB6.out) (fun _ _ h=>h)).trans hk7 (fun k hk hq=>HQP.out k hk hq):KP P w w7);have HB7:=hid hB7;have HR7:=hid (hk7.rowS ((HB6.out.block _ (z00 HR4.out)).trans HR4.out) HQN.out);have HQ7:Hid (∀k,Q k→base≤k∧k<w7.heap.size):=hid (fun k hk=>⟨(HQ0.out k hk).1,Nat.lt_of_lt_of_le (HQ4.out k hk).2 (Nat.le_trans HB6.out.size hk7.size)⟩);clear hk7 hB7 n0 n1 n2 n3 n4 n5;obtain ⟨n0,n1,n2,n3,n4,n5⟩:=z01 HR7.out;rw[HS2E.out] at HB7
         go_wp2_with fail
         rw[show ((pad:Int)+1)=((pad+1:Nat):Int) by omega]
         with_reducible refine (HBODY.out Q w7 S2 ss.length (pad+1) (HK7.out.below hbb (fun k hk=>(HP0.out k hk).1)) HB7.out HQ7.out FF.out.ok FF.out.j4 HA4.out HT2.out).mono ?_
         rintro e w8 ⟨rfl,hk8,hor⟩
         have HQ:Hid (SWrQ base b size P w (fillP (wrP LS size d) n S2 ss.length (pad+1)) (.returned (.tuple #[])) w8):=hid ⟨rfl,HK7.out.trans hk8 (fun k hk hq=>HQP.out k hk hq),by
          have hsz:=HK7.out.size
          have hq:∀k,Q k∨w7.heap.size≤k→P k∨w.heap.size≤k:=fun k hk=>by
           by_cases hkl:k<w.heap.size
           · rcases hk with hk | hk
             · exact .inl (HQP.out k hkl hk)
             · omega
           · exact .inr (by omega)
          rcases hor with ⟨h3,s9,h4⟩ | ⟨s9,h3,h4⟩
          · exact .inl ⟨h3,s9,h4.weak hq⟩
          · exact .inr ⟨s9,h3,h4.weak hq⟩⟩
         clear hk8 hor;go_wp2
         go_end0
         exact HQ.out
     · have HN0:Hid (wrP LS size (d+1) n ss i a=none):=hid (by
        rw[HE.out];unfold roomP;rw[if_neg hfit];unfold z2e;rw[if_neg hC,if_neg h6]
        rfl)
       rw[HN0.out]
       have hL0:ss.length-1<ss.length:=by have:=hk.one; omega
       have hl8L:=z10 hk.wds (ss.length-1);have hwiL:=z09 ss (ss.length-1);have HOPEN:=hid (fun (W:World) (hW:Below w.heap.size w W)=>(h.low hW).open2 (by omega))
       have hss:(⟨(sgS ss i).toArray⟩:ByteArray).size=(sgS ss i).length:=by simp[ByteArray.size]
       have hssL:(⟨(sgS ss (ss.length-1)).toArray⟩:ByteArray).size=(sgS ss (ss.length-1)).length:=by simp[ByteArray.size]
       have hsix:=hk.six;have hone:=hk.one;have HSIX:=hid hsix;generalize hwi2:wn (sgS ss i)=wi at *;have HLI:Hid (ss.length-1=i→wn (sgS ss (ss.length-1))=wi):=hid (fun e=>by rw[e]; exact hwi2);generalize hwl2:wn (sgS ss (ss.length-1))=wl at *
       have hq8:((⟨(sgS ss i).toArray⟩:ByteArray).size:Int)/8=(wi:Int):=by rw[hss,hl8]; omega
       have hq8L:((⟨(sgS ss (ss.length-1)).toArray⟩:ByteArray).size:Int)/8=(wl:Int):=by rw[hssL,hl8L]; omega
       obtain ⟨S,hS⟩:∃S:ByteArray,S=⟨(sgS ss i).toArray⟩:=⟨_,rfl⟩
       obtain ⟨SL,hSL⟩:∃SL:ByteArray,SL=⟨(sgS ss (ss.length-1)).toArray⟩:=⟨_,rfl⟩
       rw[← hS] at hq8;rw[← hSL] at hq8L;have HSV:=hid hS;have HSLV:=hid hSL;generalize how:ownN n=ow at *
       obtain ⟨L,hL⟩:∃L,ss.length-1=L:=⟨_,rfl⟩
       have HLE:=hid hL;rw[hL] at HSLV HLI hL0
       have hli:(i:Int)<(ss.length:Int):=by omega
       have hlL:(L:Int)<(ss.length:Int):=by omega
       have hLc:(ss.length:Int)-1=(L:Int):=by omega
       have hLw:IntKind.i64.wrap ((ss.length:Int)-1)=(L:Int):=by rw[IntKind.wrap_i64]; omega
       have hLx:IntKind.i64.wrap (L:Int)=(L:Int):=by rw[IntKind.wrap_i64]; omega
       have hLy:IntKind.i64.wrap ((L:Int)+1)=(L:Int)+1:=by rw[IntKind.wrap_i64]; omega
       have hx1:IntKind.i64.wrap (wi:Int)=(wi:Int):=by rw[IntKind.wrap_i64]; omega
       have hx2:IntKind.i64.wrap ((wi:Int)+(ow:Int))=(wi:Int)+(ow:Int):=by rw[IntKind.wrap_i64]; omega
       have hxd:decide ((wi:Int)+(ow:Int)≤(size:Int))=false:=decide_eq_false (by omega)
       have hxn:¬((wi:Int)+(ow:Int)≤(size:Int)):=by omega
       have hy1:IntKind.i64.wrap (wl:Int)=(wl:Int):=by rw[IntKind.wrap_i64]; omega
       have hy2:IntKind.i64.wrap ((wl:Int)+(ow:Int))=(wl:Int)+(ow:Int):=by rw[IntKind.wrap_i64]; omega
       have hy3:IntKind.i64.wrap ((wl:Int)+(ow:Int)+1)=(wl:Int)+(ow:Int)+1:=by rw[IntKind.wrap_i64]; omega
       have hy4:IntKind.i64.wrap ((ow:Int)+1)=(ow:Int)+1:=by rw[IntKind.wrap_i64]; omega
       have h66:decide ((6:Int)≤(ss.length:Int))=true:=decide_eq_true (by omega)
       have h67:(6:Int)≤(ss.length:Int):=by omega
       have hyd:decide ((size:Int)<(wl:Int)+(ow:Int)+1)=true:=decide_eq_true (by omega)
       have hyn:(size:Int)<(wl:Int)+(ow:Int)+1:=by omega
       clear h hn hP0 hk hok hf hb0 hs0 hws htt hk0 HE hl8 hl8L hfit hss hssL hS hSL hwi2 hwl2 how hwi hwiL hto hL hsix hone hC h6
       by_cases hLi:L=i
       · have hls:((L:Int)==(i:Int))=true:=by rw[hLi]; simp
         clear hLi;go_enter Tryz.func79,Tryz.ntmps79
         go_wp2_with fail
         refine HOW.out.mono ?_;rintro e w1 ⟨rfl,hb1⟩;have HB1:=hid (HB0.out.trans (hb1.mono HB0.out.size));have HR1:=hid ((hb1.block _ (z00 R0.out)).trans R0.out);obtain ⟨n0,n1,n2,n3,n4,n5⟩:=z01 HR1.out;clear hb1 HB0 R0 HOW;obtain ⟨r,cap,hb,ho,hlb,hPb,hPr,hc⟩:=HOPEN.out w1 HB1.out;have HBX:=hid hb;have HOX:=hid ho;have HPB:=hid (And.intro hlb (And.intro hPb hPr));obtain ⟨c0,c1,c2⟩:=z0k hb;obtain ⟨hci,hfi⟩:=hc i hi;obtain ⟨hcL,hfL⟩:=hc L hL0;have hgb:=z02 hb 2;unfold strS at hci hcL;rw[← HSV.out] at hci;rw[← HSLV.out] at hcL;clear hb ho hlb hPb hPr hc
         go_wp2_with fail
         go_region
         go_wp2_with fail
         go_region
         have HQ:Hid (SWrQ base b size P w none (.returned (.tuple #[])) (w1.drew.drew.setCell ⟨b,2,none⟩ (.bool true))):=hid ⟨rfl,(KP.of_below HB1.out.drew.drew).trans (KP.set HPB.out.2.1 _ 2 _) (fun _ _ h=>h),.inl ⟨rfl,ss,((HH.out.low HB1.out).drew.drew.bad_).weak (fun _ h=> .inl h)⟩⟩;go_wp2
         go_end0
         exact HQ.out
       · have hls:((L:Int)==(i:Int))=false:=by simp; omega
         clear hLi;go_enter Tryz.func79,Tryz.ntmps79
         go_wp2_with fail
         refine HOW.out.mono ?_;rintro e w1 ⟨rfl,hb1⟩;have HB1:=hid (HB0.out.trans (hb1.mono HB0.out.size));have HR1:=hid ((hb1.block _ (z00 R0.out)).trans R0.out);obtain ⟨n0,n1,n2,n3,n4,n5⟩:=z01 HR1.out;clear hb1 HB0 R0 HOW;obtain ⟨r,cap,hb,ho,hlb,hPb,hPr,hc⟩:=HOPEN.out w1 HB1.out;have HBX:=hid hb;have HOX:=hid ho;have HPB:=hid (And.intro hlb (And.intro hPb hPr));obtain ⟨c0,c1,c2⟩:=z0k hb;obtain ⟨hci,hfi⟩:=hc i hi;obtain ⟨hcL,hfL⟩:=hc L hL0;have hgb:=z02 hb 2;unfold strS at hci hcL;rw[← HSV.out] at hci;rw[← HSLV.out] at hcL;clear hb ho hlb hPb hPr hc
         go_wp2_with fail
         go_region
         go_wp2_with fail
         go_region
         have HQ:Hid (SWrQ base b size P w none (.returned (.tuple #[])) (w1.drew.drew.setCell ⟨b,2,none⟩ (.bool true))):=hid ⟨rfl,(KP.of_below HB1.out.drew.drew).trans (KP.set HPB.out.2.1 _ 2 _) (fun _ _ h=>h),.inl ⟨rfl,ss,((HH.out.low HB1.out).drew.drew.bad_).weak (fun _ h=> .inl h)⟩⟩;go_wp2
         go_end0
         exact HQ.out
theorem zb3 (size:Nat)(hz:size≤200):∀d,SWrD size d
 | 0=>fun base b ss P w i a m n h1 h hP0 hk hi ha hn hok hm hws htt=>zb1 size 0 base b ss P w i a m n h1 h hP0 hk hi ha hn hok hm hws htt (by simp only[okN,Bool.and_eq_true,decide_eq_true_eq] at hok; exact hok.2)
 | d+1=>fun base b ss P w i a m n h1 h hP0 hk hi ha hn hok hm hws htt=>by
   by_cases hk0:n.kind=0
   · exact zb1 size (d+1) base b ss P w i a m n h1 h hP0 hk hi ha hn hok hm hws htt hk0
   · by_cases hp:ownN n=0
     · exact zjo size d base b ss P w i a m n h1 h hP0 hk hi ha hn hok hm hws htt hk0 hp
     · exact zm9 size d (zb3 size hz d) base b ss P w i a m n h1 h hP0 hk hi ha hn hok hm hws htt hk0 (by omega) hz
end Go.Proofs.YtlbfffokkhccaaaGreatDoor
