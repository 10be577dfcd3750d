/- Texts of the proof of the law FnRecordCanon, side by side: part 36. -/
import Derived.Test.YtblcibgphccfkaaGreatDoorMRecordCanon35
set_option maxHeartbeats 8000000
set_option maxRecDepth 100000
open Go.Lib (hid)
namespace Go.Proofs.YtblcibgphccfkaaGreatDoor
open Go.RowKit Go.Deep
theorem zgm {cur:Array Value}{q:List (Nd×Hd)}{k:Nat}(hs:q.length*6≤cur.size)(hc:cur.toList.take (q.length*6)=rowOf q)(hk:k<q.length)(r:Nd×Hd) :
 (((((((cur.setIfInBounds (k*6) (cellE r 0)).setIfInBounds (k*6+1) (cellE r 1)).setIfInBounds (k*6+2) (cellE r 2)).setIfInBounds (k*6+3) (cellE r 3)).setIfInBounds (k*6+4) (cellE r 4)).setIfInBounds (k*6+5) (cellE r 5)).toList.take ((q.set k r).length*6))=rowOf (q.set k r):=by
 have h0:∀j,j<q.length*6→cur[j]? =(q[j/6]?).map fun r=>cellE r (j%6):=fun j hj=>by
  have:=congrArg (fun l=>l[j]?) hc
  simp only[List.getElem?_take_of_lt hj,z38,Array.getElem?_toList] at this
  exact this
 apply List.ext_getElem?
 intro j
 rw[List.length_set,z38,List.getElem?_set]
 by_cases hjl:j<q.length*6
 · rw[List.getElem?_take_of_lt hjl,Array.getElem?_toList]
   simp only[Array.getElem?_setIfInBounds,Array.size_setIfInBounds]
   by_cases hj:j/6=k
   · subst hj
     have hm:j%6=0∨j%6=1∨j%6=2∨j%6=3∨j%6=4∨j%6=5:=by omega
     rw[if_pos rfl,if_pos hk]
     rcases hm with e | e | e | e | e | e <;> (rw[e]; simp only[Option.map_some]) <;> repeat (first | rfl | (rw[if_pos (by omega)]) | (rw[if_neg (by omega)]))
   · rw[if_neg (by omega),if_neg (by omega),if_neg (by omega),if_neg (by omega),if_neg (by omega),if_neg (by omega),if_neg (fun e=>hj e.symm)]
     exact h0 j hjl
 · rw[List.getElem?_eq_none (by rw[List.length_take]; omega)]
   by_cases hj:k=j/6
   · omega
   · rw[if_neg hj,List.getElem?_eq_none (by omega)]; rfl
theorem zmo {w:World}{M c k:Nat}{A:Option Addr}{p:List Nd}{bs:List Nat}(h:OwS w (M+1) A c p bs)(hnd:bs.Nodup)(hk:k<p.length)(y:Nd)(hy:Hd)(cs:List Nat)(hy1:OwN w M y hy cs)(hy2:cs.Nodup)(hd:∀b∈cs,b∉bs) :
 ∃g,A=some ⟨g,0,none⟩∧g∈bs∧(∀e,e<6→∃u,w.cell? ⟨g,k*6+e,none⟩=some u)∧(∀i,w.frozen? ⟨g,i,none⟩=false)∧∃wf,((((((w.setCell ⟨g,k*6,none⟩ (.int .i64 y.kind)).setCell ⟨g,k*6+1,none⟩ (.string y.data)).setCell ⟨g,k*6+2,none⟩ (.slice hy.A y.ptrs.length hy.a)).setCell ⟨g,k*6+3,none⟩ (.int .i64 y.size)).setCell ⟨g,k*6+4,none⟩ (.int .i64 y.count)).setCell ⟨g,k*6+5,none⟩ (.slice hy.B y.items.length hy.b))=wf∧OnlyIn [g] w wf∧∃bs',OwS wf (M+1) A c (p.set k y) bs'∧bs'.Nodup∧(∀b∈bs',b∈bs∨b∈cs)∧g∈bs':=by
 have hA:∃g,A=some ⟨g,0,none⟩:=by
  obtain ⟨q,hq,ho,hb,hr⟩:=h
  cases A with
  | none =>
   exfalso
   rcases z3d ho with ⟨h1,h2⟩ | ⟨g',cur,hg,_⟩
   · have:q= []:=by simpa using h2.1
     rw[← hq,this] at hk;exact absurd hk (Nat.not_lt_zero _)
   · cases hg
  | some a =>
   rcases z3d ho with ⟨h1,h2⟩ | ⟨g',cur,hg,_⟩
   · cases h1
   · injection hg with hg
     exact ⟨g',by rw[hg]⟩
 obtain ⟨g,rfl⟩:=hA;obtain ⟨q,hq,hb,cur,h1,h2,h3,h4,h5,h6,h7,h8⟩:=h.rowG hnd
 have hkq:k<q.length:=by rw[← hq,List.length_map] at hk; exact hk
 have hgb:g∈bs:=by rw[hb]; exact List.mem_cons_self
 have hql:(q.map fun r=>(r.1,r.2.1)).length=q.length:=List.length_map ..
 have hcl:∀e,e<6→∃u,w.cell? ⟨g,k*6+e,none⟩=some u:=fun e he=>by
  obtain ⟨u,hu⟩:∃u,cur[k*6+e]? =some u:=⟨_,Array.getElem?_eq_getElem (by omega)⟩
  exact ⟨u,by rw[cell_of_row _ _ _ _ _ _ h1]; exact hu⟩
 have hon:OnlyIn [g] w ((((((w.setCell ⟨g,k*6,none⟩ (.int .i64 y.kind)).setCell ⟨g,k*6+1,none⟩ (.string y.data)).setCell ⟨g,k*6+2,none⟩ (.slice hy.A y.ptrs.length hy.a)).setCell ⟨g,k*6+3,none⟩ (.int .i64 y.size)).setCell ⟨g,k*6+4,none⟩ (.int .i64 y.count)).setCell ⟨g,k*6+5,none⟩ (.slice hy.B y.items.length hy.b)):=by
  have st:∀(V:World) (i:Nat) (v:Value),OnlyIn [g] w V→OnlyIn [g] w (V.setCell ⟨g,i,none⟩ v):=fun V i v hV=>hV.trans (OnlyIn.setCell (p:=⟨g,i,none⟩) (by simp) v)
  exact st _ _ _ (st _ _ _ (st _ _ _ (st _ _ _ (st _ _ _ (st _ _ _ (OnlyIn.refl _ _))))))
 refine ⟨g,rfl,hgb,hcl,z03 h1,_,rfl,hon,?_⟩
 have hgc:g∉cs:=fun hm=>hd g hm hgb
 have hfr:∀b,b<w.heap.size→b≠g→_:=fun b hb hne=>hon.block b hb (by simpa using hne)
 have hrow:=z06 (z06 (z06 (z06 (z06 (z06 h1 (k*6) (.int .i64 y.kind)) (k*6+1) (.string y.data)) (k*6+2) (.slice hy.A y.ptrs.length hy.a)) (k*6+3) (.int .i64 y.size)) (k*6+4) (.int .i64 y.count)) (k*6+5) (.slice hy.B y.items.length hy.b);have htk:=zgm (cur:=cur) (q:=q.map fun r=>(r.1,r.2.1)) (k:=k) (by rw[hql]; omega) (by rw[hql]; exact h5) (by rw[hql]; exact hkq) (y,hy)
 have hqs:(q.map fun r=>(r.1,r.2.1)).set k (y,hy)=(q.set k (y,hy,cs)).map fun r=>(r.1,r.2.1):=by rw[List.map_set]
 rw[hqs,List.length_map] at htk
 have hblk:∀b,b∈blkB (q.set k (y,hy,cs))→b∈blkB q∨b∈cs:=fun b hbm=>by
  obtain ⟨r,hr,hbr⟩:=List.mem_flatMap.1 hbm
  rcases List.mem_or_eq_of_mem_set hr with h | rfl
  · exact .inl (List.mem_flatMap.2 ⟨r,h,hbr⟩)
  · exact .inr hbr
 have hnd':(blkB (q.set k (y,hy,cs))).Nodup:=by
  have e:q=q.take k++q[k] :: q.drop (k+1):=by rw[List.getElem_cons_drop,List.take_append_drop]
  have e2:q.set k (y,hy,cs)=q.take k++(y,hy,cs) :: q.drop (k+1):=List.set_eq_take_append_cons_drop .. |>.trans (by rw[if_pos hkq]);have hn:=h7
  have hdis:∀b∈cs,b∉blkB q:=fun b hbm hq9=>hd b hbm (by rw[hb]; exact List.mem_cons_of_mem _ hq9)
  rw[e] at hn hdis;rw[e2];rw[z1x,z1s] at hn hdis ⊢;rw[List.nodup_append] at hn ⊢;obtain ⟨n1,n2,n3⟩:=hn;rw[List.nodup_append] at n2;refine ⟨n1,List.nodup_append.2 ⟨hy2,n2.2.1,fun a ha b hb9 hab=>?_⟩,fun a ha b hb9 hab=>?_⟩
  · subst hab
    exact hdis a ha (List.mem_append_right _ (List.mem_append_right _ hb9))
  · subst hab
    rcases List.mem_append.1 hb9 with h | h
    · exact hdis a h (List.mem_append_left _ ha)
    · exact n3 a ha a (List.mem_append_right _ h) rfl
 have hR:RowG ((((((w.setCell ⟨g,k*6,none⟩ (.int .i64 y.kind)).setCell ⟨g,k*6+1,none⟩ (.string y.data)).setCell ⟨g,k*6+2,none⟩ (.slice hy.A y.ptrs.length hy.a)).setCell ⟨g,k*6+3,none⟩ (.int .i64 y.size)).setCell ⟨g,k*6+4,none⟩ (.int .i64 y.count)).setCell ⟨g,k*6+5,none⟩ (.slice hy.B y.items.length hy.b)) g c (q.set k (y,hy,cs)) M:=by
  refine ⟨_,hrow,by simpa using h2,by rw[List.length_set]; exact h3,h4,htk,fun r hr=>?_,hnd',fun hm=>?_⟩
  · rcases List.mem_or_eq_of_mem_set hr with h | rfl
    · exact (h6 r h).frame (fun b hbm=>hfr b ((h6 r h).lt b hbm).1 (fun e=>h8 (by rw[← e]; exact List.mem_flatMap.2 ⟨r,h,hbm⟩)))
    · exact hy1.frame (fun b hbm=>hfr b (hy1.lt b hbm).1 (fun e=>hgc (by rw[← e]; exact hbm)))
  · rcases hblk g hm with h | h
    · exact h8 h
    · exact hgc h
 obtain ⟨ho,hn⟩:=hR.own
 have hmp:(q.set k (y,hy,cs)).map (·.1)=p.set k y:=by rw[List.map_set,hq]
 rw[hmp] at ho;refine ⟨_,ho,hn,fun b hbm=>?_,List.mem_cons_self⟩
 rcases List.mem_cons.1 hbm with rfl | h
 · exact .inl hgb
 · rcases hblk b h with h | h
   · exact .inl (by rw[hb]; exact List.mem_cons_of_mem _ h)
   · exact .inr h
theorem zhr (x:Addr)(c:Nat)(l:List Fld)(v1:Value)(d:List UInt8)(G:Option Addr)(P cp:Nat)(k:Nat)(hk:k<l.length)(w:World)(hfl:Flds w (some x) l)(hok:z14 l=true)(hd:d.length=8*(layF l ps0).2.ls.words) :
 Calls Tryz.prog 79 #[.slice (some x) l.length c,.agg #[.int .i64 ((layF l ps0).2.ls.words:Int),.int .i64 ((layF l ps0).2.ptrs:Int),v1,.int .i64 (tagL l)],.agg #[.int .i64 1,.string ⟨d.toArray⟩,.slice G P cp,.int .i64 0,.int .i64 0,.slice none 0 0],.int .i64 (k:Int)] w fun e w'=>e= .returned (.agg #[.int .i64 1,.string ⟨(tgF l k d).toArray⟩,.slice G P cp,.int .i64 0,.int .i64 0,.slice none 0 0])∧Below w.heap.size w w':=by
 have hl:=z0n hok
 have hW:(layF l ps0).2.ls.words≤24:=by have:=(z24 l).2; omega
 cases htb:z2v l k
 · have e:tgF l k d=d:=by unfold tgF; rw[htb]; rfl
   rw[e];exact zfr x c l v1 ⟨d.toArray⟩ G P cp k hk w hfl hl htb
 · have h0:0≤tagL l:=by rw[z43 hk] at htb; simp at htb; exact htb.2
   obtain ⟨hp,hin⟩:=tg_ok hok h0 k (by omega) hd hW;obtain ⟨a,ha⟩:=Int.eq_ofNat_of_zero_le (show 0≤tagL l*2 by omega)
   have e:tgF l k d=putL (⟨d.toArray⟩:ByteArray).data.toList a (leB ((plcN l k:Nat):Int) 2):=by
    unfold tgF;rw[htb,if_pos rfl,zcx hp,zcn,ha]
    rfl
   rw[e];exact zgg x c l v1 ⟨d.toArray⟩ G P cp k hk w hfl hl htb a ha (by rw[ba_sz]; omega) (by rw[ba_sz]; omega)
theorem zgu (x y:Addr)(c cy:Nat)(l:List Fld)(d:List UInt8)(G:Option Addr)(P cp:Nat)(k:Nat)(hk:k<l.length)(w:World)(hfl:Flds w (some x) l)(hok:z14 l=true)(hd:d.length=8*(layF l ps0).2.ls.words)(hyb:y.block<w.heap.size)(hs:w.cell? (y.add k)=some (.int .i64 (atF l k:Nat)))(xv:Int)(yv:Nd)(hv:Hd)(z el:Int)(fc:Bool)(hf:l[k]=⟨z,fc,el⟩)(h6:(z==6)=false)(D1 D2:ByteArray)(hD1:D1=⟨(tgF l k d).toArray⟩)(hD2:D2=⟨(wrF ⟨z,fc,el⟩ (atF l k) xv (tgF l k d)).toArray⟩)(HWRT:∀W:World,Calls Tryz.prog 80 #[.agg #[.int .i64 z,.bool fc,.int .i64 el],.string D1,.int .i64 (atF l k:Nat),.int .i64 xv] W fun e w'=>e= .returned (.string D2)∧Below W.heap.size W w') :
 Calls Tryz.prog 52 #[.slice (some x) l.length c,.agg #[.int .i64 ((layF l ps0).2.ls.words:Int),.int .i64 ((layF l ps0).2.ptrs:Int),.slice (some y) l.length cy,.int .i64 (tagL l)],.agg #[.int .i64 1,.string ⟨d.toArray⟩,.slice G P cp,.int .i64 0,.int .i64 0,.slice none 0 0],.int .i64 (k:Int),.agg #[.int .i64 xv,.int .i64 yv.kind,.string yv.data,.slice hv.A yv.ptrs.length hv.a,.int .i64 yv.size,.int .i64 yv.count,.slice hv.B yv.items.length hv.b]] w fun e w'=>e= .returned (.agg #[.int .i64 1,.string D2,.slice G P cp,.int .i64 0,.int .i64 0,.slice none 0 0])∧Below w.heap.size w w':=by
 have hl:=z0n hok;have hsm:=z24 l
 have HTG0:∀W:World,Below w.heap.size w W→Calls Tryz.prog 79 #[.slice (some x) l.length c,.agg #[.int .i64 ((layF l ps0).2.ls.words:Int),.int .i64 ((layF l ps0).2.ptrs:Int),.slice (some y) l.length cy,.int .i64 (tagL l)],.agg #[.int .i64 1,.string ⟨d.toArray⟩,.slice G P cp,.int .i64 0,.int .i64 0,.slice none 0 0],.int .i64 (k:Int)] W fun e w'=>e= .returned (.agg #[.int .i64 1,.string D1,.slice G P cp,.int .i64 0,.int .i64 0,.slice none 0 0])∧Below W.heap.size W w':=fun W hW=>by
  rw[hD1];exact zhr x c l (.slice (some y) l.length cy) d G P cp k hk W (hfl.below hW) hok hd
 have HTG:=hid HTG0;clear HTG0 hD1;have q0:=z0j w (.cells #[.int .i64 ((layF l ps0).2.ls.words:Int),.int .i64 ((layF l ps0).2.ptrs:Int),.slice (some y) l.length cy,.int .i64 (tagL l)] 37);have q1:=z0m q0 (.cells #[.int .i64 1,.string ⟨d.toArray⟩,.slice G P cp,.int .i64 0,.int .i64 0,.slice none 0 0] nodeT);have q2:=z0m q1 (.cells #[.int .i64 xv,.int .i64 yv.kind,.string yv.data,.slice hv.A yv.ptrs.length hv.a,.int .i64 yv.size,.int .i64 yv.count,.slice hv.B yv.items.length hv.b] valT);have q3:=z0m q2 (.cells #[.int .i64 0,.string { data:= #[] },.slice none 0 0,.int .i64 0,.int .i64 0,.slice none 0 0] nodeT);have r0:=z02 (z02 (z02 (heap_alloc_new w (.cells #[.int .i64 ((layF l ps0).2.ls.words:Int),.int .i64 ((layF l ps0).2.ptrs:Int),.slice (some y) l.length cy,.int .i64 (tagL l)] 37)) (.cells #[.int .i64 1,.string ⟨d.toArray⟩,.slice G P cp,.int .i64 0,.int .i64 0,.slice none 0 0] nodeT)) (.cells #[.int .i64 xv,.int .i64 yv.kind,.string yv.data,.slice hv.A yv.ptrs.length hv.a,.int .i64 yv.size,.int .i64 yv.count,.slice hv.B yv.items.length hv.b] valT)) (.cells #[.int .i64 0,.string { data:= #[] },.slice none 0 0,.int .i64 0,.int .i64 0,.slice none 0 0] nodeT);have r1:=z02 (z02 (z0s q0 #[.int .i64 1,.string ⟨d.toArray⟩,.slice G P cp,.int .i64 0,.int .i64 0,.slice none 0 0] nodeT) (.cells #[.int .i64 xv,.int .i64 yv.kind,.string yv.data,.slice hv.A yv.ptrs.length hv.a,.int .i64 yv.size,.int .i64 yv.count,.slice hv.B yv.items.length hv.b] valT)) (.cells #[.int .i64 0,.string { data:= #[] },.slice none 0 0,.int .i64 0,.int .i64 0,.slice none 0 0] nodeT)
 have r2:=z02 (z0s q1 #[.int .i64 xv,.int .i64 yv.kind,.string yv.data,.slice hv.A yv.ptrs.length hv.a,.int .i64 yv.size,.int .i64 yv.count,.slice hv.B yv.items.length hv.b] valT) (.cells #[.int .i64 0,.string { data:= #[] },.slice none 0 0,.int .i64 0,.int .i64 0,.slice none 0 0] nodeT);have r3:=z0s q2 #[.int .i64 0,.string { data:= #[] },.slice none 0 0,.int .i64 0,.int .i64 0,.slice none 0 0] nodeT;rw[show w.heap.size+(1+1)=w.heap.size+2 from rfl] at r2;rw[show w.heap.size+(1+1+1)=w.heap.size+3 from rfl] at r3;have HB0:=hid q3.2;have HS0:=hid q3.1;have R0:=hid r0;have R2:=hid r2;have R3:=hid r3;have HFL:=hid hfl;have HYB:Hid ((y.add k).block<w.heap.size):=hid (by rw[z05]; exact hyb);have HSY:=hid hs;obtain ⟨a0,a1,a2,a3⟩:=z0p r0;obtain ⟨n0,n1,n2,n3,n4,n5⟩:=z04 r1;clear q0 q1 q2 q3 r0 r1 r2 r3;have HWR:=hid HWRT;clear HWRT hD2;clear hfl hs hyb;go_enter Tryz.func52,Tryz.ntmps52
 go_wp2_with fail
 clear a0 a1 a2 a3 n0 n1 n2 n3 n4 n5;generalize (((w.alloc (.cells #[.int .i64 ((layF l ps0).2.ls.words:Int),.int .i64 ((layF l ps0).2.ptrs:Int),.slice (some y) l.length cy,.int .i64 (tagL l)] 37)).alloc (.cells #[.int .i64 1,.string ⟨d.toArray⟩,.slice G P cp,.int .i64 0,.int .i64 0,.slice none 0 0] nodeT)).alloc (.cells #[.int .i64 xv,.int .i64 yv.kind,.string yv.data,.slice hv.A yv.ptrs.length hv.a,.int .i64 yv.size,.int .i64 yv.count,.slice hv.B yv.items.length hv.b] valT)).alloc (.cells #[.int .i64 0,.string { data:= #[] },.slice none 0 0,.int .i64 0,.int .i64 0,.slice none 0 0] nodeT)=W at *;refine (HTG.out _ HB0.out).mono ?_;rintro e w5 ⟨rfl,hb5⟩;have HB5:=hid (HB0.out.trans (hb5.mono HB0.out.size));have hba:Below w5.heap.size w5 (w5.alloc (.cells #[.int .i64 1,.string D1,.slice G P cp,.int .i64 0,.int .i64 0,.slice none 0 0] nodeT)):=(Below.refl _ _).alloc (Nat.le_refl _) _;have HB6:=hid (HB5.out.trans (hba.mono HB5.out.size));have X0:=hid ((hba.block _ (z00 ((hb5.block _ (z00 R0.out)).trans R0.out))).trans ((hb5.block _ (z00 R0.out)).trans R0.out));have X2:=hid ((hba.block _ (z00 ((hb5.block _ (z00 R2.out)).trans R2.out))).trans ((hb5.block _ (z00 R2.out)).trans R2.out));have X3:=hid ((hba.block _ (z00 ((hb5.block _ (z00 R3.out)).trans R3.out))).trans ((hb5.block _ (z00 R3.out)).trans R3.out));have XN:=hid (heap_alloc_new w5 (.cells #[.int .i64 1,.string D1,.slice G P cp,.int .i64 0,.int .i64 0,.slice none 0 0] nodeT));have HL5:Hid (w.heap.size+3<w5.heap.size):=hid (z00 ((hb5.block _ (z00 R3.out)).trans R3.out))
 clear hb5 hba;obtain ⟨x',hx',hxb,hx2⟩:=(HFL.out.below HB6.out).at2 hk;obtain rfl:=Option.some.inj hx';rw[hf] at hx2;have HX2:=hid hx2;obtain ⟨c0,c1,c2⟩:=hx2;obtain ⟨a0,a1,a2,a3⟩:=z0p X0.out;have sy:=(HB6.out.cell (p:=y.add k) HYB.out).trans HSY.out;have HK9:=hid hk;have HFX:Hid (x.block<w.heap.size):=hid (by obtain ⟨x9,hx9,hxb9, -⟩:=HFL.out.at2 hk; obtain rfl:=Option.some.inj hx9; exact hxb9)
 go_upto_region 6 with fail
 obtain ⟨nb,hnb⟩:∃nb,nb=w5.heap.size:=⟨_,rfl⟩
 rw[← hnb] at XN HL5 ⊢;clear hnb c0 c1 c2 a0 a1 a2 a3 sy;generalize w5.alloc (.cells #[.int .i64 1,.string D1,.slice G P cp,.int .i64 0,.int .i64 0,.slice none 0 0] nodeT)=W6 at *;have HDR:Hid (Below W6.heap.size W6 W6.drew):=hid ⟨rfl,rfl,rfl,Nat.le_refl _,fun _ _=>rfl⟩;have HC0:=hid (HB6.out.trans (HDR.out.mono HB6.out.size))
 have hx9:∀V:World,Below W6.heap.size W6 V→V.cell? (x.add (k*3))=some (.int .i64 z)∧V.cell? ⟨(x.add (k*3)).block,(x.add (k*3)).off+1,none⟩=some (.bool fc)∧V.cell? ⟨(x.add (k*3)).block,(x.add (k*3)).off+2,none⟩=some (.int .i64 el)∧V.heap[w.heap.size+2]? =some (.cells #[.int .i64 xv,.int .i64 yv.kind,.string yv.data,.slice hv.A yv.ptrs.length hv.a,.int .i64 yv.size,.int .i64 yv.count,.slice hv.B yv.items.length hv.b] valT (0,0)):=fun V hV=>by
  have h9:=HX2.out.below hV (by rw[z05]; exact hxb);exact ⟨h9.c0,h9.c1,h9.c2,(hV.block _ (z00 X2.out)).trans X2.out⟩
 have HX9:=hid hx9;clear hx9;refine wp_region_held_drew (S:=(fun V=>V.cell? (x.add (k*3))=some (.int .i64 z)∧V.cell? ⟨(x.add (k*3)).block,(x.add (k*3)).off+1,none⟩=some (.bool fc)∧V.cell? ⟨(x.add (k*3)).block,(x.add (k*3)).off+2,none⟩=some (.int .i64 el)∧V.heap[w.heap.size+2]? =some (.cells #[.int .i64 xv,.int .i64 yv.kind,.string yv.data,.slice hv.A yv.ptrs.length hv.a,.int .i64 yv.size,.int .i64 yv.count,.slice hv.B yv.items.length hv.b] valT (0,0)))) (by kernel_rfl) ?_ (fun hH0=>?_)
 · exact HX9.out _ HDR.out
 refine wpAnyH_take (i:=0) (v:=?_) rfl (by kernel_rfl) (by kernel_rfl) (by kernel_rfl) (fun _ _ _ h=>h) (Or.inl ⟨by rfl,?_⟩) (by assumption) ?_
 rotate_left
 · intro w hSw
   (try dsimp only at hSw)
   obtain ⟨s0,s1,s2,s3⟩:=hSw;obtain ⟨t0,t1,t2,t3,t4,t5,t6⟩:=z09 s3
   go_simp
   try with_reducible rfl
 try simp only[List.getElem_toArray,List.getElem_cons_succ,List.getElem_cons_zero,Act.put,List.setIfInBounds_toArray,List.set_cons_zero,List.set_cons_succ]
 refine wpAnyH_take (i:=1) (v:=?_) rfl (by kernel_rfl) (by kernel_rfl) (by kernel_rfl) (fun _ _ _ h=>h) (Or.inl ⟨by rfl,?_⟩) (by assumption) ?_
 rotate_left
 · intro w hSw
   (try dsimp only at hSw)
   obtain ⟨s0,s1,s2,s3⟩:=hSw;obtain ⟨t0,t1,t2,t3,t4,t5,t6⟩:=z09 s3
   go_simp
   try with_reducible rfl
 try simp only[List.getElem_toArray,List.getElem_cons_succ,List.getElem_cons_zero,Act.put,List.setIfInBounds_toArray,List.set_cons_zero,List.set_cons_succ]
 refine wpAnyH_take (i:=2) (v:=?_) rfl (by kernel_rfl) (by kernel_rfl) (by kernel_rfl) (fun _ _ _ h=>h) (Or.inl ⟨by rfl,?_⟩) (by assumption) ?_
 rotate_left
 · intro w hSw
   (try dsimp only at hSw)
   obtain ⟨s0,s1,s2,s3⟩:=hSw;obtain ⟨t0,t1,t2,t3,t4,t5,t6⟩:=z09 s3
   go_simp
   try with_reducible rfl
 try simp only[List.getElem_toArray,List.getElem_cons_succ,List.getElem_cons_zero,Act.put,List.setIfInBounds_toArray,List.set_cons_zero,List.set_cons_succ]
 refine wpAnyH_take (i:=3) (v:= .agg #[.int .i64 z,.bool fc,.int .i64 el]) rfl (by kernel_rfl) (by kernel_rfl) (by kernel_rfl) (fun _ _ _ h=>h) (Or.inl ⟨by rfl,?_⟩) (by assumption) ?_
 · intro w hSw
   obtain ⟨s0,s1,s2,s3⟩:=hSw;obtain ⟨t0,t1,t2,t3,t4,t5,t6⟩:=z09 s3
   go_simp
 try simp only[List.getElem_toArray,List.getElem_cons_succ,List.getElem_cons_zero,Act.put,List.setIfInBounds_toArray,List.set_cons_zero,List.set_cons_succ]
 refine wpAnyH_take (i:=4) (v:=?_) rfl (by kernel_rfl) (by kernel_rfl) (by kernel_rfl) (fun _ _ _ h=>h) (Or.inl ⟨by rfl,?_⟩) (by assumption) ?_
 rotate_left
 · intro w hSw
   (try dsimp only at hSw)
   obtain ⟨s0,s1,s2,s3⟩:=hSw;obtain ⟨t0,t1,t2,t3,t4,t5,t6⟩:=z09 s3
   go_simp
   try with_reducible rfl
 try simp only[List.getElem_toArray,List.getElem_cons_succ,List.getElem_cons_zero,Act.put,List.setIfInBounds_toArray,List.set_cons_zero,List.set_cons_succ]
 refine wpAnyH_take (i:=6) (v:=?_) rfl (by kernel_rfl) (by kernel_rfl) (by kernel_rfl) (fun _ _ _ h=>h) (Or.inl ⟨by rfl,?_⟩) (by assumption) ?_
 rotate_left
 · intro w hSw
   (try dsimp only at hSw)
   obtain ⟨s0,s1,s2,s3⟩:=hSw;obtain ⟨t0,t1,t2,t3,t4,t5,t6⟩:=z09 s3
   go_simp
   try with_reducible rfl
 try simp only[List.getElem_toArray,List.getElem_cons_succ,List.getElem_cons_zero,Act.put,List.setIfInBounds_toArray,List.set_cons_zero,List.set_cons_succ]
 refine wpAnyH_take (i:=7) (v:=?_) rfl (by kernel_rfl) (by kernel_rfl) (by kernel_rfl) (fun _ _ _ h=>h) (Or.inl ⟨by rfl,?_⟩) (by assumption) ?_
 rotate_left
 · intro w hSw
   (try dsimp only at hSw)
   obtain ⟨s0,s1,s2,s3⟩:=hSw;obtain ⟨t0,t1,t2,t3,t4,t5,t6⟩:=z09 s3
   go_simp
   try with_reducible rfl
 try simp only[List.getElem_toArray,List.getElem_cons_succ,List.getElem_cons_zero,Act.put,List.setIfInBounds_toArray,List.set_cons_zero,List.set_cons_succ]
 refine wpAnyH_take (i:=8) (v:= .int .i64 xv) rfl (by kernel_rfl) (by kernel_rfl) (by kernel_rfl) (fun _ _ _ h=>h) (Or.inl ⟨by rfl,?_⟩) (by assumption) ?_
 · intro w hSw
   obtain ⟨s0,s1,s2,s3⟩:=hSw;obtain ⟨t0,t1,t2,t3,t4,t5,t6⟩:=z09 s3
   go_simp
 try simp only[List.getElem_toArray,List.getElem_cons_succ,List.getElem_cons_zero,Act.put,List.setIfInBounds_toArray,List.set_cons_zero,List.set_cons_succ]
 have hn9:=(HDR.out.block _ (z00 XN.out)).trans XN.out;obtain ⟨n0,n1,n2,n3,n4,n5⟩:=z04 hn9;refine wpAnyH_ready (rs:= [5]) (by kernel_rfl) (by simp) ?_;refine AllReadyH.cons rfl (fun K hK=>?_) AllReadyH.nil
 go_simp
 refine hK.out _ _ (HX9.out _ HDR.out) (fun hHn=>?_);clear hK K hH0 n0 n1 n2 n3 n4 n5
 try simp only[List.getElem_toArray,List.getElem_cons_succ,List.getElem_cons_zero,Act.put,List.setIfInBounds_toArray,List.set_cons_zero,List.set_cons_succ]
 refine wpAnyH_ready (rs:= [9]) (by kernel_rfl) (by simp) ?_;refine AllReadyH.cons rfl (fun K hK=>?_) AllReadyH.nil
 go_simp
 go_at_call 80
 refine (HWR.out _).mono ?_;rintro e w7 ⟨rfl,hb7⟩;have HC7:=hid (HDR.out.trans (hb7.mono HDR.out.size));clear hb7 hn9
 go_wp2_with fail
 refine hK.out _ _ (HX9.out _ HC7.out) (fun hHm=>?_);clear hK K hHn
 try simp only[List.getElem_toArray,List.getElem_cons_succ,List.getElem_cons_zero,Act.put,List.setIfInBounds_toArray,List.set_cons_zero,List.set_cons_succ]
 refine wpAnyH_take (i:=10) (v:=?_) rfl (by kernel_rfl) (by kernel_rfl) (by kernel_rfl) (fun _ _ _ h=>h) (Or.inl ⟨by rfl,?_⟩) (by assumption) ?_
 rotate_left
 · intro w hSw
   (try dsimp only at hSw)
   obtain ⟨s0,s1,s2,s3⟩:=hSw;obtain ⟨t0,t1,t2,t3,t4,t5,t6⟩:=z09 s3
   go_simp
   try with_reducible rfl
 try simp only[List.getElem_toArray,List.getElem_cons_succ,List.getElem_cons_zero,Act.put,List.setIfInBounds_toArray,List.set_cons_zero,List.set_cons_succ]
 have XN7:=hid ((HC7.out.block _ (z00 XN.out)).trans XN.out);obtain ⟨n0,n1,n2,n3,n4,n5⟩:=z04 XN7.out;have nf:=z03 XN7.out;refine wpAnyH_ready (rs:= [11]) (by kernel_rfl) (by simp) ?_;refine AllReadyH.cons rfl (fun K hK=>?_) AllReadyH.nil
 go_simp
 obtain ⟨wf,hwf,hrw,hof⟩:=setN1 D2 XN7.out;rw[hwf];obtain ⟨y0,y1,y2,y3⟩:=HX9.out _ HC7.out;have HNL:Hid (W6.heap.size≤w7.heap.size∧nb<W6.heap.size):=hid ⟨HC7.out.size,z00 XN.out⟩
 have hxn:(x.add (k*3)).block≠nb:=by rw[z05]; have:=HFX.out; have:=HL5.out; omega
 have k9:wf.cell? (x.add (k*3))=some (.int .i64 z)∧wf.cell? ⟨(x.add (k*3)).block,(x.add (k*3)).off+1,none⟩=some (.bool fc)∧wf.cell? ⟨(x.add (k*3)).block,(x.add (k*3)).off+2,none⟩=some (.int .i64 el)∧wf.heap[w.heap.size+2]? =some (.cells #[.int .i64 xv,.int .i64 yv.kind,.string yv.data,.slice hv.A yv.ptrs.length hv.a,.int .i64 yv.size,.int .i64 yv.count,.slice hv.B yv.items.length hv.b] valT (0,0)):=⟨z01 hof (by simpa using hxn) y0,z01 hof (by simpa using hxn) y1,z01 hof (by simpa using hxn) y2,(hof.block _ (z00 y3) (by have:=HL5.out; simp; omega)).trans y3⟩
 have HRF:=hid hrw;have HZF:=hid ((hof.block _ (z00 ((HC7.out.block _ (z00 X3.out)).trans X3.out)) (by have:=HL5.out; simp; omega)).trans ((HC7.out.block _ (z00 X3.out)).trans X3.out));have HOF:=hid ((HB6.out.trans (HC7.out.mono HB6.out.size)).trans (z0r hof (R:=w.heap.size) (HB6.out.trans (HC7.out.mono HB6.out.size)).size (by have:=HL5.out; omega)));refine hK.out _ _ k9 (fun hHl=>?_);clear hK K hHm n0 n1 n2 n3 n4 n5 nf hwf hrw hof y0 y1 y2 y3 k9
 try simp only[List.getElem_toArray,List.getElem_cons_succ,List.getElem_cons_zero,Act.put,List.setIfInBounds_toArray,List.set_cons_zero,List.set_cons_succ]
 refine wpAnyH_done (by kernel_rfl) ?_ _;clear hHl;obtain ⟨n0,n1,n2,n3,n4,n5⟩:=z04 HRF.out;obtain ⟨z0,z1,z2,z3,z4,z5⟩:=z04 HZF.out;have zf:=z03 HZF.out
 go_wp2_with fail
 obtain ⟨w9,hw9,hr9,ho9⟩:=finN6 (.int .i64 1) (.string D2) (.slice G P cp) (.int .i64 0) (.int .i64 0) (.slice none 0 0) HZF.out
 try rw[hw9]
 obtain ⟨e0,e1,e2,e3,e4,e5⟩:=z04 hr9;exact bodyPost_ret (v:= .agg #[.int .i64 1,.string D2,.slice G P cp,.int .i64 0,.int .i64 0,.slice none 0 0]) (by simp[results,Tryz.results52,go_sem,e0,e1,e2,e3,e4,e5]) rfl ⟨rfl,HOF.out.trans (z0r ho9 (R:=w.heap.size) HOF.out.size (by omega))⟩
end Go.Proofs.YtblcibgphccfkaaGreatDoor
