/- Texts of the proof of the law FnRecordCanon, side by side: part 16. -/
import Derived.Lib.AppendZerosOnto
import Derived.Test.YtblcibgphccfkaaGreatDoorMRecordCanon15
set_option maxHeartbeats 8000000
set_option maxRecDepth 100000
open Go.Lib (hid)
namespace Go.Proofs.YtblcibgphccfkaaGreatDoor
open Go.RowKit Go.Deep
theorem setA {w W:World}{g R:Nat}{T:TypeId}{u0 u1 u2 u3 u4 u5 u6:Value}(v0:Value)(hz:W.heap[g]? =some (.cells #[u0,u1,u2,u3,u4,u5,u6] T (0,0)))(hb:Below R w W)(hR:R≤g) :
 ∃wf,W.setCell ⟨g,0,none⟩ v0=wf∧wf.heap[g]? =some (.cells #[v0,u1,u2,u3,u4,u5,u6] T (0,0))∧Below R w wf∧∀k,k≠g→wf.heap[k]? =W.heap[k]? :=
 ⟨_,rfl,z06 hz 0 v0,hb.setCell (p:=⟨g,0,none⟩) hR v0,fun k h=>Below.heap_setCell W ⟨g,0,none⟩ v0 k h⟩
theorem zlt (g:Nat)(x y:Addr)(c cy:Nat)(l:List Fld)(n:Nd)(h:Hd)(k:Nat)(hk:k<l.length)(el:Int)(w:World)(hr:RecAt w g (some x) l.length c l (.slice (some y) l.length cy) n h)(hxb:x.block<w.heap.size)(hf:w.cell? ⟨(x.add (k*3)).block,(x.add (k*3)).off+2,none⟩=some (.int .i64 el))(hl:l.length≤12)(xv:Int)(yv:Nd)(hv:Hd)
 (HRAW:∀W:World,Below w.heap.size w W→Calls Tryz.prog 62 #[.pointer (some ⟨g,0,none⟩),.int .i64 (k:Int)] W fun e w'=>e= .returned (.agg #[.int .i64 xv,.int .i64 yv.kind,.string yv.data,.slice hv.A yv.ptrs.length hv.a,.int .i64 yv.size,.int .i64 yv.count,.slice hv.B yv.items.length hv.b])∧Below W.heap.size W w') :
 Calls Tryz.prog 31 #[.pointer (some ⟨g,0,none⟩),.int .i64 (k:Int)] w fun e w'=>e= .returned (.agg #[.int .i64 (xorI xv el),.int .i64 yv.kind,.string yv.data,.slice hv.A yv.ptrs.length hv.a,.int .i64 yv.size,.int .i64 yv.count,.slice hv.B yv.items.length hv.b])∧Below w.heap.size w w':=by
 have HQ:=hid HRAW;have HR:=hid hr;unfold RecAt at HR;have HGL:=hid (z00 hr);have HXL:Hid ((⟨(x.add (k*3)).block,(x.add (k*3)).off+2,none⟩:Addr).block<w.heap.size):=hid (by show (x.add (k*3)).block<_; rw[z05]; exact hxb);have HFC:=hid hf;have HBA:=hid ((Below.refl w.heap.size w).alloc (Nat.le_refl _) (.cells #[.int .i64 0,.int .i64 0,.string { data:= #[] },.slice none 0 0,.int .i64 0,.int .i64 0,.slice none 0 0] valT));have HRA:=hid (heap_alloc_new w (.cells #[.int .i64 0,.int .i64 0,.string { data:= #[] },.slice none 0 0,.int .i64 0,.int .i64 0,.slice none 0 0] valT));have HXE:Hid (xorI xv el=bits .xor .i64 xv el):=hid rfl;clear HRAW hr hxb hf;go_enter Tryz.func31,Tryz.ntmps31
 go_wp2_with fail
 generalize w.alloc (.cells #[.int .i64 0,.int .i64 0,.string { data:= #[] },.slice none 0 0,.int .i64 0,.int .i64 0,.slice none 0 0] valT)=W at *;refine (HQ.out W HBA.out).mono ?_;rintro e w2 ⟨rfl,hb2⟩;have HB2:=hid (HBA.out.trans (hb2.mono HBA.out.size));have HU2:=hid ((hb2.block _ (z00 HRA.out)).trans HRA.out);have hn:=heap_alloc_new w2 (.cells #[.int .i64 xv,.int .i64 yv.kind,.string yv.data,.slice hv.A yv.ptrs.length hv.a,.int .i64 yv.size,.int .i64 yv.count,.slice hv.B yv.items.length hv.b] valT);have hb3:Below w2.heap.size w2 (w2.alloc (.cells #[.int .i64 xv,.int .i64 yv.kind,.string yv.data,.slice hv.A yv.ptrs.length hv.a,.int .i64 yv.size,.int .i64 yv.count,.slice hv.B yv.items.length hv.b] valT)):=(Below.refl _ _).alloc (Nat.le_refl _) _;have hB3:Below w.heap.size w (w2.alloc (.cells #[.int .i64 xv,.int .i64 yv.kind,.string yv.data,.slice hv.A yv.ptrs.length hv.a,.int .i64 yv.size,.int .i64 yv.count,.slice hv.B yv.items.length hv.b] valT)):=HB2.out.trans (hb3.mono HB2.out.size);obtain ⟨r0,r1,r2,r3,r4,r5,r6,r7,r8,r9,r10⟩:=z08 ((hB3.block _ HGL.out).trans HR.out);have c2:=(hB3.cell (p:=⟨(x.add (k*3)).block,(x.add (k*3)).off+2,none⟩) HXL.out).trans HFC.out;obtain ⟨z0,z1,z2,z3,z4,z5,z6⟩:=z09 hn;have zf:=z03 hn;have HN:=hid hn;have HB3:=hid hB3;have HU3:=hid ((hb3.block _ (z00 HU2.out)).trans HU2.out);clear hb2 hb3 hB3 hn
 go_wp2_with fail
 generalize w2.alloc (.cells #[.int .i64 xv,.int .i64 yv.kind,.string yv.data,.slice hv.A yv.ptrs.length hv.a,.int .i64 yv.size,.int .i64 yv.count,.slice hv.B yv.items.length hv.b] valT)=W3 at *
 go_region
 clear r0 r1 r2 r3 r4 r5 r6 r7 r8 r9 r10 c2 z0 z1 z2 z3 z4 z5 z6 zf;have hlt:=Nat.lt_of_lt_of_le (z00 HU2.out) (Nat.le_refl _);obtain ⟨wf,hwf,hrw,hbf,hkf⟩:=setA (w:=w) (R:=w.heap.size) (.int .i64 (bits .xor .i64 xv el)) HN.out HB3.out (by omega);rw[hwf];have hu4:=(hkf _ (by omega)).trans HU3.out;have hb4:Below w.heap.size w wf.drew:=hbf.drew;have hr4:wf.drew.heap[w2.heap.size]? =_:=hrw;have hu5:wf.drew.heap[w.heap.size]? =_:=hu4;generalize wf.drew=W4 at *;obtain ⟨z0,z1,z2,z3,z4,z5,z6⟩:=z09 hr4;obtain ⟨y0,y1,y2,y3,y4,y5,y6⟩:=z09 hu5;have yf:=z03 hu5;have HU5:=hid hu5;have HB4:=hid hb4;clear hwf hrw hbf hkf hu4 hb4 hr4 hu5;go_wp2;obtain ⟨w6,hw6,hr6,hb6, -⟩:=finV (w:=w) (R:=w.heap.size) (.int .i64 (bits .xor .i64 xv el)) (.int .i64 yv.kind) (.string yv.data) (.slice hv.A yv.ptrs.length hv.a) (.int .i64 yv.size) (.int .i64 yv.count) (.slice hv.B yv.items.length hv.b) HU5.out HB4.out (Nat.le_refl _)
 try rw[hw6]
 obtain ⟨e0,e1,e2,e3,e4,e5,e6⟩:=z09 hr6;exact bodyPost_ret (v:= .agg #[.int .i64 (xorI xv el),.int .i64 yv.kind,.string yv.data,.slice hv.A yv.ptrs.length hv.a,.int .i64 yv.size,.int .i64 yv.count,.slice hv.B yv.items.length hv.b]) (by simp[results,Tryz.results31,go_sem,HXE.out,e0,e1,e2,e3,e4,e5,e6]) rfl ⟨rfl,hb6⟩
end Go.Proofs.YtblcibgphccfkaaGreatDoor
namespace Go.Proofs.YtblcibgphccfkaaGreatDoor
open Go.RowKit
theorem zla {w:World}{B:Nat}{A:Option Addr}{cap n:Nat}{l:List Nat}(h:w.ownsRow B slotT 1 (.slice A n cap) l.length (z1b l)){k:Nat}(hk:k<l.length) :
 n=l.length∧∃x,A=some x∧w.cell? (x.add k)=some (.int .i64 ((l.getD k 0:Nat):Int)):=by
 rcases h.2 with ⟨e,h0⟩ | ⟨g,cap',cur,e,_,hg,_⟩
 · omega
 · injection e with e1 e2 e3
   subst e1 e2;refine ⟨rfl,_,rfl,?_⟩;refine h.cells (g:=g) rfl k _ ?_;rw[z1b,List.getElem?_map,List.getElem?_eq_getElem hk,List.getD,List.getElem?_eq_getElem hk]
   rfl
theorem zhf {p:Nd}(h:formN p=true)(hk:(canN p).kind=0):canN p=z07:=by
 rw[zbj] at hk;rw[z3j h hk,z1k]
theorem zlb {y:Nd}{D P:Nat}(k1:y.kind=1)(k3:y.size=0)(k4:y.count=0)(k5:y.items= [])(h8:y.data.size%8=0)(hD8:D%8=0)(hD1:(canN y).data.size≤D)(hD2:D≤y.data.size)(hP1:endC (y.ptrs.map canN)≤P)(hP2:P≤y.ptrs.length)(hn:∀p∈y.ptrs,formN p=true) :
 evenN D P (canN y)= .mk 1 (y.data.extract 0 D) ((y.ptrs.map canN).take P) 0 0 []:=by
 have hd:=z3h k1 k3 k4 k5
 rw[zgl hP1 (by rw[List.length_map]; exact hP2) (fun q hq h0=>by
  obtain ⟨p,hp,rfl⟩:=List.mem_map.1 hq
  exact zhf (hn p hp) h0)]
 rw[show D=8*(D/8) by omega,ziu (j:=D/8) h8 (by omega) (by omega)];rw[z1w k1 k3 k4 k5] at hd ⊢;have hd':(trimD y.data).size=8*tw y.data.data.toList:=hd
 show Nd.mk 1 (trimD y.data++zeroD (8*(D/8)-(trimD y.data).size)) (endP (y.ptrs.map canN)++List.replicate (P-(endP (y.ptrs.map canN)).length) z07) 0 0 []=_
 rw[z21,show 8*(D/8)-(trimD y.data).size=8*(D/8-tw y.data.data.toList) by omega]
mutual
def sizN:Nd→Nat
 | .mk _ d p _ _ i=>d.size+sizL p+sizL i
def sizL:List Nd→Nat
 | []=>0
 | n :: t=>1+sizN n+sizL t
end
theorem z44:∀l:List Nd,sizL l=(l.map fun n=>1+sizN n).sum
 | []=>by rw[sizL]; rfl
 | n :: t=>by rw[sizL,z44 t]; simp
theorem z2a (n:Nd):sizN n=n.data.size+sizL n.ptrs+sizL n.items:=by
 cases n with
 | mk k d p s c i=>rw[sizN]; rfl
theorem z7g:sizL []=0:=by rw[sizL]
theorem z7i {w:World}{S:Nat→Prop} :∀(m:Nat) (A:Option Addr) (l:List Nd),NdsAt w S m A l→totL m l=sizL l
 | 0,A,l,h=>by rw[h.zero,z7g]; rfl
 | m+1,A,l,h=>by
   rw[z0v,z44]
   congr 1
   apply List.map_congr_left
   intro n hn
   obtain ⟨hd,h1⟩:=h.mem n hn;unfold totN;rw[z2a,z7i m _ _ h1.2.1,z7i m _ _ h1.2.2]
theorem z19 {w:World}{S:Nat→Prop}{m:Nat}{n:Nd}{h:Hd}(hn:NdAt w S m n h):totN m n=sizN n:=by
 unfold totN;rw[z2a,z7i m _ _ hn.2.1,z7i m _ _ hn.2.2]
theorem zf1 (a b:List Nd):sizL (a++b)=sizL a+sizL b:=by rw[z44,z44,z44,List.map_append,List.sum_append]
theorem z7p (l:List Nd)(k:Nat):sizL (l.take k)≤sizL l:=by
 conv=>rhs; rw[← List.take_append_drop k l]
 rw[zf1]; omega
theorem zda {l:List Nd}{f:Nd→Nd}(h:∀n∈l,sizN (f n)≤sizN n):sizL (l.map f)≤sizL l:=by
 rw[z44,z44,List.map_map]
 exact z5r _ _ _ fun n hn=>by have:=h n hn; show 1+sizN (f n)≤1+sizN n; omega
theorem ziq {n:Nd}(hf:formN n=true)(hk:∀p∈ptrsL n,formN p=true):evenL (n.items.map canN)=n.items.map (fun y=> .mk 1 (y.data.extract 0 (topD (n.items.map canN))) ((y.ptrs.map canN).take (topP (n.items.map canN))) 0 0 []) ∧
 ∀y∈n.items,y.kind=1∧y.data.size%8=0∧y.size=0∧y.count=0∧y.items= []∧topD (n.items.map canN)≤y.data.size∧topP (n.items.map canN)≤y.ptrs.length:=by
 rcases z0y hf with hc | hc | hc
 · rw[z0c hc.2.2.2.2.2]; exact ⟨rfl,fun y h=>by cases h⟩
 · rw[z0c hc.2.2.2.2]; exact ⟨rfl,fun y h=>by cases h⟩
 · obtain ⟨h1,h2,hc | hc | hc⟩:=hc
   · rw[z0c hc.2.2.2.2]; exact ⟨rfl,fun y h=>by cases h⟩
   · rw[z0c hc.2.2.2]; exact ⟨rfl,fun y h=>by cases h⟩
   · have hi:=hc.2.2.2.2
     have hb:=z25 hi
     have hD:topD (n.items.map canN)≤(n.items.headD default).data.size:=zcq fun z hz=>by
      obtain ⟨y,hy,rfl⟩:=List.mem_map.1 hz;obtain ⟨k1,k2,k3,k4,k5,k6,_⟩:=hb y hy;rw[z3h k1 k3 k4 k5];have l2:=tw_le y.data.data.toList
      have l3:y.data.data.toList.length=y.data.size:=by simp
      omega
     have hP:topP (n.items.map canN)≤(n.items.headD default).ptrs.length:=zck fun z hz=>by
      obtain ⟨y,hy,rfl⟩:=List.mem_map.1 hz;obtain ⟨k1,k2,k3,k4,k5,_,k7⟩:=hb y hy;rw[z1w k1 k3 k4 k5]
      show (endP (y.ptrs.map canN)).length≤_
      have l4:=z6c (y.ptrs.map canN);rw[z21];rw[List.length_map] at l4;omega
     have h8:topD (n.items.map canN)%8=0:=zhg fun z hz=>by
      obtain ⟨y2,hy2,rfl⟩:=List.mem_map.1 hz;obtain ⟨k1,k2,k3,k4,k5,_,_⟩:=hb y2 hy2
      rw[z3h k1 k3 k4 k5]; omega
     refine ⟨?_,fun y hy=>?_⟩
     · show (n.items.map canN).map (evenN (topD (n.items.map canN)) (topP (n.items.map canN)))=_
       rw[List.map_map]
       apply List.map_congr_left
       intro y hy
       obtain ⟨k1,k2,k3,k4,k5,k6,k7⟩:=hb y hy;have hy1:=z6a _ _ (List.mem_map.2 ⟨y,hy,rfl⟩:canN y∈n.items.map canN);have hy2:=z81 _ _ (List.mem_map.2 ⟨y,hy,rfl⟩:canN y∈n.items.map canN)
       have hy3:(canN y).ptrs.length=endC (y.ptrs.map canN):=by rw[z1w k1 k3 k4 k5]; exact z21 _
       exact zlb k1 k3 k4 k5 k2 h8 hy1 (by omega) (by omega) (by omega) (fun p hp=>hk p (List.mem_append_right _ (List.mem_flatMap.2 ⟨y,hy,hp⟩)))
     · obtain ⟨k1,k2,k3,k4,k5,k6,k7⟩:=hb y hy
       exact ⟨k1,k2,k3,k4,k5,by omega,by omega⟩
theorem zaf:∀(d:Nat) (n:Nd),okN d n=true→sizN (canN n)≤sizN n
 | 0,n,h=>by
   have hf:=(z1o h).1
   simp only[okN,Bool.and_eq_true,decide_eq_true_eq] at h
   rw[z3j hf h.2,z1k]; exact Nat.le_refl _
 | d+1,n,h=>by
   obtain ⟨hf,hk⟩:=z1o h
   have hp:sizL (n.ptrs.map canN)≤sizL n.ptrs:=zda fun p hp=>zaf d p (hk p (List.mem_append_left _ hp))
   rcases z0y hf with hc | hc | hc
   · rw[z3j hf hc.1,z1k]; exact Nat.le_refl _
   · obtain ⟨h1,h2,h3,h4,h5⟩:=hc
     rw[z1w h1 h3 h4 (z0c h5),z2a,z2a n]
     show (trimD n.data).size+sizL (endP (n.ptrs.map canN))+sizL []≤_
     have l1:=z2f n.data;have l2:=tw_le n.data.data.toList
     have l3:n.data.data.toList.length=n.data.size:=by simp
     have l4:sizL (endP (n.ptrs.map canN))≤sizL (n.ptrs.map canN):=z7p _ _;rw[z7g];omega
   · have h1:=hc.1
     obtain ⟨he,hb⟩:=ziq hf (fun p hp=>(z1o (hk p hp)).1);rw[z5l h1,z2a,z2a n]
     show n.data.size+sizL (n.ptrs.map canN)+sizL (evenL (n.items.map canN))≤_
     have:sizL (evenL (n.items.map canN))≤sizL n.items:=by
      rw[he]
      refine zda fun y hy=>?_
      obtain ⟨k1,k2,k3,k4,k5,k6,k7⟩:=hb y hy;rw[z2a,z2a y,k5]
      show (y.data.extract 0 _).size+sizL ((y.ptrs.map canN).take _)+sizL []≤_
      have l1:(y.data.extract 0 (topD (n.items.map canN))).size≤y.data.size:=by simp[ByteArray.size_extract]; omega
      have l2:=z7p (y.ptrs.map canN) (topP (n.items.map canN))
      have l3:sizL (y.ptrs.map canN)≤sizL y.ptrs:=zda fun p hp=>zaf d p (hk p (List.mem_append_right _ (List.mem_flatMap.2 ⟨y,hy,hp⟩)))
      omega
     omega
theorem zhv {n:Nd}(h:z0l n=true)(hk:n.kind=1):n.data.size%8=0∧n.data.size≤1592:=by
 obtain ⟨h1,h2⟩:=z3q h;have hf:=(z1o h1).1;rw[z26 h1] at h2
 have h3:(n.data.size+7)/8≤ownN n:=by unfold ownN ownB; omega
 rcases z0y hf with hc | hc | hc
 · omega
 · exact ⟨by have:=hc.2.1; omega,by have:=hc.2.1; omega⟩
 · omega
def cellE (r:Nd×Hd):Nat→Value
 | 0=> .int .i64 r.1.kind
 | 1=> .string r.1.data
 | 2=> .slice r.2.A r.1.ptrs.length r.2.a
 | 3=> .int .i64 r.1.size
 | 4=> .int .i64 r.1.count
 | _=> .slice r.2.B r.1.items.length r.2.b
theorem z38:∀(q:List (Nd×Hd)) (j:Nat),(rowOf q)[j]? =(q[j/6]?).map fun r=>cellE r (j%6)
 | [],j=>by simp[rowOf]
 | r :: t,0=>rfl
 | r :: t,1=>rfl
 | r :: t,2=>rfl
 | r :: t,3=>rfl
 | r :: t,4=>rfl
 | r :: t,5=>rfl
 | r :: t,j+1+1+1+1+1+1=>by
   show (rowOf t)[j]? =_
   rw[z38 t j,show (j+1+1+1+1+1+1)/6=j/6+1 by omega,show (j+1+1+1+1+1+1)%6=j%6 by omega,List.getElem?_cons_succ]
theorem zi6 {cur:Array Value}{c e:Nat}{pre post:List (Nd×Hd)}{r r':Nd×Hd}(hs:cur.size=c*6)(hle:(pre++r :: post).length≤c)(hc:cur.toList.take ((pre++r :: post).length*6)=rowOf (pre++r :: post))(he:e<6)(hr:∀f,f<6→f≠e→cellE r' f=cellE r f) :
 (cur.setIfInBounds (pre.length*6+e) (cellE r' e)).toList.take ((pre++r' :: post).length*6)=rowOf (pre++r' :: post):=by
 have hl:(pre++r' :: post).length=(pre++r :: post).length:=by simp
 rw[hl]
 have hpl:pre.length<(pre++r :: post).length:=by simp
 apply List.ext_getElem?
 intro j
 have h0:(cur.toList.take ((pre++r :: post).length*6))[j]? =((pre++r :: post)[j/6]?).map fun r=>cellE r (j%6):=by rw[hc,z38]
 rw[z38]
 by_cases hj:j<(pre++r :: post).length*6
 · rw[List.getElem?_take_of_lt hj] at h0 ⊢
   rw[Array.getElem?_toList] at h0 ⊢;rw[Array.getElem?_setIfInBounds]
   have hset:(pre++r' :: post)[j/6]? =if j/6=pre.length then some r' else (pre++r :: post)[j/6]? :=by
    by_cases h:j/6=pre.length
    · rw[if_pos h,h,List.getElem?_append_right (Nat.le_refl _),Nat.sub_self]; rfl
    · rw[if_neg h]
      rcases Nat.lt_or_ge (j/6) pre.length with h2 | h2
      · rw[List.getElem?_append_left h2,List.getElem?_append_left h2]
      · rw[List.getElem?_append_right h2,List.getElem?_append_right h2]
        obtain ⟨x,hx⟩:∃x,j/6-pre.length=x+1:=⟨j/6-pre.length-1,by omega⟩
        rw[hx,List.getElem?_cons_succ,List.getElem?_cons_succ]
   rw[hset]
   have hat:(pre++r :: post)[pre.length]? =some r:=by rw[List.getElem?_append_right (Nat.le_refl _),Nat.sub_self]; rfl
   by_cases h1:pre.length*6+e=j
   · rw[if_pos h1,if_pos (by omega),if_pos (by omega)]
     show some (cellE r' e)=some (cellE r' (j%6))
     rw[show j%6=e by omega]
   · rw[if_neg h1]
     by_cases h2:j/6=pre.length
     · rw[if_pos h2]
       rw[h2,hat] at h0;rw[h0]
       show some (cellE r (j%6))=some (cellE r' (j%6))
       rw[hr (j%6) (by omega) (by omega)]
     · rw[if_neg h2,h0]
 · rw[List.getElem?_eq_none (by rw[List.length_take]; omega)]
   rw[List.getElem?_eq_none (by rw[hl]; omega)]; rfl
def RowG (w:World)(g c:Nat)(q:List NB)(M:Nat):Prop :=
 ∃cur:Array Value,w.heap[g]? =some (.cells cur nodeT (0,0))∧cur.size=c*6∧q.length≤c∧c≤maxLen∧cur.toList.take (q.length*6)=rowB q∧(∀r∈q,OwN w M r.1 r.2.1 r.2.2)∧(blkB q).Nodup∧g∉blkB q
theorem zf7 (a b:List NB):rowB (a++b)=rowB a++rowB b:=by unfold rowB; rw[List.map_append,z4m]
theorem z1x (a b:List NB):blkB (a++b)=blkB a++blkB b:=by unfold blkB; rw[List.flatMap_append]
theorem z1s (r:NB)(b:List NB):blkB (r :: b)=r.2.2++blkB b:=by unfold blkB; rw[List.flatMap_cons]
theorem OwS.rowG {w:World}{M g c:Nat}{l:List Nd}{bs:List Nat}(h:OwS w (M+1) (some ⟨g,0,none⟩) c l bs)(hnd:bs.Nodup):∃q:List NB,q.map (·.1)=l∧bs=g :: blkB q∧RowG w g c q M:=by
 obtain ⟨q,hq,ho,hb,hr⟩:=h
 rcases z3d ho with ⟨h1,_⟩ | ⟨g',cur,hg,h1,h2,h3,h4,h5,h6,h7⟩
 · cases h1
 · injection hg with hg
   injection hg with hg
   subst hg;have hb':bs=g :: blkB q:=hb;rw[hb'] at hnd;have:=List.nodup_cons.1 hnd;exact ⟨q,hq,hb',cur,h3,h6,h4,h5,h7,hr,this.2,this.1⟩
theorem RowG.own {w:World}{M g c:Nat}{q:List NB}(h:RowG w g c q M):OwS w (M+1) (some ⟨g,0,none⟩) c (q.map (·.1)) (g :: blkB q)∧(g :: blkB q).Nodup:=by
 obtain ⟨cur,h1,h2,h3,h4,h5,h6,h7,h8⟩:=h;exact ⟨⟨q,rfl,⟨by rw[← h5,List.length_take]; simp; omega,.inr ⟨g,c,cur,rfl,Nat.zero_le _,h1,h3,h4,h2,h5⟩⟩,rfl,h6⟩,List.nodup_cons.2 ⟨h8,h7⟩⟩
theorem RowG.set {w:World}{M g c:Nat}{pre post:List NB}{r:NB}{n':Nd}(e:Nat)(v:Value)(h:RowG w g c (pre++r :: post) M)(he:e<6)(hv:v=cellE (n',r.2.1) e)(hr:∀f,f<6→f≠e→cellE (n',r.2.1) f=cellE (r.1,r.2.1) f)
 (hp:n'.ptrs=r.1.ptrs) (hi:n'.items=r.1.items) (hd:n'.data.size≤maxLen):RowG (w.setCell ⟨g,pre.length*6+e,none⟩ v) g c (pre++(n',r.2) :: post) M:=by
 subst hv;obtain ⟨cur,h1,h2,h3,h4,h5,h6,h7,h8⟩:=h
 have hlen:(pre++(n',r.2) :: post).length=(pre++r :: post).length:=by simp
 have hblk:blkB (pre++(n',r.2) :: post)=blkB (pre++r :: post):=by rw[z1x,z1x,z1s,z1s]
 have hother:∀b,b≠g→(w.setCell ⟨g,pre.length*6+e,none⟩ (cellE (n',r.2.1) e)).heap[b]? =w.heap[b]? :=fun b hb=>Below.heap_setCell w ⟨g,pre.length*6+e,none⟩ _ b hb
 have hfr:∀x∈pre++r :: post,∀b∈x.2.2,b≠g:=fun x hx b hb e=>h8 (by rw[← e]; exact List.mem_flatMap.2 ⟨x,hx,hb⟩)
 refine ⟨_,z06 h1 _ _,by simpa using h2,by rw[hlen]; exact h3,h4,?_,fun x hx=>?_,by rw[hblk]; exact h7,by rw[hblk]; exact h8⟩
 · have h5':cur.toList.take ((pre.map (fun r=>(r.1,r.2.1))++(r.1,r.2.1) :: post.map (fun r=>(r.1,r.2.1))).length*6)=rowOf (pre.map (fun r=>(r.1,r.2.1))++(r.1,r.2.1) :: post.map (fun r=>(r.1,r.2.1))):=by
    have:=h5;unfold rowB at this;rw[List.map_append,List.map_cons] at this
    simpa using this
   have:=zi6 (r':=(n',r.2.1)) h2 (by simpa using h3) h5' he hr;unfold rowB;rw[List.map_append,List.map_cons]
   simpa using this
 · have hold:∀x∈pre++r :: post,OwN (w.setCell ⟨g,pre.length*6+e,none⟩ (cellE (n',r.2.1) e)) M x.1 x.2.1 x.2.2:=fun x hx=>(h6 x hx).frame (fun b hb=>hother b (hfr x hx b hb))
   rcases List.mem_append.1 hx with hx | hx
   · exact hold x (List.mem_append_left _ hx)
   · rcases List.mem_cons.1 hx with rfl | hx
     · obtain ⟨_,b1,b2,e1,e2,e3⟩:=hold r (List.mem_append_right _ List.mem_cons_self)
       refine ⟨hd,b1,b2,e1,?_,?_⟩
       · show OwS _ M r.2.1.A r.2.1.a n'.ptrs b1
         rw[hp]; exact e2
       · show OwS _ M r.2.1.B r.2.1.b n'.items b2
         rw[hi]; exact e3
     · exact hold x (List.mem_append_right _ (List.mem_cons_of_mem _ hx))
theorem RowG.frame {w w':World}{M g c:Nat}{q:List NB}(h:RowG w g c q M)(hf:∀b,b=g∨b∈blkB q→w'.heap[b]? =w.heap[b]?):RowG w' g c q M:=by
 obtain ⟨cur,h1,h2,h3,h4,h5,h6,h7,h8⟩:=h;exact ⟨cur,(hf g (.inl rfl)).trans h1,h2,h3,h4,h5,fun r hr=>(h6 r hr).frame (fun b hb=>hf b (.inr (List.mem_flatMap.2 ⟨r,hr,hb⟩))),h7,h8⟩
theorem RowG.lt {w:World}{M g c:Nat}{q:List NB}(h:RowG w g c q M):g<w.heap.size∧∀b∈blkB q,b<w.heap.size:=by
 obtain ⟨cur,h1,h2,h3,h4,h5,h6,h7,h8⟩:=h;refine ⟨z00 h1,fun b hb=>?_⟩;obtain ⟨r,hr,hbr⟩:=List.mem_flatMap.1 hb;exact ((h6 r hr).lt b hbr).1
theorem RowG.below {w w':World}{M g c:Nat}{q:List NB}(h:RowG w g c q M)(hb:Below w.heap.size w w'):RowG w' g c q M :=
 h.frame (fun b hm=>hb.block b (by rcases hm with rfl | hm; exact h.lt.1; exact h.lt.2 b hm))
structure OnlyIn (bs:List Nat) (w w':World):Prop where
 os:w'.os=w.os
 tape:w'.tape=w.tape
 output:w'.output=w.output
 size:w.heap.size≤w'.heap.size
 block:∀k,k<w.heap.size→k∉bs→w'.heap[k]? =w.heap[k]?
theorem OnlyIn.refl (bs:List Nat)(w:World):OnlyIn bs w w:=⟨rfl,rfl,rfl,Nat.le_refl _,fun _ _ _=>rfl⟩
theorem OnlyIn.trans {bs:List Nat}{a b c:World}(h:OnlyIn bs a b)(k:OnlyIn bs b c):OnlyIn bs a c :=
 ⟨k.os.trans h.os,k.tape.trans h.tape,k.output.trans h.output,Nat.le_trans h.size k.size,fun x hx hn=>(k.block x (Nat.lt_of_lt_of_le hx h.size) hn).trans (h.block x hx hn)⟩
theorem OnlyIn.of_below {bs:List Nat}{w w':World}(h:Below w.heap.size w w'):OnlyIn bs w w':=⟨h.os,h.tape,h.output,h.size,fun k hk _=>h.block k hk⟩
theorem OnlyIn.setCell {bs:List Nat}{w:World}{p:Addr}(hp:p.block∈bs)(v:Value):OnlyIn bs w (w.setCell p v):=⟨rfl,rfl,rfl,by simp[World.setCell],fun k _ hn=>Below.heap_setCell w p v k (fun e=>hn (e ▸ hp))⟩
theorem OnlyIn.mono {bs bs':List Nat}{w w':World}(h:OnlyIn bs w w')(hs:∀b∈bs,b∈bs'∨w.heap.size≤b):OnlyIn bs' w w':=⟨h.os,h.tape,h.output,h.size,fun k hk hn=>h.block k hk (fun hm=>by rcases hs k hm with h | h; exact hn h; omega)⟩
theorem OnlyIn.below {bs:List Nat}{B:Nat}{w w':World}(h:OnlyIn bs w w')(hB:B≤w.heap.size)(hs:∀b∈bs,B≤b):Below B w w':=⟨h.os,h.tape,h.output,h.size,fun k hk=>h.block k (by omega) (fun hm=>by have:=hs k hm; omega)⟩
theorem OwS.take {w:World}{m c:Nat}{A:Option Addr}{l:List Nd}{bs:List Nat}(h:OwS w m A c l bs)(k:Nat)(hk:k≤l.length):∃bs',OwS w m A c (l.take k) bs'∧bs'.Sublist bs:=by
 cases m with
 | zero =>
  obtain ⟨hl,ho,hb⟩:=h;subst hl;refine ⟨bs,⟨by simp,ho,hb⟩,List.Sublist.refl _⟩
 | succ m =>
  obtain ⟨q,hq,ho,hb,hr⟩:=h
  have hql:q.length=l.length:=by rw[← hq,List.length_map]
  have hsub:(blkB (q.take k)).Sublist (blkB q):=by
   conv=>rhs; rw[← List.take_append_drop k q]
   rw[z1x];exact List.sublist_append_left _ _
  refine ⟨blk A++blkB (q.take k),⟨q.take k,by rw[List.map_take,hq],?_,rfl,fun r hm=>hr r (List.mem_of_mem_take hm)⟩,by rw[hb]; exact List.Sublist.append (List.Sublist.refl _) hsub⟩
  have hlk:(q.take k).length=k:=by rw[List.length_take]; omega
  rw[hlk]
  have hrl:(rowB (q.take k)).length=k*6:=by unfold rowB; rw[z2y,List.length_map,hlk]
  refine ⟨hrl,?_⟩
  rcases z3d ho with ⟨h1,h2,h3,h4⟩ | ⟨g,cur,h1,h2,h3,h4,h5,h6,h7,h8⟩
  · left; rw[h1,h3]; exact ⟨by rw[show k=0 by omega],by omega⟩
  · right
    refine ⟨g,c,cur,by rw[h1],h3,h4,by omega,h6,h7,?_⟩
    have e1:rowB q=rowB (q.take k)++rowB (q.drop k):=by rw[← zf7,List.take_append_drop]
    have e2:cur.toList.take (k*6)=(cur.toList.take (q.length*6)).take (k*6):=by rw[List.take_take,Nat.min_eq_left (by omega)]
    rw[e2,h8,e1,List.take_append_of_le_length (by rw[hrl]; exact Nat.le_refl _),List.take_of_length_le (by rw[hrl]; exact Nat.le_refl _)]
abbrev nHd:Hd:=⟨none,0,none,0⟩
abbrev zNd:Value:= .agg #[.int .i64 0,.string ByteArray.empty,.slice none 0 0,.int .i64 0,.int .i64 0,.slice none 0 0]
theorem z9u (k:Nat):(Builtin.zeroCells zNd.cells k).toList=rowOf (List.replicate k (z07,nHd)):=by
 have hz:zNd.cells= #[.int .i64 0,.string ByteArray.empty,.slice none 0 0,.int .i64 0,.int .i64 0,.slice none 0 0]:=rfl;rw[hz]
 apply List.ext_getElem?
 intro j
 rw[z38,Array.getElem?_toList];unfold Builtin.zeroCells;rw[Array.getElem?_map]
 by_cases hj:j<k*6
 · rw[Array.getElem?_range,if_pos (by simpa using hj),List.getElem?_replicate,if_pos (by omega)]
   simp only[Option.map_some]
   have hm:j%6=0∨j%6=1∨j%6=2∨j%6=3∨j%6=4∨j%6=5:=by omega
   show some (#[Value.int .i64 0,.string ByteArray.empty,.slice none 0 0,.int .i64 0,.int .i64 0,.slice none 0 0][j%6]!)=_
   rcases hm with e | e | e | e | e | e <;> rw[e] <;> rfl
 · rw[Array.getElem?_range,if_neg (by simpa using hj),List.getElem?_replicate,if_neg (by omega)]
   rfl
theorem z74 (ty:TypeId)(w:World)(v:Value)(n:Nat)(xs:List Value)(hown:w.ownsRow 0 nodeT 6 v n xs)(k:Nat)(hb:n+k≤3000000) :
 ∃v' w',(Builtin.append_ #[z28,3] ty #[v,.int .i64 (k:Int)]).run Tryz.prog w= .ok v' w'∧w'.ownsRow 0 nodeT 6 v' (n+k) (xs++rowOf (List.replicate k (z07,nHd)))∧w.grownBy w' v.ownBlock∧(v'.ownBlock=v.ownBlock∨v'.ownBlock=some w.heap.size):=by
 obtain ⟨i0,hi,hz0,hz1,hz2⟩:=info_parts z5z;have hu:Tryz.prog.underlying z28=some (.slice nodeT):=Tryz.underlying24;have hti:Tryz.prog.underlying 3=some (.int .i64):=Tryz.underlying3
 have hrl:(rowOf (List.replicate k (z07,nHd))).length=k*6:=by rw[z2y,List.length_replicate]
 have hlen:(xs++rowOf (List.replicate k (z07,nHd))).length=(n+k)*6:=by rw[List.length_append,hown.1,hrl,Nat.add_mul]
 have hzs:(Builtin.zeroCells zNd.cells k).size=k*6:=by rw[size_zeroCells]; rfl
 have grown:∀(old:Nat),old<n+k→∀(row:Option Nat),
  (w.drew.alloc (.cells (xs.toArray++Builtin.zeroCells zNd.cells k++Builtin.zeroCells zNd.cells (grownCap w (n+k) old nodeT-(n+k))) nodeT)).ownsRow 0 nodeT 6
   (.slice (some ⟨w.heap.size,0,none⟩) (n+k) (grownCap w (n+k) old nodeT)) (n+k) (xs++rowOf (List.replicate k (z07,nHd))) ∧
  w.grownBy (w.drew.alloc (.cells (xs.toArray++Builtin.zeroCells zNd.cells k++Builtin.zeroCells zNd.cells (grownCap w (n+k) old nodeT-(n+k))) nodeT)) row:=by
  intro old ho row
  have hge:=grownCap_ge w (n+k) old nodeT;have hcm:grownCap w (n+k) old nodeT≤maxLen:=grownCap_le_maxLen w (n+k) old nodeT (by unfold maxLen; omega);refine ⟨⟨hlen,.inr ⟨w.heap.size,_,_,rfl,Nat.zero_le _,heap_alloc_new w.drew _,hge,hcm,?_,?_⟩⟩,⟨rfl,rfl,rfl,by simp,fun j hj _=>Below.heap_alloc w.drew _ j hj⟩⟩
  · have h1:(Builtin.zeroCells zNd.cells (grownCap w (n+k) old nodeT-(n+k))).size=(grownCap w (n+k) old nodeT-(n+k))*6:=by rw[size_zeroCells]; rfl
    have h2:=hown.1
    simp only[Array.size_append,List.size_toArray,hzs,h1]
    omega
  · simp only[Array.toList_append,List.append_assoc,z9u]
    rw[← List.append_assoc,← hlen];exact List.take_left
 rcases hown.2 with ⟨rfl,rfl⟩ | ⟨g,cap,cur,rfl,hbg,hg,hnc,hcm,hcs,htake⟩
 · have hx:xs= []:=List.eq_nil_of_length_eq_zero (by simpa using hown.1)
   subst hx
   by_cases hm:k=0
   · subst hm
     refine ⟨.slice none 0 0,w,?_,World.ownsRow_nil w 0 nodeT 6,⟨rfl,rfl,rfl,Nat.le_refl _,fun _ _ _=>rfl⟩,.inl rfl⟩
     simp[Builtin.append_,run_underlying hu,run_underlying hti,sizeOf,typeInfo,hi,asInt,asIntOf,IntKind.wrap_i64]
   · have hr:=Lib.run_append_nil_zeros (P:=Tryz.prog) w z28 3 ty nodeT i0 _ .i64 .i64 hu hti hi hz0 k (by omega) (by rw[hz1]; decide) (by omega) (by rw[hz2]; omega)
     have hgr:=grown 0 (by omega) (Value.ownBlock (.slice none 0 0))
     simp only[Nat.zero_add,List.nil_append,Array.empty_append] at hgr ⊢
     exact ⟨_,_,hr,hgr.1,hgr.2,Or.inr rfl⟩
 · by_cases hroom:n+k≤cap
   · have hst:=run_storeCells_at Tryz.prog g (n*6) nodeT (rowOf (List.replicate k (z07,nHd))) 0 cur w hg (by rw[hrl,hcs]; omega) (z3v _)
     simp only[Nat.add_zero] at hst
     have hr:(Builtin.append_ #[z28,3] ty #[.slice (some ⟨g,0,none⟩) n cap,.int .i64 (k:Int)]).run Tryz.prog w= .ok (.slice (some ⟨g,0,none⟩) (n+k) cap) (w.setRow g (cur.toList.take (n*6)++rowOf (List.replicate k (z07,nHd))++cur.toList.drop (n*6+(rowOf (List.replicate k (z07,nHd))).length)).toArray):=by
      have hw:IntKind.i64.wrap (k:Int)=k:=by rw[IntKind.wrap_i64]; omega
      have hneg:¬((k:Int)<0):=by omega
      have h48i:¬(281474976710656<(k:Int)*88):=by omega
      by_cases hk0:k=0
      · subst hk0
        have hst0:=hst
        simp[rowOf,storeCells] at hst0
        simp[Builtin.append_,run_underlying hu,run_underlying hti,sizeOf,typeInfo,hi,hz2,asInt,asIntOf,hnc,IntKind.wrap_i64,storeCells,rowOf]
        exact hst0
      · have hns:¬(k*6=0):=by omega
        simp[Builtin.append_,run_underlying hu,run_underlying hti,sizeOf,typeInfo,zeroValue,hi,hz0,hz1,hz2,asInt,asIntOf,hw,hneg,h48i,hns,hroom,Addr.add_lit,z9u,hst]
     refine ⟨_,_,hr,⟨hlen,.inr ⟨g,cap,_,rfl,hbg,setRow_heap w g cur _ nodeT _ hg,hroom,hcm,?_,?_⟩⟩,⟨rfl,rfl,rfl,by simp,fun k _ hk=>setRow_other w g k _ (fun e=>hk (by simp[Value.ownBlock,e]))⟩,Or.inl rfl⟩
     · simp only[List.size_toArray,List.length_append,List.length_take,List.length_drop,Array.length_toList]
       omega
     · rw[htake,← hlen]
       exact List.take_left
   · have holds:∀j u,xs[j]? =some u→w.cell? ((⟨g,0,none⟩:Addr).add j)=some u:=hown.cells (g:=g) rfl
     have hold:(Builtin.firstCells i0.size n (.slice (some ⟨g,0,none⟩) n cap)).run Tryz.prog w.drew= .ok xs.toArray w.drew:=by
      rw[hz1];exact run_firstCells_some (P:=Tryz.prog) w.drew 6 n ⟨g,0,none⟩ n cap xs hown.1 (by simpa using holds)
     have hr:=Lib.run_append_grow_zeros (P:=Tryz.prog) w z28 3 ty nodeT i0 _ .i64 .i64 hu hti hi hz0 (some ⟨g,0,none⟩) n cap xs hold k (by omega) (by rw[hz1]; decide) (by omega) (by omega) (by rw[hz2]; omega) (by rw[hz2]; exact growslice_fits (by omega) (by omega));have hgr:=grown cap (by omega) (Value.ownBlock (.slice (some ⟨g,0,none⟩) n cap));exact ⟨_,_,hr,hgr.1,hgr.2,Or.inr rfl⟩
end Go.Proofs.YtblcibgphccfkaaGreatDoor
