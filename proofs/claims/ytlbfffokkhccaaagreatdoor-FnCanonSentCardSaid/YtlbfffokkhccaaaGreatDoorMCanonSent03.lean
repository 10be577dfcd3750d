/- Texts of the proof of the law FnCanonSent, side by side: part 3. -/
import Derived.Test.YtlbfffokkhccaaaGreatDoorMCanonSent02
set_option maxHeartbeats 8000000
set_option maxRecDepth 100000
open Go.Lib (hid)
namespace Go.Proofs.YtlbfffokkhccaaaGreatDoor
open Go.RowKit
theorem zbi (l:List UInt8):∀k,trimN l (trimN l k)=trimN l k
 | 0=>rfl
 | k+1=>by
   rw[trimN]
   split
   · exact zbi l k
   · rename_i h; rw[trimN,if_neg h]
theorem zbc (l:List UInt8):∀(k q:Nat),trimN l k≤q→q<k→zerB ((l.drop (8*q)).take 8)=true
 | 0,_,_,h=>absurd h (by omega)
 | k+1,q,h1,h2=>by
   rw[trimN] at h1
   split at h1
   · rename_i hz
     by_cases he:q=k
     · rw[he]; exact hz
     · exact zbc l k q h1 (by omega)
   · omega
theorem z92 (l m:List UInt8):∀k,(∀q,q<k→(l.drop (8*q)).take 8=(m.drop (8*q)).take 8)→trimN l k=trimN m k
 | 0,_=>rfl
 | k+1,h=>by rw[trimN,trimN,h k (by omega),z92 l m k (fun q hq=>h q (by omega))]
theorem zbr (l:List UInt8)(t:Nat):∀k,(∀q,t≤q→q<t+k→zerB ((l.drop (8*q)).take 8)=true)→trimN l (t+k)=trimN l t
 | 0,_=>rfl
 | k+1,h=>by rw[← Nat.add_assoc,trimN,if_pos (h (t+k) (by omega) (by omega)),zbr l t k (fun q h1 h2=>h q h1 (by omega))]
def tw (l:List UInt8):Nat:=trimN l (l.length/8)
def trimL (l:List UInt8):List UInt8:=l.take (8*tw l)
theorem tw_le (l:List UInt8):tw l≤l.length/8:=zhj l _
theorem z7w (l:List UInt8):(trimL l).length=8*tw l:=by
 have:=tw_le l;unfold trimL;rw[List.length_take];omega
theorem zja {l:List UInt8}(h:∀x∈l,x=0):zerB l=true:=by
 unfold zerB;rw[List.all_eq_true]
 intro x hx
 rw[h x hx]; rfl
theorem zsg {l:List UInt8}(h:zerB l=true):∀x∈l,x=0:=by
 unfold zerB at h;rw[List.all_eq_true] at h
 intro x hx
 simpa using h x hx
theorem zjr {l:List UInt8}{j:Nat}(h8:l.length%8=0)(h1:tw l≤j)(h2:8*j≤l.length):l.take (8*j)=trimL l++List.replicate (8*(j-tw l)) 0:=by
 have hs:l.take (8*j)=l.take (8*tw l)++(l.drop (8*tw l)).take (8*(j-tw l)):=by
  rw[show 8*j=8*tw l+8*(j-tw l) by omega,List.take_add]
 rw[hs];unfold trimL
 congr 1
 apply List.eq_replicate_iff.2
 refine ⟨by simp; omega,?_⟩
 intro x hx
 obtain ⟨i,hi,rfl⟩:=List.mem_iff_getElem.1 hx
 have hil:i<8*(j-tw l):=by simp at hi; omega
 have hq:=zbc l (l.length/8) (tw l+i/8) (by unfold tw; omega) (by omega);refine zsg hq _ ?_;rw[List.getElem_take,List.getElem_drop];refine List.mem_iff_getElem?.2 ⟨i%8,?_⟩;rw[List.getElem?_take_of_lt (Nat.mod_lt _ (by decide)),List.getElem?_drop];rw[show 8*(tw l+i/8)+i%8=8*tw l+i by omega];exact List.getElem?_eq_getElem _
theorem zf3 (l:List UInt8)(k:Nat):trimL (trimL l++List.replicate (8*k) 0)=trimL l:=by
 have hl:=z7w l
 have hlen:(trimL l++List.replicate (8*k) (0:UInt8)).length/8=tw l+k:=by rw[List.length_append,hl,List.length_replicate]; omega
 have h1:tw (trimL l++List.replicate (8*k) 0)=tw l:=by
  unfold tw at hlen ⊢;rw[hlen];rw[zbr _ (trimN l (l.length/8)) k]
  · rw[z92 _ l]
    · exact zbi l _
    · intro q hq
      have hq8:8*q+8≤(trimL l).length:=by rw[hl]; unfold tw; omega
      rw[List.drop_append_of_le_length (by omega),List.take_append_of_le_length (by rw[List.length_drop]; omega)];unfold trimL tw;rw[List.drop_take,List.take_take,Nat.min_eq_left (by omega)]
  · intro q h1 h2
    apply zja
    intro x hx
    have hx2:=List.mem_of_mem_take hx;rw[List.drop_append,List.drop_of_length_le (by rw[hl]; unfold tw; omega),List.nil_append] at hx2;exact (List.mem_replicate.1 (List.mem_of_mem_drop hx2)).2
 have h2:trimL (trimL l++List.replicate (8*k) 0)=(trimL l++List.replicate (8*k) 0).take (8*tw l):=by rw[← h1]; rfl
 rw[h2,List.take_append_of_le_length (by rw[hl]; exact Nat.le_refl _),List.take_of_length_le (by rw[hl]; exact Nat.le_refl _)]
theorem zie (l:List UInt8):trimL (trimL l)=trimL l:=by
 have:=zf3 l 0
 simpa using this
def trimD (d:ByteArray):ByteArray:=⟨(trimL d.data.toList).toArray⟩
def zeroD (n:Nat):ByteArray:=⟨(List.replicate n 0).toArray⟩
theorem z31 (d:ByteArray):(trimD d).data.toList=trimL d.data.toList:=by simp[trimD]
theorem z2j (d:ByteArray):(trimD d).size=8*tw d.data.toList:=by
 have:=z7w d.data.toList
 show (trimL d.data.toList).toArray.size=_
 simpa using this
theorem ext_d {a b:ByteArray}(h:a.data.toList=b.data.toList):a=b:=by
 cases a; cases b; simp_all
theorem z7n (n:Nat):(zeroD n).size=n:=by show (List.replicate n (0:UInt8)).toArray.size=n; simp
theorem zll (d:ByteArray)(k:Nat):trimD (trimD d++zeroD (8*k))=trimD d:=by
 apply ext_d
 rw[z31,z31,ByteArray.data_append,Array.toList_append,z31]
 show trimL (trimL d.data.toList++List.replicate (8*k) 0)=_
 exact zf3 _ _
theorem zil (d:ByteArray):trimD (trimD d)=trimD d:=by
 apply ext_d
 rw[z31,z31,zie]
theorem zna {d:ByteArray}{j:Nat}(h8:d.size%8=0)(h1:tw d.data.toList≤j)(h2:8*j≤d.size):d.extract 0 (8*j)=trimD d++zeroD (8*(j-tw d.data.toList)):=by
 have hl:d.data.toList.length=d.size:=by simp
 apply ext_d
 rw[ByteArray.data_append,Array.toList_append,z31]
 show _=trimL d.data.toList++List.replicate _ 0
 rw[← zjr (by rw[hl]; exact h8) h1 (by rw[hl]; exact h2)]
 simp[ByteArray.data_extract]
def z0i:Nd:= .mk 0 ⟨#[]⟩ [] 0 0 []
def endK (l:List Nd):Nat→Nat
 | 0=>0
 | k+1=>if (l[k]?.getD z0i).kind=0 then endK l k else k+1
theorem zkg (l:List Nd):∀k,endK l k≤k
 | 0=>Nat.le_refl _
 | k+1=>by
   unfold endK
   split
   · have:=zkg l k; omega
   · omega
theorem zf5 (l:List Nd):∀k,endK l (endK l k)=endK l k
 | 0=>rfl
 | k+1=>by
   rw[endK]
   split
   · exact zf5 l k
   · rename_i h; rw[endK,if_neg h]
theorem zf4 (l:List Nd):∀(k q:Nat),endK l k≤q→q<k→(l[q]?.getD z0i).kind=0
 | 0,_,_,h=>absurd h (by omega)
 | k+1,q,h1,h2=>by
   rw[endK] at h1
   split at h1
   · rename_i hz
     by_cases he:q=k
     · rw[he]; exact hz
     · exact zf4 l k q h1 (by omega)
   · omega
theorem zb5 (l m:List Nd):∀k,(∀q,q<k→(l[q]?.getD z0i).kind=(m[q]?.getD z0i).kind)→endK l k=endK m k
 | 0,_=>rfl
 | k+1,h=>by rw[endK,endK,h k (by omega),zb5 l m k (fun q hq=>h q (by omega))]
theorem zeu (l:List Nd)(t:Nat):∀k,(∀q,t≤q→q<t+k→(l[q]?.getD z0i).kind=0)→endK l (t+k)=endK l t
 | 0,_=>rfl
 | k+1,h=>by rw[← Nat.add_assoc,endK,if_pos (h (t+k) (by omega) (by omega)),zeu l t k (fun q h1 h2=>h q h1 (by omega))]
def endC (l:List Nd):Nat:=endK l l.length
def endP (l:List Nd):List Nd:=l.take (endC l)
theorem z7c (l:List Nd):endC l≤l.length:=zkg l _
theorem z1q (l:List Nd):(endP l).length=endC l:=by unfold endP; rw[List.length_take]; have:=z7c l; omega
theorem z8f {l:List Nd}{n:Nd}(h:n∈endP l):n∈l:=List.mem_of_mem_take h
theorem zgv (l:List Nd)(k:Nat):endP (endP l++List.replicate k z0i)=endP l:=by
 have hl:=z1q l
 have hlen:(endP l++List.replicate k z0i).length=endC l+k:=by rw[List.length_append,hl,List.length_replicate]
 have h1:endC (endP l++List.replicate k z0i)=endC l:=by
  have he:endC (endP l++List.replicate k z0i)=endK (endP l++List.replicate k z0i) (endC l+k):=by
   show endK _ (endP l++List.replicate k z0i).length=_
   rw[hlen]
  rw[he];rw[zeu _ (endC l) k]
  · rw[zb5 _ l]
    · exact zf5 l _
    · intro q hq
      rw[List.getElem?_append_left (by rw[hl]; exact hq)];unfold endP;rw[List.getElem?_take_of_lt hq]
  · intro q h1 h2
    rw[List.getElem?_append_right (by rw[hl]; exact h1),hl,List.getElem?_replicate,if_pos (by omega)]
    rfl
 have h2:endP (endP l++List.replicate k z0i)=(endP l++List.replicate k z0i).take (endC l):=by rw[← h1]; rfl
 rw[h2,List.take_append_of_le_length (by rw[hl]; exact Nat.le_refl _),List.take_of_length_le (by rw[hl]; exact Nat.le_refl _)]
theorem zjs (l:List Nd):endP (endP l)=endP l:=by
 have:=zgv l 0
 simpa using this
def topD:List Nd→Nat
 | []=>0
 | n :: t=>max n.data.size (topD t)
def topP:List Nd→Nat
 | []=>0
 | n :: t=>max n.ptrs.length (topP t)
theorem zdu:∀(l:List Nd) (x:Nd),topD (l++ [x])=max (topD l) x.data.size
 | [],x=>by simp[topD]
 | n :: t,x=>by rw[List.cons_append,topD,topD,zdu t x]; omega
theorem zdy:∀(l:List Nd) (x:Nd),topP (l++ [x])=max (topP l) x.ptrs.length
 | [],x=>by simp[topP]
 | n :: t,x=>by rw[List.cons_append,topP,topP,zdy t x]; omega
theorem z7f:∀(l:List Nd),∀n∈l,n.data.size≤topD l
 | [],_,h=>by cases h
 | a :: t,n,h=>by
   rw[topD]
   rcases List.mem_cons.1 h with rfl | h
   · omega
   · have:=z7f t n h; omega
theorem z9b:∀(l:List Nd),∀n∈l,n.ptrs.length≤topP l
 | [],_,h=>by cases h
 | a :: t,n,h=>by
   rw[topP]
   rcases List.mem_cons.1 h with rfl | h
   · omega
   · have:=z9b t n h; omega
theorem zf8:∀(l:List Nd),topD l=0∨∃n∈l,n.data.size=topD l
 | []=> .inl rfl
 | a :: t=>by
   rw[topD]
   rcases Nat.lt_or_ge a.data.size (topD t) with h | h
   · rcases zf8 t with h0 | ⟨n,hn,he⟩
     · omega
     · exact .inr ⟨n,List.mem_cons_of_mem _ hn,by omega⟩
   · exact .inr ⟨a,List.mem_cons_self,by omega⟩
theorem zka:∀(l:List Nd),topP l=0∨∃n∈l,n.ptrs.length=topP l
 | []=> .inl rfl
 | a :: t=>by
   rw[topP]
   rcases Nat.lt_or_ge a.ptrs.length (topP t) with h | h
   · rcases zka t with h0 | ⟨n,hn,he⟩
     · omega
     · exact .inr ⟨n,List.mem_cons_of_mem _ hn,by omega⟩
   · exact .inr ⟨a,List.mem_cons_self,by omega⟩
theorem zfy {l:List Nd}{b:Nat}(h:∀n∈l,n.data.size≤b):topD l≤b:=by
 rcases zf8 l with h0 | ⟨n,hn,he⟩
 · omega
 · rw[← he]; exact h n hn
theorem zfd {l:List Nd}{b:Nat}(h:∀n∈l,n.ptrs.length≤b):topP l≤b:=by
 rcases zka l with h0 | ⟨n,hn,he⟩
 · omega
 · rw[← he]; exact h n hn
def evenN (D P:Nat)(n:Nd):Nd:= .mk n.kind (n.data++zeroD (D-n.data.size)) (n.ptrs++List.replicate (P-n.ptrs.length) z0i) n.size n.count n.items
def evenL (l:List Nd):List Nd:=l.map (evenN (topD l) (topP l))
def formT (k:Int)(d:ByteArray)(p:List Nd)(s c:Int)(i:List Nd):Nd:=if k=1 then .mk k (trimD d) (endP p) s c (evenL i) else .mk k d p s c (evenL i)
mutual
def canN:Nd→Nd
 | .mk k d p s c i=>formT k d (canL p) s c (canL i)
def canL:List Nd→List Nd
 | []=> []
 | n :: t=>canN n :: canL t
end
theorem zcy:∀l:List Nd,canL l=l.map canN
 | []=>by rw[canL]; rfl
 | n :: t=>by rw[canL,zcy t]; rfl
theorem z7l (n:Nd):canN n=formT n.kind n.data (n.ptrs.map canN) n.size n.count (n.items.map canN):=by
 cases n with
 | mk k d p s c i=>rw[canN,zcy,zcy]; rfl
theorem zmx (n:Nd):(canN n).kind=n.kind:=by
 rw[z7l];unfold formT
 split <;> rfl
theorem z2g:canN z0i=z0i:=by
 rw[z7l]
 rfl
theorem zph {d:ByteArray}(h:d.size=0):d=⟨#[]⟩:=by
 cases d with
 | mk a =>
  have:a= #[]:=by
   apply Array.eq_empty_of_size_eq_zero
   exact h
  rw[this]
theorem z4p {n:Nd}(h:formN n=true)(hk:n.kind=0):n=z0i:=by
 rcases z0d h with hc | hc | hc
 · obtain ⟨h0,h1,h2,h3,h4,h5⟩:=hc
   cases n with
   | mk k d p s c i =>
    simp only[Nd.kind,Nd.data,Nd.ptrs,Nd.size,Nd.count,Nd.items] at *
    rw[h0,zph h1,z06 h2,h3,h4,z06 h5]
    rfl
 · omega
 · omega
theorem za0:formN z0i=true:=by decide
theorem zmv:∀d,okN d z0i=true
 | 0=>by simp[okN,za0]; rfl
 | d+1=>by simp[okN,za0]; left; rfl
theorem zex:∀d,z03 d z0i=0
 | 0=>rfl
 | d+1=>by simp[z03,ptrsL,ownN,ownB,z0i,Nd.ptrs,Nd.items,Nd.data,Nd.kind]; decide
theorem z24 {n:Nd}(h1:n.kind=1)(h3:n.size=0)(h4:n.count=0)(h5:n.items= []):canN n= .mk 1 (trimD n.data) (endP (n.ptrs.map canN)) 0 0 []:=by
 rw[z7l,h1,h3,h4,h5]
 rfl
theorem z6g {n:Nd}(h1:n.kind=2):canN n= .mk 2 n.data (n.ptrs.map canN) n.size n.count (evenL (n.items.map canN)):=by
 rw[z7l,h1]
 rfl
theorem map_id {l:List Nd}{f:Nd→Nd}(h:∀n∈l,f n=n):l.map f=l:=by
 conv=>rhs; rw[← List.map_id l]
 exact List.map_congr_left h
theorem z19 {l:List Nd}(hi:z0c l=true):∀y∈l,y.kind=1∧y.data.size%8=0∧y.size=0∧y.count=0∧y.items= []∧y.data.size=(l.headD default).data.size∧y.ptrs.length=(l.headD default).ptrs.length:=by
 intro y hy
 have h1:=List.all_eq_true.1 hi y hy;unfold itemB at h1
 simp only[Bool.and_eq_true,decide_eq_true_eq,z1z] at h1
 obtain ⟨⟨h2,h3,h4,h5,h6⟩,h7,h8⟩:=h1;exact ⟨h2,by omega,h4,h5,z06 h6,h7,h8⟩
theorem zmy {Q:List Nd}{P:Nat}(h1:endC Q≤P)(h2:P≤Q.length)(hn:∀q∈Q,q.kind=0→q=z0i):Q.take P=endP Q++List.replicate (P-endC Q) z0i:=by
 have hs:Q.take P=Q.take (endC Q)++(Q.drop (endC Q)).take (P-endC Q):=by
  conv=>lhs; rw[show P=endC Q+(P-endC Q) by omega]
  rw[List.take_add]
 rw[hs];unfold endP
 congr 1
 apply List.eq_replicate_iff.2
 refine ⟨by simp; omega,?_⟩
 intro x hx
 obtain ⟨i,hi,rfl⟩:=List.mem_iff_getElem.1 hx
 have hil:i<P-endC Q:=by simp at hi; omega
 rw[List.getElem_take,List.getElem_drop];refine hn _ (List.getElem_mem _) ?_;have hz:=zf4 Q Q.length (endC Q+i) (by unfold endC; omega) (by omega);rw[List.getElem?_eq_getElem (by omega)] at hz;exact hz
theorem zed {D P:Nat}{n:Nd}(h:n.data.size≤D):(evenN D P n).data.size=D:=by
 show (n.data++zeroD _).size=D
 rw[z1g,z7n]; omega
theorem zde {D P:Nat}{n:Nd}(h:n.ptrs.length≤P):(evenN D P n).ptrs.length=P:=by
 show (n.ptrs++List.replicate _ z0i).length=P
 rw[List.length_append,List.length_replicate]; omega
theorem z3u {n:Nd}(h1:n.kind=1)(h3:n.size=0)(h4:n.count=0)(h5:n.items= []):(canN n).data.size=8*tw n.data.data.toList:=by
 rw[z24 h1 h3 h4 h5]; exact z2j _
theorem zk2 {l:List Nd}(h:∀n∈l,n.data.size%8=0):topD l%8=0:=by
 rcases zf8 l with h0 | ⟨n,hn,he⟩
 · omega
 · rw[← he]; exact h n hn
theorem zp0 {y:Nd}{D P:Nat}(h1:y.kind=1)(h3:y.size=0)(h4:y.count=0)(h5:y.items= [])(h8:D%8=0)(hD:(canN y).data.size≤D)(hc:∀p∈y.ptrs,canN (canN p)=canN p):canN (evenN D P (canN y))=canN y:=by
 have hd:=z3u h1 h3 h4 h5;rw[z24 h1 h3 h4 h5] at hD hd ⊢;have hd':(trimD y.data).size=8*tw y.data.data.toList:=z2j _;have hD':(trimD y.data).size≤D:=hD;unfold evenN;rw[z24 rfl rfl rfl rfl]
 show Nd.mk 1 (trimD (trimD y.data++zeroD (D-(trimD y.data).size))) (endP ((endP (y.ptrs.map canN)++List.replicate (P-(endP (y.ptrs.map canN)).length) z0i).map canN)) 0 0 []=_
 rw[show D-(trimD y.data).size=8*(D/8-tw y.data.data.toList) by omega,zll,List.map_append,List.map_replicate,z2g];rw[map_id (f:=canN) (l:=endP (y.ptrs.map canN)),zgv]
 intro n hn
 obtain ⟨p,hp,rfl⟩:=List.mem_map.1 (z8f hn);exact hc p hp
theorem zmo:∀(d:Nat) (n:Nd),okN d n=true→canN (canN n)=canN n
 | 0,n,h=>by
   have hf:=(z1h h).1
   simp only[okN,Bool.and_eq_true,decide_eq_true_eq] at h
   rw[z4p hf h.2,z2g,z2g]
 | d+1,n,h=>by
   obtain ⟨hf,hk⟩:=z1h h
   have ih:∀p∈n.ptrs,canN (canN p)=canN p:=fun p hp=>zmo d p (hk p (List.mem_append_left _ hp))
   have ihi:∀y∈n.items,∀p∈y.ptrs,canN (canN p)=canN p:=fun y hy p hp=>zmo d p (hk p (List.mem_append_right _ (List.mem_flatMap.2 ⟨y,hy,hp⟩)))
   have hmm:(n.ptrs.map canN).map canN=n.ptrs.map canN:=map_id fun x hx=>by
    obtain ⟨p,hp,rfl⟩:=List.mem_map.1 hx;exact ih p hp
   rcases z0d hf with hc | hc | hc
   · rw[z4p hf hc.1,z2g,z2g]
   · obtain ⟨h1,h2,h3,h4,h5⟩:=hc
     rw[z24 h1 h3 h4 (z06 h5),z24 rfl rfl rfl rfl]
     show Nd.mk 1 (trimD (trimD n.data)) (endP ((endP (n.ptrs.map canN)).map canN)) 0 0 []=_
     rw[zil,map_id (f:=canN) (l:=endP (n.ptrs.map canN)),zjs]
     intro x hx
     obtain ⟨p,hp,rfl⟩:=List.mem_map.1 (z8f hx);exact ih p hp
   · obtain ⟨h1,h2,h3⟩:=hc
     rw[z6g h1,z6g rfl]
     show Nd.mk 2 n.data ((n.ptrs.map canN).map canN) n.size n.count (evenL ((evenL (n.items.map canN)).map canN))=_
     rw[hmm]
     congr 2
     unfold evenL;rw[List.map_map]
     conv=>rhs; rw[← List.map_id (n.items.map canN)]
     have hit:∀x∈n.items.map canN,canN (evenN (topD (n.items.map canN)) (topP (n.items.map canN)) x)=x:=by
      intro x hx
      have hxl:=z7f _ x hx;obtain ⟨y,hy,rfl⟩:=List.mem_map.1 hx
      rcases h3 with hc | hc | hc
      · rw[z06 hc.2.2.2.2] at hy; cases hy
      · rw[z06 hc.2.2.2] at hy; cases hy
      · have hi:=hc.2.2.2.2
        obtain ⟨k1,k2,k3,k4,k5,_,_⟩:=z19 hi y hy;refine zp0 k1 k3 k4 k5 (zk2 ?_) hxl (ihi y hy)
        intro z hz
        obtain ⟨y2,hy2,rfl⟩:=List.mem_map.1 hz;obtain ⟨k1,k2,k3,k4,k5,_,_⟩:=z19 hi y2 hy2
        rw[z3u k1 k3 k4 k5]; omega
     rw[List.map_congr_left (g:=id) (fun x hx=>by simpa using hit x hx),List.map_id]
theorem zpu {n:Nd}(h1:n.kind=1)(h2:n.data.size%8=0)(h3:n.size=0)(h4:n.count=0)(h5:n.items= []):formN n=true:=by
 unfold formN strN z1z;rw[h5]
 have:(n.data.size:Int)%8=0:=by omega
 simp[h1,h3,h4,this]
theorem zpb {n:Nd}(h:formN n=true):formN (canN n)=true:=by
 rcases z0d h with hc | hc | hc
 · rw[z4p h hc.1,z2g]; exact za0
 · obtain ⟨h1,h2,h3,h4,h5⟩:=hc
   rw[z24 h1 h3 h4 (z06 h5)];exact zpu rfl (by show (trimD n.data).size%8=0; rw[z2j]; omega) rfl rfl rfl
 · obtain ⟨h1,h2,h3⟩:=hc
   rw[z6g h1]
   have hw:wiB n.count 12801=true:=by simpa [wiB] using h2
   unfold formN;rw[Bool.or_eq_true,Bool.or_eq_true]
   right; right
   show listB 2 n.size n.count n.data (n.ptrs.map canN).length (evenL (n.items.map canN)).length (z0c (evenL (n.items.map canN)))=true
   have hle:(evenL (n.items.map canN)).length=n.items.length:=by unfold evenL; rw[List.length_map,List.length_map]
   unfold listB;rw[hw,List.length_map,hle]
   rcases h3 with ⟨a1,a2,a3,a4,a5⟩ | ⟨a1,a2,a3,a4⟩ | ⟨a1,a2,a3,a4,a5⟩
   · rw[if_pos ⟨a1,a2⟩]
     simp[a3,a4,a5]
   · rw[if_neg (by omega),if_pos a1]
     simp[a2,a3,a4]
   · rw[if_neg (by omega),if_neg (by omega),if_pos a1]
     have hi:z0c (evenL (n.items.map canN))=true:=by
      unfold z0c;rw[List.all_eq_true]
      have hall:∀z∈evenL (n.items.map canN),z.kind=1∧z.size=0∧z.count=0∧z.items= []∧z.data.size=topD (n.items.map canN)∧z.ptrs.length=topP (n.items.map canN):=by
       intro z hz
       obtain ⟨x,hx,rfl⟩:=List.mem_map.1 hz;have hd:=z7f _ x hx;have hp:=z9b _ x hx;obtain ⟨y,hy,rfl⟩:=List.mem_map.1 hx;obtain ⟨k1,k2,k3,k4,k5,_,_⟩:=z19 a5 y hy
       refine ⟨?_,?_,?_,?_,zed hd,zde hp⟩ <;> rw[z24 k1 k3 k4 k5] <;> rfl
      have h8:topD (n.items.map canN)%8=0:=zk2 fun z hz=>by
       obtain ⟨y2,hy2,rfl⟩:=List.mem_map.1 hz;obtain ⟨k1,k2,k3,k4,k5,_,_⟩:=z19 a5 y2 hy2
       rw[z3u k1 k3 k4 k5]; omega
      intro z hz
      obtain ⟨z1,z2,z3,z4,z5,z6⟩:=hall z hz
      have hh:(evenL (n.items.map canN)).headD default∈evenL (n.items.map canN):=by
       generalize evenL (n.items.map canN)=l at hz
       cases l with
       | nil=>cases hz
       | cons a t=>exact List.mem_cons_self
      obtain ⟨_,_,_,_,y5,y6⟩:=hall _ hh;unfold itemB z1z;rw[z4]
      have:(z.data.size:Int)%8=0:=by omega
      simp only[Bool.and_eq_true,decide_eq_true_eq]
      exact ⟨⟨z1,this,z2,z3,rfl⟩,by omega,by omega⟩
     simp[a2,a3,a4,hi]
theorem znw {n:Nd}(h:formN n=true):∀x∈ptrsL (canN n),x=z0i∨∃p∈ptrsL n,x=canN p:=by
 intro x hx
 unfold ptrsL at hx
 rcases z0d h with hc | hc | hc
 · rw[z4p h hc.1,z2g] at hx; cases hx
 · obtain ⟨h1,h2,h3,h4,h5⟩:=hc
   rw[z24 h1 h3 h4 (z06 h5)] at hx
   have hx':x∈endP (n.ptrs.map canN):=by simpa [Nd.ptrs,Nd.items] using hx
   obtain ⟨p,hp,rfl⟩:=List.mem_map.1 (z8f hx');exact .inr ⟨p,List.mem_append_left _ hp,rfl⟩
 · obtain ⟨h1,h2,h3⟩:=hc
   rw[z6g h1] at hx
   rcases List.mem_append.1 hx with hx | hx
   · obtain ⟨p,hp,rfl⟩:=List.mem_map.1 hx
     exact .inr ⟨p,List.mem_append_left _ hp,rfl⟩
   · obtain ⟨z,hz,hxz⟩:=List.mem_flatMap.1 hx
     obtain ⟨c,hcz,rfl⟩:=List.mem_map.1 hz;obtain ⟨y,hy,rfl⟩:=List.mem_map.1 hcz
     rcases List.mem_append.1 (show x∈(canN y).ptrs++List.replicate _ z0i from hxz) with hxy | hxy
     · obtain ⟨k1,k2,k3⟩:=z8k h y hy
       rcases z0d k1 with hc | hc | hc
       · omega
       · rw[z24 hc.1 hc.2.2.1 hc.2.2.2.1 k3] at hxy
         obtain ⟨p,hp,rfl⟩:=List.mem_map.1 (z8f hxy);exact .inr ⟨p,List.mem_append_right _ (List.mem_flatMap.2 ⟨y,hy,hp⟩),rfl⟩
       · omega
     · exact .inl (List.mem_replicate.1 hxy).2
theorem zqj:∀(d:Nat) (n:Nd),okN d n=true→okN d (canN n)=true
 | 0,n,h=>by
   have hf:=(z1h h).1
   simp only[okN,Bool.and_eq_true,decide_eq_true_eq] at h
   rw[z4p hf h.2,z2g]; exact zmv 0
 | d+1,n,h=>by
   obtain ⟨hf,hk⟩:=z1h h
   show (formN (canN n)&&(decide ((canN n).kind=0)||(ptrsL (canN n)).all (okN d)))=true
   rw[zpb hf,Bool.true_and,Bool.or_eq_true]
   right
   rw[List.all_eq_true]
   intro x hx
   rcases znw hf x hx with rfl | ⟨p,hp,rfl⟩
   · exact zmv d
   · exact zqj d p (hk p hp)
theorem znu {f:Nd→Nat}(h:f z0i=0)(k:Nat):((List.replicate k z0i).map f).sum=0:=by
 rw[List.map_replicate,h,List.sum_replicate_nat]; simp
theorem zrl (d:ByteArray)(p:List Nd):ownN (.mk 1 d p 0 0 [])=(d.size+7)/8+p.length:=by simp[ownN,ownB,Nd.data,Nd.ptrs,Nd.kind,Nd.items]
theorem z9h:∀(d:Nat) (n:Nd),okN d n=true→z03 d (canN n)≤z03 d n
 | 0,_,_=>Nat.le_refl _
 | d+1,n,h=>by
   obtain ⟨hf,hk⟩:=z1h h
   have ih:((n.ptrs.map canN).map (z03 d)).sum≤(n.ptrs.map (z03 d)).sum:=by
    rw[List.map_map]
    exact z62 _ _ _ fun p hp=>z9h d p (hk p (List.mem_append_left _ hp))
   show ownN (canN n)+((ptrsL (canN n)).map (z03 d)).sum≤ownN n+((ptrsL n).map (z03 d)).sum
   rcases z0d hf with hc | hc | hc
   · rw[z4p hf hc.1,z2g]; exact Nat.le_refl _
   · obtain ⟨h1,h2,h3,h4,h5⟩:=hc
     have h5':=z06 h5
     have e1:ptrsL (canN n)=endP (n.ptrs.map canN):=by rw[z24 h1 h3 h4 h5']; simp[ptrsL,Nd.ptrs,Nd.items]
     have e2:ptrsL n=n.ptrs:=by unfold ptrsL; rw[h5']; simp
     have e3:ownN (canN n)=(trimD n.data).size/8+(endP (n.ptrs.map canN)).length:=by
      rw[z24 h1 h3 h4 h5',zrl,z2j]; omega
     have e4:ownN n=n.data.size/8+n.ptrs.length:=by
      unfold ownN ownB;rw[h5',if_neg (by omega)]
      simp only[List.map_nil,List.sum_nil]; omega
     rw[e1,e2,e3,e4];have l1:=z2j n.data;have l2:=tw_le n.data.data.toList
     have l3:n.data.data.toList.length=n.data.size:=by simp
     have l4:=z7c (n.ptrs.map canN);have l5:=z1q (n.ptrs.map canN)
     have l6:(n.ptrs.map canN).length=n.ptrs.length:=by rw[List.length_map]
     have l7:((endP (n.ptrs.map canN)).map (z03 d)).sum≤((n.ptrs.map canN).map (z03 d)).sum:=z18 _ _ _;omega
   · obtain ⟨h1,h2,h3⟩:=hc
     have e1:ptrsL (canN n)=n.ptrs.map canN++(evenL (n.items.map canN)).flatMap Nd.ptrs:=by rw[z6g h1]; rfl
     have e3:ownN (canN n)=ownB (.mk 2 n.data (n.ptrs.map canN) n.size n.count (evenL (n.items.map canN)))+(if n.kind=2∧n.size=7 then 1 else 0)+((evenL (n.items.map canN)).map ownB).sum:=by
      rw[z6g h1]; unfold ownN; rw[h1]; rfl
     have e4:ownB (.mk 2 n.data (n.ptrs.map canN) n.size n.count (evenL (n.items.map canN)))=ownB n:=by unfold ownB; simp[Nd.data,Nd.ptrs]
     have e5:((evenL (n.items.map canN)).map ownB).sum+(((evenL (n.items.map canN)).flatMap Nd.ptrs).map (z03 d)).sum≤(n.items.map ownB).sum+((n.items.flatMap Nd.ptrs).map (z03 d)).sum:=by
      rcases h3 with hc | hc | hc
      · rw[z06 hc.2.2.2.2]; exact Nat.le_refl _
      · rw[z06 hc.2.2.2]; exact Nat.le_refl _
      · have hi:=hc.2.2.2.2
        have hb:=z19 hi
        have hD:topD (n.items.map canN)≤(n.items.headD default).data.size:=zfy fun z hz=>by
         obtain ⟨y,hy,rfl⟩:=List.mem_map.1 hz;obtain ⟨k1,k2,k3,k4,k5,k6,_⟩:=hb y hy;rw[z3u k1 k3 k4 k5];have l2:=tw_le y.data.data.toList
         have l3:y.data.data.toList.length=y.data.size:=by simp
         omega
        have hP:topP (n.items.map canN)≤(n.items.headD default).ptrs.length:=zfd fun z hz=>by
         obtain ⟨y,hy,rfl⟩:=List.mem_map.1 hz;obtain ⟨k1,k2,k3,k4,k5,_,k7⟩:=hb y hy;rw[z24 k1 k3 k4 k5]
         show (endP (y.ptrs.map canN)).length≤_
         have l4:=z7c (y.ptrs.map canN);rw[z1q];rw[List.length_map] at l4;omega
        have hm:∀y∈n.items,(evenN (topD (n.items.map canN)) (topP (n.items.map canN)) (canN y)).data.size=topD (n.items.map canN)∧(evenN (topD (n.items.map canN)) (topP (n.items.map canN)) (canN y)).ptrs.length=topP (n.items.map canN):=fun y hy =>
         ⟨zed (z7f _ _ (List.mem_map.2 ⟨y,hy,rfl⟩)),zde (z9b _ _ (List.mem_map.2 ⟨y,hy,rfl⟩))⟩
        have hk2:∀y∈n.items,∀p∈y.ptrs,okN d p=true:=fun y hy p hp=>hk p (List.mem_append_right _ (List.mem_flatMap.2 ⟨y,hy,hp⟩))
        unfold evenL;generalize topD (n.items.map canN)=D at *;generalize topP (n.items.map canN)=P at *
        have hone:∀y∈n.items,ownB (evenN D P (canN y))+((evenN D P (canN y)).ptrs.map (z03 d)).sum≤ownB y+(y.ptrs.map (z03 d)).sum:=by
         intro y hy
         obtain ⟨m1,m2⟩:=hm y hy;obtain ⟨k1,k2,k3,k4,k5,k6,k7⟩:=hb y hy
         have q1:ownB (evenN D P (canN y))≤ownB y:=by unfold ownB; rw[m1,m2]; omega
         have q2:((evenN D P (canN y)).ptrs.map (z03 d)).sum≤(y.ptrs.map (z03 d)).sum:=by
          show (((canN y).ptrs++List.replicate _ z0i).map (z03 d)).sum≤_
          rw[List.map_append,List.sum_append,znu (zex d),Nat.add_zero,z24 k1 k3 k4 k5];refine Nat.le_trans (z18 (y.ptrs.map canN) _ (endC (y.ptrs.map canN))) ?_;rw[List.map_map]
          exact z62 _ _ _ fun p hp=>z9h d p (hk2 y hy p hp)
         omega
        clear hm hk2 hb hD hP hi hc hk ih e1 e3 e4;generalize n.items=l at *
        induction l with
        | nil=>exact Nat.le_refl _
        | cons a t iht =>
         have g1:=hone a List.mem_cons_self;have g2:=iht (fun y hy=>hone y (List.mem_cons_of_mem _ hy))
         simp only[List.map_cons,List.sum_cons,List.flatMap_cons,List.map_append,List.sum_append] at g2 ⊢
         omega
     rw[e1,e3,e4];unfold ownN ptrsL;rw[List.map_append,List.sum_append,List.map_append,List.sum_append];omega
theorem zjg {n:Nd}(h:z0g n=true):z0g (canN n)=true:=by
 obtain ⟨h1,h2⟩:=z21 h;exact zcj (zqj 8 n h1) (Nat.le_trans (z9h 8 n h1) h2)
end Go.Proofs.YtlbfffokkhccaaaGreatDoor
namespace Go.Proofs.YtlbfffokkhccaaaGreatDoor
structure SOk (L:Nat) (ss:Segs):Prop where
 wds:WdS ss
 one:1≤ss.length
 six:ss.length≤6
 totS:totS ss≤L
theorem SOk.put {L:Nat}{ss:Segs}(h:SOk L ss){i a:Nat}{t:List UInt8}(hi:i<ss.length)(ha:8*a+t.length≤(sgS ss i).length):SOk L (putS ss i a t) :=
 ⟨(z0s hi ha).wds h.wds,by rw[z0a]; exact h.one,by rw[z0a]; exact h.six,by rw[z1j hi ha]; exact h.totS⟩
theorem SOk.grow {L:Nat}{ss:Segs}(h:SOk L ss){i k:Nat}(hi:i<ss.length)(ht:Go.Proofs.YtlbfffokkhccaaaGreatDoor.totS ss+k≤L):SOk L (growB ss i k) :=
 ⟨z5s hi h.wds,by rw[z0b]; exact h.one,by rw[z0b]; exact h.six,by rw[z2t hi]; exact ht⟩
theorem z6s {ss:Segs}{i a:Nat}{t:List UInt8}(hi:i<ss.length)(ha:8*a+t.length≤(sgS ss i).length):Grew ss (putS ss i a t):=(z0s hi ha).grew
theorem Alen.wn {a b:Segs}(h:Alen a b)(i:Nat):wn (sgS a i)=wn (sgS b i):=by unfold Go.Proofs.YtlbfffokkhccaaaGreatDoor.wn; rw[h.2 i]
theorem room8 {ss:Segs}(hw:WdS ss){i a k:Nat}(ha:a+k≤wn (sgS ss i)):8*a+8*k≤(sgS ss i).length:=by have:=z10 hw i; omega
theorem z4a {L size:Nat}{ss s1:Segs}{k j:Nat}(hk:SOk L ss)(h:z2e size ss k=some (s1,j)):SOk L s1∧Grew ss s1∧j<s1.length:=by
 unfold z2e at h
 split at h
 · injection h with h
   injection h with h1 h2
   subst h1 h2;exact ⟨hk,Grew.refl _,by have:=hk.one; omega⟩
 · split at h
   · injection h with h
     injection h with h1 h2
     subst h1 h2;exact ⟨⟨zk5 hk.wds,by simp,by simp; omega,by rw[z6p]; exact hk.totS⟩,znm _,by simp⟩
   · cases h
theorem z3l {L size:Nat}{n:Nd}{ss s1:Segs}{i a j c:Nat}(hk:SOk L ss)(hi:i<ss.length)(ha:a<wn (sgS ss i))(h:roomP L size n ss i a=some (s1,j,c)):SOk L s1∧Grew ss s1∧j<s1.length∧c+ownN n≤wn (sgS s1 j):=by
 unfold roomP at h
 split at h
 · split at h
   · rename_i ht
     injection h with h
     injection h with h1 h2
     injection h2 with h2 h3
     subst h1 h2 h3;have hg:=hk.grow hi ht
     have hi':i<(growB ss i (ownN n)).length:=by rw[z0b]; exact hi
     have hr:=room8 (k:=1) hg.wds (i:=i) (a:=a) (by rw[z2q hi]; omega)
     have hp:8*a+(ptrW n ((wn (sgS ss i):Int)-a-1)).length≤(sgS (growB ss i (ownN n)) i).length:=by rw[z0f]; omega
     refine ⟨hg.put hi' hp,(z2p hi).trans (z6s hi' hp),by rw[z0a]; exact hi',?_⟩;rw[← (z0s hi' hp).wn,z2q hi];omega
   · cases h
 · split at h
   · cases h
   · rename_i s0 j0 ho
     obtain ⟨h1,h2,h3⟩:=z4a hk ho
     split at h
     · rename_i ht
       injection h with h
       injection h with e1 e2
       injection e2 with e2 e3
       subst e1 e2 e3;have hg:=h1.grow h3 ht
       have hi':i<(growB s0 j0 (1+ownN n)).length:=by rw[z0b]; exact Nat.lt_of_lt_of_le hi h2.1
       have hj':j0<(growB s0 j0 (1+ownN n)).length:=by rw[z0b]; exact h3
       have hai:a<wn (sgS (growB s0 j0 (1+ownN n)) i):=Nat.lt_of_lt_of_le ha ((h2.trans (z2p h3)).wn i);have hr:=room8 (k:=1) hg.wds (i:=i) (a:=a) (by omega)
       have hp:8*a+(farW (wn (sgS s0 j0)) j0).length≤(sgS (growB s0 j0 (1+ownN n)) i).length:=by rw[z1e]; omega
       have hg2:=hg.put hi' hp
       have hwj:wn (sgS (putS (growB s0 j0 (1+ownN n)) i a (farW (wn (sgS s0 j0)) j0)) j0)=wn (sgS s0 j0)+(1+ownN n):=by rw[← (z0s hi' hp).wn,z2q h3]
       have hj2:j0<(putS (growB s0 j0 (1+ownN n)) i a (farW (wn (sgS s0 j0)) j0)).length:=by rw[z0a]; exact hj'
       have hr2:=room8 (k:=1) hg2.wds (i:=j0) (a:=wn (sgS s0 j0)) (by omega)
       have hp2:8*wn (sgS s0 j0)+(ptrW n 0).length≤(sgS (putS (growB s0 j0 (1+ownN n)) i a (farW (wn (sgS s0 j0)) j0)) j0).length:=by rw[z0f]; omega
       refine ⟨hg2.put hj2 hp2,((h2.trans (z2p h3)).trans (z6s hi' hp)).trans (z6s hj2 hp2),by rw[z0a]; exact hj2,?_⟩;rw[← (z0s hj2 hp2).wn,hwj];omega
     · cases h
def WrOk (L:Nat)(wr:Wr)(Q:Nd→Prop):Prop:=∀p ss i a s1,Q p→SOk L ss→i<ss.length→a<wn (sgS ss i)→wr p ss i a=some s1→SOk L s1∧Grew ss s1
theorem z59 {L:Nat}{wr:Wr}{Q:Nd→Prop}(hw:WrOk L wr Q):∀(l:List Nd) (ss:Segs) (i a:Nat) (s1:Segs),(∀p∈l,Q p)→SOk L ss→i<ss.length→a+l.length≤wn (sgS ss i)→ptrsP wr l ss i a=some s1→SOk L s1∧Grew ss s1
 | [],ss,i,a,s1,_,hk,_,_,h=>by injection h with h; subst h; exact ⟨hk,Grew.refl _⟩
 | p :: t,ss,i,a,s1,hq,hk,hi,ha,h=>by
   simp only[ptrsP,Option.bind_eq_some_iff] at h
   obtain ⟨s2,h1,h2⟩:=h
   simp only[List.length_cons] at ha
   obtain ⟨k2,g2⟩:=hw p ss i a s2 (hq p (List.mem_cons_self ..)) hk hi (by omega) h1;obtain ⟨k3,g3⟩:=z59 hw t s2 i (a+1) s1 (fun q hm=>hq q (List.mem_cons_of_mem _ hm)) k2 (Nat.lt_of_lt_of_le hi g2.1) (by have:=g2.wn i; omega) h2;exact ⟨k3,g2.trans g3⟩
theorem z0l (d:ByteArray):d.data.toList.length=d.size:=by simp
theorem z3q {ss:Segs}{n:Nd}{i a:Nat}(hw:WdS ss)(ha:a+ownB n≤wn (sgS ss i)):8*a+n.data.data.toList.length≤(sgS ss i).length:=by
 rw[z0l];have:=z10 hw i;unfold ownB at ha;omega
theorem z3n {L:Nat}{wr:Wr}{Q:Nd→Prop}(hw:WrOk L wr Q){n:Nd}{ss s1:Segs}{i a:Nat}(hq:∀p∈n.ptrs,Q p)(hk:SOk L ss)(hi:i<ss.length)(ha:a+ownB n≤wn (sgS ss i))(h:bodyP wr n ss i a=some s1):SOk L s1∧Grew ss s1:=by
 unfold bodyP at h;have hf:=z3q hk.wds ha;have hp:=z0s hi hf;obtain ⟨k2,g2⟩:=z59 hw n.ptrs _ i _ s1 hq (hk.put hi hf) (by rw[z0a]; exact hi) (by rw[← hp.wn]; unfold ownB at ha; omega) h;exact ⟨k2,hp.grew.trans g2⟩
theorem z5w {L:Nat}{wr:Wr}{Q:Nd→Prop}(hw:WrOk L wr Q)(each:Nat):∀(l:List Nd) (ss:Segs) (i a:Nat) (s1:Segs),(∀y∈l,ownB y=each∧∀p∈y.ptrs,Q p)→SOk L ss→i<ss.length→a+l.length*each≤wn (sgS ss i)→z16 wr each l ss i a=some s1→SOk L s1∧Grew ss s1
 | [],ss,i,a,s1,_,hk,_,_,h=>by injection h with h; subst h; exact ⟨hk,Grew.refl _⟩
 | y :: t,ss,i,a,s1,hq,hk,hi,ha,h=>by
   simp only[z16,Option.bind_eq_some_iff] at h
   obtain ⟨s2,h1,h2⟩:=h
   simp only[List.length_cons,Nat.add_mul,Nat.one_mul] at ha
   obtain ⟨hy,hyp⟩:=hq y (List.mem_cons_self ..);obtain ⟨k2,g2⟩:=z3n hw hyp hk hi (by rw[hy]; omega) h1;obtain ⟨k3,g3⟩:=z5w hw each t s2 i (a+each) s1 (fun q hm=>hq q (List.mem_cons_of_mem _ hm)) k2 (Nat.lt_of_lt_of_le hi g2.1) (by have:=g2.wn i; omega) h2;exact ⟨k3,g2.trans g3⟩
theorem z3a {n:Nd}(hi:z0c n.items=true):∀y∈n.items,ownB y=itD n+itP n:=by
 intro y hy
 obtain ⟨_,h8,_,_,_,hd,hp⟩:=z19 hi y hy;unfold ownB itD itP;rw[← hd,← hp];omega
theorem zlw {l:List Nd}{e:Nat}(h:∀y∈l,ownB y=e):(l.map ownB).sum=l.length*e:=by
 induction l with
 | nil=>simp
 | cons y t ih=>rw[List.map_cons,List.sum_cons,h y (List.mem_cons_self ..),ih (fun q hq=>h q (List.mem_cons_of_mem _ hq)),List.length_cons,Nat.add_mul]; omega
theorem z2l {n:Nd}(hf:formN n=true)(hk:n.kind=2∧n.size=7):z0c n.items=true∧ownN n=1+n.items.length*(itD n+itP n)∧n.ptrs= []:=by
 rcases z0d hf with h | h | ⟨h1,h2,h | h | h⟩
 · omega
 · omega
 · omega
 · omega
 · refine ⟨h.2.2.2.2,?_,List.eq_nil_of_length_eq_zero h.2.2.1⟩
   unfold ownN;rw[if_pos hk,zlw (z3a h.2.2.2.2)];unfold ownB;omega
theorem z0z {n:Nd}(hf:formN n=true)(hk:¬(n.kind=2∧n.size=7)):ownN n=ownB n∧n.items= []:=by
 have hi:n.items= []:=by
  rcases z0d hf with h | h | ⟨h1,h2,h | h | h⟩
  · exact List.eq_nil_of_length_eq_zero h.2.2.2.2.2
  · exact List.eq_nil_of_length_eq_zero h.2.2.2.2
  · exact List.eq_nil_of_length_eq_zero h.2.2.2.2
  · exact List.eq_nil_of_length_eq_zero h.2.2.2
  · exact absurd ⟨h1,h.1⟩ hk
 refine ⟨?_,hi⟩;unfold ownN;rw[if_neg hk,hi]
 simp
theorem zae {L:Nat}{wr:Wr}{Q:Nd→Prop}(hw:WrOk L wr Q){n:Nd}{ss s1:Segs}{i a:Nat}(hf:formN n=true)(hq:∀p∈ptrsL n,Q p)(hk:SOk L ss)(hi:i<ss.length)(ha:a+ownN n≤wn (sgS ss i))(h:fillP wr n ss i a=some s1):SOk L s1∧Grew ss s1:=by
 unfold fillP at h
 split at h
 · rename_i hm
   obtain ⟨h1,h2,h3⟩:=z2l hf hm;have hr:=room8 (k:=1) hk.wds (i:=i) (a:=a) (by omega)
   have hp:8*a+(tagW n).length≤(sgS ss i).length:=by rw[z0x]; omega
   obtain ⟨k2,g2⟩:=z5w hw (itD n+itP n) n.items _ i (a+1) s1 (fun y hy=>⟨z3a h1 y hy,fun p hp=>hq p (List.mem_append_right _ (List.mem_flatMap.2 ⟨y,hy,hp⟩))⟩) (hk.put hi hp) (by rw[z0a]; exact hi) (by rw[← (z0s hi hp).wn]; omega) h;exact ⟨k2,(z6s hi hp).trans g2⟩
 · rename_i hm
   obtain ⟨h1,h2⟩:=z0z hf hm;exact z3n hw (fun p hp=>hq p (List.mem_append_left _ hp)) hk hi (by omega) h
theorem z1m:∀ {d:Nat} {n:Nd},okN d n=true→formN n=true:=fun {d n} h=>by
 cases hf:formN n with
 | true=>rfl
 | false=>rw[zkw hf] at h; cases h
theorem z1n {d:Nat}{n:Nd}(h:okN (d+1) n=true)(hk:n.kind≠0):∀p∈ptrsL n,okN d p=true:=by
 have:(ptrsL n).all (okN d)=true:=by
  simp only[okN,Bool.and_eq_true,Bool.or_eq_true,decide_eq_true_eq] at h
  rcases h.2 with h | h
  · exact absurd h hk
  · exact h
 exact List.all_eq_true.1 this
theorem z2b (L size:Nat):∀d,WrOk L (wrP L size d) (fun n=>okN d n=true)
 | 0=>fun p ss i a s1 _ hk _ _ h=>by simp only[wrP] at h; injection h with h; subst h; exact ⟨hk,Grew.refl _⟩
 | d+1=>fun n ss i a s1 hn hk hi ha h=>by
   simp only[wrP] at h
   split at h
   · injection h with h; subst h; exact ⟨hk,Grew.refl _⟩
   · rename_i hk0
     split at h
     · injection h with h
       subst h;have hr:=room8 (k:=1) hk.wds (i:=i) (a:=a) (by omega)
       have hp:8*a+(ptrW n (if n.kind=1 then -1 else 0)).length≤(sgS ss i).length:=by rw[z0f]; omega
       exact ⟨hk.put hi hp,z6s hi hp⟩
     · rw[Option.bind_eq_some_iff] at h
       obtain ⟨⟨s2,j,c⟩,h1,h2⟩:=h;obtain ⟨k2,g2,hj,hc⟩:=z3l hk hi ha h1;obtain ⟨k3,g3⟩:=zae (z2b L size d) (z1m hn) (z1n hn hk0) k2 hj hc h2;exact ⟨k3,g2.trans g3⟩
theorem z8g:∀ {a b:Segs},Grew a b→totS a≤totS b
 | [],b,_=>Nat.zero_le _
 | x :: a,[],h=>by have:=h.1; simp at this
 | x :: a,y :: b,h=>by
   have h1:wn x≤wn y:=by have:=h.2 0; simp[sgS] at this; exact Nat.div_le_div_right this
   have h2:totS a≤totS b:=z8g ⟨by have:=h.1; simpa using this,fun i=>by have:=h.2 (i+1); simpa [sgS] using this⟩
   simp only[totS,List.map_cons,List.sum_cons] at h2 ⊢
   omega
theorem zcq {L size:Nat}{n:Nd}{ss s1:Segs}{i a j c:Nat}(hk:SOk L ss)(hi:i<ss.length)(ha:a<wn (sgS ss i))(h:roomP L size n ss i a=some (s1,j,c)):totS s1≤totS ss+ownN n+1:=by
 unfold roomP at h
 split at h
 · split at h
   · rename_i ht
     injection h with h
     injection h with h1 h2
     subst h1
     have hi':i<(growB ss i (ownN n)).length:=by rw[z0b]; exact hi
     have hg:=hk.grow hi ht;have hr:=room8 (k:=1) hg.wds (i:=i) (a:=a) (by rw[z2q hi]; omega);rw[z1j hi' (by rw[z0f]; omega),z2t hi];omega
   · cases h
 · split at h
   · cases h
   · rename_i s0 j0 ho
     obtain ⟨h1,h2,h3⟩:=z4a hk ho
     have h0:totS s0=totS ss:=by
      unfold z2e at ho
      split at ho
      · injection ho with ho; injection ho with e; rw[e]
      · split at ho
        · injection ho with ho; injection ho with e; rw[← e,z6p]; rfl
        · cases ho
     split at h
     · rename_i ht
       injection h with h
       injection h with e1 e2
       subst e1;have hg:=h1.grow h3 ht
       have hi':i<(growB s0 j0 (1+ownN n)).length:=by rw[z0b]; exact Nat.lt_of_lt_of_le hi h2.1
       have hai:a<wn (sgS (growB s0 j0 (1+ownN n)) i):=Nat.lt_of_lt_of_le ha ((h2.trans (z2p h3)).wn i);have hr:=room8 (k:=1) hg.wds (i:=i) (a:=a) (by omega)
       have hp:8*a+(farW (wn (sgS s0 j0)) j0).length≤(sgS (growB s0 j0 (1+ownN n)) i).length:=by rw[z1e]; omega
       have hj2:j0<(putS (growB s0 j0 (1+ownN n)) i a (farW (wn (sgS s0 j0)) j0)).length:=by rw[z0a,z0b]; exact h3
       have hg2:=hg.put hi' hp
       have hwj:wn (sgS (putS (growB s0 j0 (1+ownN n)) i a (farW (wn (sgS s0 j0)) j0)) j0)=wn (sgS s0 j0)+(1+ownN n):=by rw[← (z0s hi' hp).wn,z2q h3]
       have hr2:=room8 (k:=1) hg2.wds (i:=j0) (a:=wn (sgS s0 j0)) (by omega);rw[z1j hj2 (by rw[z0f]; omega),z1j hi' hp,z2t h3,h0];omega
     · cases h
def WrTot (L:Nat)(wr:Wr)(Q:Nd→Prop)(f:Nd→Nat):Prop:=∀p ss i a s1,Q p→SOk L ss→i<ss.length→a<wn (sgS ss i)→wr p ss i a=some s1→totS s1≤totS ss+2*f p
theorem zh2 {L:Nat}{wr:Wr}{Q:Nd→Prop}{f:Nd→Nat}(hw:WrOk L wr Q)(ht:WrTot L wr Q f):∀(l:List Nd) (ss:Segs) (i a:Nat) (s1:Segs),(∀p∈l,Q p)→SOk L ss→i<ss.length→a+l.length≤wn (sgS ss i)→ptrsP wr l ss i a=some s1→totS s1≤totS ss+2*(l.map f).sum
 | [],ss,i,a,s1,_,hk,_,_,h=>by injection h with h; subst h; exact Nat.le_add_right _ _
 | p :: t,ss,i,a,s1,hq,hk,hi,ha,h=>by
   simp only[ptrsP,Option.bind_eq_some_iff] at h
   obtain ⟨s2,h1,h2⟩:=h
   simp only[List.length_cons] at ha
   obtain ⟨k2,g2⟩:=hw p ss i a s2 (hq p (List.mem_cons_self ..)) hk hi (by omega) h1;have e1:=ht p ss i a s2 (hq p (List.mem_cons_self ..)) hk hi (by omega) h1;have e2:=zh2 hw ht t s2 i (a+1) s1 (fun q hm=>hq q (List.mem_cons_of_mem _ hm)) k2 (Nat.lt_of_lt_of_le hi g2.1) (by have:=g2.wn i; omega) h2;rw[List.map_cons,List.sum_cons];omega
theorem zct {L:Nat}{wr:Wr}{Q:Nd→Prop}{f:Nd→Nat}(hw:WrOk L wr Q)(ht:WrTot L wr Q f){n:Nd}{ss s1:Segs}{i a:Nat}(hq:∀p∈n.ptrs,Q p)(hk:SOk L ss)(hi:i<ss.length)(ha:a+ownB n≤wn (sgS ss i))(h:bodyP wr n ss i a=some s1):totS s1≤totS ss+2*(n.ptrs.map f).sum:=by
 unfold bodyP at h;have hf:=z3q hk.wds ha;have hp:=z0s hi hf;have:=zh2 hw ht n.ptrs _ i _ s1 hq (hk.put hi hf) (by rw[z0a]; exact hi) (by rw[← hp.wn]; unfold ownB at ha; omega) h;rw[z1j hi hf] at this;exact this
theorem zdg {L:Nat}{wr:Wr}{Q:Nd→Prop}{f:Nd→Nat}(hw:WrOk L wr Q)(ht:WrTot L wr Q f)(each:Nat):∀(l:List Nd) (ss:Segs) (i a:Nat) (s1:Segs),(∀y∈l,ownB y=each∧∀p∈y.ptrs,Q p)→SOk L ss→i<ss.length→a+l.length*each≤wn (sgS ss i)→z16 wr each l ss i a=some s1→totS s1≤totS ss+2*(l.map fun y=>(y.ptrs.map f).sum).sum
 | [],ss,i,a,s1,_,hk,_,_,h=>by injection h with h; subst h; exact Nat.le_add_right _ _
 | y :: t,ss,i,a,s1,hq,hk,hi,ha,h=>by
   simp only[z16,Option.bind_eq_some_iff] at h
   obtain ⟨s2,h1,h2⟩:=h
   simp only[List.length_cons,Nat.add_mul,Nat.one_mul] at ha
   obtain ⟨hy,hyp⟩:=hq y (List.mem_cons_self ..);obtain ⟨k2,g2⟩:=z3n hw hyp hk hi (by rw[hy]; omega) h1;have e1:=zct hw ht hyp hk hi (by rw[hy]; omega) h1;have e2:=zdg hw ht each t s2 i (a+each) s1 (fun q hm=>hq q (List.mem_cons_of_mem _ hm)) k2 (Nat.lt_of_lt_of_le hi g2.1) (by have:=g2.wn i; omega) h2;rw[List.map_cons,List.sum_cons];omega
theorem z4m (l:List Nd)(f:Nd→Nat):((l.flatMap Nd.ptrs).map f).sum=(l.map fun y=>(y.ptrs.map f).sum).sum:=by
 induction l with
 | nil=>rfl
 | cons y t ih=>rw[List.flatMap_cons,List.map_append,List.sum_append,ih,List.map_cons,List.sum_cons]
theorem zpl {L:Nat}{wr:Wr}{Q:Nd→Prop}{f:Nd→Nat}(hw:WrOk L wr Q)(ht:WrTot L wr Q f){n:Nd}{ss s1:Segs}{i a:Nat}(hf:formN n=true)(hq:∀p∈ptrsL n,Q p)(hk:SOk L ss)(hi:i<ss.length)(ha:a+ownN n≤wn (sgS ss i))(h:fillP wr n ss i a=some s1):totS s1≤totS ss+2*((ptrsL n).map f).sum:=by
 have hsum:((ptrsL n).map f).sum=(n.ptrs.map f).sum+(n.items.map fun y=>(y.ptrs.map f).sum).sum:=by unfold ptrsL; rw[List.map_append,List.sum_append,z4m]
 unfold fillP at h
 split at h
 · rename_i hm
   obtain ⟨h1,h2,h3⟩:=z2l hf hm;have hr:=room8 (k:=1) hk.wds (i:=i) (a:=a) (by omega)
   have hp:8*a+(tagW n).length≤(sgS ss i).length:=by rw[z0x]; omega
   have:=zdg hw ht (itD n+itP n) n.items _ i (a+1) s1 (fun y hy=>⟨z3a h1 y hy,fun p hp=>hq p (List.mem_append_right _ (List.mem_flatMap.2 ⟨y,hy,hp⟩))⟩) (hk.put hi hp) (by rw[z0a]; exact hi) (by rw[← (z0s hi hp).wn]; omega) h;rw[z1j hi hp] at this;omega
 · rename_i hm
   obtain ⟨h1,h2⟩:=z0z hf hm;have:=zct hw ht (fun p hp=>hq p (List.mem_append_left _ hp)) hk hi (by omega) h;omega
theorem zhb (L size:Nat):∀d,WrTot L (wrP L size d) (fun n=>okN d n=true) (z03 d)
 | 0=>fun p ss i a s1 _ hk _ _ h=>by simp only[wrP] at h; injection h with h; subst h; exact Nat.le_add_right _ _
 | d+1=>fun n ss i a s1 hn hk hi ha h=>by
   simp only[wrP] at h
   split at h
   · injection h with h; subst h; exact Nat.le_add_right _ _
   · rename_i hk0
     split at h
     · injection h with h
       subst h;have hr:=room8 (k:=1) hk.wds (i:=i) (a:=a) (by omega);rw[z1j hi (by rw[z0f]; omega)];exact Nat.le_add_right _ _
     · rename_i hp
       rw[Option.bind_eq_some_iff] at h;obtain ⟨⟨s2,j,c⟩,h1,h2⟩:=h;obtain ⟨k2,g2,hj,hc⟩:=z3l hk hi ha h1;have e1:=zcq hk hi ha h1;have e2:=zpl (z2b L size d) (zhb L size d) (z1m hn) (z1n hn hk0) k2 hj hc h2;have e3:z03 (d+1) n=ownN n+((ptrsL n).map (z03 d)).sum:=rfl;omega
def WrUp (wr wr':Wr):Prop:=∀p ss i a s1,wr p ss i a=some s1→wr' p ss i a=some s1
theorem zgd {wr wr':Wr}(hu:WrUp wr wr'):∀(l:List Nd) (ss:Segs) (i a:Nat) (s1:Segs),ptrsP wr l ss i a=some s1→ptrsP wr' l ss i a=some s1
 | [],_,_,_,_,h=>h
 | p :: t,ss,i,a,s1,h=>by
   simp only[ptrsP,Option.bind_eq_some_iff] at h ⊢
   obtain ⟨s2,h1,h2⟩:=h;exact ⟨s2,hu _ _ _ _ _ h1,zgd hu t s2 i (a+1) s1 h2⟩
theorem zgm {wr wr':Wr}(hu:WrUp wr wr')(each:Nat):∀(l:List Nd) (ss:Segs) (i a:Nat) (s1:Segs),z16 wr each l ss i a=some s1→z16 wr' each l ss i a=some s1
 | [],_,_,_,_,h=>h
 | p :: t,ss,i,a,s1,h=>by
   simp only[z16,Option.bind_eq_some_iff] at h ⊢
   obtain ⟨s2,h1,h2⟩:=h;exact ⟨s2,zgd hu _ _ _ _ _ h1,zgm hu each t s2 i (a+each) s1 h2⟩
theorem zrd {wr wr':Wr}(hu:WrUp wr wr'){n:Nd}{ss s1:Segs}{i a:Nat}(h:fillP wr n ss i a=some s1):fillP wr' n ss i a=some s1:=by
 unfold fillP at h ⊢
 split
 · rename_i hm; rw[if_pos hm] at h; exact zgm hu _ _ _ _ _ _ h
 · rename_i hm; rw[if_neg hm] at h; exact zgd hu _ _ _ _ _ h
theorem zsi {L L' size:Nat}(hL:L≤L'){n:Nd}{ss:Segs}{i a:Nat}{r:Segs×Nat×Nat}(h:roomP L size n ss i a=some r):roomP L' size n ss i a=some r:=by
 unfold roomP at h ⊢
 split
 · rename_i hf
   rw[if_pos hf] at h
   split at h
   · rename_i ht; rw[if_pos (by omega)]; exact h
   · cases h
 · rename_i hf
   rw[if_neg hf] at h
   split at h
   · cases h
   · rename_i s0 j0 ho
     split at h
     · rename_i ht; rw[if_pos (by omega)]; exact h
     · cases h
theorem wr_up {L L':Nat}(size:Nat)(hL:L≤L'):∀d,WrUp (wrP L size d) (wrP L' size d)
 | 0=>fun p ss i a s1 h=>h
 | d+1=>fun n ss i a s1 h=>by
   simp only[wrP] at h ⊢
   split
   · rename_i hk; rw[if_pos hk] at h; exact h
   · rename_i hk
     rw[if_neg hk] at h
     split
     · rename_i hp; rw[if_pos hp] at h; exact h
     · rename_i hp
       rw[if_neg hp,Option.bind_eq_some_iff] at h;obtain ⟨r,h1,h2⟩:=h;rw[zsi hL h1,Option.bind_some];exact zrd (wr_up size hL d) h2
def WrDn (L l:Nat)(wr wr':Wr)(Q:Nd→Prop):Prop:=∀p ss i a s1,Q p→SOk L ss→i<ss.length→a<wn (sgS ss i)→wr p ss i a=some s1→totS s1≤l→wr' p ss i a=some s1
theorem zju {L l:Nat}{wr wr':Wr}{Q:Nd→Prop}(hw:WrOk L wr Q)(hd:WrDn L l wr wr' Q):∀(li:List Nd) (ss:Segs) (i a:Nat) (s1:Segs),(∀p∈li,Q p)→SOk L ss→i<ss.length→a+li.length≤wn (sgS ss i)→ptrsP wr li ss i a=some s1→totS s1≤l→ptrsP wr' li ss i a=some s1
 | [],_,_,_,_,_,_,_,_,h,_=>h
 | p :: t,ss,i,a,s1,hq,hk,hi,ha,h,hl=>by
   simp only[ptrsP,Option.bind_eq_some_iff] at h ⊢
   obtain ⟨s2,h1,h2⟩:=h
   simp only[List.length_cons] at ha
   obtain ⟨k2,g2⟩:=hw p ss i a s2 (hq p (List.mem_cons_self ..)) hk hi (by omega) h1;have hi2:=Nat.lt_of_lt_of_le hi g2.1
   have ha2:a+1+t.length≤wn (sgS s2 i):=by have:=g2.wn i; omega
   obtain ⟨k3,g3⟩:=z59 hw t s2 i (a+1) s1 (fun q hm=>hq q (List.mem_cons_of_mem _ hm)) k2 hi2 ha2 h2;exact ⟨s2,hd _ _ _ _ _ (hq p (List.mem_cons_self ..)) hk hi (by omega) h1 (Nat.le_trans (z8g g3) hl),zju hw hd t s2 i (a+1) s1 (fun q hm=>hq q (List.mem_cons_of_mem _ hm)) k2 hi2 ha2 h2 hl⟩
theorem znb {L l:Nat}{wr wr':Wr}{Q:Nd→Prop}(hw:WrOk L wr Q)(hd:WrDn L l wr wr' Q){n:Nd}{ss s1:Segs}{i a:Nat}(hq:∀p∈n.ptrs,Q p)(hk:SOk L ss)(hi:i<ss.length)(ha:a+ownB n≤wn (sgS ss i))(h:bodyP wr n ss i a=some s1)(hl:totS s1≤l):bodyP wr' n ss i a=some s1:=by
 unfold bodyP at h ⊢;have hf:=z3q hk.wds ha;have hp:=z0s hi hf;exact zju hw hd n.ptrs _ i _ s1 hq (hk.put hi hf) (by rw[z0a]; exact hi) (by rw[← hp.wn]; unfold ownB at ha; omega) h hl
theorem zgw {L l:Nat}{wr wr':Wr}{Q:Nd→Prop}(hw:WrOk L wr Q)(hd:WrDn L l wr wr' Q)(each:Nat):∀(li:List Nd) (ss:Segs) (i a:Nat) (s1:Segs),(∀y∈li,ownB y=each∧∀p∈y.ptrs,Q p)→SOk L ss→i<ss.length→a+li.length*each≤wn (sgS ss i)→z16 wr each li ss i a=some s1→totS s1≤l→z16 wr' each li ss i a=some s1
 | [],_,_,_,_,_,_,_,_,h,_=>h
 | y :: t,ss,i,a,s1,hq,hk,hi,ha,h,hl=>by
   simp only[z16,Option.bind_eq_some_iff] at h ⊢
   obtain ⟨s2,h1,h2⟩:=h
   simp only[List.length_cons,Nat.add_mul,Nat.one_mul] at ha
   obtain ⟨hy,hyp⟩:=hq y (List.mem_cons_self ..);obtain ⟨k2,g2⟩:=z3n hw hyp hk hi (by rw[hy]; omega) h1;have hi2:=Nat.lt_of_lt_of_le hi g2.1
   have ha2:a+each+t.length*each≤wn (sgS s2 i):=by have:=g2.wn i; omega
   obtain ⟨k3,g3⟩:=z5w hw each t s2 i (a+each) s1 (fun q hm=>hq q (List.mem_cons_of_mem _ hm)) k2 hi2 ha2 h2;exact ⟨s2,znb hw hd hyp hk hi (by rw[hy]; omega) h1 (Nat.le_trans (z8g g3) hl),zgw hw hd each t s2 i (a+each) s1 (fun q hm=>hq q (List.mem_cons_of_mem _ hm)) k2 hi2 ha2 h2 hl⟩
theorem zra {L l:Nat}{wr wr':Wr}{Q:Nd→Prop}(hw:WrOk L wr Q)(hd:WrDn L l wr wr' Q){n:Nd}{ss s1:Segs}{i a:Nat}(hf:formN n=true)(hq:∀p∈ptrsL n,Q p)(hk:SOk L ss)(hi:i<ss.length)(ha:a+ownN n≤wn (sgS ss i))(h:fillP wr n ss i a=some s1)(hl:totS s1≤l):fillP wr' n ss i a=some s1:=by
 unfold fillP at h ⊢
 split
 · rename_i hm
   rw[if_pos hm] at h;obtain ⟨h1,h2,h3⟩:=z2l hf hm;have hr:=room8 (k:=1) hk.wds (i:=i) (a:=a) (by omega)
   have hp:8*a+(tagW n).length≤(sgS ss i).length:=by rw[z0x]; omega
   exact zgw hw hd (itD n+itP n) n.items _ i (a+1) s1 (fun y hy=>⟨z3a h1 y hy,fun p hp=>hq p (List.mem_append_right _ (List.mem_flatMap.2 ⟨y,hy,hp⟩))⟩) (hk.put hi hp) (by rw[z0a]; exact hi) (by rw[← (z0s hi hp).wn]; omega) h hl
 · rename_i hm
   rw[if_neg hm] at h;obtain ⟨h1,h2⟩:=z0z hf hm;exact znb hw hd (fun p hp=>hq p (List.mem_append_left _ hp)) hk hi (by omega) h hl
theorem zr1 {L l size:Nat}{n:Nd}{ss s1:Segs}{i a j c:Nat}(hk:SOk L ss)(hi:i<ss.length)(ha:a<wn (sgS ss i))(h:roomP L size n ss i a=some (s1,j,c))(hl:totS s1≤l):roomP l size n ss i a=some (s1,j,c):=by
 have hx:=h;unfold roomP at h ⊢
 split
 · rename_i hf
   rw[if_pos hf] at h
   split at h
   · rename_i ht
     have e:totS s1=totS ss+ownN n:=by
      injection h with h
      injection h with h1 h2
      subst h1
      have hi':i<(growB ss i (ownN n)).length:=by rw[z0b]; exact hi
      have hg:=hk.grow hi ht;have hr:=room8 (k:=1) hg.wds (i:=i) (a:=a) (by rw[z2q hi]; omega);rw[z1j hi' (by rw[z0f]; omega),z2t hi]
     rw[if_pos (by omega)]; exact h
   · cases h
 · rename_i hf
   rw[if_neg hf] at h
   split at h
   · cases h
   · rename_i s0 j0 ho
     split at h
     · rename_i ht
       obtain ⟨h1,h2,h3⟩:=z4a hk ho
       have e:totS s1=totS s0+(1+ownN n):=by
        injection h with h
        injection h with e1 e2
        subst e1;have hg:=h1.grow h3 ht
        have hi':i<(growB s0 j0 (1+ownN n)).length:=by rw[z0b]; exact Nat.lt_of_lt_of_le hi h2.1
        have hai:a<wn (sgS (growB s0 j0 (1+ownN n)) i):=Nat.lt_of_lt_of_le ha ((h2.trans (z2p h3)).wn i);have hr:=room8 (k:=1) hg.wds (i:=i) (a:=a) (by omega)
        have hp:8*a+(farW (wn (sgS s0 j0)) j0).length≤(sgS (growB s0 j0 (1+ownN n)) i).length:=by rw[z1e]; omega
        have hj2:j0<(putS (growB s0 j0 (1+ownN n)) i a (farW (wn (sgS s0 j0)) j0)).length:=by rw[z0a,z0b]; exact h3
        have hg2:=hg.put hi' hp
        have hwj:wn (sgS (putS (growB s0 j0 (1+ownN n)) i a (farW (wn (sgS s0 j0)) j0)) j0)=wn (sgS s0 j0)+(1+ownN n):=by rw[← (z0s hi' hp).wn,z2q h3]
        have hr2:=room8 (k:=1) hg2.wds (i:=j0) (a:=wn (sgS s0 j0)) (by omega);rw[z1j hj2 (by rw[z0f]; omega),z1j hi' hp,z2t h3]
       rw[if_pos (by omega)]; exact h
     · cases h
theorem wr_dn (L l size:Nat):∀d,WrDn L l (wrP L size d) (wrP l size d) (fun n=>okN d n=true)
 | 0=>fun p ss i a s1 _ _ _ _ h _=>h
 | d+1=>fun n ss i a s1 hn hk hi ha h hl=>by
   simp only[wrP] at h ⊢
   split
   · rename_i hk0; rw[if_pos hk0] at h; exact h
   · rename_i hk0
     rw[if_neg hk0] at h
     split
     · rename_i hp; rw[if_pos hp] at h; exact h
     · rename_i hp
       rw[if_neg hp,Option.bind_eq_some_iff] at h;obtain ⟨⟨s2,j,c⟩,h1,h2⟩:=h;obtain ⟨k2,g2,hj,hc⟩:=z3l hk hi ha h1;obtain ⟨k3,g3⟩:=zae (z2b L size d) (z1m hn) (z1n hn hk0) k2 hj hc h2;rw[zr1 hk hi ha h1 (Nat.le_trans (z8g g3) hl),Option.bind_some];exact zra (z2b L size d) (wr_dn L l size d) (z1m hn) (z1n hn hk0) k2 hj hc h2 hl
theorem SOKL (L:Nat)(hL:1≤L):SOk L [zer 1]:=⟨fun i=>by
 match i with
 | 0=>rfl
 | i+1=>rfl,by decide,by decide,hL⟩
theorem zmh {size:Nat}{n:Nd}(hok:okN 8 n=true)(L:Nat)(hL:200≤L):z36 200 size n=(z36 L size n).bind fun ss=>if totS ss≤200 then some ss else none:=by
 unfold z36
 cases h:wrP L size 8 n [zer 1] 0 0 with
 | none =>
  cases h2:wrP 200 size 8 n [zer 1] 0 0 with
  | none=>rfl
  | some s=>rw[wr_up size hL 8 _ _ _ _ _ h2] at h; cases h
 | some s =>
  rw[Option.bind_some]
  by_cases ht:totS s≤200
  · rw[if_pos ht]
    exact wr_dn L 200 size 8 _ _ _ _ _ hok (SOKL L (by omega)) (by decide) (by decide) h ht
  · rw[if_neg ht]
    cases h2:wrP 200 size 8 n [zer 1] 0 0 with
    | none=>rfl
    | some s' =>
     have h3:=wr_up size hL 8 _ _ _ _ _ h2;rw[h3] at h
     injection h with h
     subst h;exact absurd (z2b 200 size 8 _ _ _ _ _ hok (SOKL 200 (by omega)) (by decide) (by decide) h2).1.totS ht
def byteS (s:Segs)(j p:Nat):Option UInt8:=(sgS s j)[p]?
def HasT (s:Segs)(j p:Nat)(t:List UInt8):Prop:=∀q,q<t.length→byteS s j (p+q)=t[q]?
theorem HasT.agree {s s':Segs}{j p:Nat}{t:List UInt8}(h:HasT s j p t)(ha:∀q,q<t.length→byteS s' j (p+q)=byteS s j (p+q)):HasT s' j p t:=fun q hq=>(ha q hq).trans (h q hq)
theorem zo4 {x t:List UInt8}{o:Nat}(h:o+t.length≤x.length)(p:Nat):(spl x o t)[p]? =if o≤p∧p<o+t.length then t[p-o]? else x[p]? :=by
 unfold spl
 have h0:(x.take o).length=o:=by rw[List.length_take]; omega
 by_cases h1:p<o
 · rw[if_neg (by omega),List.append_assoc,List.getElem?_append_left (by omega),List.getElem?_take_of_lt h1]
 · by_cases h2:p<o+t.length
   · rw[if_pos ⟨by omega,h2⟩,List.getElem?_append_left (by rw[List.length_append]; omega),List.getElem?_append_right (by omega),h0]
   · rw[if_neg (by omega),List.getElem?_append_right (by rw[List.length_append]; omega),List.length_append,h0,List.getElem?_drop]
     congr 1
     omega
theorem z26 {ss:Segs}{i a:Nat}{t:List UInt8}(hi:i<ss.length)(ha:8*a+t.length≤(sgS ss i).length)(j p:Nat):byteS (putS ss i a t) j p=if j=i∧8*a≤p∧p<8*a+t.length then t[p-8*a]? else byteS ss j p:=by
 unfold byteS putS;rw[z69 hi]
 by_cases e:j=i
 · subst e
   rw[if_pos rfl,zo4 ha]
   by_cases h:8*a≤p∧p<8*a+t.length
   · rw[if_pos h,if_pos ⟨rfl,h⟩]
   · rw[if_neg h,if_neg (fun x=>h x.2)]
 · rw[if_neg e,if_neg (fun x=>e x.1)]
theorem z7a {ss:Segs}{i a:Nat}{t:List UInt8}(hi:i<ss.length)(ha:8*a+t.length≤(sgS ss i).length):HasT (putS ss i a t) i (8*a) t:=fun q hq=>by
 rw[z26 hi ha,if_pos ⟨rfl,by omega,by omega⟩]
 congr 1
 omega
theorem zeg {ss:Segs}{i k:Nat}(hi:i<ss.length){j p:Nat}(hp:p<(sgS ss j).length):byteS (growB ss i k) j p=byteS ss j p:=by
 unfold byteS;rw[z4t hi]
 split
 · rename_i e; subst e; rw[List.getElem?_append_left hp]
 · rfl
theorem zo2 {ss:Segs}{j p:Nat}(hp:p<(sgS ss j).length):byteS (ss++ [[]]) j p=byteS ss j p:=by
 unfold byteS;rw[z7g]
 split
 · rename_i e; subst e; rw[z97 (Nat.le_refl _)] at hp; cases hp
 · rfl
def Kept (ss s1:Segs)(i a n:Nat):Prop:=∀j p,p<(sgS ss j).length→¬(j=i∧8*a≤p∧p<8*(a+n))→byteS s1 j p=byteS ss j p
def Same (ss s1 s2:Segs)(i a n:Nat):Prop:=∀j p,((j=i∧8*a≤p∧p<8*(a+n))∨(sgS ss j).length≤p∧p<(sgS s1 j).length)→byteS s2 j p=byteS s1 j p
def BodyR (R:Nd→Nat→Nat→Prop)(s:Segs)(n:Nd)(j c:Nat):Prop:=HasT s j (8*c) n.data.data.toList∧∀k (h:k<n.ptrs.length),R n.ptrs[k] j (c+(n.data.size+7)/8+k)
def FillR (R:Nd→Nat→Nat→Prop)(s:Segs)(n:Nd)(j c:Nat):Prop :=
 if n.kind=2∧n.size=7 then HasT s j (8*c) (tagW n)∧∀k (h:k<n.items.length),BodyR R s n.items[k] j (c+1+k*(itD n+itP n)) else BodyR R s n j c
def RepN (s:Segs):Nat→Nd→Nat→Nat→Prop
 | 0,n,i,a=>n.kind=0∧HasT s i (8*a) (zer 1)
 | d+1,n,i,a=>(n.kind=0∧HasT s i (8*a) (zer 1))∨(n.kind≠0∧ownN n=0∧HasT s i (8*a) (ptrW n (if n.kind=1 then -1 else 0))) ∨
   (n.kind≠0∧ownN n≠0∧∃j c:Nat,((j=i∧HasT s i (8*a) (ptrW n ((c:Int)-a-1)))∨∃pad:Nat,c=pad+1∧HasT s i (8*a) (farW pad j)∧HasT s j (8*pad) (ptrW n 0))∧FillR (RepN s d) s n j c)
theorem Kept.refl (ss:Segs)(i a n:Nat):Kept ss ss i a n:=fun _ _ _ _=>rfl
theorem zpa {ss:Segs}{i a n:Nat}{t:List UInt8}(hi:i<ss.length)(ha:8*a+t.length≤(sgS ss i).length)(ht:t.length≤8*n):Kept ss (putS ss i a t) i a n:=fun j p _ hn=>by
 rw[z26 hi ha,if_neg (fun h=>hn ⟨h.1,h.2.1,by omega⟩)]
theorem HasT.cut {s:Segs}{j a m n k:Nat}(h:HasT s j (8*a) (zer n))(hk:k+m≤n):HasT s j (8*(a+k)) (zer m):=fun q hq=>by
 rw[z0t] at hq;have:=h (8*k+q) (by rw[z0t]; omega);rw[show 8*(a+k)+q=8*a+(8*k+q) by omega,this];unfold zer;rw[List.getElem?_replicate,List.getElem?_replicate,if_pos (by omega),if_pos hq]
def WrRep (L:Nat)(wr:Wr)(Q:Nd→Prop)(R:Segs→Nd→Nat→Nat→Prop):Prop:=∀p ss i a s1,Q p→SOk L ss→i<ss.length→a<wn (sgS ss i)→HasT ss i (8*a) (zer 1)→wr p ss i a=some s1→Kept ss s1 i a 1∧∀s2,Same ss s1 s2 i a 1→R s2 p i a
theorem zhy {L:Nat}{wr:Wr}{Q:Nd→Prop}{R:Segs→Nd→Nat→Nat→Prop}(hw:WrOk L wr Q)(hr:WrRep L wr Q R):∀(l:List Nd) (ss:Segs) (i a:Nat) (s1:Segs),(∀p∈l,Q p)→SOk L ss→i<ss.length→a+l.length≤wn (sgS ss i)→HasT ss i (8*a) (zer l.length)→ptrsP wr l ss i a=some s1→Kept ss s1 i a l.length∧∀s2,Same ss s1 s2 i a l.length→∀k (h:k<l.length),R s2 l[k] i (a+k)
 | [],ss,i,a,s1,_,hk,_,_,_,h=>by
   injection h with h
   subst h;exact ⟨Kept.refl _ _ _ _,fun s2 _ k hk=>by cases hk⟩
 | p :: t,ss,i,a,s1,hq,hk,hi,ha,hz,h=>by
   simp only[ptrsP,Option.bind_eq_some_iff] at h
   obtain ⟨s2,h1,h2⟩:=h
   simp only[List.length_cons] at ha hz
   obtain ⟨k2,g2⟩:=hw p ss i a s2 (hq p (List.mem_cons_self ..)) hk hi (by omega) h1;obtain ⟨e1,r1⟩:=hr p ss i a s2 (hq p (List.mem_cons_self ..)) hk hi (by omega) (hz.cut (k:=0) (m:=1) (by omega)) h1;have hi2:=Nat.lt_of_lt_of_le hi g2.1;have hwi:=z10 hk.wds i
   have hz2:HasT s2 i (8*(a+1)) (zer t.length):=(hz.cut (k:=1) (m:=t.length) (by omega)).agree (fun q hq'=>by
    rw[z0t] at hq'
    exact e1 i _ (by omega) (fun h=>by omega))
   have ha2:a+1+t.length≤wn (sgS s2 i):=by have:=g2.wn i; omega
   obtain ⟨e2,r2⟩:=zhy hw hr t s2 i (a+1) s1 (fun q hm=>hq q (List.mem_cons_of_mem _ hm)) k2 hi2 ha2 hz2 h2;obtain ⟨k3,g3⟩:=z59 hw t s2 i (a+1) s1 (fun q hm=>hq q (List.mem_cons_of_mem _ hm)) k2 hi2 ha2 h2;refine ⟨fun j p hp hn=>?_,fun s3 h3 k hk3=>?_⟩
   · rw[List.length_cons] at hn
     rw[e2 j p (Nat.lt_of_lt_of_le hp (g2.2 j)) (fun h=>hn ⟨h.1,by omega,by omega⟩)];exact e1 j p hp (fun h=>hn ⟨h.1,by omega,by omega⟩)
   · cases k with
     | zero =>
      refine r1 s3 (fun j p hjp=>?_)
      have hold:byteS s1 j p=byteS s2 j p:=e2 j p (by
       rcases hjp with ⟨rfl,h4,h5⟩ | ⟨h4,h5⟩
       · have:=g2.2 j; omega
       · exact h5) (fun h=>by
       rcases hjp with ⟨_,h4,h5⟩ | ⟨h4,h5⟩
       · omega
       · have:=h.1; subst this; omega)
      rw[← hold];refine h3 j p ?_
      rcases hjp with ⟨e,h4,h5⟩ | ⟨h4,h5⟩
      · exact .inl ⟨e,h4,by rw[List.length_cons]; omega⟩
      · exact .inr ⟨h4,Nat.lt_of_lt_of_le h5 (g3.2 j)⟩
     | succ k =>
      rw[List.length_cons] at hk3
      have:=r2 s3 (fun j p hjp=>h3 j p (by
       rcases hjp with ⟨e,h4,h5⟩ | ⟨h4,h5⟩
       · exact .inl ⟨e,by omega,by rw[List.length_cons]; omega⟩
       · exact .inr ⟨Nat.le_trans (g2.2 j) h4,h5⟩)) k (by omega)
      rw[show a+(k+1)=a+1+k by omega];exact this
end Go.Proofs.YtlbfffokkhccaaaGreatDoor
