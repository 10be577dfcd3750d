/- Texts of the proof of the law FnRecordCanon, side by side: part 7. -/
import Derived.Test.YtblcibgphccfkaaGreatDoorMRecordCanon06
set_option maxHeartbeats 8000000
set_option maxRecDepth 100000
open Go.Lib (hid)
namespace Go.Proofs.YtblcibgphccfkaaGreatDoor
open Go.RowKit
def z07:Nd:= .mk 0 ⟨#[]⟩ [] 0 0 []
def endK (l:List Nd):Nat→Nat
 | 0=>0
 | k+1=>if (l[k]?.getD z07).kind=0 then endK l k else k+1
theorem zhl (l:List Nd):∀k,endK l k≤k
 | 0=>Nat.le_refl _
 | k+1=>by
   unfold endK
   split
   · have:=zhl l k; omega
   · omega
theorem zaz (l:List Nd):∀k,endK l (endK l k)=endK l k
 | 0=>rfl
 | k+1=>by
   rw[endK]
   split
   · exact zaz l k
   · rename_i h; rw[endK,if_neg h]
theorem z7l (l:List Nd):∀(k q:Nat),endK l k≤q→q<k→(l[q]?.getD z07).kind=0
 | 0,_,_,h=>absurd h (by omega)
 | k+1,q,h1,h2=>by
   rw[endK] at h1
   split at h1
   · rename_i hz
     by_cases he:q=k
     · rw[he]; exact hz
     · exact z7l l k q h1 (by omega)
   · omega
theorem z9q (l m:List Nd):∀k,(∀q,q<k→(l[q]?.getD z07).kind=(m[q]?.getD z07).kind)→endK l k=endK m k
 | 0,_=>rfl
 | k+1,h=>by rw[endK,endK,h k (by omega),z9q l m k (fun q hq=>h q (by omega))]
theorem zbe (l:List Nd)(t:Nat):∀k,(∀q,t≤q→q<t+k→(l[q]?.getD z07).kind=0)→endK l (t+k)=endK l t
 | 0,_=>rfl
 | k+1,h=>by rw[← Nat.add_assoc,endK,if_pos (h (t+k) (by omega) (by omega)),zbe l t k (fun q h1 h2=>h q h1 (by omega))]
def endC (l:List Nd):Nat:=endK l l.length
def endP (l:List Nd):List Nd:=l.take (endC l)
theorem z6c (l:List Nd):endC l≤l.length:=zhl l _
theorem z21 (l:List Nd):(endP l).length=endC l:=by unfold endP; rw[List.length_take]; have:=z6c l; omega
theorem z7a {l:List Nd}{n:Nd}(h:n∈endP l):n∈l:=List.mem_of_mem_take h
theorem zdz (l:List Nd)(k:Nat):endP (endP l++List.replicate k z07)=endP l:=by
 have hl:=z21 l
 have hlen:(endP l++List.replicate k z07).length=endC l+k:=by rw[List.length_append,hl,List.length_replicate]
 have h1:endC (endP l++List.replicate k z07)=endC l:=by
  have he:endC (endP l++List.replicate k z07)=endK (endP l++List.replicate k z07) (endC l+k):=by
   show endK _ (endP l++List.replicate k z07).length=_
   rw[hlen]
  rw[he];rw[zbe _ (endC l) k]
  · rw[z9q _ l]
    · exact zaz l _
    · intro q hq
      rw[List.getElem?_append_left (by rw[hl]; exact hq)];unfold endP;rw[List.getElem?_take_of_lt hq]
  · intro q h1 h2
    rw[List.getElem?_append_right (by rw[hl]; exact h1),hl,List.getElem?_replicate,if_pos (by omega)]
    rfl
 have h2:endP (endP l++List.replicate k z07)=(endP l++List.replicate k z07).take (endC l):=by rw[← h1]; rfl
 rw[h2,List.take_append_of_le_length (by rw[hl]; exact Nat.le_refl _),List.take_of_length_le (by rw[hl]; exact Nat.le_refl _)]
theorem zgy (l:List Nd):endP (endP l)=endP l:=by
 have:=zdz l 0
 simpa using this
def topD:List Nd→Nat
 | []=>0
 | n :: t=>max n.data.size (topD t)
def topP:List Nd→Nat
 | []=>0
 | n :: t=>max n.ptrs.length (topP t)
theorem zbv:∀(l:List Nd) (x:Nd),topD (l++ [x])=max (topD l) x.data.size
 | [],x=>by simp[topD]
 | n :: t,x=>by rw[List.cons_append,topD,topD,zbv t x]; omega
theorem zba:∀(l:List Nd) (x:Nd),topP (l++ [x])=max (topP l) x.ptrs.length
 | [],x=>by simp[topP]
 | n :: t,x=>by rw[List.cons_append,topP,topP,zba t x]; omega
theorem z6a:∀(l:List Nd),∀n∈l,n.data.size≤topD l
 | [],_,h=>by cases h
 | a :: t,n,h=>by
   rw[topD]
   rcases List.mem_cons.1 h with rfl | h
   · omega
   · have:=z6a t n h; omega
theorem z81:∀(l:List Nd),∀n∈l,n.ptrs.length≤topP l
 | [],_,h=>by cases h
 | a :: t,n,h=>by
   rw[topP]
   rcases List.mem_cons.1 h with rfl | h
   · omega
   · have:=z81 t n h; omega
theorem zdk:∀(l:List Nd),topD l=0∨∃n∈l,n.data.size=topD l
 | []=> .inl rfl
 | a :: t=>by
   rw[topD]
   rcases Nat.lt_or_ge a.data.size (topD t) with h | h
   · rcases zdk t with h0 | ⟨n,hn,he⟩
     · omega
     · exact .inr ⟨n,List.mem_cons_of_mem _ hn,by omega⟩
   · exact .inr ⟨a,List.mem_cons_self,by omega⟩
theorem zj7:∀(l:List Nd),topP l=0∨∃n∈l,n.ptrs.length=topP l
 | []=> .inl rfl
 | a :: t=>by
   rw[topP]
   rcases Nat.lt_or_ge a.ptrs.length (topP t) with h | h
   · rcases zj7 t with h0 | ⟨n,hn,he⟩
     · omega
     · exact .inr ⟨n,List.mem_cons_of_mem _ hn,by omega⟩
   · exact .inr ⟨a,List.mem_cons_self,by omega⟩
theorem zcq {l:List Nd}{b:Nat}(h:∀n∈l,n.data.size≤b):topD l≤b:=by
 rcases zdk l with h0 | ⟨n,hn,he⟩
 · omega
 · rw[← he]; exact h n hn
theorem zck {l:List Nd}{b:Nat}(h:∀n∈l,n.ptrs.length≤b):topP l≤b:=by
 rcases zj7 l with h0 | ⟨n,hn,he⟩
 · omega
 · rw[← he]; exact h n hn
def evenN (D P:Nat)(n:Nd):Nd:= .mk n.kind (n.data++zeroD (D-n.data.size)) (n.ptrs++List.replicate (P-n.ptrs.length) z07) n.size n.count n.items
def evenL (l:List Nd):List Nd:=l.map (evenN (topD l) (topP l))
def formT (k:Int)(d:ByteArray)(p:List Nd)(s c:Int)(i:List Nd):Nd:=if k=1 then .mk k (trimD d) (endP p) s c (evenL i) else .mk k d p s c (evenL i)
mutual
def canN:Nd→Nd
 | .mk k d p s c i=>formT k d (canL p) s c (canL i)
def canL:List Nd→List Nd
 | []=> []
 | n :: t=>canN n :: canL t
end
theorem zai:∀l:List Nd,canL l=l.map canN
 | []=>by rw[canL]; rfl
 | n :: t=>by rw[canL,zai t]; rfl
theorem z6h (n:Nd):canN n=formT n.kind n.data (n.ptrs.map canN) n.size n.count (n.items.map canN):=by
 cases n with
 | mk k d p s c i=>rw[canN,zai,zai]; rfl
theorem zbj (n:Nd):(canN n).kind=n.kind:=by
 rw[z6h];unfold formT
 split <;> rfl
theorem z1k:canN z07=z07:=by
 rw[z6h]
 rfl
theorem zlc {d:ByteArray}(h:d.size=0):d=⟨#[]⟩:=by
 cases d with
 | mk a =>
  have:a= #[]:=by
   apply Array.eq_empty_of_size_eq_zero
   exact h
  rw[this]
theorem z3j {n:Nd}(h:formN n=true)(hk:n.kind=0):n=z07:=by
 rcases z0y h with hc | hc | hc
 · obtain ⟨h0,h1,h2,h3,h4,h5⟩:=hc
   cases n with
   | mk k d p s c i =>
    simp only[Nd.kind,Nd.data,Nd.ptrs,Nd.size,Nd.count,Nd.items] at *
    rw[h0,zlc h1,z0c h2,h3,h4,z0c h5]
    rfl
 · omega
 · omega
theorem z8q:formN z07=true:=by decide
theorem zh3:∀d,okN d z07=true
 | 0=>by simp[okN,z8q]; rfl
 | d+1=>by simp[okN,z8q]; left; rfl
theorem zc1:∀d,z0b d z07=0
 | 0=>rfl
 | d+1=>by simp[z0b,ptrsL,ownN,ownB,z07,Nd.ptrs,Nd.items,Nd.data,Nd.kind]; decide
theorem z1w {n:Nd}(h1:n.kind=1)(h3:n.size=0)(h4:n.count=0)(h5:n.items= []):canN n= .mk 1 (trimD n.data) (endP (n.ptrs.map canN)) 0 0 []:=by
 rw[z6h,h1,h3,h4,h5]
 rfl
theorem z5l {n:Nd}(h1:n.kind=2):canN n= .mk 2 n.data (n.ptrs.map canN) n.size n.count (evenL (n.items.map canN)):=by
 rw[z6h,h1]
 rfl
theorem map_id {l:List Nd}{f:Nd→Nd}(h:∀n∈l,f n=n):l.map f=l:=by
 conv=>rhs; rw[← List.map_id l]
 exact List.map_congr_left h
theorem z25 {l:List Nd}(hi:z0i l=true):∀y∈l,y.kind=1∧y.data.size%8=0∧y.size=0∧y.count=0∧y.items= []∧y.data.size=(l.headD default).data.size∧y.ptrs.length=(l.headD default).ptrs.length:=by
 intro y hy
 have h1:=List.all_eq_true.1 hi y hy;unfold itemB at h1
 simp only[Bool.and_eq_true,decide_eq_true_eq,z1y] at h1
 obtain ⟨⟨h2,h3,h4,h5,h6⟩,h7,h8⟩:=h1;exact ⟨h2,by omega,h4,h5,z0c h6,h7,h8⟩
theorem zgl {Q:List Nd}{P:Nat}(h1:endC Q≤P)(h2:P≤Q.length)(hn:∀q∈Q,q.kind=0→q=z07):Q.take P=endP Q++List.replicate (P-endC Q) z07:=by
 have hs:Q.take P=Q.take (endC Q)++(Q.drop (endC Q)).take (P-endC Q):=by
  conv=>lhs; rw[show P=endC Q+(P-endC Q) by omega]
  rw[List.take_add]
 rw[hs];unfold endP
 congr 1
 apply List.eq_replicate_iff.2
 refine ⟨by simp; omega,?_⟩
 intro x hx
 obtain ⟨i,hi,rfl⟩:=List.mem_iff_getElem.1 hx
 have hil:i<P-endC Q:=by simp at hi; omega
 rw[List.getElem_take,List.getElem_drop];refine hn _ (List.getElem_mem _) ?_;have hz:=z7l Q Q.length (endC Q+i) (by unfold endC; omega) (by omega);rw[List.getElem?_eq_getElem (by omega)] at hz;exact hz
theorem zbq {D P:Nat}{n:Nd}(h:n.data.size≤D):(evenN D P n).data.size=D:=by
 show (n.data++zeroD _).size=D
 rw[z1e,z66]; omega
theorem zbf {D P:Nat}{n:Nd}(h:n.ptrs.length≤P):(evenN D P n).ptrs.length=P:=by
 show (n.ptrs++List.replicate _ z07).length=P
 rw[List.length_append,List.length_replicate]; omega
theorem z3h {n:Nd}(h1:n.kind=1)(h3:n.size=0)(h4:n.count=0)(h5:n.items= []):(canN n).data.size=8*tw n.data.data.toList:=by
 rw[z1w h1 h3 h4 h5]; exact z2f _
theorem zhg {l:List Nd}(h:∀n∈l,n.data.size%8=0):topD l%8=0:=by
 rcases zdk l with h0 | ⟨n,hn,he⟩
 · omega
 · rw[← he]; exact h n hn
theorem zl0 {y:Nd}{D P:Nat}(h1:y.kind=1)(h3:y.size=0)(h4:y.count=0)(h5:y.items= [])(h8:D%8=0)(hD:(canN y).data.size≤D)(hc:∀p∈y.ptrs,canN (canN p)=canN p):canN (evenN D P (canN y))=canN y:=by
 have hd:=z3h h1 h3 h4 h5;rw[z1w h1 h3 h4 h5] at hD hd ⊢;have hd':(trimD y.data).size=8*tw y.data.data.toList:=z2f _;have hD':(trimD y.data).size≤D:=hD;unfold evenN;rw[z1w rfl rfl rfl rfl]
 show Nd.mk 1 (trimD (trimD y.data++zeroD (D-(trimD y.data).size))) (endP ((endP (y.ptrs.map canN)++List.replicate (P-(endP (y.ptrs.map canN)).length) z07).map canN)) 0 0 []=_
 rw[show D-(trimD y.data).size=8*(D/8-tw y.data.data.toList) by omega,zj9,List.map_append,List.map_replicate,z1k];rw[map_id (f:=canN) (l:=endP (y.ptrs.map canN)),zdz]
 intro n hn
 obtain ⟨p,hp,rfl⟩:=List.mem_map.1 (z7a hn);exact hc p hp
theorem zch:∀(d:Nat) (n:Nd),okN d n=true→canN (canN n)=canN n
 | 0,n,h=>by
   have hf:=(z1o h).1
   simp only[okN,Bool.and_eq_true,decide_eq_true_eq] at h
   rw[z3j hf h.2,z1k,z1k]
 | d+1,n,h=>by
   obtain ⟨hf,hk⟩:=z1o h
   have ih:∀p∈n.ptrs,canN (canN p)=canN p:=fun p hp=>zch d p (hk p (List.mem_append_left _ hp))
   have ihi:∀y∈n.items,∀p∈y.ptrs,canN (canN p)=canN p:=fun y hy p hp=>zch d p (hk p (List.mem_append_right _ (List.mem_flatMap.2 ⟨y,hy,hp⟩)))
   have hmm:(n.ptrs.map canN).map canN=n.ptrs.map canN:=map_id fun x hx=>by
    obtain ⟨p,hp,rfl⟩:=List.mem_map.1 hx;exact ih p hp
   rcases z0y hf with hc | hc | hc
   · rw[z3j hf hc.1,z1k,z1k]
   · obtain ⟨h1,h2,h3,h4,h5⟩:=hc
     rw[z1w h1 h3 h4 (z0c h5),z1w rfl rfl rfl rfl]
     show Nd.mk 1 (trimD (trimD n.data)) (endP ((endP (n.ptrs.map canN)).map canN)) 0 0 []=_
     rw[zg8,map_id (f:=canN) (l:=endP (n.ptrs.map canN)),zgy]
     intro x hx
     obtain ⟨p,hp,rfl⟩:=List.mem_map.1 (z7a hx);exact ih p hp
   · obtain ⟨h1,h2,h3⟩:=hc
     rw[z5l h1,z5l rfl]
     show Nd.mk 2 n.data ((n.ptrs.map canN).map canN) n.size n.count (evenL ((evenL (n.items.map canN)).map canN))=_
     rw[hmm]
     congr 2
     unfold evenL;rw[List.map_map]
     conv=>rhs; rw[← List.map_id (n.items.map canN)]
     have hit:∀x∈n.items.map canN,canN (evenN (topD (n.items.map canN)) (topP (n.items.map canN)) x)=x:=by
      intro x hx
      have hxl:=z6a _ x hx;obtain ⟨y,hy,rfl⟩:=List.mem_map.1 hx
      rcases h3 with hc | hc | hc
      · rw[z0c hc.2.2.2.2] at hy; cases hy
      · rw[z0c hc.2.2.2] at hy; cases hy
      · have hi:=hc.2.2.2.2
        obtain ⟨k1,k2,k3,k4,k5,_,_⟩:=z25 hi y hy;refine zl0 k1 k3 k4 k5 (zhg ?_) hxl (ihi y hy)
        intro z hz
        obtain ⟨y2,hy2,rfl⟩:=List.mem_map.1 hz;obtain ⟨k1,k2,k3,k4,k5,_,_⟩:=z25 hi y2 hy2
        rw[z3h k1 k3 k4 k5]; omega
     rw[List.map_congr_left (g:=id) (fun x hx=>by simpa using hit x hx),List.map_id]
theorem zjy {n:Nd}(h1:n.kind=1)(h2:n.data.size%8=0)(h3:n.size=0)(h4:n.count=0)(h5:n.items= []):formN n=true:=by
 unfold formN strN z1y;rw[h5]
 have:(n.data.size:Int)%8=0:=by omega
 simp[h1,h3,h4,this]
theorem zk1 {n:Nd}(h:formN n=true):formN (canN n)=true:=by
 rcases z0y h with hc | hc | hc
 · rw[z3j h hc.1,z1k]; exact z8q
 · obtain ⟨h1,h2,h3,h4,h5⟩:=hc
   rw[z1w h1 h3 h4 (z0c h5)];exact zjy rfl (by show (trimD n.data).size%8=0; rw[z2f]; omega) rfl rfl rfl
 · obtain ⟨h1,h2,h3⟩:=hc
   rw[z5l h1]
   have hw:wiB n.count 12801=true:=by simpa [wiB] using h2
   unfold formN;rw[Bool.or_eq_true,Bool.or_eq_true]
   right; right
   show listB 2 n.size n.count n.data (n.ptrs.map canN).length (evenL (n.items.map canN)).length (z0i (evenL (n.items.map canN)))=true
   have hle:(evenL (n.items.map canN)).length=n.items.length:=by unfold evenL; rw[List.length_map,List.length_map]
   unfold listB;rw[hw,List.length_map,hle]
   rcases h3 with ⟨a1,a2,a3,a4,a5⟩ | ⟨a1,a2,a3,a4⟩ | ⟨a1,a2,a3,a4,a5⟩
   · rw[if_pos ⟨a1,a2⟩]
     simp[a3,a4,a5]
   · rw[if_neg (by omega),if_pos a1]
     simp[a2,a3,a4]
   · rw[if_neg (by omega),if_neg (by omega),if_pos a1]
     have hi:z0i (evenL (n.items.map canN))=true:=by
      unfold z0i;rw[List.all_eq_true]
      have hall:∀z∈evenL (n.items.map canN),z.kind=1∧z.size=0∧z.count=0∧z.items= []∧z.data.size=topD (n.items.map canN)∧z.ptrs.length=topP (n.items.map canN):=by
       intro z hz
       obtain ⟨x,hx,rfl⟩:=List.mem_map.1 hz;have hd:=z6a _ x hx;have hp:=z81 _ x hx;obtain ⟨y,hy,rfl⟩:=List.mem_map.1 hx;obtain ⟨k1,k2,k3,k4,k5,_,_⟩:=z25 a5 y hy
       refine ⟨?_,?_,?_,?_,zbq hd,zbf hp⟩ <;> rw[z1w k1 k3 k4 k5] <;> rfl
      have h8:topD (n.items.map canN)%8=0:=zhg fun z hz=>by
       obtain ⟨y2,hy2,rfl⟩:=List.mem_map.1 hz;obtain ⟨k1,k2,k3,k4,k5,_,_⟩:=z25 a5 y2 hy2
       rw[z3h k1 k3 k4 k5]; omega
      intro z hz
      obtain ⟨z1,z2,z3,z4,z5,z6⟩:=hall z hz
      have hh:(evenL (n.items.map canN)).headD default∈evenL (n.items.map canN):=by
       generalize evenL (n.items.map canN)=l at hz
       cases l with
       | nil=>cases hz
       | cons a t=>exact List.mem_cons_self
      obtain ⟨_,_,_,_,y5,y6⟩:=hall _ hh;unfold itemB z1y;rw[z4]
      have:(z.data.size:Int)%8=0:=by omega
      simp only[Bool.and_eq_true,decide_eq_true_eq]
      exact ⟨⟨z1,this,z2,z3,rfl⟩,by omega,by omega⟩
     simp[a2,a3,a4,hi]
theorem zle {n:Nd}(h:formN n=true):∀x∈ptrsL (canN n),x=z07∨∃p∈ptrsL n,x=canN p:=by
 intro x hx
 unfold ptrsL at hx
 rcases z0y h with hc | hc | hc
 · rw[z3j h hc.1,z1k] at hx; cases hx
 · obtain ⟨h1,h2,h3,h4,h5⟩:=hc
   rw[z1w h1 h3 h4 (z0c h5)] at hx
   have hx':x∈endP (n.ptrs.map canN):=by simpa [Nd.ptrs,Nd.items] using hx
   obtain ⟨p,hp,rfl⟩:=List.mem_map.1 (z7a hx');exact .inr ⟨p,List.mem_append_left _ hp,rfl⟩
 · obtain ⟨h1,h2,h3⟩:=hc
   rw[z5l h1] at hx
   rcases List.mem_append.1 hx with hx | hx
   · obtain ⟨p,hp,rfl⟩:=List.mem_map.1 hx
     exact .inr ⟨p,List.mem_append_left _ hp,rfl⟩
   · obtain ⟨z,hz,hxz⟩:=List.mem_flatMap.1 hx
     obtain ⟨c,hcz,rfl⟩:=List.mem_map.1 hz;obtain ⟨y,hy,rfl⟩:=List.mem_map.1 hcz
     rcases List.mem_append.1 (show x∈(canN y).ptrs++List.replicate _ z07 from hxz) with hxy | hxy
     · obtain ⟨k1,k2,k3⟩:=z8e h y hy
       rcases z0y k1 with hc | hc | hc
       · omega
       · rw[z1w hc.1 hc.2.2.1 hc.2.2.2.1 k3] at hxy
         obtain ⟨p,hp,rfl⟩:=List.mem_map.1 (z7a hxy);exact .inr ⟨p,List.mem_append_right _ (List.mem_flatMap.2 ⟨y,hy,hp⟩),rfl⟩
       · omega
     · exact .inl (List.mem_replicate.1 hxy).2
theorem zlv:∀(d:Nat) (n:Nd),okN d n=true→okN d (canN n)=true
 | 0,n,h=>by
   have hf:=(z1o h).1
   simp only[okN,Bool.and_eq_true,decide_eq_true_eq] at h
   rw[z3j hf h.2,z1k]; exact zh3 0
 | d+1,n,h=>by
   obtain ⟨hf,hk⟩:=z1o h
   show (formN (canN n)&&(decide ((canN n).kind=0)||(ptrsL (canN n)).all (okN d)))=true
   rw[zk1 hf,Bool.true_and,Bool.or_eq_true]
   right
   rw[List.all_eq_true]
   intro x hx
   rcases zle hf x hx with rfl | ⟨p,hp,rfl⟩
   · exact zh3 d
   · exact zlv d p (hk p hp)
theorem zl2 {f:Nd→Nat}(h:f z07=0)(k:Nat):((List.replicate k z07).map f).sum=0:=by
 rw[List.map_replicate,h,List.sum_replicate_nat]; simp
theorem zm5 (d:ByteArray)(p:List Nd):ownN (.mk 1 d p 0 0 [])=(d.size+7)/8+p.length:=by simp[ownN,ownB,Nd.data,Nd.ptrs,Nd.kind,Nd.items]
theorem z8v:∀(d:Nat) (n:Nd),okN d n=true→z0b d (canN n)≤z0b d n
 | 0,_,_=>Nat.le_refl _
 | d+1,n,h=>by
   obtain ⟨hf,hk⟩:=z1o h
   have ih:((n.ptrs.map canN).map (z0b d)).sum≤(n.ptrs.map (z0b d)).sum:=by
    rw[List.map_map]
    exact z5r _ _ _ fun p hp=>z8v d p (hk p (List.mem_append_left _ hp))
   show ownN (canN n)+((ptrsL (canN n)).map (z0b d)).sum≤ownN n+((ptrsL n).map (z0b d)).sum
   rcases z0y hf with hc | hc | hc
   · rw[z3j hf hc.1,z1k]; exact Nat.le_refl _
   · obtain ⟨h1,h2,h3,h4,h5⟩:=hc
     have h5':=z0c h5
     have e1:ptrsL (canN n)=endP (n.ptrs.map canN):=by rw[z1w h1 h3 h4 h5']; simp[ptrsL,Nd.ptrs,Nd.items]
     have e2:ptrsL n=n.ptrs:=by unfold ptrsL; rw[h5']; simp
     have e3:ownN (canN n)=(trimD n.data).size/8+(endP (n.ptrs.map canN)).length:=by
      rw[z1w h1 h3 h4 h5',zm5,z2f]; omega
     have e4:ownN n=n.data.size/8+n.ptrs.length:=by
      unfold ownN ownB;rw[h5',if_neg (by omega)]
      simp only[List.map_nil,List.sum_nil]; omega
     rw[e1,e2,e3,e4];have l1:=z2f n.data;have l2:=tw_le n.data.data.toList
     have l3:n.data.data.toList.length=n.data.size:=by simp
     have l4:=z6c (n.ptrs.map canN);have l5:=z21 (n.ptrs.map canN)
     have l6:(n.ptrs.map canN).length=n.ptrs.length:=by rw[List.length_map]
     have l7:((endP (n.ptrs.map canN)).map (z0b d)).sum≤((n.ptrs.map canN).map (z0b d)).sum:=z1i _ _ _;omega
   · obtain ⟨h1,h2,h3⟩:=hc
     have e1:ptrsL (canN n)=n.ptrs.map canN++(evenL (n.items.map canN)).flatMap Nd.ptrs:=by rw[z5l h1]; rfl
     have e3:ownN (canN n)=ownB (.mk 2 n.data (n.ptrs.map canN) n.size n.count (evenL (n.items.map canN)))+(if n.kind=2∧n.size=7 then 1 else 0)+((evenL (n.items.map canN)).map ownB).sum:=by
      rw[z5l h1]; unfold ownN; rw[h1]; rfl
     have e4:ownB (.mk 2 n.data (n.ptrs.map canN) n.size n.count (evenL (n.items.map canN)))=ownB n:=by unfold ownB; simp[Nd.data,Nd.ptrs]
     have e5:((evenL (n.items.map canN)).map ownB).sum+(((evenL (n.items.map canN)).flatMap Nd.ptrs).map (z0b d)).sum≤(n.items.map ownB).sum+((n.items.flatMap Nd.ptrs).map (z0b d)).sum:=by
      rcases h3 with hc | hc | hc
      · rw[z0c hc.2.2.2.2]; exact Nat.le_refl _
      · rw[z0c hc.2.2.2]; exact Nat.le_refl _
      · have hi:=hc.2.2.2.2
        have hb:=z25 hi
        have hD:topD (n.items.map canN)≤(n.items.headD default).data.size:=zcq fun z hz=>by
         obtain ⟨y,hy,rfl⟩:=List.mem_map.1 hz;obtain ⟨k1,k2,k3,k4,k5,k6,_⟩:=hb y hy;rw[z3h k1 k3 k4 k5];have l2:=tw_le y.data.data.toList
         have l3:y.data.data.toList.length=y.data.size:=by simp
         omega
        have hP:topP (n.items.map canN)≤(n.items.headD default).ptrs.length:=zck fun z hz=>by
         obtain ⟨y,hy,rfl⟩:=List.mem_map.1 hz;obtain ⟨k1,k2,k3,k4,k5,_,k7⟩:=hb y hy;rw[z1w k1 k3 k4 k5]
         show (endP (y.ptrs.map canN)).length≤_
         have l4:=z6c (y.ptrs.map canN);rw[z21];rw[List.length_map] at l4;omega
        have hm:∀y∈n.items,(evenN (topD (n.items.map canN)) (topP (n.items.map canN)) (canN y)).data.size=topD (n.items.map canN)∧(evenN (topD (n.items.map canN)) (topP (n.items.map canN)) (canN y)).ptrs.length=topP (n.items.map canN):=fun y hy =>
         ⟨zbq (z6a _ _ (List.mem_map.2 ⟨y,hy,rfl⟩)),zbf (z81 _ _ (List.mem_map.2 ⟨y,hy,rfl⟩))⟩
        have hk2:∀y∈n.items,∀p∈y.ptrs,okN d p=true:=fun y hy p hp=>hk p (List.mem_append_right _ (List.mem_flatMap.2 ⟨y,hy,hp⟩))
        unfold evenL;generalize topD (n.items.map canN)=D at *;generalize topP (n.items.map canN)=P at *
        have hone:∀y∈n.items,ownB (evenN D P (canN y))+((evenN D P (canN y)).ptrs.map (z0b d)).sum≤ownB y+(y.ptrs.map (z0b d)).sum:=by
         intro y hy
         obtain ⟨m1,m2⟩:=hm y hy;obtain ⟨k1,k2,k3,k4,k5,k6,k7⟩:=hb y hy
         have q1:ownB (evenN D P (canN y))≤ownB y:=by unfold ownB; rw[m1,m2]; omega
         have q2:((evenN D P (canN y)).ptrs.map (z0b d)).sum≤(y.ptrs.map (z0b d)).sum:=by
          show (((canN y).ptrs++List.replicate _ z07).map (z0b d)).sum≤_
          rw[List.map_append,List.sum_append,zl2 (zc1 d),Nat.add_zero,z1w k1 k3 k4 k5];refine Nat.le_trans (z1i (y.ptrs.map canN) _ (endC (y.ptrs.map canN))) ?_;rw[List.map_map]
          exact z5r _ _ _ fun p hp=>z8v d p (hk2 y hy p hp)
         omega
        clear hm hk2 hb hD hP hi hc hk ih e1 e3 e4;generalize n.items=l at *
        induction l with
        | nil=>exact Nat.le_refl _
        | cons a t iht =>
         have g1:=hone a List.mem_cons_self;have g2:=iht (fun y hy=>hone y (List.mem_cons_of_mem _ hy))
         simp only[List.map_cons,List.sum_cons,List.flatMap_cons,List.map_append,List.sum_append] at g2 ⊢
         omega
     rw[e1,e3,e4];unfold ownN ptrsL;rw[List.map_append,List.sum_append,List.map_append,List.sum_append];omega
theorem z68 {n:Nd}(h:z0l n=true):z0l (canN n)=true:=by
 obtain ⟨h1,h2⟩:=z3q h;exact zdm (zlv 8 n h1) (Nat.le_trans (z8v 8 n h1) h2)
theorem zfp {n:Nd}(h:z0l n=true):canN (canN n)=canN n:=zch 8 n (z3q h).1
def z0w (n:Nat):Bool:=decide (n%8=0∧n≤1600)
theorem z1z (s:ByteArray)(w:World)(hs:s.size≤maxLen) :
 Calls Tryz.prog 142 #[.string s] w fun e w'=>e= .returned (.bool (z0w s.size))∧w=w':=by
 unfold maxLen at hs
 by_cases h1:s.size%8=0
 all_goals
  go_enter Tryz.func142,Tryz.ntmps142;go_wp2;go_ret;refine ⟨z0f ?_,rfl⟩
  simp[z0w,h1]
 omega
theorem z6e (s:ByteArray)(i:Int)(w:World)(hs:s.size≤maxLen)(h0:0≤i)(hi:8*i+8≤s.size) :
 Calls Tryz.prog 148 #[.string s,.int .i64 i] w fun e w'=>e= .returned (.agg (wd ((s.data.toList.drop (8*i.toNat)).take 8)))∧Below w.heap.size w w':=by
 obtain ⟨i,rfl⟩:=Int.eq_ofNat_of_zero_le h0;unfold maxLen at hs
 have ewd:(s.extract (i*8) s.size).data.toList.take 8=(s.data.toList.drop (8*(i:Int).toNat)).take 8:=by
  rw[Lib.extract_data,Nat.mul_comm]
  congr 2
  simp[List.take_of_length_le]
 have hsz:8≤(s.extract (i*8) s.size).size:=by simp; omega
 have hlen:((s.extract (i*8) s.size).data.toList.take 8).length=8:=by simp; omega
 generalize hl:(s.extract (i*8) s.size).data.toList.take 8=l at ewd hlen;rw[← ewd];have HL:=hid hl;clear ewd hl;go_enter Tryz.func148,Tryz.ntmps148;go_wp2
 have e1:IntKind.i64.wrap ((i:Int)*8)=(i:Int)*8:=by rw[IntKind.wrap_i64]; omega
 have e2:(0:Int)≤(i:Int)*8:=by omega
 have e3:(i:Int)*8≤(s.size:Int):=by omega
 have e4:((i:Int)*8).toNat=i*8:=by omega
 go_region_law (refine z5g rfl (.tmp 6) (.tmp 10) 22 9 rfl 5 Tryz.underlying22 size5 (w.heap.size+1) 8 8 (s.extract (i*8) s.size) _ 180 rfl (by simp[Act.eval,Act.put]) (by simp[Act.eval,Act.put]) (heap_alloc2_new w _ _) hsz ?_; intro w4 hg4 hb4)
 clear e1 e2 e3 e4
 have hA:Hid (w4.heap[w.heap.size]? =some (.cells #[.int .u8 0,.int .u8 0,.int .u8 0,.int .u8 0,.int .u8 0,.int .u8 0,.int .u8 0,.int .u8 0] 180 (0,0))) :=
  (hb4.out.block w.heap.size (by simp; omega) (by simp)).trans (heap_alloc2_old w _ _)
 have hB:Hid (Below w.heap.size w w4):=((Below.refl _ _).alloc (Nat.le_refl _) _ |>.alloc (by simp) _ |>.drew).grown hb4.out (by simp; omega) (fun k e=>by cases e; simp);clear hb4
 have hG:Hid (w4.heap[w.heap.size+1]? =some (.cells (wd l) 180 (0,0))):=by rw[← HL.out]; exact hg4.out
 have hlen:=hid hlen;clear hg4 HL
 go_wp2_with (first | (refine z92 rfl 180 (.tmp 5) rfl (w.heap.size+1) rfl 180 l _ hG.out Tryz.underlying180 rfl (by rw[hlen.out]; exact zig) ?_) | (refine z8m rfl 180 (.tmp 4) (.tmp 12) rfl w.heap.size l rfl rfl 180 _ hA.out (by rw[hlen.out]; exact zig) (by rw[hlen.out]; rfl) ?_; intro w5 hg5 hb5))
 refine bodyPost_ret (v:= .agg (wd l)) ?_ rfl ⟨rfl,hB.out.grown hb5.out (by have:=hB.out.size; omega) (fun k e=>by cases e; simp)⟩;exact results_cell_row rfl _ _ w.heap.size 180 _ (0,0) _ rfl hg5.out Tryz.underlying180 rfl (by rw[za5,hlen.out]; exact zig)
def z9t (size:Int):Bool:=decide (size=1∨size=2∨size=4∨size=8)
def z2k (at_ size:Int):Bool:=decide (0≤at_∧at_≤1600∧((size=1∨size=2∨size=4∨size=8)∧at_%size=0))
theorem z7r (size:Int)(w:World) :
 Calls Tryz.prog 162 #[.int .i64 size] w fun e w'=>e= .returned (.bool (z9t size))∧w=w':=by
 by_cases hz:size=1∨size=2∨size=4∨size=8
 · rcases hz with rfl | rfl | rfl | rfl
   all_goals
    go_enter Tryz.func162,Tryz.ntmps162;go_wp2
    all_goals go_ret
    all_goals exact ⟨z0f (by decide),rfl⟩
 · have b1:(size==1)=false:=by simp; omega
   have b2:(size==2)=false:=by simp; omega
   have b3:(size==4)=false:=by simp; omega
   have b4:(size==8)=false:=by simp; omega
   have hw:z9t size=false:=by simp only[z9t,hz,decide_false]
   have HW:=hid hw;clear hw;go_enter Tryz.func162,Tryz.ntmps162;go_wp2;go_ret;exact ⟨by rw[HW.out]; rfl,rfl⟩
theorem z5d (at_ size:Int)(w:World) :
 Calls Tryz.prog 152 #[.int .i64 at_,.int .i64 size] w fun e w'=>e= .returned (.bool (z2k at_ size))∧w=w':=by
 by_cases hz:size=1∨size=2∨size=4∨size=8
 · rcases hz with rfl | rfl | rfl | rfl
   all_goals
    by_cases h0:0≤at_
    all_goals
     go_enter Tryz.func152,Tryz.ntmps152
     go_wp2_with (go_at_call 162; refine (z7r _ _).mono ?_; rintro e w' ⟨rfl,rfl⟩; rw[show z9t _=true from by decide])
     all_goals go_ret
     all_goals refine ⟨z0f ?_,rfl⟩
     all_goals (rw[Bool.eq_iff_iff]; simp[z2k]; omega)
 · have hw:z9t size=false:=by simp only[z9t,hz,decide_false]
   have HW:=hid hw;clear hw;go_enter Tryz.func152,Tryz.ntmps152
   go_wp2_with (go_at_call 162; refine (z7r _ _).mono ?_; rintro e w' ⟨rfl,rfl⟩; rw[HW.out])
   go_ret;refine ⟨z0f ?_,rfl⟩;have:¬(size=1∨size=2∨size=4∨size=8):=hz
   simp only[z2k,this,false_and,and_false,decide_false]
def fitsB (n size:Int):Bool:=decide (size=8∨(0≤n∧n<256^size.toNat))
def xorI (n t:Int):Int:=bits .xor .i64 n t
theorem zm1 (n t:Int):xorI n t=IntKind.i64.wrap (((BitVec.ofInt 64 n).toNat ^^^ (BitVec.ofInt 64 t).toNat:Nat):Int):=by
 show IntKind.i64.wrap ((BitVec.ofInt 64 n ^^^ BitVec.ofInt 64 t).toNat:Int)=_
 rw[BitVec.toNat_xor]
theorem z7t (n:Int):((BitVec.ofInt 64 n).toNat:Int)=n%18446744073709551616:=by
 rw[BitVec.toNat_ofInt]
 have:((2^64:Nat):Int)=18446744073709551616:=by decide
 rw[this];omega
theorem zfk (n:Int):(BitVec.ofInt 64 n).toNat<2^64:=(BitVec.ofInt 64 n).isLt
theorem z4v {k:Nat}(hk:k≤62){n t:Int}(hn: -9223372036854775808≤n∧n≤9223372036854775807)(h0:0≤t)(h1:t<((2^k:Nat):Int)):(0≤xorI n t∧xorI n t<((2^k:Nat):Int))↔(0≤n∧n<((2^k:Nat):Int)):=by
 have hX:=z7t n;have hT:=z7t t;have hXl:=zfk n;have h2k:2^k≤2^62:=Nat.pow_le_pow_right (by decide) hk;rw[zm1,IntKind.wrap_i64];generalize (BitVec.ofInt 64 n).toNat=X at *;generalize (BitVec.ofInt 64 t).toNat=T at *
 have hTk:T<2^k:=by omega
 have e1:X<2^k→X ^^^ T<2^k:=fun h=>Nat.xor_lt_two_pow h hTk
 have e2:X ^^^ T<2^k→X<2^k:=fun h=>by
  have:=Nat.xor_lt_two_pow h hTk
  rwa [Nat.xor_assoc,Nat.xor_self,Nat.xor_zero] at this
 have e3:X ^^^ T<2^64:=Nat.xor_lt_two_pow hXl (Nat.lt_of_lt_of_le hTk (Nat.pow_le_pow_right (by decide) (by omega)));generalize X ^^^ T=Y at *;generalize 2^k=K at *
 constructor
 · rintro ⟨a,b⟩
   have:=e2 (by omega);omega
 · rintro ⟨a,b⟩
   have:=e1 (by omega);omega
theorem zin {n t z:Int}(hn: -9223372036854775808≤n∧n≤9223372036854775807)(hz:z=1∨z=2∨z=4∨z=8)(ht:fitsB t z=true):fitsB (xorI n t) z=fitsB n z:=by
 rw[Bool.eq_iff_iff]
 rcases hz with rfl | rfl | rfl | rfl
 · have:=z4v (k:=8) (by decide) hn (t:=t) (by simp[fitsB] at ht; omega) (by simp[fitsB] at ht; omega)
   simpa [fitsB] using this
 · have:=z4v (k:=16) (by decide) hn (t:=t) (by simp[fitsB] at ht; omega) (by simp[fitsB] at ht; omega)
   simpa [fitsB] using this
 · have:=z4v (k:=32) (by decide) hn (t:=t) (by simp[fitsB] at ht; omega) (by simp[fitsB] at ht; omega)
   simpa [fitsB] using this
 · simp[fitsB]
theorem zku {n t:Int}(hn: -9223372036854775808≤n∧n≤9223372036854775807)(ht:t=0∨t=1):(xorI n t=0∨xorI n t=1)↔(n=0∨n=1):=by
 have:=z4v (k:=1) (by decide) hn (t:=t) (by omega) (by omega)
 simp only[Nat.pow_one] at this
 constructor
 · intro h
   have:=this.1 (by omega);omega
 · intro h
   have:=this.2 (by omega);omega
def getI (l:List UInt8)(at_ size:Int):Int:=if z0w l.length=true∧z2k at_ size=true then wrap64 (leN l at_.toNat size.toNat:Nat) else 0
theorem zfl (l:List UInt8)(at_ size:Int)(w:World)(hl:l.length=8)(h0:0≤at_)(h1:0≤size)(h2:at_+size≤8) :
 Calls Tryz.prog 153 #[.agg (wd l),.int .i64 at_,.int .i64 size] w fun e w'=>e= .returned (.int .u64 (leN l at_.toNat size.toNat:Nat))∧Below w.heap.size w w':=by
 obtain ⟨a,rfl⟩:=Int.eq_ofNat_of_zero_le h0;obtain ⟨z,rfl⟩:=Int.eq_ofNat_of_zero_le h1
 have hc:=fun i (h:i<8)=>zgp w l 180 i (by omega)
 have HC:=hid hc;have HL:=hid hl;clear hc hl;go_enter Tryz.func153,Tryz.ntmps153;go_wp2
 go_loop [7,8] (fun n i=>∃k:Nat,k≤z∧i= .int .i64 ((a:Int)+z-1-k)∧n= .int .u64 (leN l (a+z-k) k:Nat)) (fun _ i=>(intOf i+1-a).toNat)
 case atStart=>exact ⟨0,by omega,by simp,by simp[leN]⟩
 case round =>
  obtain ⟨k,hk,rfl,rfl⟩:=hrel
  by_cases hlt:k<z
  · have hcell:=HC.out (a+z-1-k) (by omega)
    go_wp2
    go_round
    case rel=>exact ⟨k+1,by omega,by go_num,by rw[zci l a z k hlt (by omega)]⟩
    case measure=>simp[intOf]; omega
  · go_wp2
    go_ret;refine ⟨z15 ?_,(Below.refl _ _).alloc (Nat.le_refl _) _⟩
    obtain rfl:k=z:=by omega
    simp
end Go.Proofs.YtblcibgphccfkaaGreatDoor
