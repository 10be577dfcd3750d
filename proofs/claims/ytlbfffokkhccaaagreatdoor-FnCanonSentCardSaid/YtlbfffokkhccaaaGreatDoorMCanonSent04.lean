/- Texts of the proof of the law FnCanonSent, side by side: part 4. -/
import Derived.Maps.AppendAt
import Derived.Test.YtlbfffokkhccaaaGreatDoorMCanonSent03
set_option maxHeartbeats 8000000
set_option maxRecDepth 100000
open Go.Lib (hid)
namespace Go.Proofs.YtlbfffokkhccaaaGreatDoor
theorem zhq {L:Nat}{wr:Wr}{Q:Nd→Prop}{R:Segs→Nd→Nat→Nat→Prop}(hw:WrOk L wr Q)(hr:WrRep L wr Q R){n:Nd}{ss s1:Segs}{i a:Nat}(hq:∀p∈n.ptrs,Q p)(hk:SOk L ss)(hi:i<ss.length)(ha:a+ownB n≤wn (sgS ss i))(hz:HasT ss i (8*a) (zer (ownB n)))(h:bodyP wr n ss i a=some s1) :
 Kept ss s1 i a (ownB n)∧∀s2,Same ss s1 s2 i a (ownB n)→BodyR (R s2) s2 n i a:=by
 have hf:=z3q hk.wds ha;have hal:=z0s hi hf;have hwi:=z10 hk.wds i;have hdl:n.data.data.toList.length=n.data.size:=z0l _
 obtain ⟨dw,hdw⟩:∃dw,(n.data.size+7)/8=dw:=⟨_,rfl⟩
 have hob:ownB n=dw+n.ptrs.length:=by unfold ownB; rw[hdw]
 unfold bodyP at h;rw[hdw] at h
 have hib:=(hk.put hi hf)
 have hi1:i<(putS ss i a n.data.data.toList).length:=by rw[z0a]; exact hi
 have ha1:a+dw+n.ptrs.length≤wn (sgS (putS ss i a n.data.data.toList) i):=by rw[← hal.wn]; omega
 have hz1:HasT (putS ss i a n.data.data.toList) i (8*(a+dw)) (zer n.ptrs.length):=(hz.cut (k:=dw) (m:=n.ptrs.length) (by omega)).agree (fun q hq'=>by
  rw[z26 hi hf,if_neg (fun h=>by omega)])
 obtain ⟨e1,r1⟩:=zhy hw hr n.ptrs _ i (a+dw) s1 hq hib hi1 ha1 hz1 h;obtain ⟨k3,g3⟩:=z59 hw n.ptrs _ i (a+dw) s1 hq hib hi1 ha1 h;refine ⟨fun j p hp hn=>?_,fun s2 h2=>⟨fun q hq'=>?_,fun k hk'=>?_⟩⟩
 · rw[e1 j p (by rw[← hal.2 j]; exact hp) (fun h=>hn ⟨h.1,by omega,by omega⟩)]
   exact z26 hi hf j p ▸ if_neg (fun h=>hn ⟨h.1,h.2.1,by omega⟩)
 · have h3:=h2 i (8*a+q) (.inl ⟨rfl,by omega,by omega⟩)
   rw[h3,e1 i (8*a+q) (by rw[← hal.2 i]; omega) (fun h=>by omega)];exact z7a hi hf q hq'
 · rw[hdw]
   exact r1 s2 (fun j p hjp=>h2 j p (by
    rcases hjp with ⟨e,h4,h5⟩ | ⟨h4,h5⟩
    · exact .inl ⟨e,by omega,by omega⟩
    · exact .inr ⟨by rw[hal.2 j]; exact h4,h5⟩)) k hk'
theorem ze9 {L:Nat}{wr:Wr}{Q:Nd→Prop}{R:Segs→Nd→Nat→Nat→Prop}(hw:WrOk L wr Q)(hr:WrRep L wr Q R)(each:Nat):∀(l:List Nd) (ss:Segs) (i a:Nat) (s1:Segs),(∀y∈l,ownB y=each∧∀p∈y.ptrs,Q p)→SOk L ss→i<ss.length→a+l.length*each≤wn (sgS ss i)→HasT ss i (8*a) (zer (l.length*each))→z16 wr each l ss i a=some s1 →
 Kept ss s1 i a (l.length*each)∧∀s2,Same ss s1 s2 i a (l.length*each)→∀k (h:k<l.length),BodyR (R s2) s2 l[k] i (a+k*each)
 | [],ss,i,a,s1,_,hk,_,_,_,h=>by
   injection h with h
   subst h;exact ⟨Kept.refl _ _ _ _,fun s2 _ k hk=>by cases hk⟩
 | y :: t,ss,i,a,s1,hq,hk,hi,ha,hz,h=>by
   simp only[z16,Option.bind_eq_some_iff] at h
   obtain ⟨s2,h1,h2⟩:=h
   simp only[List.length_cons,Nat.add_mul,Nat.one_mul] at ha hz
   obtain ⟨hy,hyp⟩:=hq y (List.mem_cons_self ..);obtain ⟨k2,g2⟩:=z3n hw hyp hk hi (by rw[hy]; omega) h1;obtain ⟨e1,r1⟩:=zhq hw hr hyp hk hi (by rw[hy]; omega) (by rw[hy]; exact hz.cut (k:=0) (m:=each) (by omega)) h1;rw[hy] at e1 r1;have hi2:=Nat.lt_of_lt_of_le hi g2.1;have hwi:=z10 hk.wds i
   have hz2:HasT s2 i (8*(a+each)) (zer (t.length*each)):=(hz.cut (k:=each) (m:=t.length*each) (by omega)).agree (fun q hq'=>by
    rw[z0t] at hq'
    exact e1 i _ (by omega) (fun h=>by omega))
   have ha2:a+each+t.length*each≤wn (sgS s2 i):=by have:=g2.wn i; omega
   obtain ⟨e2,r2⟩:=ze9 hw hr each t s2 i (a+each) s1 (fun q hm=>hq q (List.mem_cons_of_mem _ hm)) k2 hi2 ha2 hz2 h2;obtain ⟨k3,g3⟩:=z5w hw each t s2 i (a+each) s1 (fun q hm=>hq q (List.mem_cons_of_mem _ hm)) k2 hi2 ha2 h2
   have hlen:(y :: t).length*each=t.length*each+each:=by rw[List.length_cons,Nat.add_mul,Nat.one_mul]
   rw[hlen];refine ⟨fun j p hp hn=>?_,fun s3 h3 k hk3=>?_⟩
   · rw[e2 j p (Nat.lt_of_lt_of_le hp (g2.2 j)) (fun h=>hn ⟨h.1,by omega,by omega⟩)]
     exact e1 j p hp (fun h=>hn ⟨h.1,by omega,by omega⟩)
   · cases k with
     | zero =>
      rw[Nat.zero_mul,Nat.add_zero];refine r1 s3 (fun j p hjp=>?_)
      have hold:byteS s1 j p=byteS s2 j p:=e2 j p (by
       rcases hjp with ⟨rfl,h4,h5⟩ | ⟨h4,h5⟩
       · have:=g2.2 j; omega
       · exact h5) (fun h=>by
       rcases hjp with ⟨_,h4,h5⟩ | ⟨h4,h5⟩
       · omega
       · have:=h.1; subst this; omega)
      rw[← hold];refine h3 j p ?_
      rcases hjp with ⟨e,h4,h5⟩ | ⟨h4,h5⟩
      · exact .inl ⟨e,h4,by omega⟩
      · exact .inr ⟨h4,Nat.lt_of_lt_of_le h5 (g3.2 j)⟩
     | succ k =>
      rw[List.length_cons] at hk3
      have:=r2 s3 (fun j p hjp=>h3 j p (by
       rcases hjp with ⟨e,h4,h5⟩ | ⟨h4,h5⟩
       · exact .inl ⟨e,by omega,by omega⟩
       · exact .inr ⟨Nat.le_trans (g2.2 j) h4,h5⟩)) k (by omega)
      rw[show a+(k+1)*each=a+each+k*each by rw[Nat.add_mul,Nat.one_mul]; omega];exact this
theorem zoh {L:Nat}{wr:Wr}{Q:Nd→Prop}{R:Segs→Nd→Nat→Nat→Prop}(hw:WrOk L wr Q)(hr:WrRep L wr Q R){n:Nd}{ss s1:Segs}{i a:Nat}(hf:formN n=true)(hq:∀p∈ptrsL n,Q p)(hk:SOk L ss)(hi:i<ss.length)(ha:a+ownN n≤wn (sgS ss i))(hz:HasT ss i (8*a) (zer (ownN n)))(h:fillP wr n ss i a=some s1) :
 Kept ss s1 i a (ownN n)∧∀s2,Same ss s1 s2 i a (ownN n)→FillR (R s2) s2 n i a:=by
 unfold fillP at h
 by_cases hm:n.kind=2∧n.size=7
 · rw[if_pos hm] at h
   obtain ⟨g1,g2,g3⟩:=z2l hf hm;have hwi:=z10 hk.wds i
   have hp:8*a+(tagW n).length≤(sgS ss i).length:=by rw[z0x]; omega
   have hal:=z0s hi hp;have htl:=z0x n
   have hz1:HasT (putS ss i a (tagW n)) i (8*(a+1)) (zer (n.items.length*(itD n+itP n))):=(hz.cut (k:=1) (m:=n.items.length*(itD n+itP n)) (by omega)).agree (fun q hq'=>by
    rw[z26 hi hp,if_neg (fun h=>by omega)])
   have hqi:∀y∈n.items,ownB y=itD n+itP n∧∀p∈y.ptrs,Q p:=fun y hy=>⟨z3a g1 y hy,fun p hp=>hq p (List.mem_append_right _ (List.mem_flatMap.2 ⟨y,hy,hp⟩))⟩
   obtain ⟨e1,r1⟩:=ze9 hw hr (itD n+itP n) n.items _ i (a+1) s1 hqi (hk.put hi hp) (by rw[z0a]; exact hi) (by rw[← hal.wn]; omega) hz1 h;refine ⟨fun j p hpl hn=>?_,fun s2 h2=>?_⟩
   · rw[e1 j p (by rw[← hal.2 j]; exact hpl) (fun h=>hn ⟨h.1,by omega,by omega⟩)]
     exact z26 hi hp j p ▸ if_neg (fun h=>hn ⟨h.1,h.2.1,by omega⟩)
   · unfold FillR
     rw[if_pos hm];refine ⟨fun q hq'=>?_,fun k hk'=>?_⟩
     · have h3:=h2 i (8*a+q) (.inl ⟨rfl,by omega,by omega⟩)
       rw[h3,e1 i (8*a+q) (by rw[← hal.2 i]; omega) (fun h=>by omega)];exact z7a hi hp q hq'
     · exact r1 s2 (fun j p hjp=>h2 j p (by
        rcases hjp with ⟨e,h4,h5⟩ | ⟨h4,h5⟩
        · exact .inl ⟨e,by omega,by omega⟩
        · exact .inr ⟨by rw[hal.2 j]; exact h4,h5⟩)) k hk'
 · rw[if_neg hm] at h
   obtain ⟨g1,g2⟩:=z0z hf hm;rw[g1] at ha hz ⊢;obtain ⟨e1,r1⟩:=zhq hw hr (fun p hp=>hq p (List.mem_append_left _ hp)) hk hi ha hz h;exact ⟨e1,fun s2 h2=>by unfold FillR; rw[if_neg hm]; exact r1 s2 h2⟩
def OneW (L size:Nat)(wr:Wr)(Q:Nd→Prop)(f:Nd→Nat):Prop:=∀p s a,Q p→s.length%8=0→a<wn s→wn s+f p≤size→wn s+f p≤L→∃s1,wr p [s] 0 a=some [s1]∧s1.length=s.length+8*f p
theorem zhx {L size:Nat}{wr:Wr}{Q:Nd→Prop}{f:Nd→Nat}(hw:OneW L size wr Q f):∀(l:List Nd) (s:List UInt8) (a:Nat),(∀p∈l,Q p)→s.length%8=0→a+l.length≤wn s→wn s+(l.map f).sum≤size→wn s+(l.map f).sum≤L→∃s1,ptrsP wr l [s] 0 a=some [s1]∧s1.length=s.length+8*(l.map f).sum
 | [],s,a,_,_,_,_,_=>⟨s,rfl,by simp⟩
 | p :: t,s,a,hq,h8,ha,h1,h2=>by
   simp only[List.length_cons] at ha
   simp only[List.map_cons,List.sum_cons] at h1 h2 ⊢
   obtain ⟨s1,e1,l1⟩:=hw p s a (hq p (List.mem_cons_self ..)) h8 (by omega) (by omega) (by omega)
   have e:wn s1=wn s+f p:=by unfold wn; omega
   obtain ⟨s2,e2,l2⟩:=zhx hw t s1 (a+1) (fun q hm=>hq q (List.mem_cons_of_mem _ hm)) (by omega) (by omega) (by omega) (by omega);exact ⟨s2,by simp only[ptrsP,e1,Option.bind_some]; exact e2,by omega⟩
theorem zfk (s t:List UInt8)(a:Nat):putS [s] 0 a t= [spl s (8*a) t]:=rfl
theorem zi4 {L size:Nat}{wr:Wr}{Q:Nd→Prop}{f:Nd→Nat}(hw:OneW L size wr Q f){n:Nd}{s:List UInt8}{a:Nat}(hq:∀p∈n.ptrs,Q p)(h8:s.length%8=0)(ha:a+ownB n≤wn s)(h1:wn s+(n.ptrs.map f).sum≤size)(h2:wn s+(n.ptrs.map f).sum≤L):∃s1,bodyP wr n [s] 0 a=some [s1]∧s1.length=s.length+8*(n.ptrs.map f).sum:=by
 unfold bodyP;rw[zfk];have hl:(spl s (8*a) n.data.data.toList).length=s.length:=z2u (by have h8:=z10 (ss:= [s]) (fun i=>by cases i with | zero=>exact h8 | succ i=>rfl) 0; rw[z0l]; unfold ownB at ha; have:sgS [s] 0=s:=rfl; rw[this] at h8; omega)
 have hwn:wn (spl s (8*a) n.data.data.toList)=wn s:=by unfold wn; rw[hl]
 obtain ⟨s1,e1,l1⟩:=zhx hw n.ptrs (spl s (8*a) n.data.data.toList) (a+(n.data.size+7)/8) hq (by omega) (by rw[hwn]; unfold ownB at ha; omega) (by omega) (by omega);rw[hl] at l1;exact ⟨s1,e1,l1⟩
theorem zdt {L size:Nat}{wr:Wr}{Q:Nd→Prop}{f:Nd→Nat}(hw:OneW L size wr Q f)(each:Nat):∀(l:List Nd) (s:List UInt8) (a:Nat),(∀y∈l,ownB y=each∧∀p∈y.ptrs,Q p)→s.length%8=0→a+l.length*each≤wn s→wn s+(l.map fun y=>(y.ptrs.map f).sum).sum≤size→wn s+(l.map fun y=>(y.ptrs.map f).sum).sum≤L→∃s1,z16 wr each l [s] 0 a=some [s1]∧s1.length=s.length+8*(l.map fun y=>(y.ptrs.map f).sum).sum
 | [],s,a,_,_,_,_,_=>⟨s,rfl,by simp⟩
 | y :: t,s,a,hq,h8,ha,h1,h2=>by
   simp only[List.length_cons,Nat.add_mul,Nat.one_mul] at ha
   simp only[List.map_cons,List.sum_cons] at h1 h2 ⊢
   obtain ⟨hy,hyp⟩:=hq y (List.mem_cons_self ..);obtain ⟨s1,e1,l1⟩:=zi4 (a:=a) hw hyp h8 (by rw[hy]; omega) (show wn s+(y.ptrs.map f).sum≤size by omega) (show wn s+(y.ptrs.map f).sum≤L by omega)
   have e:wn s1=wn s+(y.ptrs.map f).sum:=by unfold wn; omega
   obtain ⟨s2,e2,l2⟩:=zdt hw each t s1 (a+each) (fun q hm=>hq q (List.mem_cons_of_mem _ hm)) (by omega) (by omega) (by omega) (by omega);exact ⟨s2,by simp only[z16,e1,Option.bind_some]; exact e2,by omega⟩
theorem zoq {L size:Nat}{wr:Wr}{Q:Nd→Prop}{f:Nd→Nat}(hw:OneW L size wr Q f){n:Nd}{s:List UInt8}{a:Nat}(hf:formN n=true)(hq:∀p∈ptrsL n,Q p)(h8:s.length%8=0)(ha:a+ownN n≤wn s)(h1:wn s+((ptrsL n).map f).sum≤size)(h2:wn s+((ptrsL n).map f).sum≤L):∃s1,fillP wr n [s] 0 a=some [s1]∧s1.length=s.length+8*((ptrsL n).map f).sum:=by
 have hsum:((ptrsL n).map f).sum=(n.ptrs.map f).sum+(n.items.map fun y=>(y.ptrs.map f).sum).sum:=by unfold ptrsL; rw[List.map_append,List.sum_append,z4m]
 unfold fillP
 split
 · rename_i hm
   obtain ⟨g1,g2,g3⟩:=z2l hf hm
   have e0:(n.ptrs.map f).sum=0:=by rw[g3]; rfl
   rw[zfk];have hl:(spl s (8*a) (tagW n)).length=s.length:=z2u (by rw[z0x]; unfold wn at ha; omega)
   have hwn:wn (spl s (8*a) (tagW n))=wn s:=by unfold wn; rw[hl]
   obtain ⟨s1,e1,l1⟩:=zdt hw (itD n+itP n) n.items (spl s (8*a) (tagW n)) (a+1) (fun y hy=>⟨z3a g1 y hy,fun p hp=>hq p (List.mem_append_right _ (List.mem_flatMap.2 ⟨y,hy,hp⟩))⟩) (by omega) (by omega) (by omega) (by omega);exact ⟨s1,e1,by omega⟩
 · rename_i hm
   obtain ⟨g1,g2⟩:=z0z hf hm
   have e0:(n.items.map fun y=>(y.ptrs.map f).sum).sum=0:=by rw[g2]; rfl
   obtain ⟨s1,e1,l1⟩:=zi4 (a:=a) hw (fun p hp=>hq p (List.mem_append_left _ hp)) h8 (by omega) (show wn s+(n.ptrs.map f).sum≤size by omega) (show wn s+(n.ptrs.map f).sum≤L by omega);exact ⟨s1,e1,by omega⟩
theorem zoz {n:Nd}(hf:formN n=true)(ho:ownN n=0):ptrsL n= []:=by
 by_cases hm:n.kind=2∧n.size=7
 · have:=(z2l hf hm).2.1; omega
 · obtain ⟨g1,g2⟩:=z0z hf hm
   have:n.ptrs.length=0:=by unfold ownB at g1; omega
   unfold ptrsL;rw[g2,List.eq_nil_of_length_eq_zero this]
   rfl
theorem zqc (L size:Nat):∀d,OneW L size (wrP L size d) (fun n=>okN d n=true) (z03 d)
 | 0=>fun p s a _ _ _ _ _=>⟨s,rfl,rfl⟩
 | d+1=>fun n s a hn h8 ha h1 h2=>by
   have hf:=z1m hn
   simp only[wrP]
   split
   · rename_i hk0
     exact ⟨s,rfl,by rw[(z3h (d:=d+1) hf hk0).2]; rfl⟩
   · rename_i hk0
     have e3:z03 (d+1) n=ownN n+((ptrsL n).map (z03 d)).sum:=rfl
     split
     · rename_i hp
       refine ⟨_,by rw[zfk],?_⟩;rw[z2u (by rw[z0f]; unfold wn at ha; omega),e3,hp,zoz hf hp]
       rfl
     · rename_i hp
       have hr:roomP L size n [s] 0 a=some ([spl (s++zer (ownN n)) (8*a) (ptrW n ((wn s:Int)-a-1))],0,wn s):=by
        unfold roomP;have hs:sgS [s] 0=s:=rfl
        have ht:totS [s]=wn s:=by simp[totS]
        rw[hs,ht,if_pos (by omega),if_pos (by omega)]
        rfl
       rw[hr,Option.bind_some]
       have hl:(spl (s++zer (ownN n)) (8*a) (ptrW n ((wn s:Int)-a-1))).length=s.length+8*ownN n:=by
        rw[z2u (by rw[z0f,List.length_append]; unfold wn at ha; omega),List.length_append,z0t]
       have hwn:wn (spl (s++zer (ownN n)) (8*a) (ptrW n ((wn s:Int)-a-1)))=wn s+ownN n:=by unfold wn at hl ⊢; rw[hl]; omega
       obtain ⟨s1,g1,g2⟩:=zoq (zqc L size d) hf (z1n hn hk0) (s:=spl (s++zer (ownN n)) (8*a) (ptrW n ((wn s:Int)-a-1))) (a:=wn s) (by omega) (by omega) (by omega) (by omega);exact ⟨s1,g1,by omega⟩
theorem zee {n:Nd}{size:Nat}(h:z0g n=true)(hs:z2r n+1≤size):∃s,z36 200 size n=some [s]∧s.length=8*(z2r n+1):=by
 obtain ⟨h1,h2⟩:=z21 h
 have e:z2r n=z03 8 n:=by unfold z2r; rw[if_pos h]
 rw[e] at hs ⊢;obtain ⟨s,g1,g2⟩:=zqc 200 size 8 n (zer 1) 0 h1 (by decide) (by decide) (by rw[show wn (zer 1)=1 by decide]; omega) (by rw[show wn (zer 1)=1 by decide]; omega);exact ⟨s,g1,by rw[g2,z0t]; omega⟩
def PtrR (s:Segs)(n:Nd)(i a j c:Nat):Prop:=(j=i∧HasT s i (8*a) (ptrW n ((c:Int)-a-1)))∨∃pad:Nat,c=pad+1∧HasT s i (8*a) (farW pad j)∧HasT s j (8*pad) (ptrW n 0)
theorem zdp {ss:Segs}{i k:Nat}(hi:i<ss.length)(hw:WdS ss):HasT (growB ss i k) i (8*wn (sgS ss i)) (zer k):=fun q hq=>by
 unfold byteS;have:=z10 hw i;rw[z4t hi,if_pos rfl,List.getElem?_append_right (by omega)]
 congr 1
 omega
theorem znt {L size:Nat}{n:Nd}{ss s1:Segs}{i a j c:Nat}(hk:SOk L ss)(hi:i<ss.length)(ha:a<wn (sgS ss i))(h:roomP L size n ss i a=some (s1,j,c)) :
 Kept ss s1 i a 1∧HasT s1 j (8*c) (zer (ownN n))∧(sgS ss j).length≤8*c ∧
 ∀s2,(∀j' p,((j'=i∧8*a≤p∧p<8*a+8)∨(j'=j∧(sgS ss j).length≤p∧p<8*c))→byteS s2 j' p=byteS s1 j' p)→PtrR s2 n i a j c:=by
 have hwi:=z10 hk.wds i;unfold roomP at h
 split at h
 · split at h
   · rename_i ht
     injection h with h
     injection h with h1 h2
     injection h2 with h2 h3
     subst h1 h2 h3;have hg:=hk.grow hi ht
     have hi':i<(growB ss i (ownN n)).length:=by rw[z0b]; exact hi
     have hr:=room8 (k:=1) hg.wds (i:=i) (a:=a) (by rw[z2q hi]; omega)
     have hp:8*a+(ptrW n ((wn (sgS ss i):Int)-a-1)).length≤(sgS (growB ss i (ownN n)) i).length:=by rw[z0f]; omega
     have hpl:=z0f n ((wn (sgS ss i):Int)-a-1);refine ⟨fun j p hpl' hn=>?_,(zdp hi hk.wds).agree (fun q hq=>?_),by omega,fun s2 h2=> .inl ⟨rfl,(z7a hi' hp).agree (fun q hq=>?_)⟩⟩
     · rw[z26 hi' hp,if_neg (fun h=>hn ⟨h.1,by omega,by omega⟩)]
       exact zeg hi hpl'
     · rw[z26 hi' hp,if_neg (fun h=>by omega)]
     · exact h2 i _ (.inl ⟨rfl,by omega,by omega⟩)
   · cases h
 · split at h
   · cases h
   · rename_i s0 j0 ho
     obtain ⟨h1,h2,h3⟩:=z4a hk ho
     have h0:∀j p,p<(sgS ss j).length→byteS s0 j p=byteS ss j p:=by
      unfold z2e at ho
      split at ho
      · injection ho with ho; injection ho with e; intro j p _; rw[e]
      · split at ho
        · injection ho with ho; injection ho with e; intro j p hp; rw[← e]; exact zo2 hp
        · cases ho
     split at h
     · rename_i ht
       injection h with h
       injection h with e1 e2
       injection e2 with e2 e3
       subst e1 e2 e3;have hg:=h1.grow h3 ht
       have hi':i<(growB s0 j0 (1+ownN n)).length:=by rw[z0b]; exact Nat.lt_of_lt_of_le hi h2.1
       have hai:a<wn (sgS (growB s0 j0 (1+ownN n)) i):=Nat.lt_of_lt_of_le ha ((h2.trans (z2p h3)).wn i);have hr:=room8 (k:=1) hg.wds (i:=i) (a:=a) (by omega);have hfl:=z1e (wn (sgS s0 j0)) j0;have hpl:=z0f n 0
       have hp:8*a+(farW (wn (sgS s0 j0)) j0).length≤(sgS (growB s0 j0 (1+ownN n)) i).length:=by omega
       have hg2:=hg.put hi' hp
       have hwj:wn (sgS (putS (growB s0 j0 (1+ownN n)) i a (farW (wn (sgS s0 j0)) j0)) j0)=wn (sgS s0 j0)+(1+ownN n):=by rw[← (z0s hi' hp).wn,z2q h3]
       have hj2:j0<(putS (growB s0 j0 (1+ownN n)) i a (farW (wn (sgS s0 j0)) j0)).length:=by rw[z0a,z0b]; exact h3
       have hr2:=room8 (k:=1) hg2.wds (i:=j0) (a:=wn (sgS s0 j0)) (by omega)
       have hp2:8*wn (sgS s0 j0)+(ptrW n 0).length≤(sgS (putS (growB s0 j0 (1+ownN n)) i a (farW (wn (sgS s0 j0)) j0)) j0).length:=by omega
       have hwj0:=z10 h1.wds j0;have hgj:=h2.2 j0;have hgi:=h2.2 i;refine ⟨fun j p hp' hn=>?_,((zdp (k:=1+ownN n) h3 h1.wds).cut (k:=1) (m:=ownN n) (by omega)).agree (fun q hq=>?_),by omega,fun s2 h2'=> .inr ⟨wn (sgS s0 j0),rfl,fun q hq=>?_,fun q hq=>?_⟩⟩
       · have hgp:=h2.2 j
         rw[z26 hj2 hp2,if_neg (fun h=>by have e:=h.1; subst e; omega),z26 hi' hp,if_neg (fun h=>hn ⟨h.1,by omega,by omega⟩),zeg h3 (by omega)];exact h0 j p hp'
       · rw[z0t] at hq
         rw[z26 hj2 hp2,if_neg (fun h=>by omega),z26 hi' hp,if_neg (fun h=>by have e:=h.1; subst e; omega)]
       · rw[h2' i (8*a+q) (.inl ⟨rfl,by omega,by omega⟩),z26 hj2 hp2,if_neg (fun h=>by have e:=h.1; subst e; omega)]
         exact z7a hi' hp q hq
       · rw[h2' j0 (8*wn (sgS s0 j0)+q) (.inr ⟨rfl,by omega,by omega⟩)]
         exact z7a hj2 hp2 q hq
     · cases h
theorem zq9 (L size:Nat):∀d,WrRep L (wrP L size d) (fun n=>okN d n=true) (fun s n i a=>RepN s d n i a)
 | 0=>fun p ss i a s1 hn hk hi ha hz h=>by
   simp only[wrP] at h
   injection h with h
   subst h
   have hk0:p.kind=0:=by simp only[okN,Bool.and_eq_true,decide_eq_true_eq] at hn; exact hn.2
   refine ⟨Kept.refl _ _ _ _,fun s2 h2=>⟨hk0,hz.agree (fun q hq=>?_)⟩⟩;rw[z0t] at hq;exact h2 i _ (.inl ⟨rfl,by omega,by omega⟩)
 | d+1=>fun n ss i a s1 hn hk hi ha hz h=>by
   have hf:=z1m hn;have hwi:=z10 hk.wds i
   simp only[wrP] at h
   by_cases hk0:n.kind=0
   · rw[if_pos hk0] at h
     injection h with h
     subst h;refine ⟨Kept.refl _ _ _ _,fun s2 h2=> .inl ⟨hk0,hz.agree (fun q hq=>?_)⟩⟩;rw[z0t] at hq;exact h2 i _ (.inl ⟨rfl,by omega,by omega⟩)
   · rw[if_neg hk0] at h
     by_cases hp:ownN n=0
     · rw[if_pos hp] at h
       injection h with h
       subst h;have hpl:=z0f n (if n.kind=1 then -1 else 0)
       have hl:8*a+(ptrW n (if n.kind=1 then -1 else 0)).length≤(sgS ss i).length:=by omega
       refine ⟨zpa hi hl (by omega),fun s2 h2=> .inr (.inl ⟨hk0,hp,(z7a hi hl).agree (fun q hq=>h2 i _ (.inl ⟨rfl,by omega,by omega⟩))⟩)⟩
     · rw[if_neg hp,Option.bind_eq_some_iff] at h
       obtain ⟨⟨s2,j,c⟩,h1,h2⟩:=h;obtain ⟨k2,g2,hj,hc⟩:=z3l hk hi ha h1;obtain ⟨r1,r2,r3,r4⟩:=znt hk hi ha h1;obtain ⟨e1,e2⟩:=zoh (z2b L size d) (zq9 L size d) hf (z1n hn hk0) k2 hj hc r2 h2;obtain ⟨k3,g3⟩:=zae (z2b L size d) hf (z1n hn hk0) k2 hj hc h2;have hcl:=z10 k2.wds j;refine ⟨fun j' p hp' hn'=>?_,fun s3 h3=> .inr (.inr ⟨hk0,hp,j,c,r4 s3 (fun j' p hjp=>?_),e2 s3 (fun j' p hjp=>h3 j' p ?_)⟩)⟩
       · rw[e1 j' p (Nat.lt_of_lt_of_le hp' (g2.2 j')) (fun h=>by have e:=h.1; subst e; omega)]
         exact r1 j' p hp' hn'
       · have hg2j:=g2.2 j'
         have hg3j:=g3.2 j'
         have hs:byteS s3 j' p=byteS s1 j' p:=h3 j' p (by
          rcases hjp with ⟨e,h4,h5⟩ | ⟨e,h4,h5⟩
          · exact .inl ⟨e,h4,by omega⟩
          · subst e; exact .inr ⟨h4,by omega⟩)
         rw[hs]
         exact e1 j' p (by
          rcases hjp with ⟨e,h4,h5⟩ | ⟨e,h4,h5⟩
          · subst e; omega
          · subst e; omega) (fun h=>by
          rcases hjp with ⟨e,h4,h5⟩ | ⟨e,h4,h5⟩
          · have e':=h.1; subst e; subst e'; omega
          · omega)
       · have hg2j:=g2.2 j'
         have hg3j:=g3.2 j'
         rcases hjp with ⟨e,h4,h5⟩ | ⟨h4,h5⟩
         · subst e; exact .inr ⟨by omega,by omega⟩
         · exact .inr ⟨by omega,h5⟩
theorem zlr {L size:Nat}{n:Nd}{ss:Segs}(hL:1≤L)(hok:okN 8 n=true)(h:z36 L size n=some ss):RepN ss 8 n 0 0 :=
 (zq9 L size 8 n [zer 1] 0 0 ss hok (SOKL L hL) (by decide) (by decide) (fun q hq=>by
  rw[z0t] at hq
  have:∀q,q<8*1→byteS [zer 1] 0 (8*0+q)=(zer 1)[q]? :=by decide
  exact this q hq) h).2 ss (fun _ _ _=>rfl)
def loP (n:Nd)(off:Int):Int:=if n.kind=1 then offN off else offN off+1
def hiP (n:Nd):Int:=if n.kind=1 then (n.data.size/8:Nat)+65536*(n.ptrs.length:Int) else if n.size=7 then ((ownN n:Int)-1)*8+7 else n.count*8+n.size
theorem zp4 (n:Nd)(off:Int):ptrW n off=w8 (loP n off) (hiP n):=by
 unfold ptrW loP hiP
 split
 · rfl
 · split <;> rfl
structure PtOk (n:Nd):Prop where
 data:n.data.size≤2400
 ptrs:n.ptrs.length≤300
 kind:n.kind=1∨n.kind=2
 size:n.kind=2→0≤n.size∧n.size≤7∧0≤n.count∧n.count<12801
 own:n.kind=2→n.size=7→1≤ownN n∧ownN n≤300
theorem PtOk.bd {n:Nd}(h:PtOk n)(off:Int):(0≤loP n off∧loP n off<4294967296)∧(0≤hiP n∧hiP n<4294967296):=by
 have h1:=h.data;have h2:=h.ptrs;have h3:=z2a off;refine ⟨?_,?_⟩
 · unfold loP offN at *; split <;> omega
 · unfold hiP
   rcases h.kind with k | k
   · rw[if_pos k]; omega
   · have hs:=h.size k
     rw[if_neg (by omega)]
     split
     · rename_i e; have:=h.own k e; omega
     · omega
theorem HasT.le {s:Segs}{j p:Nat}{t:List UInt8}(h:HasT s j p t)(ht:1≤t.length):p+t.length≤(sgS s j).length:=by
 have h1:=h (t.length-1) (by omega);have h2:t[t.length-1]? =some t[t.length-1]:=List.getElem?_eq_getElem (by omega);rw[h2] at h1;unfold byteS at h1;obtain ⟨h3, -⟩:=List.getElem?_eq_some_iff.1 h1;omega
theorem RepN.le {s:Segs} :∀ {d:Nat} {n:Nd} {i a:Nat},RepN s d n i a→8*a+8≤(sgS s i).length
 | 0,n,i,a,h=>by have:=h.2.le (by rw[z0t]; omega); rw[z0t] at this; omega
 | d+1,n,i,a,h=>by
   rcases h with ⟨_,h⟩ | ⟨_,_,h⟩ | ⟨_,_,j,c,h,_⟩
   · have:=h.le (by rw[z0t]; omega); rw[z0t] at this; omega
   · have:=h.le (by rw[z0f]; omega); rw[z0f] at this; omega
   · rcases h with ⟨_,h⟩ | ⟨pad,_,h,_⟩
     · have:=h.le (by rw[z0f]; omega); rw[z0f] at this; omega
     · have:=h.le (by rw[z1e]; omega); rw[z1e] at this; omega
theorem zs3 {s:Segs}{d:Nat}{n:Nd}{j c:Nat}(h:BodyR (RepN s d) s n j c)(ho:ownB n≠0):8*c<(sgS s j).length:=by
 obtain ⟨h1,h2⟩:=h;unfold ownB at ho
 by_cases hd:n.data.size=0
 · have hp:0<n.ptrs.length:=by omega
   have:=(h2 0 hp).le;rw[hd] at this;omega
 · have hl:=z0l n.data
   have:=h1.le (by omega);omega
theorem zrj {s:Segs}{d:Nat}{n:Nd}{j c:Nat}(hf:formN n=true)(h:FillR (RepN s d) s n j c)(ho:ownN n≠0):8*c<(sgS s j).length:=by
 unfold FillR at h
 split at h
 · have:=h.1.le (by rw[z0x]; omega)
   rw[z0x] at this;omega
 · rename_i hm
   exact zs3 h (by rw[← (z0z hf hm).1]; exact ho)
open Go.RowKit
theorem zdz {d:ByteArray}{b:Int}(_h0:0≤b)(hs:(d.size:Int)=(b+7)/8)(h8:b%8=0):bitsB d b=true:=by simp[bitsB,hs,h8]
theorem zru (x r:Nat):((x:Int)/(2:Int)^r==0)=decide (x<2^r):=by
 have h:(2:Int)^r=((2^r:Nat):Int):=by simp
 have hp:0<2^r:=Nat.two_pow_pos r;rw[h,Bool.eq_iff_iff];generalize 2^r=p at *;rw[← Int.natCast_ediv]
 simp only[beq_iff_eq,decide_eq_true_eq]
 have:=Nat.div_eq_zero_iff (a:=x) (b:=p);omega
theorem zjy (k s c:Int)(d:ByteArray)(A B:Option Addr)(lp cp li ci:Nat)(w:World)(h0:0≤s)(h5:s≤5)(c0:0≤c)(c1:c≤12800)(_hdm:d.size≤maxLen) :
 Calls Tryz.prog 162 #[.agg #[.int .i64 k,.string d,.slice A lp cp,.int .i64 s,.int .i64 c,.slice B li ci]] w fun e w'=>e= .returned (.bool (bitsB d (c*bz s)))∧Below w.heap.size w w':=by
 have HBY:=hid (fun W=>zdx s c W h0 (by omega) c0 c1);have HBZ:Hid (byteZ s c=(c*bz s+7)/8):=hid (by unfold byteZ; rw[Int.mul_comm]);have HR:=hid (heap_alloc_new w (.cells #[.int .i64 k,.string d,.slice A lp cp,.int .i64 s,.int .i64 c,.slice B li ci] nodeT));have HBA:=hid ((Below.refl w.heap.size w).alloc (Nat.le_refl _) (.cells #[.int .i64 k,.string d,.slice A lp cp,.int .i64 s,.int .i64 c,.slice B li ci] nodeT))
 have hby:0≤byteZ s c∧byteZ s c≤102401:=by
  have hb:=bz_le s;have h1:=Int.mul_nonneg hb.1 c0;have h2:=Int.mul_le_mul hb.2 c1 c0 (by omega)
  unfold byteZ; omega
 obtain ⟨by_,hbyd⟩:∃z,z=byteZ s c:=⟨_,rfl⟩
 rw[← hbyd] at HBY HBZ hby;clear hbyd
 by_cases hne:(d.size:Int)=by_
 · have hneb:((d.size:Int) != by_)=false:=by rw[hne]; simp
   have HSZ:Hid ((d.size:Int)=(c*bz s+7)/8):=hid (by rw[hne,HBZ.out]);have HNE:=hid hne;clear hne;go_enter Tryz.func162,Tryz.ntmps162
   go_wp2_with fail
   generalize w.alloc (.cells #[.int .i64 k,.string d,.slice A lp cp,.int .i64 s,.int .i64 c,.slice B li ci] nodeT)=W at *;obtain ⟨e0,e1,e2,e3,e4,e5⟩:=z01 HR.out;have q1:=cell_regrown e1;have q3:=cell_regrown e3;have q4:=cell_regrown e4;refine wp_region_quiet_below (by kernel_rfl) (by kernel_rfl) ?_
   repeat (first | go_big_quiet_step ((go_at_call 185; with_reducible exact Calls.regrown_of (HBY.out _))) | quiet_step ((go_at_call 185; with_reducible exact Calls.regrown_of (HBY.out _))))
   refine wpQuiet_nil ?_
   intro _ hw'
   obtain ⟨⟨dq,osq⟩,hw''⟩:=hw';subst hw'';have HB2:=hid (HBA.out.trans ((below_regrown W dq osq).mono HBA.out.size));have HR2:=hid (((below_regrown W dq osq).block _ (z00 HR.out)).trans HR.out);clear q1 q3 q4 e0 e1 e2 e3 e4 e5;generalize «Sort».grow (redrawn W dq) osq=W2 at *;obtain ⟨e0,e1,e2,e3,e4,e5⟩:=z01 HR2.out;clear HR HBA HBY
   by_cases hs1:s=1
   · subst hs1
     have hc1:c*bz 1=c:=by rw[show bz 1=1 from rfl,Int.mul_one]
     rw[hc1] at HSZ;have HC1:=hid hc1;clear hc1
     by_cases h8:c%8=0
     · have HX:=hid (zdz c0 HSZ.out h8)
       go_wp2;go_ret;exact ⟨by rw[HC1.out,HX.out]; rfl,HB2.out⟩
     · obtain ⟨j,hj⟩:∃j,d.size=j+1:=⟨d.size-1,by have:=HSZ.out; omega⟩
       have hlt:j<d.size:=by omega
       have hln:(d.size:Int)-1=(j:Int):=by omega
       have hjm:j≤10000000:=by have:=HSZ.out; omega
       have HLN:=hid (zck hj hlt);have hx:(d[j]).toNat<256:=(d[j]).toNat_lt
       have h8b:(c%8==0)=false:=by simpa using h8
       have HX:Hid (bitsB d c=decide ((d[j]).toNat<2^(c%8).toNat)):=hid (by
        unfold bitsB;rw[decide_eq_true HSZ.out,decide_eq_false h8,HLN.out]
        rfl)
       have hw:wrap64 ((d[j]).toNat:Int)=((d[j]).toNat:Int):=by
        simp only[wrap64]
        omega
       have HW:=hid hw;have H8:=hid h8;clear hj h8 hw;go_wp2;go_ret;refine ⟨?_,HB2.out⟩;rw[HC1.out,HX.out];exact z0j (zru _ _)
   · have hs1b:(s != 1)=true:=by simpa using hs1
     have HX:Hid (bitsB d (c*bz s)=true):=hid (zdz (Int.mul_nonneg c0 (bz_le s).1) HSZ.out (by
      have:s=0∨s=2∨s=3∨s=4∨s=5:=by omega
      rcases this with rfl | rfl | rfl | rfl | rfl
      · rw[show bz 0=0 from rfl]; omega
      · rw[show bz 2=8 from rfl]; omega
      · rw[show bz 3=16 from rfl]; omega
      · rw[show bz 4=32 from rfl]; omega
      · rw[show bz 5=64 from rfl]; omega))
     go_wp2;go_ret;exact ⟨by rw[HX.out]; rfl,HB2.out⟩
 · have hneb:((d.size:Int) != by_)=true:=by simpa using hne
   have HX:Hid (bitsB d (c*bz s)=false):=hid (by unfold bitsB; rw[← HBZ.out,decide_eq_false hne]; rfl);clear hne;go_enter Tryz.func162,Tryz.ntmps162
   go_wp2_with fail
   generalize w.alloc (.cells #[.int .i64 k,.string d,.slice A lp cp,.int .i64 s,.int .i64 c,.slice B li ci] nodeT)=W at *;obtain ⟨e0,e1,e2,e3,e4,e5⟩:=z01 HR.out;have q1:=cell_regrown e1;have q3:=cell_regrown e3;have q4:=cell_regrown e4;refine wp_region_quiet_below (by kernel_rfl) (by kernel_rfl) ?_
   repeat (first | go_big_quiet_step ((go_at_call 185; with_reducible exact Calls.regrown_of (HBY.out _))) | quiet_step ((go_at_call 185; with_reducible exact Calls.regrown_of (HBY.out _))))
   refine wpQuiet_nil ?_
   intro _ hw'
   obtain ⟨⟨dq,osq⟩,hw''⟩:=hw';subst hw'';have HB2:=hid (HBA.out.trans ((below_regrown W dq osq).mono HBA.out.size));clear q1 q3 q4 e0 e1 e2 e3 e4 e5;generalize «Sort».grow (redrawn W dq) osq=W2 at *;go_wp2;go_ret;exact ⟨by rw[HX.out]; rfl,HB2.out⟩
def CutP (b:Nat)(w:World)(e:Ending)(w':World):Prop:=∃u:ByteArray,u.size≤b∧e= .returned (.string u)∧Below w.heap.size w w'
theorem zr8 (d:ByteArray)(s c:Int)(w:World)(h0:0≤s)(h5:s≤5)(c0:0≤c)(c1:c≤11)(hd:96≤d.size)(hd2:d.size≤1000) :
 Calls Tryz.prog 155 #[.string d,.int .i64 s,.int .i64 c] w (CutP 1001 w):=by
 have hb:=bz_le s
 have hby:0≤byteZ s c∧byteZ s c≤88:=by
  have h1:=Int.mul_nonneg hb.1 c0;have h2:=Int.mul_le_mul hb.2 c1 c0 (by omega)
  unfold byteZ; omega
 obtain ⟨nn,hnn⟩:=Int.eq_ofNat_of_zero_le hby.1;have HBY:=hid (zdx s c w h0 (by omega) c0 (by omega));rw[hnn] at HBY
 have hn88:nn≤88:=by omega
 obtain ⟨o,hext⟩:∃o,d.extract 0 nn=o:=⟨_,rfl⟩
 have hos:o.size=nn:=by rw[← hext,ByteArray.size_extract]; omega
 have hle:(nn:Int)≤(d.size:Int):=by omega
 have HOS:=hid hos
 by_cases hs1:s=1
 · subst hs1
   by_cases h8:c%8=0
   · clear hos
     go_enter Tryz.func155,Tryz.ntmps155
     go_wp2_with fail
     refine HBY.out.mono ?_;rintro e w1 ⟨rfl,hb1⟩;have HB1:=hid hb1;clear hb1;go_wp2;go_ret;exact ⟨o,by have:=HOS.out; omega,rfl,HB1.out⟩
   · have hn1:byteZ 1 c=(c+7)/8:=by unfold byteZ; rw[show bz 1=1 from rfl,Int.one_mul]
     obtain ⟨j,hj⟩:∃j,nn=j+1:=⟨nn-1,by omega⟩
     have hlt:j<o.size:=by omega
     have hle2:(j:Int)≤(o.size:Int):=by omega
     have hln:(nn:Int)-1=(j:Int):=by omega
     have hjm:j≤100:=by omega
     have hx:(o[j]).toNat<256:=(o[j]).toNat_lt;have HJ:=hid hj
     have hk:c%8=1∨c%8=2∨c%8=3∨c%8=4∨c%8=5∨c%8=6∨c%8=7:=by omega
     clear hos hj h8 hn1 hnn hby hb hd hd2 h0 h5
     rcases hk with hk | hk | hk | hk | hk | hk | hk
     · have hand:=zhl (o[j]).toNat hx
       have hq:(o[j]).toNat%2<256:=by omega
       generalize (o[j]).toNat%2=q at hand hq;go_enter Tryz.func155,Tryz.ntmps155
       go_wp2_with fail
       refine HBY.out.mono ?_;rintro e w1 ⟨rfl,hb1⟩;have hcv:(convert 22 9 (.slice (some ⟨w1.heap.size,0,none⟩) 1 1)).run Tryz.prog (w1.alloc (.cells #[.int .u8 (q:Int)] 5)).drew= .ok (.string ⟨#[UInt8.ofNat q]⟩) (w1.alloc (.cells #[.int .u8 (q:Int)] 5)).drew:=z40 q hq w1.drew;have HB1:=hid hb1;clear hb1;go_wp2
       go_region
       go_wp2;go_ret;exact ⟨o.extract 0 j++⟨#[UInt8.ofNat q]⟩,by have:=HOS.out; rw[z1g,ByteArray.size_extract]; show _+1≤_; have:=HJ.out; omega,rfl,(HB1.out.alloc HB1.out.size _).drew⟩
     · have hand:=zh4 (o[j]).toNat hx
       have hq:(o[j]).toNat%4<256:=by omega
       generalize (o[j]).toNat%4=q at hand hq;go_enter Tryz.func155,Tryz.ntmps155
       go_wp2_with fail
       refine HBY.out.mono ?_;rintro e w1 ⟨rfl,hb1⟩;have hcv:(convert 22 9 (.slice (some ⟨w1.heap.size,0,none⟩) 1 1)).run Tryz.prog (w1.alloc (.cells #[.int .u8 (q:Int)] 5)).drew= .ok (.string ⟨#[UInt8.ofNat q]⟩) (w1.alloc (.cells #[.int .u8 (q:Int)] 5)).drew:=z40 q hq w1.drew;have HB1:=hid hb1;clear hb1;go_wp2
       go_region
       go_wp2;go_ret;exact ⟨o.extract 0 j++⟨#[UInt8.ofNat q]⟩,by have:=HOS.out; rw[z1g,ByteArray.size_extract]; show _+1≤_; have:=HJ.out; omega,rfl,(HB1.out.alloc HB1.out.size _).drew⟩
     · have hand:=zhm (o[j]).toNat hx
       have hq:(o[j]).toNat%8<256:=by omega
       generalize (o[j]).toNat%8=q at hand hq;go_enter Tryz.func155,Tryz.ntmps155
       go_wp2_with fail
       refine HBY.out.mono ?_;rintro e w1 ⟨rfl,hb1⟩;have hcv:(convert 22 9 (.slice (some ⟨w1.heap.size,0,none⟩) 1 1)).run Tryz.prog (w1.alloc (.cells #[.int .u8 (q:Int)] 5)).drew= .ok (.string ⟨#[UInt8.ofNat q]⟩) (w1.alloc (.cells #[.int .u8 (q:Int)] 5)).drew:=z40 q hq w1.drew;have HB1:=hid hb1;clear hb1;go_wp2
       go_region
       go_wp2;go_ret;exact ⟨o.extract 0 j++⟨#[UInt8.ofNat q]⟩,by have:=HOS.out; rw[z1g,ByteArray.size_extract]; show _+1≤_; have:=HJ.out; omega,rfl,(HB1.out.alloc HB1.out.size _).drew⟩
     · have hand:=zhd (o[j]).toNat hx
       have hq:(o[j]).toNat%16<256:=by omega
       generalize (o[j]).toNat%16=q at hand hq;go_enter Tryz.func155,Tryz.ntmps155
       go_wp2_with fail
       refine HBY.out.mono ?_;rintro e w1 ⟨rfl,hb1⟩;have hcv:(convert 22 9 (.slice (some ⟨w1.heap.size,0,none⟩) 1 1)).run Tryz.prog (w1.alloc (.cells #[.int .u8 (q:Int)] 5)).drew= .ok (.string ⟨#[UInt8.ofNat q]⟩) (w1.alloc (.cells #[.int .u8 (q:Int)] 5)).drew:=z40 q hq w1.drew;have HB1:=hid hb1;clear hb1;go_wp2
       go_region
       go_wp2;go_ret;exact ⟨o.extract 0 j++⟨#[UInt8.ofNat q]⟩,by have:=HOS.out; rw[z1g,ByteArray.size_extract]; show _+1≤_; have:=HJ.out; omega,rfl,(HB1.out.alloc HB1.out.size _).drew⟩
     · have hand:=zi7 (o[j]).toNat hx
       have hq:(o[j]).toNat%32<256:=by omega
       generalize (o[j]).toNat%32=q at hand hq;go_enter Tryz.func155,Tryz.ntmps155
       go_wp2_with fail
       refine HBY.out.mono ?_;rintro e w1 ⟨rfl,hb1⟩;have hcv:(convert 22 9 (.slice (some ⟨w1.heap.size,0,none⟩) 1 1)).run Tryz.prog (w1.alloc (.cells #[.int .u8 (q:Int)] 5)).drew= .ok (.string ⟨#[UInt8.ofNat q]⟩) (w1.alloc (.cells #[.int .u8 (q:Int)] 5)).drew:=z40 q hq w1.drew;have HB1:=hid hb1;clear hb1;go_wp2
       go_region
       go_wp2;go_ret;exact ⟨o.extract 0 j++⟨#[UInt8.ofNat q]⟩,by have:=HOS.out; rw[z1g,ByteArray.size_extract]; show _+1≤_; have:=HJ.out; omega,rfl,(HB1.out.alloc HB1.out.size _).drew⟩
     · have hand:=zhf (o[j]).toNat hx
       have hq:(o[j]).toNat%64<256:=by omega
       generalize (o[j]).toNat%64=q at hand hq;go_enter Tryz.func155,Tryz.ntmps155
       go_wp2_with fail
       refine HBY.out.mono ?_;rintro e w1 ⟨rfl,hb1⟩;have hcv:(convert 22 9 (.slice (some ⟨w1.heap.size,0,none⟩) 1 1)).run Tryz.prog (w1.alloc (.cells #[.int .u8 (q:Int)] 5)).drew= .ok (.string ⟨#[UInt8.ofNat q]⟩) (w1.alloc (.cells #[.int .u8 (q:Int)] 5)).drew:=z40 q hq w1.drew;have HB1:=hid hb1;clear hb1;go_wp2
       go_region
       go_wp2;go_ret;exact ⟨o.extract 0 j++⟨#[UInt8.ofNat q]⟩,by have:=HOS.out; rw[z1g,ByteArray.size_extract]; show _+1≤_; have:=HJ.out; omega,rfl,(HB1.out.alloc HB1.out.size _).drew⟩
     · have hand:=zgr (o[j]).toNat hx
       have hq:(o[j]).toNat%128<256:=by omega
       generalize (o[j]).toNat%128=q at hand hq;go_enter Tryz.func155,Tryz.ntmps155
       go_wp2_with fail
       refine HBY.out.mono ?_;rintro e w1 ⟨rfl,hb1⟩;have hcv:(convert 22 9 (.slice (some ⟨w1.heap.size,0,none⟩) 1 1)).run Tryz.prog (w1.alloc (.cells #[.int .u8 (q:Int)] 5)).drew= .ok (.string ⟨#[UInt8.ofNat q]⟩) (w1.alloc (.cells #[.int .u8 (q:Int)] 5)).drew:=z40 q hq w1.drew;have HB1:=hid hb1;clear hb1;go_wp2
       go_region
       go_wp2;go_ret;exact ⟨o.extract 0 j++⟨#[UInt8.ofNat q]⟩,by have:=HOS.out; rw[z1g,ByteArray.size_extract]; show _+1≤_; have:=HJ.out; omega,rfl,(HB1.out.alloc HB1.out.size _).drew⟩
 · have hs1b:(s==1)=false:=by simpa using hs1
   clear hos hs1;go_enter Tryz.func155,Tryz.ntmps155
   go_wp2_with fail
   refine HBY.out.mono ?_;rintro e w1 ⟨rfl,hb1⟩;have HB1:=hid hb1;clear hb1;go_wp2;go_ret;exact ⟨o,by have:=HOS.out; omega,rfl,HB1.out⟩
def Clean (w:World)(k:Nat):Prop:=∃cs T,w.heap[k]? =some (.cells cs T (0,0))
def FromC (w:World)(B:Nat):Nat→Prop:=fun k=>B≤k∧Clean w k
theorem z5e {w w':World}{k:Nat}(h:Clean w k)(he:w'.heap[k]? =w.heap[k]?):Clean w' k:=by
 obtain ⟨c,t,hk⟩:=h;exact ⟨c,t,he.trans hk⟩
theorem z6i {w w':World}{k:Nat}(h:Clean w k)(hb:Below w.heap.size w w'):Clean w' k:=by
 obtain ⟨c,t,hk⟩:=h;exact ⟨c,t,(hb.block k (zge hk)).trans hk⟩
theorem zmb {w:World}{k:Nat}(h:Clean w k)(p:Addr)(v:Value):Clean (w.setCell p v) k:=by
 obtain ⟨c,t,h4⟩:=h
 by_cases hk:k=p.block
 · subst hk
   obtain ⟨b,o,s⟩:=p
   cases s with
   | none=>exact ⟨c.setIfInBounds o v,t,by simp[World.setCell,Array.getElem?_modify,h4]⟩
   | some s=>exact ⟨c,t,by simp[World.setCell,Array.getElem?_modify,h4]⟩
 · exact ⟨c,t,(Below.heap_setCell w p v k hk).trans h4⟩
theorem zji {w:World}{k:Nat}(h:Clean w k):k<w.heap.size:=by
 obtain ⟨c,t,hk⟩:=h;exact zge hk
theorem NdAt.belowC {w w':World}{B m:Nat}{n:Nd}{h:Hd}(hn:NdAt w (FromC w B) m n h)(hb:Below w.heap.size w w'):NdAt w' (FromC w' B) m n h:=(hn.below hb).weak (fun _ hk=>⟨hk.1,z6i hk.2 hb⟩)
theorem NdsAt.fromC {w:World}{B B' m:Nat}{A:Option Addr}{l:List Nd}(h:NdsAt w (FromC w B) m A l)(hB:B'≤B):NdsAt w (FromC w B') m A l:=h.weak (fun _ hk=>⟨Nat.le_trans hB hk.1,hk.2⟩)
theorem NdAt.fromC {w:World}{B B' m:Nat}{n:Nd}{h:Hd}(hn:NdAt w (FromC w B) m n h)(hB:B'≤B):NdAt w (FromC w B') m n h:=hn.weak (fun _ hk=>⟨Nat.le_trans hB hk.1,hk.2⟩)
theorem NdsAt.uponC {w w':World}{B m:Nat}{A:Option Addr}{l:List Nd}(h:NdsAt w (FromC w B) m A l)(hu:Upon B w w'):NdsAt w' (FromC w' B) m A l :=
 (NdsAt.map (fun _ h=>h) (fun _p _ _ hs hc=>hc.block (hu.block _ hs.1 hc.lt)) _ _ _ h).weak (fun k hk=>⟨hk.1,z5e hk.2 (hu.block k hk.1 (zji hk.2))⟩)
theorem NdAt.uponC {w w':World}{B m:Nat}{n:Nd}{h:Hd}(hn:NdAt w (FromC w B) m n h)(hu:Upon B w w'):NdAt w' (FromC w' B) m n h:=⟨hn.1,hn.2.1.uponC hu,hn.2.2.uponC hu⟩
theorem NdAt.plain {w:World}{B m:Nat}{n:Nd}{h:Hd}(hn:NdAt w (FromC w B) m n h):NdAt w (From B) m n h:=hn.weak (fun _ hk=>hk.1)
theorem zgg {w:World}{R T m:Nat}{v:Value}{q:List (Nd×Hd)}(h:w.ownsRow R T 6 v q.length (rowOf q))(hq:q.length≤maxLen)(hr:∀r∈q,NdAt w (FromC w R) m r.1 r.2):∃A cap,v= .slice A q.length cap∧NdsAt w (FromC w R) (m+1) A (q.map (·.1)):=by
 rcases h.2 with ⟨rfl,h0⟩ | ⟨g,cap,cur,rfl,hR,hg,_⟩
 · obtain rfl:q= []:=List.eq_nil_of_length_eq_zero h0
   exact ⟨none,0,rfl,NdsAt.nil _ _ _ _⟩
 · exact ⟨_,cap,rfl,by simpa using hq,q,rfl,.inr ⟨_,rfl,⟨hR,_,_,hg⟩,z8i (fun j u hj=>h.cells (g:=g) rfl j u hj)⟩,hr⟩
def Code (w:World)(B:Nat)(a:Option Addr)(len:Nat):Prop :=
 len≤maxLen∧(len=0∨∃x:Addr,a=some x∧x.block<B∧∀i,i<len→∃b:UInt8,w.cell? (x.add i)=some (.int .u8 (b.toNat:Int)))
theorem Code.keeps {w w':World}{B B' R:Nat}{a:Option Addr}{len:Nat}(h:Code w B a len)(hk:Keeps B' R w w')(h1:B≤B')(h2:B≤R):Code w' B a len:=by
 refine ⟨h.1,h.2.imp id ?_⟩;rintro ⟨x,rfl,hx,hc⟩;refine ⟨x,rfl,hx,fun i hi=>?_⟩;obtain ⟨b,hb⟩:=hc i hi;exact ⟨b,(z0y hk (x.add i) (by rw[z0r]; omega) (by rw[z0r]; omega)).trans hb⟩
theorem Code.mono {w:World}{B B':Nat}{a:Option Addr}{len:Nat}(h:Code w B a len)(h1:B≤B'):Code w B' a len :=
 ⟨h.1,h.2.imp id fun ⟨x,e,hx,hc⟩=>⟨x,e,Nat.lt_of_lt_of_le hx h1,hc⟩⟩
def Rd (w:World)(R n:Nat):Prop :=
 ∃(a:Option Addr) (len cap p:Nat),p≤n∧w.heap[R]? =some (.cells #[.slice a len cap,.int .i64 (p:Int)] 100 (0,0))∧Code w R a len
theorem Rd.lt {w:World}{R n:Nat}(h:Rd w R n):R<w.heap.size:=by obtain ⟨_,_,_,_,_,hb,_⟩:=h; exact z00 hb
theorem Rd.mono {w:World}{R n m:Nat}(h:Rd w R n)(h1:n≤m):Rd w R m:=by obtain ⟨a,l,c,p,hp,r⟩:=h; exact ⟨a,l,c,p,by omega,r⟩
theorem Rd.below {w w':World}{R n:Nat}(h:Rd w R n)(hb:Below w.heap.size w w'):Rd w' R n:=by
 have hlt:=h.lt;obtain ⟨a,l,c,p,hp,hr,hc⟩:=h;exact ⟨a,l,c,p,hp,(hb.block R hlt).trans hr,hc.keeps (R:=w.heap.size) (Keeps.of_below hb) (by omega) (by omega)⟩
def z0h (w:World)(R n:Nat)(w':World):Prop:=Rd w' R n∧Keeps w.heap.size R w w'
def Pick (k:Int)(R n:Nat)(w:World)(e:Ending)(w':World):Prop:=∃v:Int,(0≤v∧(v<k∨v=0))∧e= .returned (.int .i64 v)∧z0h w R (n+1) w'
theorem zrs (a b:Nat)(ha:a<9223372036854775808)(hb:b<9223372036854775808):bits .xor .i64 (a:Int) (b:Int)=((a ^^^ b:Nat):Int):=by
 have hx:a ^^^ b<2^63:=Nat.xor_lt_two_pow (by omega) (by omega)
 show IntKind.i64.wrap ((BitVec.ofInt 64 (a:Int) ^^^ BitVec.ofInt 64 (b:Int)).toNat:Int)=_
 rw[BitVec.toNat_xor,z5x a ha,z5x b hb,IntKind.wrap_i64];omega
theorem zsv (a b:Int)(ha:0≤a)(hb:0≤b)(ha1:a<9223372036854775808)(hb1:b<9223372036854775808):0≤bits .xor .i64 a b:=by
 obtain ⟨a,rfl⟩:=Int.eq_ofNat_of_zero_le ha;obtain ⟨b,rfl⟩:=Int.eq_ofNat_of_zero_le hb;rw[zrs a b (by omega) (by omega)];omega
theorem zio {w:World}{R n p len cap:Nat}{a:Option Addr}(hp:p≤n)(hb:w.heap[R]? =some (.cells #[.slice a len cap,.int .i64 (p:Int)] 100 (0,0)))(hc:Code w R a len) :
 z0h w R (n+1) (w.setCell ⟨R,1,none⟩ (.int .i64 ((p:Int)+1))):=by
 have hk:=z0p w.heap.size R w 1 (.int .i64 ((p:Int)+1));refine ⟨⟨a,len,cap,p+1,by omega,?_,hc.keeps hk (Nat.le_of_lt (z00 hb)) (Nat.le_refl _)⟩,hk⟩;exact z9o hb
theorem z0h.drewN {w w':World}{R n:Nat}(h:z0h w R n w')(k:Nat):z0h w R n (w'.drewN k):=by
 obtain ⟨⟨a,l,c,p,hp,hr,hc⟩,hk⟩:=h;exact ⟨⟨a,l,c,p,hp,hr,hc⟩,hk.drewN k⟩
theorem z17 (R n:Nat)(k:Int)(w:World)(h:Rd w R n)(hn:n≤1000000) :
 Calls Tryz.prog 66 #[.pointer (some ⟨R,0,none⟩),.int .i64 k] w (Pick k R n w):=by
 obtain ⟨a,len,cap,p,hp,hb,hc⟩:=h;have hfin:=zio hp hb hc;have HF:=hid hfin;obtain ⟨hc0,hc1⟩:=z04 hb;have hfz:=z02 hb 1;have hlen:=hc.1;unfold maxLen at hlen;clear hfin
 by_cases h1:k<1
 · go_enter Tryz.func66,Tryz.ntmps66
   go_wp2;go_ret;exact ⟨0,⟨by omega,.inr rfl⟩,rfl,HF.out⟩
 have h1':1≤k:=by omega
 by_cases h2:len=0
 · subst h2
   go_enter Tryz.func66,Tryz.ntmps66;go_wp2;go_ret;exact ⟨0,⟨by omega,.inr rfl⟩,rfl,HF.out⟩
 have hl0:((len:Int)==0)=false:=by simp; omega
 obtain ⟨x,rfl,hx,hcl⟩:=hc.2.resolve_left h2
 have hcl2:∀i,i<len→∃b:UInt8,(w.setCell ⟨R,1,none⟩ (.int .i64 ((p:Int)+1))).cell? (x.add i)=some (.int .u8 (b.toNat:Int)):=fun i hi=>by
  obtain ⟨b,hb'⟩:=hcl i hi;refine ⟨b,(z0y (z0p w.heap.size R w 1 _) (x.add i) ?_ ?_).trans hb'⟩
  · have:=z00 hb; rw[z0r]; omega
  · rw[z0r]; omega
 clear hcl
 by_cases h3:p<len
 · obtain ⟨b,hbp⟩:=hcl2 p h3
   have hb256:=b.toNat_lt;have hm:(b.toNat:Int)%k<k:=Int.emod_lt_of_pos _ (by omega);have hm0:0≤(b.toNat:Int)%k:=Int.emod_nonneg _ (by omega);clear hcl2;have HH:=hid hb;have HC:=hid hc;clear hb hc;go_enter Tryz.func66,Tryz.ntmps66;go_wp2;go_ret;exact ⟨_,⟨hm0,.inl hm⟩,rfl,HF.out⟩
 · have hpl:0<len:=by omega
   obtain ⟨b1,hb1⟩:=hcl2 (p%len) (Nat.mod_lt _ hpl);obtain ⟨b2,hb2⟩:=hcl2 ((p*7+3)%len) (Nat.mod_lt _ hpl);have hb1l:=b1.toNat_lt;have hb2l:=b2.toNat_lt
   have i1:((p:Int)%(len:Int)).toNat=p%len:=by rw[← Int.natCast_emod]; rfl
   have i2:(((p:Int)*7+3)%(len:Int)).toNat=(p*7+3)%len:=by rw[show (p:Int)*7+3=((p*7+3:Nat):Int) by omega,← Int.natCast_emod]; rfl
   have j1:(p:Int)%(len:Int)<len:=Int.emod_lt_of_pos _ (by omega);have j2:((p:Int)*7+3)%(len:Int)<len:=Int.emod_lt_of_pos _ (by omega);have j3:0≤(p:Int)%(len:Int):=Int.emod_nonneg _ (by omega);have j4:0≤((p:Int)*7+3)%(len:Int):=Int.emod_nonneg _ (by omega);have hq:0≤(p:Int)/(len:Int):=Int.ediv_nonneg (by omega) (by omega);have hq1:(p:Int)/(len:Int)≤1000000:=Int.le_trans (Int.ediv_le_self _ (by omega)) (by omega);clear hcl2;have HH:=hid hb;have HC:=hid hc;clear hb hc;go_enter Tryz.func66,Tryz.ntmps66;go_wp2
   go_quiet (fail)
   have hv0:0≤(b1.toNat:Int)*131+(b2.toNat:Int)*1117+(p:Int)*29+(p:Int)/(len:Int)*53:=by omega
   have hv1:(b1.toNat:Int)*131+(b2.toNat:Int)*1117+(p:Int)*29+(p:Int)/(len:Int)*53<1000000000000:=by omega
   clear i1 i2 j1 j2 j3 j4;generalize (b1.toNat:Int)*131+(b2.toNat:Int)*1117+(p:Int)*29+(p:Int)/(len:Int)*53=v at hv0 hv1 ⊢;have hx0:0≤bits .xor .i64 v (v/64):=zsv v (v/64) hv0 (by omega) (by omega) (by omega);have hm:bits .xor .i64 v (v/64)%k<k:=Int.emod_lt_of_pos _ (by omega);have hm0:0≤bits .xor .i64 v (v/64)%k:=Int.emod_nonneg _ (by omega);go_wp2;go_ret;exact ⟨_,⟨hm0,.inl hm⟩,rfl,HF.out.drewN _⟩
theorem z0h.then {w w1 w2:World}{R n m:Nat}(h:z0h w R n w1)(k:z0h w1 R m w2):z0h w R m w2:=⟨k.1,h.2.then h.2.size k.2⟩
theorem z0h.mono {w w1:World}{R n m:Nat}(h:z0h w R n w1)(k:n≤m):z0h w R m w1:=⟨h.1.mono k,h.2⟩
theorem z0h.from {w0 w w1:World}{R n:Nat}(hb:Below w0.heap.size w0 w)(h:z0h w R n w1):z0h w0 R n w1:=⟨h.1,(Keeps.of_below hb).then hb.size h.2⟩
theorem z0h.below {w w1 w2:World}{R n:Nat}(h:z0h w R n w1)(hb:Below w1.heap.size w1 w2):z0h w R n w2:=⟨h.1.below hb,h.2.then h.2.size (Keeps.of_below hb)⟩
theorem Rd.self {w:World}{R n:Nat}(h:Rd w R n):z0h w R n w:=⟨h,Keeps.refl _ _ _⟩
def Lits (w:World)(g:Nat)(vs:List Value):Prop:=g<w.heap.size∧∀i v,vs[i]? =some v→w.cell? ⟨g,i,none⟩=some v
theorem Lits.keeps {w w':World}{g R:Nat}{vs:List Value}(h:Lits w g vs)(hk:Keeps w.heap.size R w w')(hg:g≠R):Lits w' g vs :=
 ⟨Nat.lt_of_lt_of_le h.1 hk.size,fun i v hi=>(z0y hk ⟨g,i,none⟩ h.1 hg).trans (h.2 i v hi)⟩
theorem Lits.new (w:World)(vs:Array Value)(t:TypeId)(fr:Nat×Nat):Lits (w.alloc (.cells vs t fr)) w.heap.size vs.toList:=by
 refine ⟨by simp,fun i v hi=>?_⟩;rw[cell_of_row _ _ _ vs t fr (heap_alloc_new w _)]
 simpa using hi
def StrP (S:ByteArray→Prop)(R n:Nat)(w:World)(e:Ending)(w':World):Prop:=∃u,S u∧e= .returned (.string u)∧z0h w R n w'
def IntP (S:Int→Prop)(R n:Nat)(w:World)(e:Ending)(w':World):Prop:=∃v,S v∧e= .returned (.int .i64 v)∧z0h w R n w'
def ztc (w:World)(e:Ending)(w':World):Prop:=∃R,e= .returned (.pointer (some ⟨R,0,none⟩))∧w.heap.size≤R∧Rd w' R 0∧Below w.heap.size w w'
theorem zbe (w:World)(a:Option Addr)(len cap:Nat)(h:Code w w.heap.size a len):Rd (w.alloc (.cells #[.slice a len cap,.int .i64 0] 100)) w.heap.size 0 :=
 ⟨a,len,cap,0,Nat.le_refl _,heap_alloc_new w _,h.keeps (R:=w.heap.size) (Keeps.of_below ((Below.refl _ w).alloc (Nat.le_refl _) _)) (Nat.le_refl _) (Nat.le_refl _)⟩
theorem zj2 (a:Option Addr)(len cap:Nat)(w:World)(h:Code w w.heap.size a len)(hcap:len≤cap)(hnil:a=none→len=0) :
 Calls Tryz.prog 29 #[.slice a len cap] w (ztc w):=by
 have hlen:=h.1;unfold maxLen at hlen
 have hb:∀x,Below w.heap.size w (w.alloc x):=fun x=>(Below.refl _ w).alloc (Nat.le_refl _) x
 by_cases h1:2000<len
 · have hn2:=zbe w a 2000 cap ⟨by decide,h.2.elim (fun e=>absurd e (by omega)) (fun ⟨x,e,hx,hc⟩=> .inr ⟨x,e,hx,fun i hi=>hc i (by omega)⟩)⟩
   have HN:=hid hn2;have HB:=hid hb;clear hn2 hb
   obtain ⟨x,rfl⟩:∃x,a=some x:=by
    cases a with
    | none=>exact absurd (hnil rfl) (by omega)
    | some x=>exact ⟨x,rfl⟩
   clear hnil;go_enter Tryz.func29,Tryz.ntmps29;go_wp2;go_ret;exact ⟨w.heap.size,rfl,Nat.le_refl _,HN.out,HB.out _⟩
 · have hn2:=zbe w a len cap h
   have HN:=hid hn2;have HB:=hid hb;have HI:=hid hnil;clear hn2 hb hnil;go_enter Tryz.func29,Tryz.ntmps29;go_wp2;go_ret;exact ⟨w.heap.size,rfl,Nat.le_refl _,HN.out,HB.out _⟩
theorem zqg (R n g len cap:Nat)(S:ByteArray→Prop)(vs:List Value)(w:World)(h:Rd w R n)(hn:n≤1000000)(hl:Lits w g vs)(hS:∀v∈vs,∃x,v= .string x∧S x)(hg:g≠R)(hlen:vs.length=len)(hp:0<len)(h1:len≤1000) :
 Calls Tryz.prog 67 #[.pointer (some ⟨R,0,none⟩),.slice (some ⟨g,0,none⟩) len cap] w (StrP S R (n+1) w):=by
 have HL:=hid hlen;have HS:=hid hS;clear hlen hS;go_enter Tryz.func67,Tryz.ntmps67
 go_wp2_with fail
 refine (z17 R n _ _ h hn).mono ?_;rintro e w1 ⟨v,⟨hv0,hv1⟩,rfl,hpk⟩
 have hv:v<len:=by omega
 obtain ⟨k,rfl⟩:=Int.eq_ofNat_of_zero_le hv0
 have hk:k<vs.length:=by rw[HL.out]; omega
 obtain ⟨x,hx,hm⟩:=HS.out vs[k] (List.getElem_mem hk);have hc:w1.cell? ⟨g,k,none⟩=some (.string x):=(hl.keeps hpk.2 hg).2 k _ (by rw[List.getElem?_eq_getElem hk,hx]);clear hk hv1 hx;go_wp2;go_ret;exact ⟨x,hm,rfl,hpk⟩
def repL (l:List UInt8):Nat→List UInt8
 | 0=> []
 | k+1=>l++repL l k
theorem z3o (l:List UInt8):∀k,(repL l k).length=l.length*k
 | 0=>rfl
 | k+1=>by rw[repL,List.length_append,z3o l k,Nat.mul_succ]; omega
theorem zd5 (l:List UInt8):∀k,repL (l++l) k=repL l (2*k)
 | 0=>rfl
 | k+1=>by rw[repL,zd5 l k,show 2*(k+1)=2*k+1+1 by omega,repL,repL,List.append_assoc]
theorem zn5 (v u s:List UInt8)(m N:Nat)(h:v++repL u m=repL s N)(he:m%2=0):v++repL (u++u) (m/2)=repL s N:=by
 rw[zd5,show 2*(m/2)=m by omega,h]
theorem zol (v u s:List UInt8)(m N:Nat)(h:v++repL u m=repL s N)(he:¬m%2=0):(v++u)++repL (u++u) (m/2)=repL s N:=by
 rw[zd5,List.append_assoc,← h]
 have e:repL u m=repL u (2*(m/2)+1):=by rw[show 2*(m/2)+1=m by omega]
 rw[e,repL]
theorem zny (v u s:ByteArray)(m N:Nat)(h:v.data.toList++repL u.data.toList m=repL s.data.toList N)(hm:1≤m):v.size+u.size≤s.size*N:=by
 have h1:=congrArg List.length h;rw[List.length_append,z3o,z3o] at h1
 simp only[Array.length_toList,ByteArray.size_data] at h1
 have h2:u.size*1≤u.size*m:=Nat.mul_le_mul_left _ hm;omega
theorem zmk (a b:ByteArray):(a++b).data.toList=a.data.toList++b.data.toList:=by simp
theorem ret_s {a b:ByteArray}(h:a.data.toList=b.data.toList):Ending.returned (.string a)= .returned (.string b):=by rw[z61 h]
theorem z3g (s:ByteArray)(n:Int)(w:World)(h0:0≤n)(hn:n≤10000000)(hs:s.size≤10000000)(hsn:s.size*n.toNat≤10000000) :
 Calls Tryz.prog 68 #[.string s,.int .i64 n] w fun e w'=>e= .returned (.string ⟨(repL s.data.toList n.toNat).toArray⟩)∧w=w':=by
 obtain ⟨N,rfl⟩:=Int.eq_ofNat_of_zero_le h0;rw[Int.toNat_natCast] at hsn ⊢;go_enter Tryz.func68,Tryz.ntmps68;go_wp2
 go_loop [0,1,5] (fun t k o=>∃(m:Nat) (u v:ByteArray),t= .string u∧k= .int .i64 m∧o= .string v∧m≤N∧u.size≤20000000∧Hid (v.data.toList++repL u.data.toList m=repL s.data.toList N)) (fun _ k _=>(intOf k).toNat)
 case atStart=>exact ⟨N,s,ByteArray.empty,rfl,rfl,rfl,by omega,by omega,by exact List.nil_append _⟩
 case round =>
  obtain ⟨m,u,v,rfl,rfl,rfl,hm,hu,HE⟩:=hrel
  by_cases hm0:m=0
  · subst hm0
    go_wp2;go_ret;refine ⟨ret_s ?_,rfl⟩;rw[← HE.out,repL,List.append_nil]
  · have hm1:1≤m:=by omega
    have hsz:=zny v u s m N HE.out hm1
    have f1:¬9223372036854775807<v.size+u.size:=by omega
    have f2:¬9223372036854775807<u.size+u.size:=by omega
    have hu2:(u++u).size≤20000000:=by simp; omega
    by_cases ho:m%2=0
    · have hb:((m:Int)%2==1)=false:=by simp; omega
      have hE2:v.data.toList++repL (u++u).data.toList (m/2)=repL s.data.toList N:=by rw[zmk]; exact zn5 _ _ _ _ _ HE.out ho
      have HE2:=hid hE2;clear hE2 ho;go_wp2
      go_round
      case rel=>exact ⟨m/2,_,_,rfl,by go_num,rfl,by omega,hu2,HE2⟩
      case measure=>simp[intOf]; omega
    · have hb:((m:Int)%2==1)=true:=by simp; omega
      have hE2:(v++u).data.toList++repL (u++u).data.toList (m/2)=repL s.data.toList N:=by rw[zmk,zmk]; exact zol _ _ _ _ _ HE.out ho
      have HE2:=hid hE2;clear hE2 ho;go_wp2
      go_round
      case rel=>exact ⟨m/2,_,_,rfl,by go_num,rfl,by omega,hu2,HE2⟩
      case measure=>simp[intOf]; omega
theorem z1w:(Tryz.prog.info? 87).map (·.size)=some 8:=by kernel_rfl
theorem size5:(Tryz.prog.info? 5).map (·.size)=some 1:=by kernel_rfl
theorem info5:(Tryz.prog.info? 5).map (fun i=>(i.zero,i.size,i.bytes))=some (some (.int .u8 0),1,1):=by kernel_rfl
theorem z2i (n size:Int)(w:World)(h0:0≤size)(h1:size≤1000000) :
 Calls Tryz.prog 99 #[.int .i64 n,.int .i64 size] w fun e w'=>e= .returned (.string ⟨(leB n size.toNat).toArray⟩)∧Below w.heap.size w w':=by
 obtain ⟨z,rfl⟩:=Int.eq_ofNat_of_zero_le h0;obtain ⟨i0,hi,hz0,hz1,hz2⟩:=info_parts info5;go_enter Tryz.func99,Tryz.ntmps99;go_wp2
 go_loopw [0,5,6] (fun m v i wr=>∃k:Nat,k≤z∧i= .int .i64 k∧m= .int .i64 (shr8 n k)∧Hid (wr.ownsRow w.heap.size 5 1 v k (Lib.byteCells (leB n k)))∧Hid (Below w.heap.size w wr)) (fun _ _ i _=>(z-intOf i).toNat)
 case atStart=>exact ⟨0,by omega,rfl,rfl,World.ownsRow_made w #[] 0 (Nat.le_refl _) (by decide) rfl,(Below.refl _ _).alloc (Nat.le_refl _) _⟩
 case round =>
  obtain ⟨k,hk,rfl,rfl,hown,HB⟩:=hrel
  by_cases hlt:k<z
  · have hb:Hid (∀b:Int,b=((UInt8.ofNat (shr8 n k%256).toNat).toNat:Int)→Lib.byteCells (leB n k)++ [.int .u8 b]=Lib.byteCells (leB n (k+1))):=fun b hb=>by rw[hb,z9k,← zh5]
    go_wp2_with (at_builtin; go_must (refine wpList_append_own _ rfl (.tmp 13) (.tmp 16) 22 rfl w.heap.size 5 i0 (.int .u8 0) 1 1 Tryz.underlying22 hi hz0 hz1 hz2 rfl (by decide) u5 _ _ rfl (hown.out.alloc _) ⟨wr.heap.size,0,none⟩ 1 1 [_] rfl rfl (cell_one_new _ _ _) (by simp[Value.oneCell']) (by unfold maxLen; omega) (by omega) (by have:=HB.out.size; simp; omega) ?_); intro v' w1 hown' hgrow _)
    have hrel':w1.ownsRow w.heap.size 5 1 v' (k+1) (Lib.byteCells (leB n (k+1))):=by rw[← hb.out _ (z45 _).symm]; exact hown'
    have hB':Below w.heap.size w w1:=z3y HB.out HB.out.size hown.out hgrow
    go_roundw
    case rel=>exact ⟨k+1,by omega,by go_num,rfl,hrel',hB'⟩
    case measure=>simp[intOf]; omega
  · obtain rfl:k=z:=by omega
    have hcv:=zfp (P:=Tryz.prog) wr 22 9 5 w.heap.size k (leB n k) u5 (z07 n k) Tryz.underlying22 Tryz.underlying5 Tryz.underlying9 hown.out;go_wp2;go_ret;exact ⟨by simp,HB.out⟩
theorem rep8 (l:List UInt8)(k:Nat):(⟨(repL l k).toArray⟩:ByteArray).size=l.length*k:=by simp[ByteArray.size,z3o]
theorem z8v (R n:Nat)(w:World)(h:Rd w R n)(hn:n≤999000) :
 Calls Tryz.prog 156 #[.pointer (some ⟨R,0,none⟩)] w (StrP (fun u=>u.size=8) R (n+3) w):=by
 go_enter Tryz.func156,Tryz.ntmps156
 go_wp2_with (go_at_call 68; go_must (refine (z3g _ _ _ (by decide) (by decide) (by decide) (by decide)).mono ?_); rintro e w' ⟨rfl,rfl⟩)
 refine (z17 R n _ _ h (by omega)).mono ?_;rintro e w1 ⟨v,⟨hv0,hv1⟩,rfl,hp1⟩
 have hv:v≤255:=by omega
 clear hv1
 go_wp2_with fail
 refine (z17 R (n+1) _ _ hp1.1 (by omega)).mono ?_;rintro e w2 ⟨u,⟨hu0,hu1⟩,rfl,hp2⟩
 have hu:u≤255:=by omega
 clear hu1
 go_wp2_with fail
 refine (z2i _ 8 _ (by decide) (by decide)).mono ?_;rintro e w3 ⟨rfl,hb3⟩
 go_wp2_with fail
 have hp3:z0h w R (n+2) w3:=(hp1.then hp2).below hb3;have hR:=hp3.1.lt
 refine (zqg R (n+2) w3.heap.size 8 8 (fun u=>u.size=8) _ _ (by exact hp3.1.below ((Below.refl _ _).alloc (Nat.le_refl _) _)) (by omega) (by exact Lits.new _ _ _ _) (by
  intro v hv
  simp at hv
  rcases hv with rfl | rfl | rfl | rfl | rfl | rfl | rfl
  all_goals exact ⟨_,rfl,by simp[ByteArray.size,z3o,z07]⟩) (by omega) (by simp) (by omega) (by omega)).mono ?_
 rintro e w4 ⟨x,hx,rfl,hp4⟩;go_wp2;go_ret;exact ⟨x,hx,rfl,(hp3.below ((Below.refl _ _).alloc (Nat.le_refl _) _)).then hp4⟩
theorem zdh (R n:Nat)(most:Nat)(w:World)(h:Rd w R n)(hn:n≤900000)(hm:most≤10000) :
 Calls Tryz.prog 154 #[.pointer (some ⟨R,0,none⟩),.int .i64 most] w (StrP (fun u=>∃j,j≤most∧u.size=8*j) R (n+1+3*most) w):=by
 go_enter Tryz.func154,Tryz.ntmps154
 go_wp2_with fail
 refine (z17 R n _ _ h (by omega)).mono ?_;rintro e w1 ⟨v,⟨hv0,hv1⟩,rfl,hp1⟩;obtain ⟨q,rfl⟩:=Int.eq_ofNat_of_zero_le hv0
 have hq:q≤most:=by omega
 clear hv1
 go_wp2_with fail
 go_loopw [5,6] (fun o i wr=>∃(j m:Nat) (u:ByteArray),o= .string u∧i= .int .i64 m∧j+m=q∧Hid (u.size=8*j)∧Hid (z0h w R (n+1+3*j) wr)) (fun _ i _=>(intOf i).toNat)
 case atStart=>exact ⟨0,q,ByteArray.empty,rfl,rfl,by omega,rfl,hp1⟩
 case round =>
  obtain ⟨j,m,u,rfl,rfl,hjm,HU,HP⟩:=hrel;have hu:=HU.out;have HJ:=hid hjm
  have hjq:j+m≤q:=by omega
  have hul:u.size≤80000:=by omega
  clear hu hjm
  by_cases h0:m=0
  · subst h0
    go_wp2;go_ret;exact ⟨u,⟨j,by omega,HU.out⟩,rfl,HP.out.mono (by omega)⟩
  · have h1:1≤m:=by omega
    go_wp2_with fail
    refine (z8v R (n+1+3*j) _ HP.out.1 (by omega)).mono ?_;rintro e w2 ⟨x,hx,rfl,hp2⟩
    have f1:¬9223372036854775807<u.size+x.size:=by omega
    have hs:(u++x).size=8*(j+1):=by have:=HU.out; simp; omega
    have hp:z0h w R (n+1+3*(j+1)) w2:=HP.out.then (hp2.mono (by omega))
    have HX:=hid hx;have HS:=hid hs;clear hx hs;go_wp2
    go_roundw
    case rel=>exact ⟨j+1,m-1,_,rfl,by go_num,by have:=HJ.out; omega,HS,hp⟩
    case measure=>simp[intOf]; omega
theorem zc1 (R n g len cap:Nat)(S:Int→Prop)(vs:List Value)(w:World)(h:Rd w R n)(hn:n≤1000000)(hl:Lits w g vs)(hS:∀v∈vs,∃x,v= .int .i64 x∧S x)(hg:g≠R)(hlen:vs.length=len)(hp:0<len)(h1:len≤1000) :
 Calls Tryz.prog 31 #[.pointer (some ⟨R,0,none⟩),.slice (some ⟨g,0,none⟩) len cap] w (IntP S R (n+1) w):=by
 have HL:=hid hlen;have HS:=hid hS;clear hlen hS;go_enter Tryz.func31,Tryz.ntmps31
 go_wp2_with fail
 refine (z17 R n _ _ h hn).mono ?_;rintro e w1 ⟨v,⟨hv0,hv1⟩,rfl,hpk⟩
 have hv:v<len:=by omega
 obtain ⟨k,rfl⟩:=Int.eq_ofNat_of_zero_le hv0
 have hk:k<vs.length:=by rw[HL.out]; omega
 obtain ⟨x,hx,hm⟩:=HS.out vs[k] (List.getElem_mem hk);have hc:w1.cell? ⟨g,k,none⟩=some (.int .i64 x):=(hl.keeps hpk.2 hg).2 k _ (by rw[List.getElem?_eq_getElem hk,hx]);clear hk hv1 hx;go_wp2;go_ret;exact ⟨x,hm,rfl,hpk⟩
end Go.Proofs.YtlbfffokkhccaaaGreatDoor
