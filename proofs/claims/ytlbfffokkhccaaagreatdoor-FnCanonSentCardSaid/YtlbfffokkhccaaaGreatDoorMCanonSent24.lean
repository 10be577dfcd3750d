/- Texts of the proof of the law FnCanonSent, side by side: part 24. -/
import Derived.LaidEqlPtr
import Derived.Laws.StructEq
import Derived.MapKept
import Derived.Carry
import Derived.Test.YtlbfffokkhccaaaGreatDoorMCanonSent23
set_option maxHeartbeats 8000000
set_option maxRecDepth 100000
open Go.Lib (hid)
namespace Go.Proofs.YtlbfffokkhccaaaGreatDoor
open Go.RowKit Go.Deep
theorem OwS.empty {w:World}{m k c:Nat}{A:Option Addr}{bs:List Nat}(h:OwS w (m+1) A c [] bs):OwS w (k+1) A c [] bs:=by
 obtain ⟨q,hq,ho,hb,hr⟩:=h
 obtain rfl:q= []:=by cases q with
  | nil=>rfl
  | cons a t=>cases hq
 exact ⟨[],rfl,ho,hb,fun r h=>by cases h⟩
theorem zou (m:Nat)(A:Option Addr)(c:Nat)(l:List Nd)(bs:List Nat)(w:World)(hown:OwS w (m+1) A c l bs)(hnd:bs.Nodup)(hm:m=0→l= [])(hD:∀n∈l,n.data.size≤2000)(hP:∀n∈l,n.ptrs.length≤1000000)(hlm:l.length≤2000000) :
 Calls Tryz.prog 152 #[.slice A l.length c] w (EvP A c l m bs w):=by
 rcases zk9 hown with ⟨rfl,rfl,rfl⟩ | ⟨⟨g,rfl⟩,_⟩
 · obtain ⟨q,hq,ho,hb,hr⟩:=hown
   obtain rfl:q= []:=by cases q with
    | nil=>rfl
    | cons a t=>cases hq
   exact zg2 0 m bs w rfl hb
 · cases m with
   | zero =>
    obtain rfl:=hm rfl;refine (z8x 0 g c [] bs w (hown.succ _ _ _ _ _) hnd hD hP hlm).mono ?_;rintro e w' ⟨he,bs',h1,h2,h3,h4⟩;exact ⟨he,bs',h1.empty,h2,h3,h4⟩
   | succ m=>exact z8x m g c l bs w hown hnd hD hP hlm
theorem zh7 {n:Nd}(h:z0g n=true):n.ptrs.length≤199:=by
 obtain ⟨h1,h2⟩:=z1x h;rw[z1c h1] at h2
 have h3:n.ptrs.length≤ownN n:=by unfold ownN ownB; omega
 omega
theorem zar {n:Nd}(h:z0g n=true):∀z∈n.items.map canN,z.data.size≤2000∧z.ptrs.length≤1000000:=by
 intro z hz
 obtain ⟨y,hy,rfl⟩:=List.mem_map.1 hz;have hoy:=zn9 h y hy;have hk:=(z8o (z1h (z1x h).1).1 y hy).2.1;obtain ⟨h8,hs⟩:=zkf hoy hk;have hp:=zh7 hoy;rw[z7e,hk];have l1:=z2k y.data;have l2:=tw_le y.data.data.toList
 have l3:y.data.data.toList.length=y.data.size:=by simp
 have l4:=z7f (y.ptrs.map canN);have l5:=z1t (y.ptrs.map canN);rw[List.length_map] at l4;refine ⟨?_,?_⟩
 · show (trimD y.data).size≤2000; omega
 · show (endP (y.ptrs.map canN)).length≤1000000; omega
theorem zoo {n:Nd} :n.items.length≤sizN n:=by
 rw[z38];have:=zc5 n.items;omega
theorem zqn (m:Nat)(hS:FaS m):FoN m:=by
 intro n h w S hn hok hsz
 obtain ⟨qA,qa,qB,qb⟩:=h
 have hz1:sizL n.ptrs≤2000000:=by rw[z38] at hsz; omega
 have hz2:sizL n.items≤2000000:=by rw[z38] at hsz; omega
 have hil:n.items.length≤2000000:=Nat.le_trans zoo hsz
 have HM0:Hid (m=0→n.items.map canN= []):=hid fun h0=>by
  subst h0;have:n.items= []:=(show NdsAt w S 0 qB n.items from hn.2.2).zero
  rw[this]; rfl
 have HSM:=hid (zar hok);have HPL:Hid ((n.ptrs.map canN).length≤2000000):=hid (by rw[List.length_map]; have:=zh7 hok; omega);have HIL:Hid ((n.items.map canN).length≤2000000):=hid (by rw[List.length_map]; exact hil)
 have HDA:Hid (n.kind=1→n.data.size%8=0∧n.data.size≤1600):=hid fun hk=>by have:=zkf hok hk; omega
 have HP:Hid (∀W:World,Below w.heap.size w W→Calls Tryz.prog 151 #[.slice qA n.ptrs.length qa,.func (.func 109) #[] #[]] W (NewOS (m+1) (n.ptrs.map canN) W)):=hid fun W hW=>hS qA qa n.ptrs W S ((show NdsAt w S m qA n.ptrs from hn.2.1).below hW) (zsp hok) hz1
 have HI:Hid (∀W:World,Below w.heap.size w W→Calls Tryz.prog 151 #[.slice qB n.items.length qb,.func (.func 109) #[] #[]] W (NewOS (m+1) (n.items.map canN) W)):=hid fun W hW=>hS qB qb n.items W S ((show NdsAt w S m qB n.items from hn.2.2).below hW) (zn9 hok) hz2
 have hdm:n.data.size≤maxLen:=hn.1;have hcan:=z7e n;unfold formT at hcan
 obtain ⟨Z0,hZ0⟩:∃Z0,Z0=canN n:=⟨_,rfl⟩
 rw[← hZ0];have HZE:=hid (hZ0.trans hcan);clear hcan hZ0 hn hok hsz hz1 hz2 hil hS;unfold NewOS at HP HI;generalize n.ptrs.map canN=PL at *;generalize n.items.map canN=IL at *;have hb0:Below w.heap.size w ((w.alloc (.cells #[.int .i64 n.kind,.string n.data,.slice qA n.ptrs.length qa,.int .i64 n.size,.int .i64 n.count,.slice qB n.items.length qb] nodeT)).alloc (.cells #[.int .i64 0,.string { data:= #[] },.slice none 0 0,.int .i64 0,.int .i64 0,.slice none 0 0] nodeT)):=((Below.refl _ w).alloc (Nat.le_refl _) _).alloc (by simp) _;have hx0:((w.alloc (.cells #[.int .i64 n.kind,.string n.data,.slice qA n.ptrs.length qa,.int .i64 n.size,.int .i64 n.count,.slice qB n.items.length qb] nodeT)).alloc (.cells #[.int .i64 0,.string { data:= #[] },.slice none 0 0,.int .i64 0,.int .i64 0,.slice none 0 0] nodeT)).heap[w.heap.size]? =some (.cells #[.int .i64 n.kind,.string n.data,.slice qA n.ptrs.length qa,.int .i64 n.size,.int .i64 n.count,.slice qB n.items.length qb] nodeT (0,0)):=z05 (heap_alloc_new w _) _
 have hz0:((w.alloc (.cells #[.int .i64 n.kind,.string n.data,.slice qA n.ptrs.length qa,.int .i64 n.size,.int .i64 n.count,.slice qB n.items.length qb] nodeT)).alloc (.cells #[.int .i64 0,.string { data:= #[] },.slice none 0 0,.int .i64 0,.int .i64 0,.slice none 0 0] nodeT)).heap[w.heap.size+1]? =some (.cells #[.int .i64 0,.string { data:= #[] },.slice none 0 0,.int .i64 0,.int .i64 0,.slice none 0 0] nodeT (0,0)):=by have:=heap_alloc_new (w.alloc (.cells #[.int .i64 n.kind,.string n.data,.slice qA n.ptrs.length qa,.int .i64 n.size,.int .i64 n.count,.slice qB n.items.length qb] nodeT)) (.cells #[.int .i64 0,.string { data:= #[] },.slice none 0 0,.int .i64 0,.int .i64 0,.slice none 0 0] nodeT); rwa [show (w.alloc (.cells #[.int .i64 n.kind,.string n.data,.slice qA n.ptrs.length qa,.int .i64 n.size,.int .i64 n.count,.slice qB n.items.length qb] nodeT)).heap.size=w.heap.size+1 by simp] at this
 have hs0:((w.alloc (.cells #[.int .i64 n.kind,.string n.data,.slice qA n.ptrs.length qa,.int .i64 n.size,.int .i64 n.count,.slice qB n.items.length qb] nodeT)).alloc (.cells #[.int .i64 0,.string { data:= #[] },.slice none 0 0,.int .i64 0,.int .i64 0,.slice none 0 0] nodeT)).heap.size=w.heap.size+2:=by simp
 have HB0:=hid hb0;have HX0:=hid hx0;have HZ0:=hid hz0;clear hb0 hx0 hz0;go_enter Tryz.func109,Tryz.ntmps109
 go_wp2_with fail
 generalize ((w.alloc (.cells #[.int .i64 n.kind,.string n.data,.slice qA n.ptrs.length qa,.int .i64 n.size,.int .i64 n.count,.slice qB n.items.length qb] nodeT)).alloc (.cells #[.int .i64 0,.string { data:= #[] },.slice none 0 0,.int .i64 0,.int .i64 0,.slice none 0 0] nodeT))=W0 at *;refine (HP.out _ HB0.out).mono ?_;rintro e w1 ⟨A1,c1,bs1,rfl,hown1,hnd1,hge1,hb1⟩;have hx1:=(hb1.block _ (z00 HX0.out)).trans HX0.out;have hz1:=(hb1.block _ (z00 HZ0.out)).trans HZ0.out;have hs1:=hb1.size;have hb1':=HB0.out.trans (hb1.mono HB0.out.size);have HX2:=hid (z08 hx1 2 (.slice A1 PL.length c1));have HZ2:=hid ((Below.heap_setCell w1 ⟨w.heap.size,2,none⟩ (.slice A1 PL.length c1) (w.heap.size+1) (by simp)).trans hz1);have HB2:=hid (hb1'.setCell (p:=⟨w.heap.size,2,none⟩) (Nat.le_refl _) (.slice A1 PL.length c1));have HO2:=hid (hown1.frame (w':=w1.setCell ⟨w.heap.size,2,none⟩ (.slice A1 PL.length c1)) _ _ _ _ _ (fun b hb=>Below.heap_setCell w1 ⟨w.heap.size,2,none⟩ _ b (by have:=hge1 b hb; show b≠w.heap.size; omega)));have HN2:=hid (And.intro hnd1 hge1)
 have hs2:(w1.setCell ⟨w.heap.size,2,none⟩ (.slice A1 PL.length c1)).heap.size=w1.heap.size:=by simp[World.setCell]
 obtain ⟨a0,a1,a2,a3,a4,a5⟩:=z01 hx1;have f1:=z02 hx1 2;obtain ⟨b0,b1,b2,b3,b4,b5⟩:=z01 HX2.out;clear hown1 hnd1 hge1 hb1 hx1 hz1 hb1' HX0 HZ0 HB0
 go_wp2_with fail
 clear a0 a1 a2 a3 a4 a5 f1 b0 b1 b2 b3 b4 b5;generalize w1.setCell ⟨w.heap.size,2,none⟩ (.slice A1 PL.length c1)=W2 at *;refine (HI.out _ HB2.out).mono ?_;rintro e w3 ⟨A2,c2,bs2,rfl,hown3,hnd3,hge3,hb3⟩;have HX3:=hid ((hb3.block _ (z00 HX2.out)).trans HX2.out);have HZ3:=hid ((hb3.block _ (z00 HZ2.out)).trans HZ2.out);have hs3:=hb3.size;have HB3:=hid (HB2.out.trans (hb3.mono HB2.out.size));have HO3:=hid (HO2.out.below hb3);have HLT2:=hid (fun b hb=>(HO2.out.lt _ _ _ _ _ b hb).1);have HE3:=hid (zou m A2 c2 IL bs2 w3 hown3 hnd3 HM0.out (fun z hz=>(HSM.out z hz).1) (fun z hz=>(HSM.out z hz).2) HIL.out);have HN3:=hid hge3;clear hown3 hnd3 hge3 hb3;unfold EvP at HE3
 go_wp2_with fail
 refine HE3.out.mono ?_;rintro e w4 ⟨rfl,bs3,hown4,hnd4,hin4,ho4⟩;have hgeb:∀b∈bs2,W2.heap.size≤b:=HN3.out;have hb4:Below W2.heap.size w3 w4:=ho4.below hs3 hgeb;have hx4:=(hb4.block _ (z00 HX2.out)).trans HX3.out;have hz4:=(hb4.block _ (z00 HZ2.out)).trans HZ3.out;have hs4:=ho4.size;have hb4':=HB3.out.trans (hb4.mono (by omega))
 have hge4:∀b∈bs3,W2.heap.size≤b:=fun b hb=>by
  rcases hin4 b hb with h | h
  · exact hgeb b h
  · omega
 have ho1:=HO3.out.frame (w':=w4) _ _ _ _ _ (fun b hb=>hb4.block b (HLT2.out b hb));have HX5:=hid (z08 hx4 5 (.slice A2 IL.length c2));have HZ5:=hid ((Below.heap_setCell w4 ⟨w.heap.size,5,none⟩ (.slice A2 IL.length c2) (w.heap.size+1) (by simp)).trans hz4);have HB5:=hid (hb4'.setCell (p:=⟨w.heap.size,5,none⟩) (Nat.le_refl _) (.slice A2 IL.length c2));have HO5:=hid (ho1.frame (w':=w4.setCell ⟨w.heap.size,5,none⟩ (.slice A2 IL.length c2)) _ _ _ _ _ (fun b hb=>Below.heap_setCell w4 ⟨w.heap.size,5,none⟩ _ b (by have:=HN2.out.2 b hb; show b≠w.heap.size; omega)));have HI5:=hid (hown4.frame (w':=w4.setCell ⟨w.heap.size,5,none⟩ (.slice A2 IL.length c2)) _ _ _ _ _ (fun b hb=>Below.heap_setCell w4 ⟨w.heap.size,5,none⟩ _ b (by have:=hge4 b hb; show b≠w.heap.size; omega)))
 have HND:Hid ((bs1++bs3).Nodup∧∀b∈bs1++bs3,w.heap.size+2≤b):=hid ⟨List.nodup_append.2 ⟨HN2.out.1,hnd4,fun a ha b hb e=>by have:=HLT2.out a ha; have:=hge4 b hb; omega⟩,fun b hb=>by
  rcases List.mem_append.1 hb with hb | hb
  · have:=HN2.out.2 b hb; omega
  · have:=hge4 b hb; omega⟩
 obtain ⟨a0,a1,a2,a3,a4,a5⟩:=z01 hx4;have f1:=z02 hx4 5;obtain ⟨b0,b1,b2,b3,b4,b5⟩:=z01 HX5.out;clear hown4 hnd4 hin4 ho4 hb4 hx4 hz4 hb4' hge4 ho1 hgeb HX3 HZ3 HB3 HO3 HX2 HZ2 HB2 HO2;have HLE:Hid ((evenL IL).length=IL.length):=hid (by unfold evenL; rw[List.length_map])
 by_cases hk:n.kind=1
 · have hze:=HZE.out
   rw[if_pos hk] at hze;subst hze
   have hkb:(n.kind==1)=true:=by rw[hk]; rfl
   have HWE:Hid (∀W:World,OwN W (m+1) (.mk n.kind n.data PL n.size n.count (evenL IL)) ⟨A1,c1,A2,c2⟩ (bs1++bs3)→Calls Tryz.prog 153 #[.agg #[.int .i64 n.kind,.string n.data,.slice A1 PL.length c1,.int .i64 n.size,.int .i64 n.count,.slice A2 IL.length c2]] W fun e w'=>e= .returned (.agg #[.int .i64 n.kind,.string (trimD n.data),.slice A1 (endC PL) c1,.int .i64 n.size,.int .i64 n.count,.slice A2 IL.length c2])∧Below W.heap.size W w'):=hid (fun W hW=>by
    have:=zc8 (m+1) (.mk n.kind n.data PL n.size n.count (evenL IL)) ⟨A1,c1,A2,c2⟩ (bs1++bs3) W hW (HDA.out hk).1 (HDA.out hk).2 HPL.out;rw[show (Nd.mk n.kind n.data PL n.size n.count (evenL IL)).items.length=IL.length from HLE.out] at this
    exact this)
   clear HDA hk
   go_wp2_with fail
   clear a0 a1 a2 a3 a4 a5 f1 b0 b1 b2 b3 b4 b5;generalize w4.setCell ⟨w.heap.size,5,none⟩ (.slice A2 IL.length c2)=W5 at *;have hcw:=HWE.out W5 ⟨hdm,bs1,bs3,rfl,HO5.out,HI5.out⟩;refine hcw.mono ?_;rintro e w6 ⟨rfl,hb6⟩;have HZ6:=hid ((hb6.block _ (z00 HZ5.out)).trans HZ5.out);have HB6:=hid (HB5.out.trans (hb6.mono HB5.out.size));have HO6:=hid (HO5.out.below hb6);have HI6:=hid (HI5.out.below hb6);obtain ⟨z0,z1,z2,z3,z4,z5⟩:=z01 HZ6.out;have zf:=z02 HZ6.out;clear hb6 hcw HO5 HI5 HX5 HZ5 HB5
   go_wp2_with fail
   obtain ⟨wf,hwf,hrw,hbf,hkf⟩:=fin6w HZ6.out HB6.out (by omega) (.int .i64 n.kind) (.string (trimD n.data)) (.slice A1 (endC PL) c1) (.int .i64 n.size) (.int .i64 n.count) (.slice A2 IL.length c2);rw[hwf];obtain ⟨e0,e1,e2,e3,e4,e5⟩:=z01 hrw;obtain ⟨bs4,hot,hsub⟩:=HO6.out.take (endC PL) (z7f PL);refine bodyPost_ret (v:= .agg #[.int .i64 n.kind,.string (trimD n.data),.slice A1 (endC PL) c1,.int .i64 n.size,.int .i64 n.count,.slice A2 IL.length c2]) (by simp[results,Tryz.results109,go_sem,e0,e1,e2,e3,e4,e5]) rfl ⟨⟨A1,c1,A2,c2⟩,bs4++bs3,?_,?_,?_,?_,hbf⟩
   · show _=Ending.returned (.agg #[.int .i64 n.kind,.string (trimD n.data),.slice A1 (endP PL).length c1,.int .i64 n.size,.int .i64 n.count,.slice A2 (evenL IL).length c2])
     rw[z1t,HLE.out]
   · have hfr:∀b∈bs1++bs3,wf.heap[b]? =w6.heap[b]? :=fun b hb=>hkf b (by have:=HND.out.2 b hb; omega)
     refine ⟨?_,bs4,bs3,rfl,?_,?_⟩
     · show (trimD n.data).size≤maxLen
       have l1:=z2k n.data;have l2:=tw_le n.data.data.toList
       have l3:n.data.data.toList.length=n.data.size:=by simp
       omega
     · exact hot.frame _ _ _ _ _ (fun b hb=>hfr b (List.mem_append_left _ (hsub.subset hb)))
     · exact HI6.out.frame _ _ _ _ _ (fun b hb=>hfr b (List.mem_append_right _ hb))
   · exact HND.out.1.sublist (List.Sublist.append hsub (List.Sublist.refl _))
   · intro b hb
     have:b∈bs1++bs3:=(List.Sublist.append hsub (List.Sublist.refl _)).subset hb;have:=HND.out.2 b this;omega
 · have hze:=HZE.out
   rw[if_neg hk] at hze;subst hze
   have hkb:(n.kind==1)=false:=by simpa using hk
   have hz5:=HZ5.out;obtain ⟨z0,z1,z2,z3,z4,z5⟩:=z01 hz5;have zf:=z02 hz5;clear hk HDA hz5
   go_wp2_with fail
   clear a0 a1 a2 a3 a4 a5 f1;generalize w4.setCell ⟨w.heap.size,5,none⟩ (.slice A2 IL.length c2)=W5 at *;obtain ⟨wf,hwf,hrw,hbf,hkf⟩:=fin6w HZ5.out HB5.out (by omega) (.int .i64 n.kind) (.string n.data) (.slice A1 PL.length c1) (.int .i64 n.size) (.int .i64 n.count) (.slice A2 IL.length c2);rw[hwf];obtain ⟨e0,e1,e2,e3,e4,e5⟩:=z01 hrw;refine bodyPost_ret (v:= .agg #[.int .i64 n.kind,.string n.data,.slice A1 PL.length c1,.int .i64 n.size,.int .i64 n.count,.slice A2 IL.length c2]) (by simp[results,Tryz.results109,go_sem,e0,e1,e2,e3,e4,e5]) rfl ⟨⟨A1,c1,A2,c2⟩,bs1++bs3,?_,?_,HND.out.1,?_,hbf⟩
   · show _=Ending.returned (.agg #[.int .i64 n.kind,.string n.data,.slice A1 PL.length c1,.int .i64 n.size,.int .i64 n.count,.slice A2 (evenL IL).length c2])
     rw[HLE.out]
   · have hfr:∀b∈bs1++bs3,wf.heap[b]? =W5.heap[b]? :=fun b hb=>hkf b (by have:=HND.out.2 b hb; omega)
     exact ⟨hdm,bs1,bs3,rfl,HO5.out.frame _ _ _ _ _ (fun b hb=>hfr b (List.mem_append_left _ hb)),HI5.out.frame _ _ _ _ _ (fun b hb=>hfr b (List.mem_append_right _ hb))⟩
   · intro b hb
     have:=HND.out.2 b hb;omega
theorem zmq:∀m,FaS m
 | 0=>zqf 0 (fun j h=>by cases h)
 | m+1=>zqf (m+1) (fun j h=>by obtain rfl:m=j:=by omega
                                exact zqn m (zmq m))
theorem zrw (m:Nat):FoN m:=zqn m (zmq m)
def canX (n:Nd):Nd:=if z0g n=true then canN n else z0i
theorem z67 (m:Nat)(n:Nd)(h:Hd)(w:World)(S:Nat→Prop)(hn:NdAt w S m n h)(ht:totN m n≤2000000) :
 Calls Tryz.prog 63 #[.agg #[.int .i64 n.kind,.string n.data,.slice h.A n.ptrs.length h.a,.int .i64 n.size,.int .i64 n.count,.slice h.B n.items.length h.b]] w (NewO (m+1) (canX n) w):=by
 have HO:Hid (∀W:World,Below w.heap.size w W→Calls Tryz.prog 32 #[.agg #[.int .i64 n.kind,.string n.data,.slice h.A n.ptrs.length h.a,.int .i64 n.size,.int .i64 n.count,.slice h.B n.items.length h.b]] W fun e w'=>e= .returned (.bool (z0g n))∧Below W.heap.size W w'):=hid fun W hW=>z1v m n h W S (hn.below hW) ht
 have HF:Hid (z0g n=true→∀W:World,Below w.heap.size w W→Calls Tryz.prog 109 #[.agg #[.int .i64 n.kind,.string n.data,.slice h.A n.ptrs.length h.a,.int .i64 n.size,.int .i64 n.count,.slice h.B n.items.length h.b],.func (.func 109) #[] #[]] W (NewO (m+1) (canN n) W)):=hid fun hok W hW=>zrw m n h W S (hn.below hW) hok (by rw[← z3d hn]; exact ht)
 have hb0:Below w.heap.size w ((w.alloc (.cells #[.int .i64 n.kind,.string n.data,.slice h.A n.ptrs.length h.a,.int .i64 n.size,.int .i64 n.count,.slice h.B n.items.length h.b] nodeT)).alloc (.cells #[.int .i64 0,.string { data:= #[] },.slice none 0 0,.int .i64 0,.int .i64 0,.slice none 0 0] nodeT)):=((Below.refl _ w).alloc (Nat.le_refl _) _).alloc (by simp) _;have hx0:((w.alloc (.cells #[.int .i64 n.kind,.string n.data,.slice h.A n.ptrs.length h.a,.int .i64 n.size,.int .i64 n.count,.slice h.B n.items.length h.b] nodeT)).alloc (.cells #[.int .i64 0,.string { data:= #[] },.slice none 0 0,.int .i64 0,.int .i64 0,.slice none 0 0] nodeT)).heap[w.heap.size]? =some (.cells #[.int .i64 n.kind,.string n.data,.slice h.A n.ptrs.length h.a,.int .i64 n.size,.int .i64 n.count,.slice h.B n.items.length h.b] nodeT (0,0)):=z05 (heap_alloc_new w _) _
 have hz0:((w.alloc (.cells #[.int .i64 n.kind,.string n.data,.slice h.A n.ptrs.length h.a,.int .i64 n.size,.int .i64 n.count,.slice h.B n.items.length h.b] nodeT)).alloc (.cells #[.int .i64 0,.string { data:= #[] },.slice none 0 0,.int .i64 0,.int .i64 0,.slice none 0 0] nodeT)).heap[w.heap.size+1]? =some (.cells #[.int .i64 0,.string { data:= #[] },.slice none 0 0,.int .i64 0,.int .i64 0,.slice none 0 0] nodeT (0,0)):=by have:=heap_alloc_new (w.alloc (.cells #[.int .i64 n.kind,.string n.data,.slice h.A n.ptrs.length h.a,.int .i64 n.size,.int .i64 n.count,.slice h.B n.items.length h.b] nodeT)) (.cells #[.int .i64 0,.string { data:= #[] },.slice none 0 0,.int .i64 0,.int .i64 0,.slice none 0 0] nodeT); rwa [show (w.alloc (.cells #[.int .i64 n.kind,.string n.data,.slice h.A n.ptrs.length h.a,.int .i64 n.size,.int .i64 n.count,.slice h.B n.items.length h.b] nodeT)).heap.size=w.heap.size+1 by simp] at this
 have hs0:((w.alloc (.cells #[.int .i64 n.kind,.string n.data,.slice h.A n.ptrs.length h.a,.int .i64 n.size,.int .i64 n.count,.slice h.B n.items.length h.b] nodeT)).alloc (.cells #[.int .i64 0,.string { data:= #[] },.slice none 0 0,.int .i64 0,.int .i64 0,.slice none 0 0] nodeT)).heap.size=w.heap.size+2:=by simp
 have HB0:=hid hb0;have HX0:=hid hx0;have HZ0:=hid hz0
 obtain ⟨Z0,hZ0⟩:∃Z0,Z0=canX n:=⟨_,rfl⟩
 rw[← hZ0];have HZE:Hid (Z0=if z0g n=true then canN n else z0i):=hid hZ0;clear hb0 hx0 hz0 hn ht hZ0;unfold NewO at HF;go_enter Tryz.func63,Tryz.ntmps63
 go_wp2_with fail
 generalize ((w.alloc (.cells #[.int .i64 n.kind,.string n.data,.slice h.A n.ptrs.length h.a,.int .i64 n.size,.int .i64 n.count,.slice h.B n.items.length h.b] nodeT)).alloc (.cells #[.int .i64 0,.string { data:= #[] },.slice none 0 0,.int .i64 0,.int .i64 0,.slice none 0 0] nodeT))=W0 at *;refine (HO.out _ HB0.out).mono ?_;rintro e w1 ⟨rfl,hb1⟩;have HB1:=hid (HB0.out.trans (hb1.mono HB0.out.size));have HX1:=hid ((hb1.block _ (z00 HX0.out)).trans HX0.out);have HZ1:=hid ((hb1.block _ (z00 HZ0.out)).trans HZ0.out);have hs1:=hb1.size;clear hb1 HX0 HZ0 HB0;cases hok:z0g n
 · have hze:=HZE.out
   rw[if_neg (by rw[hok]; decide)] at hze;subst hze;clear hok HF HO;obtain ⟨z0,z1,z2,z3,z4,z5⟩:=z01 HZ1.out;have zf:=z02 HZ1.out
   go_wp2_with fail
   obtain ⟨wf,hwf,hrw,hbf,hkf⟩:=fin6w HZ1.out HB1.out (by omega) (.int .i64 0) (.string ⟨#[]⟩) (.slice none 0 0) (.int .i64 0) (.int .i64 0) (.slice none 0 0);rw[hwf];obtain ⟨e0,e1,e2,e3,e4,e5⟩:=z01 hrw;exact bodyPost_ret (v:= .agg #[.int .i64 0,.string ⟨#[]⟩,.slice none 0 0,.int .i64 0,.int .i64 0,.slice none 0 0]) (by simp[results,Tryz.results63,go_sem,e0,e1,e2,e3,e4,e5]) rfl ⟨nHd,[],rfl,OwN.none wf (m+1),List.nodup_nil,fun b h=>(by cases h),hbf⟩
 · have hze:=HZE.out
   rw[if_pos hok] at hze;rw[← hze] at HF;have HC:=hid (HF.out hok);clear HF HO hze hok HZE;obtain ⟨a0,a1,a2,a3,a4,a5⟩:=z01 HX1.out
   go_wp2_with fail
   clear a0 a1 a2 a3 a4 a5;refine (HC.out _ HB1.out).mono ?_;rintro e w2 ⟨hy,bs,rfl,hown,hnd,hge,hb2⟩;have HZ2:=hid ((hb2.block _ (z00 HZ1.out)).trans HZ1.out);have HB2:=hid (HB1.out.trans (hb2.mono HB1.out.size));have HOW:=hid hown;have HND:=hid (And.intro hnd hge);obtain ⟨z0,z1,z2,z3,z4,z5⟩:=z01 HZ2.out;have zf:=z02 HZ2.out;clear hb2 hown hnd hge
   go_wp2_with fail
   obtain ⟨wf,hwf,hrw,hbf,hkf⟩:=fin6w HZ2.out HB2.out (by omega) (.int .i64 Z0.kind) (.string Z0.data) (.slice hy.A Z0.ptrs.length hy.a) (.int .i64 Z0.size) (.int .i64 Z0.count) (.slice hy.B Z0.items.length hy.b);rw[hwf];obtain ⟨e0,e1,e2,e3,e4,e5⟩:=z01 hrw;exact bodyPost_ret (v:= .agg #[.int .i64 Z0.kind,.string Z0.data,.slice hy.A Z0.ptrs.length hy.a,.int .i64 Z0.size,.int .i64 Z0.count,.slice hy.B Z0.items.length hy.b]) (by simp[results,Tryz.results63,go_sem,e0,e1,e2,e3,e4,e5]) rfl ⟨hy,bs,rfl,HOW.out.frame (fun b hb=>hkf b (by have:=HND.out.2 b hb; omega)),HND.out.1,fun b hb=>by have:=HND.out.2 b hb; omega,hbf⟩
end Go.Proofs.YtlbfffokkhccaaaGreatDoor
namespace Go.Proofs.YtlbfffokkhccaaaGreatDoor
open Go.RowKit
theorem nd_eq (n n':Nd):n=n'↔n.kind=n'.kind∧n.data=n'.data∧n.size=n'.size∧n.count=n'.count∧n.ptrs=n'.ptrs∧n.items=n'.items:=by
 cases n;cases n'
 simp only[Nd.mk.injEq,Nd.kind,Nd.data,Nd.size,Nd.count,Nd.ptrs,Nd.items]
 exact ⟨fun h=>⟨h.1,h.2.1,h.2.2.2.1,h.2.2.2.2.1,h.2.2.1,h.2.2.2.2.2⟩,fun h=>⟨h.1,h.2.1,h.2.2.2.2.1,h.2.2.1,h.2.2.2.1,h.2.2.2.2.2⟩⟩
theorem z48 {b:Bool}{p:Prop}(h:b=true↔p)(hp:¬p):b=false:=by cases b; rfl; exact absurd (h.1 rfl) hp
theorem zaf {p:Prop}(hp:p):(true=true↔p):=⟨fun _=>hp,fun _=>rfl⟩
theorem zdt {p:Prop}(hp:¬p):(false=true↔p):=⟨fun h=>(by cases h),fun h=>absurd h hp⟩
theorem z8z {w:World}{S S':Nat→Prop}{m m':Nat}{p:Addr}{n n':Nd}{h h':Hd}(ih:∀(m':Nat) (A:Option Addr) (l l':List Nd),NdsAt w S m A l→NdsAt w S' m' A l'→l.length=l'.length→l=l')
 (c:NdCell w p n h) (c':NdCell w p n' h') (a:NdAt w S m n h) (a':NdAt w S' m' n' h'):n=n':=by
 have e0:=Option.some.inj (c.c0.symm.trans c'.c0);have e1:=Option.some.inj (c.c1.symm.trans c'.c1);have e2:=Option.some.inj (c.c2.symm.trans c'.c2);have e3:=Option.some.inj (c.c3.symm.trans c'.c3);have e4:=Option.some.inj (c.c4.symm.trans c'.c4);have e5:=Option.some.inj (c.c5.symm.trans c'.c5)
 simp only[Value.int.injEq,Value.string.injEq,Value.slice.injEq,true_and] at e0 e1 e2 e3 e4 e5
 have a1:=a'.2.1;have a2:=a'.2.2;rw[← e2.1] at a1;rw[← e5.1] at a2;exact (nd_eq n n').2 ⟨e0,e1,e3,e4,ih m' h.A n.ptrs n'.ptrs a.2.1 a1 e2.2.1,ih m' h.B n.items n'.items a.2.2 a2 e5.2.1⟩
theorem zb1 {w:World}{S S':Nat→Prop} :∀(m m':Nat) (A:Option Addr) (l l':List Nd),NdsAt w S m A l→NdsAt w S' m' A l'→l.length=l'.length→l=l'
 | 0,m',A,l,l',h,h',hl=>by
   obtain rfl:=h.zero;exact (List.eq_nil_of_length_eq_zero hl.symm).symm
 | m+1,m',A,l,l',h,h',hl=>by
   apply List.ext_getElem hl
   intro k h1 h2
   obtain ⟨x,hx,hA,c,n⟩:=h.at_ h1;obtain ⟨y,hy,hA',c',n'⟩:=(h'.mono (Nat.le_succ m')).at_ h2
   obtain rfl:x=y:=by rw[hA] at hA'; exact Option.some.inj hA'
   exact z8z (zb1 m) c c' n n'
theorem zes {w:World}{S S':Nat→Prop}{m m':Nat}{p:Addr}{n n':Nd}{h h':Hd}(c:NdCell w p n h)(c':NdCell w p n' h')(a:NdAt w S m n h)(a':NdAt w S' m' n' h'):n=n':=z8z (zb1 m) c c' a a'
def z7j (n n':Nd):Prop:=n.kind=n'.kind∧n.data=n'.data∧n.size=n'.size∧n.count=n'.count∧n.ptrs.length=n'.ptrs.length∧n.items.length=n'.items.length
def zay (D:List (Nd×Nd))(l l':List Nd):Prop:=∀(k:Nat) x y,l[k]? =some x→l'[k]? =some y→(x,y)∈D
def zbx (D E:List (Nd×Nd)):Prop:=∀d∈D,z7j d.1 d.2∧zay E d.1.ptrs d.2.ptrs∧zay E d.1.items d.2.items
theorem zm2 (n:Nd):SizeOf.sizeOf n.ptrs+SizeOf.sizeOf n.items<SizeOf.sizeOf n:=by
 cases n
 simp only[Nd.ptrs,Nd.items,Nd.mk.sizeOf_spec]
 omega
theorem zf3 {D:List (Nd×Nd)}{l l':List Nd}(hl:l.length=l'.length)(h:zay D l l')(ih:∀x∈l,∀y,(x,y)∈D→x=y):l=l':=by
 apply List.ext_getElem hl
 intro k h1 h2
 exact ih _ (List.getElem_mem h1) _ (h k _ _ (List.getElem?_eq_getElem h1) (List.getElem?_eq_getElem h2))
theorem z6h {D:List (Nd×Nd)}(hD:zbx D D):∀(N:Nat) (n n':Nd),SizeOf.sizeOf n≤N→(n,n')∈D→n=n'
 | 0,n,n',h,_=>by have:=zm2 n; omega
 | N+1,n,n',h,hm=>by
   obtain ⟨⟨e0,e1,e2,e3,e4,e5⟩,w1,w2⟩:=hD _ hm;have hs:=zm2 n;refine (nd_eq n n').2 ⟨e0,e1,e2,e3,zf3 e4 w1 fun x hx y hy=>?_,zf3 e5 w2 fun x hx y hy=>?_⟩
   · have:=List.sizeOf_lt_of_mem hx
     exact z6h hD N x y (by omega) hy
   · have:=List.sizeOf_lt_of_mem hx
     exact z6h hD N x y (by omega) hy
abbrev PT:=(Addr×Addr)×(Nd×Nd)
def Lies (w:World)(S:Nat→Prop)(M:Nat)(t:PT):Prop:=S t.1.1.block∧S t.1.2.block∧∃(h h':Hd) (m':Nat),NdCell w t.1.1 t.2.1 h∧NdAt w S M t.2.1 h∧NdCell w t.1.2 t.2.2 h'∧NdAt w S m' t.2.2 h'
theorem Lies.one {w:World}{S:Nat→Prop}{M:Nat}{p:Addr×Addr}{d d':Nd×Nd}(h:Lies w S M (p,d))(h':Lies w S M (p,d')):d=d':=by
 obtain ⟨_,_,x,y,m',c,a,c',a'⟩:=h;obtain ⟨_,_,x2,y2,m2',c2,a2,c2',a2'⟩:=h';exact Prod.ext (zes c c2 a a2) (zes c' c2' a' a2')
def pts (x y:Addr):Nat→List Nd→List Nd→List PT
 | i,a :: l,b :: l'=>((x.add (i*6),y.add (i*6)),(a,b)) :: pts x y (i+1) l l'
 | _,_,_=> []
theorem z5k (x y:Addr):∀(i:Nat) (l l':List Nd),l.length=l'.length→(pts x y i l l').length=l.length
 | i,[],[],_=>rfl
 | i,a :: l,b :: l',h=>by
   simp only[pts,List.length_cons]
   rw[z5k x y (i+1) l l' (by simpa using h)]
 | i,[],b :: l',h=>by simp at h
 | i,a :: l,[],h=>by simp at h
theorem zi9 (x y:Addr):∀(i:Nat) (l l':List Nd) (k:Nat) (a b:Nd),l[k]? =some a→l'[k]? =some b→(pts x y i l l')[k]? =some ((x.add ((i+k)*6),y.add ((i+k)*6)),(a,b))
 | i,u :: l,v :: l',0,a,b,ha,hb=>by
   simp at ha hb
   subst ha hb
   rfl
 | i,u :: l,v :: l',k+1,a,b,ha,hb=>by
   have:=zi9 x y (i+1) l l' k a b (by simpa using ha) (by simpa using hb);rw[show i+1+k=i+(k+1) by omega] at this
   simpa [pts] using this
 | i,[],l',k,a,b,ha,hb=>by simp at ha
 | i,u :: l,[],k,a,b,ha,hb=>by simp at hb
theorem zkd (x y:Addr)(i:Nat)(l l':List Nd)(t:PT)(hl:l.length=l'.length)(h:t∈pts x y i l l'):∃k,∃h1:k<l.length,∃h2:k<l'.length,t=((x.add ((i+k)*6),y.add ((i+k)*6)),(l[k],l'[k])):=by
 obtain ⟨k,hk0,rfl⟩:=List.mem_iff_getElem.1 h;have hk:=hk0;rw[z5k x y i l l' hl] at hk;refine ⟨k,hk,by omega,?_⟩;have:=zi9 x y i l l' k _ _ (List.getElem?_eq_getElem hk) (List.getElem?_eq_getElem (by omega));rw[List.getElem?_eq_getElem hk0] at this;exact Option.some.inj this
theorem zk2 (x y:Addr)(f:Nd→Nat):∀(i:Nat) (l l':List Nd),((pts x y i l l').map fun t=>f t.2.1).sum≤(l.map f).sum
 | i,[],l'=>by cases l' <;> simp[pts]
 | i,a :: l,[]=>by simp[pts]
 | i,a :: l,b :: l'=>by
   have:=zk2 x y f (i+1) l l'
   simp only[pts,List.map_cons,List.sum_cons]
   omega
def wt (M:Nat)(G:List PT):Nat:=(G.map fun t=>1+totN M t.2.1).sum
theorem zn2 (M:Nat)(G H:List PT):wt M (G++H)=wt M G+wt M H:=by unfold wt; rw[List.map_append,List.sum_append]
theorem zdh (M:Nat):∀G:List PT,G.length≤wt M G
 | []=>Nat.le_refl _
 | t :: G=>by
   have:=zdh M G
   show G.length+1≤(1+totN M t.2.1)+wt M G
   omega
theorem zhy {w:World}{S:Nat→Prop}{M:Nat}{A:Option Addr}{l:List Nd}(x y:Addr)(l':List Nd)(h:NdsAt w S M A l):wt M (pts x y 0 l l')≤totL M l:=by
 have h1:=zk2 x y (fun n=>1+totN M n) 0 l l'
 have h2:(l.map fun n=>1+totN M n).sum=totL M l:=by rw[← z0q]; exact z7k M A l h
 unfold wt;omega
theorem NdsAt.blk {w:World}{S:Nat→Prop}{m:Nat}{A:Option Addr}{l:List Nd}(h:NdsAt w S m A l){k:Nat}(hk:k<l.length):S (A.getD default).block:=by
 obtain ⟨j,rfl⟩:=h.pred hk;obtain ⟨_,q,rfl,hc,_⟩:=h;rw[List.length_map] at hk
 rcases hc with rfl | ⟨x,rfl,hs,_⟩
 · cases hk
 · exact hs
theorem zbm (x y:Addr)(l l':List Nd):zay ((pts x y 0 l l').map (·.2)) l l':=by
 intro k a b ha hb
 have:=zi9 x y 0 l l' k a b ha hb;exact List.mem_map.2 ⟨_,List.mem_of_getElem? this,rfl⟩
theorem zhd {w:World}{S:Nat→Prop}{M m':Nat}{A B:Option Addr}{l l':List Nd}(h:NdsAt w S M A l)(h':NdsAt w S m' B l')(hl:l.length=l'.length):∀t∈pts (A.getD default) (B.getD default) 0 l l',Lies w S M t:=by
 intro t ht
 obtain ⟨k,h1,h2,rfl⟩:=zkd _ _ _ _ _ _ hl ht;have s1:=h.blk h1;have s2:=h'.blk h2;obtain ⟨j,rfl⟩:=h.pred h1;obtain ⟨j',rfl⟩:=h'.pred h2;obtain ⟨x,hx,rfl,c,n⟩:=h.at_ h1;obtain ⟨y,hy,rfl,c',n'⟩:=h'.at_ h2;rw[Nat.zero_add];exact ⟨by rw[z0r]; exact s1,by rw[z0r]; exact s2,hx,hy,j',c,n.mono (Nat.le_succ j),c',n'⟩
structure Inv (w:World) (S:Nat→Prop) (M:Nat) (n0 n0':Nd) (G:List PT) (K:List (Addr×Addr)) (D:List (Nd×Nd)):Prop where
 lies:∀t∈G,Lies w S M t
 keys:∀a∈K,∃d,Lies w S M (a,d)∧d∈D
 closed:zbx D (D++G.map (·.2))
 root:(n0,n0')∈D++G.map (·.2)
 sound:n0=n0'→∀t∈G,t.2.1=t.2.2
theorem zbx.sub {D E E':List (Nd×Nd)}(h:zbx D E)(hs:∀x∈E,x∈E'):zbx D E':=fun d hd=>⟨(h d hd).1,fun k x y a b=>hs _ ((h d hd).2.1 k x y a b),fun k x y a b=>hs _ ((h d hd).2.2 k x y a b)⟩
theorem Inv.end_ {w:World}{S:Nat→Prop}{M:Nat}{n0 n0':Nd}{K:List (Addr×Addr)}{D:List (Nd×Nd)}(h:Inv w S M n0 n0' [] K D):n0=n0':=by
 have hc:zbx D D:=h.closed.sub (by simp);exact z6h hc _ n0 n0' (Nat.le_refl _) (by simpa using h.root)
theorem Inv.skip {w:World}{S:Nat→Prop}{M:Nat}{n0 n0':Nd}{G:List PT}{t:PT}{K:List (Addr×Addr)}{D:List (Nd×Nd)}(h:Inv w S M n0 n0' (G++ [t]) K D)(hk:t.1∈K):Inv w S M n0 n0' G K D:=by
 obtain ⟨d,h1,h2⟩:=h.keys _ hk;obtain ⟨p,q⟩:=t;obtain rfl:=(h.lies (p,q) (by simp)).one h1
 have hs:∀x∈D++(G++ [(p,q)]).map (·.2),x∈D++G.map (·.2):=by
  intro x hx
  simp only[List.map_append,List.map_cons,List.map_nil,List.mem_append,List.mem_cons,List.not_mem_nil,or_false] at hx ⊢
  rcases hx with hx | hx | hx
  · exact .inl hx
  · exact .inr hx
  · exact .inl (hx ▸ h2)
 exact ⟨fun t ht=>h.lies t (List.mem_append_left _ ht),h.keys,h.closed.sub hs,hs _ h.root,fun e t ht=>h.sound e t (List.mem_append_left _ ht)⟩
theorem Inv.step {w:World}{S:Nat→Prop}{M:Nat}{n0 n0':Nd}{G H1 H2:List PT}{t:PT}{K:List (Addr×Addr)}{D:List (Nd×Nd)}(h:Inv w S M n0 n0' (G++ [t]) K D)(hp:z7j t.2.1 t.2.2)
 (l1:∀u∈H1,Lies w S M u) (l2:∀u∈H2,Lies w S M u) (i1:zay (H1.map (·.2)) t.2.1.ptrs t.2.2.ptrs) (i2:zay (H2.map (·.2)) t.2.1.items t.2.2.items)
 (s1:t.2.1=t.2.2→∀u∈H1,u.2.1=u.2.2) (s2:t.2.1=t.2.2→∀u∈H2,u.2.1=u.2.2):Inv w S M n0 n0' (G++H1++H2) (K++ [t.1]) (t.2 :: D):=by
 have hs:∀x∈D++(G++ [t]).map (·.2),x∈(t.2 :: D)++(G++H1++H2).map (·.2):=by
  intro x hx
  simp only[List.map_append,List.map_cons,List.map_nil,List.mem_append,List.mem_cons,List.not_mem_nil,or_false] at hx ⊢
  rcases hx with hx | hx | hx
  · exact .inl (.inr hx)
  · exact .inr (.inl (.inl hx))
  · exact .inl (.inl hx)
 refine ⟨fun u hu=>?_,fun a ha=>?_,fun d hd=>?_,hs _ h.root,fun e u hu=>?_⟩
 · simp only[List.mem_append] at hu
   rcases hu with (hu | hu) | hu
   · exact h.lies u (List.mem_append_left _ hu)
   · exact l1 u hu
   · exact l2 u hu
 · rcases List.mem_append.1 ha with ha | ha
   · obtain ⟨d,h1,h2⟩:=h.keys a ha
     exact ⟨d,h1,List.mem_cons_of_mem _ h2⟩
   · obtain rfl:=List.mem_singleton.1 ha
     exact ⟨t.2,h.lies t (by simp),List.mem_cons_self⟩
 · rcases List.mem_cons.1 hd with rfl | hd
   · refine ⟨hp,fun k x y a b=>?_,fun k x y a b=>?_⟩
     · have:=i1 k x y a b
       simp only[List.map_append,List.mem_append]
       exact .inr (.inl (.inr this))
     · have:=i2 k x y a b
       simp only[List.map_append,List.mem_append]
       exact .inr (.inr this)
   · exact (h.closed.sub hs) d hd
 · simp only[List.mem_append] at hu
   have ht:=h.sound e t (by simp)
   rcases hu with (hu | hu) | hu
   · exact h.sound e u (List.mem_append_left _ hu)
   · exact s1 ht u hu
   · exact s2 ht u hu
theorem zgl (x y:Addr){l l':List Nd}(e:l=l'):∀u∈pts x y 0 l l',u.2.1=u.2.2:=by
 subst e
 intro u hu
 obtain ⟨k,h1,h2,rfl⟩:=zkd _ _ _ _ _ _ rfl hu
 rfl
open Go.RowKit Go.Deep
abbrev prT:TypeId:=181
abbrev prsT:TypeId:=182
theorem zta:(Tryz.prog.info? prT).map (fun i=>(i.zero,i.size,i.bytes))=some (some (.agg #[.pointer none,.pointer none]),2,16):=by kernel_rfl
def rowP:List PT→List Value
 | []=> []
 | t :: r=> .pointer (some t.1.1) :: .pointer (some t.1.2) :: rowP r
theorem z31:∀G,(rowP G).length=G.length*2
 | []=>rfl
 | t :: r=>by simp only[rowP,List.length_cons,z31 r]; omega
theorem z5r:∀(G H:List PT),rowP (G++H)=rowP G++rowP H
 | [],_=>rfl
 | t :: r,H=>by rw[List.cons_append,rowP,z5r r H]; rfl
theorem zh9:∀(G:List PT),∀u∈rowP G,u.oneCell'=true
 | [],_,h=>by cases h
 | t :: r,u,h=>by
   rcases List.mem_cons.1 h with rfl | h
   · rfl
   rcases List.mem_cons.1 h with rfl | h
   · rfl
   exact zh9 r u h
theorem znb (G:List PT)(t:PT):(rowP (G++ [t]))[G.length*2]? =some (.pointer (some t.1.1))∧(rowP (G++ [t]))[G.length*2+1]? =some (.pointer (some t.1.2)):=by
 rw[z5r];have h:=z31 G
 constructor
 · rw[List.getElem?_append_right (by omega),h,Nat.sub_self]; rfl
 · rw[List.getElem?_append_right (by omega),h,show G.length*2+1-G.length*2=1 by omega]; rfl
theorem z60 (base base2:Nat)(ty:TypeId)(w:World)(v v2:Value)(n:Nat)(xs:List Value)(G:List PT)(hown:w.ownsRow base prT 2 v n xs)(h2:w.ownsRow base2 prT 2 v2 G.length (rowP G))(hb:n+G.length≤4000002)(hbase:base≤w.heap.size) :
 ∃v' w',(Builtin.append_ #[prsT,prsT] ty #[v,v2]).run Tryz.prog w= .ok v' w'∧w'.ownsRow base prT 2 v' (n+G.length) (xs++rowP G)∧w.grownBy w' v.ownBlock:=by
 obtain ⟨i0,hi,hz0,hz1,hz2⟩:=info_parts zta;have hlen:=z31 G
 rcases h2.2 with ⟨rfl,h0⟩ | ⟨g,cap,cur,rfl,_,_⟩
 · obtain rfl:=List.eq_nil_of_length_eq_zero h0
   exact ⟨v,w,run_append_owned_none (P:=Tryz.prog) w base prsT ty prT i0 2 Tryz.underlying182 hi v n xs hown,by simpa [rowP] using hown,⟨rfl,rfl,rfl,Nat.le_refl _,fun _ _ _=>rfl⟩⟩
 · obtain ⟨v',w',h1,h3,h4,_⟩:=run_append_own (P:=Tryz.prog) w base prsT ty prT i0 _ 2 16 Tryz.underlying182 hi hz0 hz1 hz2 rfl (by decide) v n xs hown ⟨g,0,none⟩ G.length cap (rowP G) hlen (fun j u hj=>h2.cells (g:=g) rfl j u hj) (zh9 G) (by unfold maxLen; omega) (by omega) hbase
   exact ⟨v',w',h1,h3,h4⟩
theorem z57 {ops:Array Oper}{o:Oper}{a:Act}{w:World}{K:Act→World→Prop}{Q:Exit→Act→World→Prop}{E:Prop}(hgd:o.guard=none)(s x:Operand)
 (ho:o.op= .call { callee:= .builtin .append,args:= #[s,x],argTypes:= #[prsT,prsT] })
 (base base2:Nat) (v v2:Value) (n:Nat) (xs:List Value) (G:List PT) (hs:a.eval s=v) (hx:a.eval x=v2) (hown:w.ownsRow base prT 2 v n xs) (h2:w.ownsRow base2 prT 2 v2 G.length (rowP G)) (hb:n+G.length≤4000002) (hbase:base≤w.heap.size)
 (h:∀A' c' w',Hid (w'.ownsRow base prT 2 (.slice A' (n+G.length) c') (n+G.length) (xs++rowP G))→Hid (w.grownBy w' v.ownBlock)→K (a.put o.dst (.slice A' (n+G.length) c')) w') :
 if Region.wanted o (yielded ops a.tmps)=true then Oper.wp Tryz.prog o a w K Q else E:=by
 have hw:Region.wanted o (yielded ops a.tmps)=true:=by simp[Region.wanted,hgd]
 rw[if_pos hw];obtain ⟨v',w',hr,h3,h4⟩:=z60 base base2 o.type w v v2 n xs G hown h2 hb hbase;obtain ⟨A',c',rfl⟩:=z3e h3;unfold Oper.wp execOp
 simp only[ho,resolve,invoke,builtin,Sem.run_bind,Sem.run_pure,Result.andThen_ok,List.map_toArray,List.map_cons,List.map_nil,hs,hx,hr]
 exact h A' c' w' h3 h4
theorem zn7 (w:World)(t:PT):(w.alloc (.cells #[.pointer (some t.1.1),.pointer (some t.1.2)] prT)).ownsRow w.heap.size prT 2 (.slice (some ⟨w.heap.size,0,none⟩) 1 1) ([t]:List PT).length (rowP [t]) :=
 World.ownsRow_lit w #[.pointer (some t.1.1),.pointer (some t.1.2)] 1 (Nat.le_refl _) (by decide) rfl
theorem z2h (w:World)(d:Nat):Below w.heap.size w (redrawn w d):=⟨rfl,rfl,rfl,Nat.le_refl _,fun _ _=>rfl⟩
def z7w (n n':Nd):Bool:=decide (n.kind=n'.kind)&&decide (n.data=n'.data)&&decide (n.size=n'.size)&&decide (n.count=n'.count)&&decide (n.ptrs.length=n'.ptrs.length)&&decide (n.items.length=n'.items.length)
theorem z5u (n n':Nd):z7w n n'=true↔z7j n n':=by
 unfold z7w z7j
 simp only[Bool.and_eq_true,decide_eq_true_eq]
 exact ⟨fun ⟨⟨⟨⟨⟨a,b⟩,c⟩,d⟩,e⟩,f⟩=>⟨a,b,c,d,e,f⟩,fun ⟨a,b,c,d,e,f⟩=>⟨⟨⟨⟨⟨a,b⟩,c⟩,d⟩,e⟩,f⟩⟩
theorem zfk (p p':Addr)(n n':Nd)(h h':Hd)(w:World)(c:NdCell w p n h)(c':NdCell w p' n' h')(_l1:n.ptrs.length≤maxLen)(_l2:n.items.length≤maxLen)(_l3:n'.ptrs.length≤maxLen)(_l4:n'.items.length≤maxLen) :
 Calls Tryz.prog 112 #[.pointer (some p),.pointer (some p')] w fun e w'=>e= .returned (.bool (z7w n n'))∧Below w.heap.size w w':=by
 obtain ⟨c0,c1,c2,c3,c4,c5⟩:=c;obtain ⟨d0,d1,d2,d3,d4,d5⟩:=c';unfold maxLen at _l1 _l2 _l3 _l4;have HQ:=hid (z5u n n');generalize z7w n n'=b at *
 by_cases hx:n.kind=n'.kind
 case neg =>
  have hxb:(n.kind==n'.kind)=false:=by simpa using hx
  obtain rfl:b=false:=z48 HQ.out (fun e=>hx e.1);clear hx;go_enter Tryz.func112,Tryz.ntmps112;go_wp2
  simp only[List.append_eq,List.cons_append,List.nil_append]
  go_big_quiet (fail)
  go_wp2;go_ret;exact ⟨rfl,z2h _ _⟩
 have t0:(n.kind==n'.kind)=true:=by simpa using hx
 have H0:=hid hx;clear hx
 by_cases hx:n.data=n'.data
 case neg =>
  have hxb:(n.data.toList==n'.data.toList)=false:=by rw[toList_eq]; exact decide_eq_false hx
  obtain rfl:b=false:=z48 HQ.out (fun e=>hx e.2.1);clear hx;go_enter Tryz.func112,Tryz.ntmps112;go_wp2
  simp only[List.append_eq,List.cons_append,List.nil_append]
  go_big_quiet (fail)
  go_wp2;go_ret;exact ⟨rfl,z2h _ _⟩
 have t1:(n.data.toList==n'.data.toList)=true:=by rw[toList_eq]; exact decide_eq_true hx
 have H1:=hid hx;clear hx
 by_cases hx:n.size=n'.size
 case neg =>
  have hxb:(n.size==n'.size)=false:=by simpa using hx
  obtain rfl:b=false:=z48 HQ.out (fun e=>hx e.2.2.1);clear hx;go_enter Tryz.func112,Tryz.ntmps112;go_wp2
  simp only[List.append_eq,List.cons_append,List.nil_append]
  go_big_quiet (fail)
  go_wp2;go_ret;exact ⟨rfl,z2h _ _⟩
 have t2:(n.size==n'.size)=true:=by simpa using hx
 have H2:=hid hx;clear hx
 by_cases hx:n.count=n'.count
 case neg =>
  have hxb:(n.count==n'.count)=false:=by simpa using hx
  obtain rfl:b=false:=z48 HQ.out (fun e=>hx e.2.2.2.1);clear hx;go_enter Tryz.func112,Tryz.ntmps112;go_wp2
  simp only[List.append_eq,List.cons_append,List.nil_append]
  go_big_quiet (fail)
  go_wp2;go_ret;exact ⟨rfl,z2h _ _⟩
 have t3:(n.count==n'.count)=true:=by simpa using hx
 have H3:=hid hx;clear hx
 by_cases hx:n.ptrs.length=n'.ptrs.length
 case neg =>
  have hxb:((n.ptrs.length:Int)==(n'.ptrs.length:Int))=false:=by simp; omega
  obtain rfl:b=false:=z48 HQ.out (fun e=>hx e.2.2.2.2.1);clear hx;go_enter Tryz.func112,Tryz.ntmps112;go_wp2
  simp only[List.append_eq,List.cons_append,List.nil_append]
  go_big_quiet (fail)
  go_wp2;go_ret;exact ⟨rfl,z2h _ _⟩
 have t4:((n.ptrs.length:Int)==(n'.ptrs.length:Int))=true:=by simp; omega
 have H4:=hid hx;clear hx
 by_cases hx:n.items.length=n'.items.length
 case neg =>
  have hxb:((n.items.length:Int)==(n'.items.length:Int))=false:=by simp; omega
  obtain rfl:b=false:=z48 HQ.out (fun e=>hx e.2.2.2.2.2);clear hx;go_enter Tryz.func112,Tryz.ntmps112;go_wp2
  simp only[List.append_eq,List.cons_append,List.nil_append]
  go_big_quiet (fail)
  go_wp2;go_ret;exact ⟨rfl,z2h _ _⟩
 have t5:((n.items.length:Int)==(n'.items.length:Int))=true:=by simp; omega
 have H5:=hid hx;clear hx;obtain rfl:b=true:=HQ.out.2 ⟨H0.out,H1.out,H2.out,H3.out,H4.out,H5.out⟩;go_enter Tryz.func112,Tryz.ntmps112;go_wp2;go_wp2
 try simp only[List.append_eq,List.cons_append,List.nil_append]
 go_big_quiet (fail)
 go_wp2;go_ret;exact ⟨rfl,z2h _ _⟩
def zgu (A B:Option Addr)(l l':List Nd)(w:World)(e:Ending)(w':World):Prop :=
 ∃v,e= .returned v∧w'.ownsRow w.heap.size prT 2 v (pts (A.getD default) (B.getD default) 0 l l').length (rowP (pts (A.getD default) (B.getD default) 0 l l'))∧Below w.heap.size w w'
theorem zpw (x y:Addr)(l l':List Nd)(hl:l.length=l'.length)(k:Nat)(n n':Nd)(h:l[k]? =some n)(h':l'[k]? =some n'):(pts x y 0 l l').take (k+1)=(pts x y 0 l l').take k++ [((x.add (k*6),y.add (k*6)),(n,n'))]:=by
 have hp:=z5k x y 0 l l' hl;have:=zi9 x y 0 l l' k _ _ h h';obtain ⟨hk,he⟩:=List.getElem?_eq_some_iff.1 this;rw[List.take_succ_eq_append_getElem hk,he,Nat.zero_add]
theorem zdq (A B:Option Addr)(c c':Nat)(l l':List Nd)(w:World)(hA:l= []∨∃x,A=some x)(hB:l'= []∨∃y,B=some y)(hl:l.length=l'.length)(hm:l.length≤2000000) :
 Calls Tryz.prog 113 #[.slice A l.length c,.slice B l'.length c'] w (zgu A B l l' w):=by
 have hpl:=z5k (A.getD default) (B.getD default) 0 l l' hl
 have hts:∀k n n',l[k]? =some n→l'[k]? =some n'→(pts (A.getD default) (B.getD default) 0 l l').take (k+1)=(pts (A.getD default) (B.getD default) 0 l l').take k++ [(((A.getD default).add (k*6),(B.getD default).add (k*6)),(n,n'))]:=fun k n n' h h'=>zpw _ _ l l' hl k n n' h h'
 rw[← hl];have HPL:=hid hpl;have HTS:=hid hts;unfold zgu;generalize hG:pts (A.getD default) (B.getD default) 0 l l'=G at *;have HA:=hid hA;have HBB:=hid hB;have HL:=hid hl;clear hG hpl hts hA hB hl;go_enter Tryz.func113,Tryz.ntmps113
 go_wp2_with fail
 go_loopw [5,9] (fun v i wr=>∃k:Nat,i= .int .i64 k∧k≤l.length∧Hid (wr.ownsRow w.heap.size prT 2 v k (rowP (G.take k)))∧Hid (Below w.heap.size w wr)) (fun _ i _=>l.length-(intOf i).toNat)
 case atStart=>exact ⟨0,rfl,by omega,hid (World.ownsRow_nil _ _ _ _),hid (Below.refl _ _)⟩
 case round =>
  obtain ⟨k,rfl,hk,HO,HB⟩:=hrel
  by_cases hlt:k<l.length
  · have hlt':k<l'.length:=by have:=HL.out; omega
    obtain ⟨x,rfl⟩:∃x,A=some x:=by
     rcases HA.out with h | h
     · subst h; cases hlt
     · exact h
    obtain ⟨y,rfl⟩:∃y,B=some y:=by
     rcases HBB.out with h | h
     · subst h; cases hlt'
     · exact h
    obtain ⟨n,hn⟩:∃n,l[k]? =some n:=⟨_,List.getElem?_eq_getElem hlt⟩
    obtain ⟨n',hn'⟩:∃n,l'[k]? =some n:=⟨_,List.getElem?_eq_getElem hlt'⟩
    have htk:=HTS.out k n n' hn hn';have HRT:Hid (rowP (G.take (k+1))=rowP (G.take k)++rowP [(((x.add (k*6)),(y.add (k*6))),(n,n'))]):=hid (by rw[htk,z5r]; rfl);have hwr:=HB.out.size
    have hk2:(k:Int)<(l.length:Int):=by omega
    clear htk hn hn'
    go_wp2_with fail
    go_region_law (first | (refine z57 rfl (.tmp 12) (.tmp 20) rfl w.heap.size wr.heap.size _ (.slice (some ⟨wr.heap.size,0,none⟩) 1 1) k _ [(((x.add (k*6)),(y.add (k*6))),(n,n'))] rfl rfl (HO.out.alloc _) (zn7 wr (((x.add (k*6)),(y.add (k*6))),(n,n'))) (by simp; omega) (by simp; omega) ?_; intro A4 c4 w4 hown4 hgrow4))
    all_goals
     have HO4:Hid (w4.ownsRow w.heap.size prT 2 (.slice A4 (k+1) c4) (k+1) (rowP (G.take (k+1)))):=hid (by rw[HRT.out]; exact hown4.out);have HB4:=hid ((HB.out.alloc HB.out.size _).drew.grown hgrow4.out (by simp; omega) (fun k hk=>(HO.out.lt k hk).1));clear hown4 hgrow4;go_wp2
     go_roundw
     case rel=>exact ⟨k+1,by go_num,by omega,HO4,HB4⟩
     case measure=>simp[intOf]; omega
  · obtain rfl:k=l.length:=by omega
    have HO2:=hid HO.out;rw[show G.take l.length=G from List.take_of_length_le (by rw[HPL.out]; exact Nat.le_refl _)] at HO2;go_wp2;go_ret;exact ⟨_,rfl,by rw[HPL.out]; exact HO2.out,HB.out⟩
end Go.Proofs.YtlbfffokkhccaaaGreatDoor
namespace Go.Proofs.YtlbfffokkhccaaaGreatDoor
open Go.RowKit
abbrev mapT:TypeId:=222
abbrev ndpT:TypeId:=179
def kv (a:Addr×Addr):Value:= .agg #[.pointer (some a.1),.pointer (some a.2)]
theorem zqd (w:World)(a b:Addr)(ha:Clean w a.block)(hb:Clean w b.block)(d:Nat):(Op.equalIn (d+1) ndpT (.pointer (some a)) (.pointer (some b))).run Tryz.prog w= .ok (decide (a=b)) w:=by
 obtain ⟨i0,hi,hz0,hz1,hz2⟩:=info_parts z65
 by_cases h:a=b
 · subst h
   simp[Op.equalIn,run_underlying (P:=Tryz.prog) Tryz.underlying179,sizeOf,typeInfo,hi,run_sameAddr_same]
 · obtain ⟨ca,ta,ha⟩:=ha
   obtain ⟨cb,tb,hb⟩:=hb
   have hs:i0.size≠0:=by rw[hz1]; decide
   simp[Op.equalIn,run_underlying (P:=Tryz.prog) Tryz.underlying179,sizeOf,typeInfo,hi,hs,run_sameAddr_other w h ha hb,h]
theorem zp1 : (Tryz.prog.fieldsOf prT).toList.map (fun f => (f.name, f.type, f.offset)) = [("a", ndpT, 0), ("b", ndpT, 1)] := by kernel_rfl
theorem z49 (w:World)(xs:Array Value)(k:Nat)(v:Value)(h:xs[k]? =some v):(part ndpT xs k).run Tryz.prog w= .ok v w:=by simp[part,h]
theorem eq_pr (w:World)(a b:Addr×Addr)(h1:Clean w a.1.block)(h2:Clean w a.2.block)(h3:Clean w b.1.block)(h4:Clean w b.2.block):(Op.equal prT (kv a) (kv b)).run Tryz.prog w= .ok (decide (a=b)) w:=by
 unfold kv Op.equal Op.maxDepth;rw[run_equalIn_struct w 9999 prT _ _ (by kernel_rfl) (by kernel_rfl)];have hf:=zp1;generalize (Tryz.prog.fieldsOf prT).toList=fs at hf;have hl:=congrArg List.length hf
 simp only[List.length_map,List.length_cons,List.length_nil] at hl
 obtain ⟨f,g,rfl⟩:∃f g,fs= [f,g]:=by
  match fs,hl with
  | [f,g],_=>exact ⟨f,g,rfl⟩
 simp only[List.map_cons,List.map_nil,List.cons.injEq,Prod.mk.injEq,and_true] at hf
 obtain ⟨⟨n1,t1,o1⟩,n2,t2,o2⟩:=hf;obtain ⟨a1,a2⟩:=a;obtain ⟨b1,b2⟩:=b
 dsimp only at h1 h2 h3 h4 ⊢
 have q1:(Op.equalIn 9999 ndpT (.pointer (some a1)) (.pointer (some b1))).run Tryz.prog w= .ok (decide (a1=b1)) w:=zqd w a1 b1 h1 h3 9998;have q2:(Op.equalIn 9999 ndpT (.pointer (some a2)) (.pointer (some b2))).run Tryz.prog w= .ok (decide (a2=b2)) w:=zqd w a2 b2 h2 h4 9998
 simp only[Op.eqFields,n1,n2,t1,t2,o1,o2]
 have p1:(part ndpT #[.pointer (some a1),.pointer (some a2)] 0).run Tryz.prog w= .ok (.pointer (some a1)) w:=z49 w _ 0 _ rfl;have p2:(part ndpT #[.pointer (some a1),.pointer (some a2)] 1).run Tryz.prog w= .ok (.pointer (some a2)) w:=z49 w _ 1 _ rfl;have p3:(part ndpT #[.pointer (some b1),.pointer (some b2)] 0).run Tryz.prog w= .ok (.pointer (some b1)) w:=z49 w _ 0 _ rfl;have p4:(part ndpT #[.pointer (some b1),.pointer (some b2)] 1).run Tryz.prog w= .ok (.pointer (some b2)) w:=z49 w _ 1 _ rfl
 simp only[Sem.run_ite,Sem.run_bind,Sem.run_pure,p1,p2,p3,p4,q1,q2,Result.andThen_ok]
 by_cases e1:a1=b1
 · by_cases e2:a2=b2
   · simp[e1,e2]
   · simp[e1,e2]
 · simp[e1]
def MapSt (w:World)(mb:Nat)(K:List (Addr×Addr)):Prop:=∃es clock,w.heap[mb]? =some (.map es clock)∧es.toList.map (fun e=>(e.key,e.val))=K.map (fun a=>(kv a,Value.bool true))
def z74 (w:World)(a:Addr×Addr):Prop:=Clean w a.1.block∧Clean w a.2.block
instance:DecidableEq (Addr×Addr):=instDecidableEqProd
theorem z66 (w:World)(a:Addr×Addr)(ha:z74 w a):∀(es:List MapEntry) (K:List (Addr×Addr)) (i:Nat),es.map (fun e=>(e.key,e.val))=K.map (fun a=>(kv a,Value.bool true))→(∀b∈K,z74 w b) →
 (a∈K∧∃j,(Instr.findAsking prT (kv a) es i).run Tryz.prog w= .ok (some (j,.bool true)) w)∨(a∉K∧(Instr.findAsking prT (kv a) es i).run Tryz.prog w= .ok none w)
 | [],K,i,h,_=>by
   obtain rfl:K= []:=by cases K; rfl; simp at h
   exact .inr ⟨by simp,by simp[Instr.findAsking]⟩
 | e :: es,[],i,h,_=>by simp at h
 | e :: es,b :: K,i,h,hc=>by
   simp only[List.map_cons,List.cons.injEq,Prod.mk.injEq] at h
   have hb:=hc b List.mem_cons_self;have he:=eq_pr w a b ha.1 ha.2 hb.1 hb.2
   by_cases hab:a=b
   · subst hab
     refine .inl ⟨List.mem_cons_self,i,?_⟩
     simp[Instr.findAsking,h.1.1,h.1.2,he]
   · rcases z66 w a ha es K (i+1) h.2 (fun x hx=>hc x (List.mem_cons_of_mem _ hx)) with ⟨h1,j,h2⟩ | ⟨h1,h2⟩
     · exact .inl ⟨List.mem_cons_of_mem _ h1,j,by simp[Instr.findAsking,h.1.1,he,hab,h2]⟩
     · exact .inr ⟨by simp[hab,h1],by simp[Instr.findAsking,h.1.1,he,hab,h2]⟩
theorem z3t (e:Bool)(a:Addr×Addr)(w:World):(Instr.checkKey e 10000 prT (kv a)).run Tryz.prog w= .ok () w:=by
 have hq:∀(n:Nat) (p:Addr),(Instr.checkKey e (n+1) ndpT (.pointer (some p))).run Tryz.prog w= .ok () w:=fun n p=>by
  simp[Instr.checkKey,run_underlying (P:=Tryz.prog) Tryz.underlying179]
 have hp:∀(p:Addr),(Instr.checkKey e 9999 ndpT (.pointer (some p))).run Tryz.prog w= .ok () w:=hq 9998;unfold kv;unfold Instr.checkKey
 simp[run_underlying (P:=Tryz.prog) Tryz.underlying181,hp,z49 w #[.pointer (some a.1),.pointer (some a.2)] 0 _ rfl,z49 w #[.pointer (some a.1),.pointer (some a.2)] 1 _ rfl]
theorem znd:Tryz.prog.underlying mapT=some (.map prT 4):=Tryz.underlying222
theorem z64 (w:World)(a:Addr×Addr)(ha:z74 w a)(es:List MapEntry)(K:List (Addr×Addr))(h:es.map (fun e=>(e.key,e.val))=K.map (fun a=>(kv a,Value.bool true)))(hK:∀b∈K,z74 w b) :
 (a∈K∧∃j,(Instr.findKey prT (kv a) es).run Tryz.prog w= .ok (some (j,.bool true)) w)∨(a∉K∧(Instr.findKey prT (kv a) es).run Tryz.prog w= .ok none w):=by
 cases es with
 | nil =>
  obtain rfl:K= []:=by cases K; rfl; simp at h
  refine .inr ⟨by simp,?_⟩
  simp[Instr.findKey,run_underlying (P:=Tryz.prog) Tryz.underlying181,Instr.findNow]
 | cons e es =>
  have hk:e.key=kv (K.headD default):=by
   cases K with
   | nil=>simp at h
   | cons b K=>simp at h; exact h.1.1
  have h1:(Instr.findKey prT (kv a) (e :: es)).run Tryz.prog w=(Instr.findAsking prT (kv a) (e :: es) 0).run Tryz.prog w:=by
   simp[Instr.findKey,run_underlying (P:=Tryz.prog) Tryz.underlying181,Instr.findNow,hk,kv,Instr.sameNow]
  rw[h1];exact z66 w a ha (e :: es) K 0 h hK
theorem zf5 (w:World)(mb:Nat)(a:Addr×Addr)(K:List (Addr×Addr))(hm:MapSt w mb K)(ha:z74 w a)(hK:∀b∈K,z74 w b)(b:Bool)(hb:b=true↔a∈K) :
 (Instr.lookup mapT (.map (some mb)) (kv a) false).run Tryz.prog w= .ok (.bool b) w:=by
 obtain ⟨es,clock,hw,he⟩:=hm
 rcases z64 w a ha es.toList K he hK with ⟨h1,j,h2⟩ | ⟨h1,h2⟩
 · obtain rfl:b=true:=hb.2 h1
   simp[Instr.lookup,run_underlying (P:=Tryz.prog) znd,MapKept.run_getObj_map hw,z3t,h2]
 · obtain rfl:b=false:=z48 hb h1
   simp[Instr.lookup,run_underlying (P:=Tryz.prog) znd,MapKept.run_getObj_map hw,z3t,h2]
theorem zkn (w:World)(mb:Nat)(a:Addr×Addr)(K:List (Addr×Addr))(hm:MapSt w mb K)(ha:z74 w a)(hK:∀b∈K,z74 w b)(hb:a∉K) :
 ∃w',(Instr.mapUpdate mapT (.map (some mb)) (kv a) (.bool true)).run Tryz.prog w= .ok () w'∧MapSt w' mb (K++ [a])∧w'.os=w.os∧w'.tape=w.tape∧w'.output=w.output∧w'.heap.size=w.heap.size∧∀k,k≠mb→w'.heap[k]? =w.heap[k]? :=by
 obtain ⟨es,clock,hw,he⟩:=hm
 rcases z64 w a ha es.toList K he hK with ⟨h1,_⟩ | ⟨_,h2⟩
 · exact absurd h1 hb
 · refine ⟨{ w with heap:=w.heap.setIfInBounds mb (.map (es.push { key:=kv a,val:= .bool true,born:=clock }) (clock+1)) },?_,⟨_,_,(MapKept.heap_set hw).1,?_⟩,rfl,rfl,rfl,by simp,(MapKept.heap_set hw).2⟩
   · simp[Instr.mapUpdate,run_underlying (P:=Tryz.prog) znd,MapKept.run_getObj_map hw,z3t,h2,MapKept.run_setObj_map _ hw]
   · simp[he]
open Go.RowKit Go.Deep
theorem kb {w w':World}{B b o:Nat}{v:Value}(hb:Below B w w')(hl:b<B)(h:w.cell? ⟨b,o,none⟩=some v):w'.cell? ⟨b,o,none⟩=some v:=(hb.cell hl).trans h
theorem z5b {w:World}{B B' e z n:Nat}{v:Value}{xs:List Value}(h:w.ownsRow B e z v n xs)(hb:B'≤B):w.ownsRow B' e z v n xs:=by
 refine ⟨h.1,h.2.imp id ?_⟩;rintro ⟨g,cap,cur,e,hB,hr⟩;exact ⟨g,cap,cur,e,Nat.le_trans hb hB,hr⟩
theorem zb9 {n n':Nd}(h:z7j n n'):n.ptrs.length=n'.ptrs.length∧n.items.length=n'.items.length:=⟨h.2.2.2.2.1,h.2.2.2.2.2⟩
theorem zij {n n':Nd}(h:n=n'):z7j n n':=by subst h; exact ⟨rfl,rfl,rfl,rfl,rfl,rfl⟩
theorem z4s {w w':World}{k:Nat}(h:Clean w k)(hb:Below w.heap.size w w'):Clean w' k:=by
 obtain ⟨c,t,hk⟩:=h;exact ⟨c,t,(hb.block k (z00 hk)).trans hk⟩
theorem z8h {w:World}{S:Nat→Prop}{m:Nat}{A:Option Addr}{l:List Nd}(h:NdsAt w S m A l):l= []∨∃x,A=some x:=by
 rcases Nat.eq_zero_or_pos l.length with h0 | h0
 · exact .inl (List.eq_nil_of_length_eq_zero h0)
 · obtain ⟨j,rfl⟩:=h.pred h0
   obtain ⟨x,_,hA,_⟩:=h.at_ h0;exact .inr ⟨x,hA⟩
theorem zmu {α:Type}(l:List α)(h:0<l.length):∃l' x,l=l'++ [x]:=by
 rcases List.eq_nil_or_concat l with e | ⟨l',x,e⟩
 · subst e; cases h
 · exact ⟨l',x,by rw[e,List.concat_eq_append]⟩
theorem zpn {w:World}{B n cap:Nat}{A:Option Addr}{xs:List Value}(h:w.ownsRow B prT 2 (.slice A (n+1) cap) (n+1) xs):∃g,A=some ⟨g,0,none⟩∧B≤g∧n+1≤cap∧g<w.heap.size∧∀j u,xs[j]? =some u→w.cell? ⟨g,j,none⟩=some u:=by
 rcases h.2 with ⟨e,_⟩ | ⟨g,cap',cur,e,hB,hg,hc,_⟩
 · simp at e
 · simp only[Value.slice.injEq,true_and] at e
   obtain ⟨rfl,rfl⟩:=e;refine ⟨g,rfl,hB,hc,z00 hg,fun j u hj=>?_⟩;have:=h.cells (g:=g) rfl j u hj
   rwa [z23] at this
theorem zce {w w':World}{B e z n:Nat}{v:Value}{xs:List Value}(h:w.ownsRow B e z v n xs)(hk:∀k,B≤k→k<w.heap.size→w'.heap[k]? =w.heap[k]?):w'.ownsRow B e z v n xs:=by
 refine ⟨h.1,h.2.imp id ?_⟩;rintro ⟨g,cap,cur,e,hB,hg,hr⟩;exact ⟨g,cap,cur,e,hB,(hk g hB (z00 hg)).trans hg,hr⟩
theorem zr0 {w:World}{B cap:Nat}{A:Option Addr}{G:List PT}{t:PT}(h:w.ownsRow B prT 2 (.slice A (G.length+1) cap) (G.length+1) (rowP (G++ [t]))):w.ownsRow B prT 2 (.slice A G.length cap) G.length (rowP G):=by
 refine ⟨z31 G,?_⟩
 rcases h.2 with ⟨e,_⟩ | ⟨g,cap',cur,e,hB,hg,hc,hm,hs,ht⟩
 · simp at e
 · simp only[Value.slice.injEq,true_and] at e
   obtain ⟨rfl,rfl⟩:=e;refine .inr ⟨g,cap,cur,rfl,hB,hg,by omega,hm,hs,?_⟩;rw[z5r] at ht;have h1:=congrArg (List.take (G.length*2)) ht;rw[List.take_take,Nat.min_eq_left (by omega),List.take_append_of_le_length (Nat.le_of_eq (z31 G).symm)] at h1;rw[h1];exact List.take_of_length_le (by rw[z31]; exact Nat.le_refl _)
def hd1 (t:PT)(hx hy:Hd):List PT:=pts (hx.A.getD default) (hy.A.getD default) 0 t.2.1.ptrs t.2.2.ptrs
def hd2 (t:PT)(hx hy:Hd):List PT:=pts (hx.B.getD default) (hy.B.getD default) 0 t.2.1.items t.2.2.items
def LookP (t:PT)(hx hy:Hd)(W:World)(e:Ending)(w':World):Prop:=∃(A:Option Addr) (l c:Nat),e= .returned (.tuple #[.bool (z7w t.2.1 t.2.2),.slice A l c])∧(z7w t.2.1 t.2.2=true→l=(hd1 t hx hy).length+(hd2 t hx hy).length∧w'.ownsRow W.heap.size prT 2 (.slice A l c) l (rowP (hd1 t hx hy)++rowP (hd2 t hx hy)))∧Below W.heap.size W w'
theorem zsm (t:PT)(hx hy:Hd)(m m':Nat)(S S':Nat→Prop)(w:World)(nx:NdCell w t.1.1 t.2.1 hx)(ny:NdCell w t.1.2 t.2.2 hy)(ax:NdAt w S m t.2.1 hx)(ay:NdAt w S' m' t.2.2 hy)(ht:totN m t.2.1≤2000000) :
 Calls Tryz.prog 111 #[.agg #[.pointer (some t.1.1),.pointer (some t.1.2)]] w (LookP t hx hy w):=by
 have hba:=(Below.refl w.heap.size w).alloc (Nat.le_refl _) (.cells #[.pointer (some t.1.1),.pointer (some t.1.2)] prT);have HP:=hid (heap_alloc_new w (.cells #[.pointer (some t.1.1),.pointer (some t.1.2)] prT));have HBA:=hid hba
 have hsz:(w.alloc (.cells #[.pointer (some t.1.1),.pointer (some t.1.2)] prT)).heap.size=w.heap.size+1:=by simp
 have HCX:Hid (∀V:World,Below w.heap.size w V→NdCell V t.1.1 t.2.1 hx∧NdCell V t.1.2 t.2.2 hy):=hid fun V hV=>⟨z0u hV _ _ _ nx,z0u hV _ _ _ ny⟩
 have HSP:=hid (zfk t.1.1 t.1.2 t.2.1 t.2.2 hx hy _ (HCX.out _ hba).1 (HCX.out _ hba).2 ax.2.1.len ax.2.2.len ay.2.1.len ay.2.2.len);have HAX:=hid (And.intro ax ay);have HT:=hid ht
 obtain ⟨p0,p1⟩:(w.alloc (.cells #[.pointer (some t.1.1),.pointer (some t.1.2)] prT)).cell? ⟨w.heap.size,0,none⟩=some (.pointer (some t.1.1))∧(w.alloc (.cells #[.pointer (some t.1.1),.pointer (some t.1.2)] prT)).cell? ⟨w.heap.size,1,none⟩=some (.pointer (some t.1.2)):=⟨by rw[cell_of_row _ _ _ _ _ _ HP.out]; rfl,by rw[cell_of_row _ _ _ _ _ _ HP.out]; rfl⟩
 unfold LookP
 obtain ⟨Q1,hQ1⟩:∃Q1,Q1=hd1 t hx hy:=⟨_,rfl⟩
 obtain ⟨Q2,hQ2⟩:∃Q2,Q2=hd2 t hx hy:=⟨_,rfl⟩
 rw[← hQ1,← hQ2];have HQ1:=hid hQ1;have HQ2:=hid hQ2;clear nx ny ax ay ht hba hQ1 hQ2;go_enter Tryz.func111,Tryz.ntmps111
 go_wp2_with fail
 generalize w.alloc (.cells #[.pointer (some t.1.1),.pointer (some t.1.2)] prT)=W at *;refine HSP.out.mono ?_;rintro e w5 ⟨rfl,hb5⟩;have HP5:=hid ((hb5.block _ (z00 HP.out)).trans HP.out);have HB5:=hid (HBA.out.trans (hb5.mono HBA.out.size));have hs5:=hb5.size;clear hb5 p0 p1 HSP HP HBA;cases hpp:z7w t.2.1 t.2.2
 · go_wp2
   go_ret2
   rw[hpp];exact ⟨none,0,0,rfl,(fun e=>by cases e),HB5.out⟩
 · have HPP:=hid hpp
   have hpe:=(z5u _ _).1 hpp;obtain ⟨l1,l2⟩:=zb9 hpe;have htl:totN m t.2.1≤2000000:=HT.out;have hpl:=z12 HAX.out.1.2.1 (by unfold totN at htl; omega);have hil:=z12 HAX.out.1.2.2 (by unfold totN at htl; omega)
   have hw1:wt m Q1≤totL m t.2.1.ptrs:=by rw[HQ1.out]; exact zhy _ _ _ HAX.out.1.2.1
   have hw2:wt m Q2≤totL m t.2.1.items:=by rw[HQ2.out]; exact zhy _ _ _ HAX.out.1.2.2
   have hlen3:Q1.length+Q2.length≤2000001:=by
    have q1:=zdh m Q1;have q2:=zdh m Q2;have:totN m t.2.1=t.2.1.data.size+totL m t.2.1.ptrs+totL m t.2.1.items:=rfl;omega
   have HPR1:Hid (∀V:World,Calls Tryz.prog 113 #[.slice hx.A t.2.1.ptrs.length hx.a,.slice hy.A t.2.2.ptrs.length hy.a] V fun e w'=>∃v,e= .returned v∧w'.ownsRow V.heap.size prT 2 v Q1.length (rowP Q1)∧Below V.heap.size V w'):=hid fun V=>by
    have:=zdq hx.A hy.A hx.a hy.a t.2.1.ptrs t.2.2.ptrs V (z8h HAX.out.1.2.1) (z8h HAX.out.2.2.1) l1 hpl;unfold zgu at this;rw[HQ1.out];exact this
   have HPR2:Hid (∀V:World,Calls Tryz.prog 113 #[.slice hx.B t.2.1.items.length hx.b,.slice hy.B t.2.2.items.length hy.b] V fun e w'=>∃v,e= .returned v∧w'.ownsRow V.heap.size prT 2 v Q2.length (rowP Q2)∧Below V.heap.size V w'):=hid fun V=>by
    have:=zdq hx.B hy.B hx.b hy.b t.2.1.items t.2.2.items V (z8h HAX.out.1.2.2) (z8h HAX.out.2.2.2) l2 hil;unfold zgu at this;rw[HQ2.out];exact this
   have hPlt:=z00 HP5.out;obtain ⟨c0,c1,c2,c3,c4,c5⟩:=(HCX.out w5 HB5.out).1;obtain ⟨d0,d1,d2,d3,d4,d5⟩:=(HCX.out w5 HB5.out).2
   have p0:w5.cell? ⟨w.heap.size,0,none⟩=some (.pointer (some t.1.1)):=by rw[cell_of_row _ _ _ _ _ _ HP5.out]; rfl
   have p1:w5.cell? ⟨w.heap.size,1,none⟩=some (.pointer (some t.1.2)):=by rw[cell_of_row _ _ _ _ _ _ HP5.out]; rfl
   clear hw1 hw2 htl hpl hil l1 l2 hpe hpp
   go_wp2_with fail
   have hlp:w.heap.size<w5.heap.size:=hPlt;have hlx:t.1.1.block<w5.heap.size:=(HCX.out w5 HB5.out).1.lt;have hly:t.1.2.block<w5.heap.size:=(HCX.out w5 HB5.out).2.lt;have HSB:Hid (Below w5.heap.size w5 w5):=hid (Below.refl _ _);clear c0 c1 c3 c4 d0 d1 d3 d4
   go_region_held3 (fun V=>(V.cell? ⟨w.heap.size,0,none⟩=some (.pointer (some t.1.1))∧V.cell? ⟨w.heap.size,1,none⟩=some (.pointer (some t.1.2)))∧(V.cell? ⟨t.1.1.block,t.1.1.off+2,none⟩=some (.slice hx.A t.2.1.ptrs.length hx.a)∧V.cell? ⟨t.1.1.block,t.1.1.off+5,none⟩=some (.slice hx.B t.2.1.items.length hx.b)∧V.cell? ⟨t.1.2.block,t.1.2.off+2,none⟩=some (.slice hy.A t.2.2.ptrs.length hy.a)∧V.cell? ⟨t.1.2.block,t.1.2.off+5,none⟩=some (.slice hy.B t.2.2.items.length hy.b))∧Below w5.heap.size w5 V)
    ((first | exact ⟨⟨p0,p1⟩,⟨c2,c5,d2,d5⟩,HSB.out.drew⟩ | (obtain ⟨⟨s0,s1⟩,⟨s2,s5,u2,u5⟩,sb⟩:= ‹(_∧_)∧(_∧_)∧Below w5.heap.size w5 _›; exact ⟨⟨kb hbq hlp s0,kb hbq hlp s1⟩,⟨kb hbq hlx s2,kb hbq hlx s5,kb hbq hly u2,kb hbq hly u5⟩,sb.trans hbq⟩)))
    (first | (refine z57 rfl (.tmp 20) (.tmp 31) rfl w5.heap.size w5.heap.size _ v3 Q1.length (rowP Q1) Q2 rfl rfl HO8.out HV3.out (by omega) (by omega) ?_; intro A7 c7 w7 hown7 hgrow7; have hbq:Below w5.heap.size w8 w7:=(Below.refl w5.heap.size w8).grown hgrow7.out (by omega) (fun k hk=>(HO8.out.lt k hk).1)) | (go_at_call 113; first | ((with_reducible refine (HPR1.out _).mono ?_); rintro e w6 ⟨v2,rfl,hown2,hb6⟩; have hsv:=(‹(_∧_)∧(_∧_)∧Below w5.heap.size w5 _›).2.2.size; have hs6:w5.heap.size≤w6.heap.size:=Nat.le_trans hsv hb6.size; have HV2:Hid (w6.ownsRow w5.heap.size prT 2 v2 Q1.length (rowP Q1)):=hid (z5b hown2 hsv); have hbq:=hb6.mono hsv; clear hb6 hown2) | ((with_reducible refine (HPR2.out _).mono ?_); rintro e w8 ⟨v3,rfl,hown3,hb8⟩; have hsv:=(‹(_∧_)∧(_∧_)∧Below w5.heap.size w5 _›).2.2.size; have hs8:w5.heap.size≤w8.heap.size:=Nat.le_trans hsv hb8.size; have HV3:Hid (w8.ownsRow w5.heap.size prT 2 v3 Q2.length (rowP Q2)):=hid (z5b hown3 hsv); have HO8:Hid (w8.ownsRow w5.heap.size prT 2 v2 Q1.length (rowP Q1)):=hid (zce (w:=w6) HV2.out (fun k _ hk=>hb8.block k hk)); have hbq:=hb8.mono hsv; clear hb8 hown3)))
   all_goals
    have hS:= ‹(_∧_)∧(_∧_)∧Below w5.heap.size w5 _›;have hb7:Below w.heap.size w w7:=HB5.out.trans (hS.2.2.mono HB5.out.size);have hbase:w.heap.size≤w5.heap.size:=HB5.out.size;have HOWN7:=hid (z5b hown7.out hbase);have HB7:=hid hb7;clear hb7 hown7 hgrow7 hS c2 c5 d2 d5 p0 p1;go_wp2
    go_ret2
    rw[HPP.out];exact ⟨A7,_,c7,rfl,fun _=>⟨rfl,HOWN7.out⟩,HB7.out⟩
end Go.Proofs.YtlbfffokkhccaaaGreatDoor
