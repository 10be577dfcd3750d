/- Texts of the proof of the law FnRecordCanon, side by side: part 44. -/
import Derived.Test.YtblcibgphccfkaaGreatDoorMRecordCanon43
set_option maxHeartbeats 8000000
set_option maxRecDepth 100000
open Go.Lib (hid)
namespace Go.Proofs.YtblcibgphccfkaaGreatDoor
open Go.RowKit Go.Deep
def canX (n:Nd):Nd:=if z0l n=true then canN n else z07
theorem z5m (m:Nat)(n:Nd)(h:Hd)(w:World)(S:Nat→Prop)(hn:NdAt w S m n h)(ht:totN m n≤2000000) :
 Calls Tryz.prog 20 #[.agg #[.int .i64 n.kind,.string n.data,.slice h.A n.ptrs.length h.a,.int .i64 n.size,.int .i64 n.count,.slice h.B n.items.length h.b]] w (NewO (m+1) (canX n) w):=by
 have HO:Hid (∀W:World,Below w.heap.size w W→Calls Tryz.prog 17 #[.agg #[.int .i64 n.kind,.string n.data,.slice h.A n.ptrs.length h.a,.int .i64 n.size,.int .i64 n.count,.slice h.B n.items.length h.b]] W fun e w'=>e= .returned (.bool (z0l n))∧Below W.heap.size W w'):=hid fun W hW=>z3n m n h W S (hn.below hW) ht
 have HF:Hid (z0l n=true→∀W:World,Below w.heap.size w W→Calls Tryz.prog 56 #[.agg #[.int .i64 n.kind,.string n.data,.slice h.A n.ptrs.length h.a,.int .i64 n.size,.int .i64 n.count,.slice h.B n.items.length h.b],.func (.func 56) #[] #[]] W (NewO (m+1) (canN n) W)):=hid fun hok W hW=>zmw m n h W S (hn.below hW) hok (by rw[← z19 hn]; exact ht)
 have hb0:Below w.heap.size w ((w.alloc (.cells #[.int .i64 n.kind,.string n.data,.slice h.A n.ptrs.length h.a,.int .i64 n.size,.int .i64 n.count,.slice h.B n.items.length h.b] nodeT)).alloc (.cells #[.int .i64 0,.string { data:= #[] },.slice none 0 0,.int .i64 0,.int .i64 0,.slice none 0 0] nodeT)):=((Below.refl _ w).alloc (Nat.le_refl _) _).alloc (by simp) _;have hx0:((w.alloc (.cells #[.int .i64 n.kind,.string n.data,.slice h.A n.ptrs.length h.a,.int .i64 n.size,.int .i64 n.count,.slice h.B n.items.length h.b] nodeT)).alloc (.cells #[.int .i64 0,.string { data:= #[] },.slice none 0 0,.int .i64 0,.int .i64 0,.slice none 0 0] nodeT)).heap[w.heap.size]? =some (.cells #[.int .i64 n.kind,.string n.data,.slice h.A n.ptrs.length h.a,.int .i64 n.size,.int .i64 n.count,.slice h.B n.items.length h.b] nodeT (0,0)):=z02 (heap_alloc_new w _) _
 have hz0:((w.alloc (.cells #[.int .i64 n.kind,.string n.data,.slice h.A n.ptrs.length h.a,.int .i64 n.size,.int .i64 n.count,.slice h.B n.items.length h.b] nodeT)).alloc (.cells #[.int .i64 0,.string { data:= #[] },.slice none 0 0,.int .i64 0,.int .i64 0,.slice none 0 0] nodeT)).heap[w.heap.size+1]? =some (.cells #[.int .i64 0,.string { data:= #[] },.slice none 0 0,.int .i64 0,.int .i64 0,.slice none 0 0] nodeT (0,0)):=by have:=heap_alloc_new (w.alloc (.cells #[.int .i64 n.kind,.string n.data,.slice h.A n.ptrs.length h.a,.int .i64 n.size,.int .i64 n.count,.slice h.B n.items.length h.b] nodeT)) (.cells #[.int .i64 0,.string { data:= #[] },.slice none 0 0,.int .i64 0,.int .i64 0,.slice none 0 0] nodeT); rwa [show (w.alloc (.cells #[.int .i64 n.kind,.string n.data,.slice h.A n.ptrs.length h.a,.int .i64 n.size,.int .i64 n.count,.slice h.B n.items.length h.b] nodeT)).heap.size=w.heap.size+1 by simp] at this
 have hs0:((w.alloc (.cells #[.int .i64 n.kind,.string n.data,.slice h.A n.ptrs.length h.a,.int .i64 n.size,.int .i64 n.count,.slice h.B n.items.length h.b] nodeT)).alloc (.cells #[.int .i64 0,.string { data:= #[] },.slice none 0 0,.int .i64 0,.int .i64 0,.slice none 0 0] nodeT)).heap.size=w.heap.size+2:=by simp
 have HB0:=hid hb0;have HX0:=hid hx0;have HZ0:=hid hz0
 obtain ⟨Z0,hZ0⟩:∃Z0,Z0=canX n:=⟨_,rfl⟩
 rw[← hZ0];have HZE:Hid (Z0=if z0l n=true then canN n else z07):=hid hZ0;clear hb0 hx0 hz0 hn ht hZ0;unfold NewO at HF;go_enter Tryz.func20,Tryz.ntmps20
 go_wp2_with fail
 generalize ((w.alloc (.cells #[.int .i64 n.kind,.string n.data,.slice h.A n.ptrs.length h.a,.int .i64 n.size,.int .i64 n.count,.slice h.B n.items.length h.b] nodeT)).alloc (.cells #[.int .i64 0,.string { data:= #[] },.slice none 0 0,.int .i64 0,.int .i64 0,.slice none 0 0] nodeT))=W0 at *;refine (HO.out _ HB0.out).mono ?_;rintro e w1 ⟨rfl,hb1⟩;have HB1:=hid (HB0.out.trans (hb1.mono HB0.out.size));have HX1:=hid ((hb1.block _ (z00 HX0.out)).trans HX0.out);have HZ1:=hid ((hb1.block _ (z00 HZ0.out)).trans HZ0.out);have hs1:=hb1.size;clear hb1 HX0 HZ0 HB0;cases hok:z0l n
 · have hze:=HZE.out
   rw[if_neg (by rw[hok]; decide)] at hze;subst hze;clear hok HF HO;obtain ⟨z0,z1,z2,z3,z4,z5⟩:=z04 HZ1.out;have zf:=z03 HZ1.out
   go_wp2_with fail
   obtain ⟨wf,hwf,hrw,hbf,hkf⟩:=fin6w HZ1.out HB1.out (by omega) (.int .i64 0) (.string ⟨#[]⟩) (.slice none 0 0) (.int .i64 0) (.int .i64 0) (.slice none 0 0);rw[hwf];obtain ⟨e0,e1,e2,e3,e4,e5⟩:=z04 hrw;exact bodyPost_ret (v:= .agg #[.int .i64 0,.string ⟨#[]⟩,.slice none 0 0,.int .i64 0,.int .i64 0,.slice none 0 0]) (by simp[results,Tryz.results20,go_sem,e0,e1,e2,e3,e4,e5]) rfl ⟨nHd,[],rfl,OwN.none wf (m+1),List.nodup_nil,fun b h=>(by cases h),hbf⟩
 · have hze:=HZE.out
   rw[if_pos hok] at hze;rw[← hze] at HF;have HC:=hid (HF.out hok);clear HF HO hze hok HZE;obtain ⟨a0,a1,a2,a3,a4,a5⟩:=z04 HX1.out
   go_wp2_with fail
   clear a0 a1 a2 a3 a4 a5;refine (HC.out _ HB1.out).mono ?_;rintro e w2 ⟨hy,bs,rfl,hown,hnd,hge,hb2⟩;have HZ2:=hid ((hb2.block _ (z00 HZ1.out)).trans HZ1.out);have HB2:=hid (HB1.out.trans (hb2.mono HB1.out.size));have HOW:=hid hown;have HND:=hid (And.intro hnd hge);obtain ⟨z0,z1,z2,z3,z4,z5⟩:=z04 HZ2.out;have zf:=z03 HZ2.out;clear hb2 hown hnd hge
   go_wp2_with fail
   obtain ⟨wf,hwf,hrw,hbf,hkf⟩:=fin6w HZ2.out HB2.out (by omega) (.int .i64 Z0.kind) (.string Z0.data) (.slice hy.A Z0.ptrs.length hy.a) (.int .i64 Z0.size) (.int .i64 Z0.count) (.slice hy.B Z0.items.length hy.b);rw[hwf];obtain ⟨e0,e1,e2,e3,e4,e5⟩:=z04 hrw;exact bodyPost_ret (v:= .agg #[.int .i64 Z0.kind,.string Z0.data,.slice hy.A Z0.ptrs.length hy.a,.int .i64 Z0.size,.int .i64 Z0.count,.slice hy.B Z0.items.length hy.b]) (by simp[results,Tryz.results20,go_sem,e0,e1,e2,e3,e4,e5]) rfl ⟨hy,bs,rfl,HOW.out.frame (fun b hb=>hkf b (by have:=HND.out.2 b hb; omega)),HND.out.1,fun b hb=>by have:=HND.out.2 b hb; omega,hbf⟩
theorem zar {D E:List UInt8}(h:∀i:Nat,D[i]?.getD 0=E[i]?.getD 0):∀(k a:Nat),leN D a k=leN E a k
 | 0,_=>rfl
 | k+1,a=>by
   unfold leN;rw[h a,zar h k (a+1)]
theorem zhw {D E:List UInt8}(h:∀i:Nat,D[i]?.getD 0=E[i]?.getD 0)(t:Nat):bitN D t=bitN E t:=by
 unfold bitN;rw[h]
theorem zk5 {D:List UInt8}{t:Nat}(h:8*D.length≤t):bitN D t=0:=by
 unfold bitN;rw[List.getElem?_eq_none (by omega)]
 simp
theorem zi9 {D E:List UInt8}(h:∀i:Nat,D[i]?.getD 0=E[i]?.getD 0)(hD:z0w D.length=true)(hE:z0w E.length=true)(a z:Int):getI D a z=getI E a z:=by
 unfold getI;rw[hD,hE,zar h]
theorem zi1 {D E:List UInt8}(h:∀i:Nat,D[i]?.getD 0=E[i]?.getD 0)(hD:z0w D.length=true)(hE:z0w E.length=true)(s:Nat):bitI D (s:Int)=bitI E (s:Int):=by
 have h1:∀F:List UInt8,z0w F.length=true→bitI F (s:Int)=(bitN F s:Nat):=fun F hF=>by
  unfold bitI bitB;rw[hF,Int.toNat_natCast,Bool.true_and]
  split
  · rfl
  · rename_i hn
    rw[decide_eq_true_eq] at hn;rw[zk5 (by omega)]
    rfl
 rw[h1 D hD,h1 E hE,zhw h]
theorem ziz {l:List UInt8}(h8:l.length%8=0)(i:Nat):(trimL l)[i]?.getD 0=l[i]?.getD 0:=by
 have h1:=zbz (l:=l) (j:=l.length/8) h8 (tw_le l) (by omega);rw[List.take_of_length_le (by omega)] at h1
 conv=>rhs; rw[h1]
 by_cases hi:i<(trimL l).length
 · rw[List.getElem?_append_left hi]
 · rw[List.getElem?_append_right (by omega),List.getElem?_eq_none (by omega),List.getElem?_replicate]
   split <;> rfl
theorem zkm {l:List Nd}(h:∀p∈l,p.kind=0→p=z07)(q:Nat):(endP l)[q]?.getD z07=l[q]?.getD z07:=by
 unfold endP
 by_cases hq:q<endC l
 · rw[List.getElem?_take_of_lt hq]
 · rw[List.getElem?_eq_none (by rw[List.length_take]; omega)]
   by_cases hl:q<l.length
   · have hk:=z7l l l.length q (by unfold endC at hq; omega) hl
     rw[List.getElem?_eq_getElem hl] at hk ⊢;exact (h _ (List.getElem_mem hl) hk).symm
   · rw[List.getElem?_eq_none (by omega)]
theorem zjq {n:Nd}(h:z0l n=true)(hk:n.kind=0):n=z07:=by
 refine z3j ?_ hk;cases hf:formN n
 · have:=zap (d:=8) hf
   unfold z0l at h;rw[this] at h
   simp at h
 · rfl
structure CanSays (l:List Fld) (n:Nd) (a:Int):Prop where
 there:rgB l (canX n) a=true
 num:rgN l (canX n) a=rgN l n a
 okn:z0l (rgY l n a)=true
 okc:z0l (rgY l (canX n) a)=true
 nod:canN (rgY l (canX n) a)=canN (rgY l n a)
 cho:choN l (canX n)=choN l n
theorem zmi {l:List Fld}{n:Nd}(hr:recB l n=true):recB l (canX n)=true∧canX n=canN n∧(∀i:Nat,(byR (canX n))[i]?.getD 0=(byR n)[i]?.getD 0)∧z0w (byR n).length=true∧z0w (byR (canX n)).length=true∧(∀q:Nat,((canX n).ptrs[q]?).getD z07=canN ((n.ptrs[q]?).getD z07))∧z0l n=true:=by
 have hrb:=z17 hr;unfold recB isRec at hr
 simp only[Bool.and_eq_true,decide_eq_true_eq] at hr
 obtain ⟨hok,hk2,hn⟩:=hr
 have hX:canX n=canN n:=by unfold canX; rw[if_pos hn]
 have hform:formN n=true:=by
  cases hf:formN n
  · have h1:=zap (d:=8) hf
    have h2:=(z3q hn).1;rw[h1] at h2;cases h2
  · rfl
 have hlen:(byR n).length=n.data.size:=by simp[byR]
 have hw:z0w (byR n).length=true:=by unfold z0w; rw[decide_eq_true_eq,hlen]; omega
 have hrc:recB l (canN n)=true:=by
  unfold recB isRec;rw[hok,z68 hn,zbj,decide_eq_true hk2]
  rfl
 have hwc:z0w (byR (canN n)).length=true:=by
  have h1:=z17 hrc
  have h2:(byR (canN n)).length=(canN n).data.size:=by simp[byR]
  unfold z0w;rw[decide_eq_true_eq,h2];omega
 rw[hX];refine ⟨hrc,rfl,?_⟩
 by_cases h0:n.kind=0
 · have e:=z3j hform h0
   subst e;rw[z1k];exact ⟨fun _=>rfl,hw,hw,fun q=>by show (([]:List Nd)[q]?).getD z07=canN ((([]:List Nd)[q]?).getD z07); rw[List.getElem?_nil]; exact z1k.symm,hn⟩
 · have h1:n.kind=1∧(n.data.size:Int)%8=0∧n.size=0∧n.count=0∧n.items.length=0:=by
    rcases z0y hform with hc | hc | hc
    · exact absurd hc.1 h0
    · exact hc
    · exact absurd hc.1 hk2
   obtain ⟨k1,k2,k3,k4,k5⟩:=h1;have k6:n.items= []:=List.eq_nil_of_length_eq_zero k5;have hc:=z1w k1 k3 k4 k6;refine ⟨fun i=>?_,hw,hwc,fun q=>?_,hn⟩
   · have e:byR (canN n)=trimL (byR n):=by rw[hc]; exact z2e n.data
     rw[e];exact ziz (by rw[hlen]; omega) i
   · rw[hc]
     show ((endP (n.ptrs.map canN))[q]?).getD z07=_
     have hkind:∀p∈n.ptrs.map canN,p.kind=0→p=z07:=by
      intro p hp h0
      obtain ⟨x,hx,rfl⟩:=List.mem_map.1 hp;exact zjq (z68 (zh5 hn x hx)) h0
     rw[zkm hkind q,List.getElem?_map]
     cases n.ptrs[q]? with
     | none=>exact z1k.symm
     | some p=>rfl
theorem zkr {l:List Fld}{n:Nd}{a:Int}(h:rgB l n a=true):CanSays l n a:=by
 have hB:=h;unfold rgB at h;rw[Bool.and_eq_true,Bool.and_eq_true] at h;obtain ⟨hr,hw,hs⟩:=h;obtain ⟨hrc,hX,hby,hw1,hw2,hpt,hn⟩:=zmi hr
 have hcho:choN l (canX n)=choN l n:=by
  unfold choN;rw[if_pos hr,if_pos hrc];have e:=zar hby 2 (2*tagL l).toNat;have e':leN (canX n).data.data.toList (2*tagL l).toNat 2=leN n.data.data.toList (2*tagL l).toNat 2:=e;rw[e']
 have hth:rgB l (canX n) a=true:=by
  unfold rgB;unfold seenB at hs ⊢;rw[hrc,hw,hcho,hs]
  rfl
 have hraw:∀k,rawI (fldK l k) (atF l k) (canX n)=rawI (fldK l k) (atF l k) n:=fun k=>by
  unfold rawI;rw[zi1 hby hw2 hw1,zi9 hby hw2 hw1]
 have hok0:∀q:Nat,z0l ((n.ptrs[q]?).getD z07)=true:=fun q=>by
  cases hq:n.ptrs[q]? with
  | none=>decide
  | some p =>
   obtain ⟨hlt,rfl⟩:=List.getElem?_eq_some_iff.1 hq;exact zh5 hn _ (List.getElem_mem hlt)
 have hfn:z0l (fNod l n a.toNat)=true:=by
  unfold fNod
  split
  · exact hok0 _
  · decide
 have hfc:fNod l (canX n) a.toNat=canN (fNod l n a.toNat):=by
  unfold fNod
  split
  · exact hpt _
  · exact z1k.symm
 have hy:rgY l n a=fNod l n a.toNat:=by unfold rgY; rw[if_pos hB]
 have hyc:rgY l (canX n) a=canN (fNod l n a.toNat):=by unfold rgY; rw[if_pos hth,hfc]
 refine ⟨hth,?_,by rw[hy]; exact hfn,by rw[hyc]; exact z68 hfn,by rw[hyc,hy]; exact zfp hfn,hcho⟩;unfold rgN;rw[if_pos hth,if_pos hB];unfold fNum;rw[hraw]
end Go.Proofs.YtblcibgphccfkaaGreatDoor
namespace Go.Proofs.YtblcibgphccfkaaGreatDoor
open Go.RowKit
theorem nd_eq (n n':Nd):n=n'↔n.kind=n'.kind∧n.data=n'.data∧n.size=n'.size∧n.count=n'.count∧n.ptrs=n'.ptrs∧n.items=n'.items:=by
 cases n;cases n'
 simp only[Nd.mk.injEq,Nd.kind,Nd.data,Nd.size,Nd.count,Nd.ptrs,Nd.items]
 exact ⟨fun h=>⟨h.1,h.2.1,h.2.2.2.1,h.2.2.2.2.1,h.2.2.1,h.2.2.2.2.2⟩,fun h=>⟨h.1,h.2.1,h.2.2.2.2.1,h.2.2.1,h.2.2.2.1,h.2.2.2.2.2⟩⟩
theorem z2p {b:Bool}{p:Prop}(h:b=true↔p)(hp:¬p):b=false:=by cases b; rfl; exact absurd (h.1 rfl) hp
theorem z41 {p:Prop}(hp:p):(true=true↔p):=⟨fun _=>hp,fun _=>rfl⟩
theorem z4j {p:Prop}(hp:¬p):(false=true↔p):=⟨fun h=>(by cases h),fun h=>absurd h hp⟩
def QnS (m:Nat):Prop:=∀(m':Nat) (A B:Option Addr) (c c':Nat) (l l':List Nd) (w:World) (S S':Nat→Prop) (b:Bool),NdsAt w S m A l→NdsAt w S' m' B l'→(b=true↔l=l') →
 Calls Tryz.prog 54 #[.slice A l.length c,.slice B l'.length c'] w fun e w'=>e= .returned (.bool b)∧Below w.heap.size w w'
def QnN (m:Nat):Prop:=∀(m':Nat) (n n':Nd) (h h':Hd) (w:World) (S S':Nat→Prop) (b:Bool),NdAt w S m n h→NdAt w S' m' n' h'→(b=true↔n=n') →
 Calls Tryz.prog 16 #[.agg #[.int .i64 n.kind,.string n.data,.slice h.A n.ptrs.length h.a,.int .i64 n.size,.int .i64 n.count,.slice h.B n.items.length h.b],.agg #[.int .i64 n'.kind,.string n'.data,.slice h'.A n'.ptrs.length h'.a,.int .i64 n'.size,.int .i64 n'.count,.slice h'.B n'.items.length h'.b]] w fun e w'=>e= .returned (.bool b)∧Below w.heap.size w w'
theorem zlx (m:Nat)(hS:QnS m):QnN m:=by
 intro m' n n' h h' w S S' b hn hn' hb
 have HS:=hid hS;have hba:Below w.heap.size w ((w.alloc (.cells #[.int .i64 n.kind,.string n.data,.slice h.A n.ptrs.length h.a,.int .i64 n.size,.int .i64 n.count,.slice h.B n.items.length h.b] nodeT)).alloc (.cells #[.int .i64 n'.kind,.string n'.data,.slice h'.A n'.ptrs.length h'.a,.int .i64 n'.size,.int .i64 n'.count,.slice h'.B n'.items.length h'.b] nodeT)):=((Below.refl _ _).alloc (Nat.le_refl _) _).alloc (by simp) _;have k1:((w.alloc (.cells #[.int .i64 n.kind,.string n.data,.slice h.A n.ptrs.length h.a,.int .i64 n.size,.int .i64 n.count,.slice h.B n.items.length h.b] nodeT)).alloc (.cells #[.int .i64 n'.kind,.string n'.data,.slice h'.A n'.ptrs.length h'.a,.int .i64 n'.size,.int .i64 n'.count,.slice h'.B n'.items.length h'.b] nodeT)).heap[w.heap.size]? =some (.cells #[.int .i64 n.kind,.string n.data,.slice h.A n.ptrs.length h.a,.int .i64 n.size,.int .i64 n.count,.slice h.B n.items.length h.b] nodeT (0,0)):=(Below.heap_alloc _ _ _ (by simp)).trans (heap_alloc_new w _)
 have k2:((w.alloc (.cells #[.int .i64 n.kind,.string n.data,.slice h.A n.ptrs.length h.a,.int .i64 n.size,.int .i64 n.count,.slice h.B n.items.length h.b] nodeT)).alloc (.cells #[.int .i64 n'.kind,.string n'.data,.slice h'.A n'.ptrs.length h'.a,.int .i64 n'.size,.int .i64 n'.count,.slice h'.B n'.items.length h'.b] nodeT)).heap[w.heap.size+1]? =some (.cells #[.int .i64 n'.kind,.string n'.data,.slice h'.A n'.ptrs.length h'.a,.int .i64 n'.size,.int .i64 n'.count,.slice h'.B n'.items.length h'.b] nodeT (0,0)):=by have:=heap_alloc_new (w.alloc (.cells #[.int .i64 n.kind,.string n.data,.slice h.A n.ptrs.length h.a,.int .i64 n.size,.int .i64 n.count,.slice h.B n.items.length h.b] nodeT)) (.cells #[.int .i64 n'.kind,.string n'.data,.slice h'.A n'.ptrs.length h'.a,.int .i64 n'.size,.int .i64 n'.count,.slice h'.B n'.items.length h'.b] nodeT); rwa [show (w.alloc (.cells #[.int .i64 n.kind,.string n.data,.slice h.A n.ptrs.length h.a,.int .i64 n.size,.int .i64 n.count,.slice h.B n.items.length h.b] nodeT)).heap.size=w.heap.size+1 by simp] at this
 have HN:=hid (hn.below hba);have HN':=hid (hn'.below hba)
 have hts:((w.alloc (.cells #[.int .i64 n.kind,.string n.data,.slice h.A n.ptrs.length h.a,.int .i64 n.size,.int .i64 n.count,.slice h.B n.items.length h.b] nodeT)).alloc (.cells #[.int .i64 n'.kind,.string n'.data,.slice h'.A n'.ptrs.length h'.a,.int .i64 n'.size,.int .i64 n'.count,.slice h'.B n'.items.length h'.b] nodeT)).heap.size=w.heap.size+2:=by simp
 have HBA:=hid hba;have HK1:=hid k1;have HK2:=hid k2;have HTS:=hid hts;have HQ:=hid (hb.trans (nd_eq n n'));clear hS hn hn' hba k1 k2 hts hb
 by_cases hx:n.kind=n'.kind
 case neg =>
  have hxb:(n.kind==n'.kind)=false:=by simpa using hx
  obtain rfl:b=false:=by
   cases b
   · rfl
   · exact absurd (HQ.out.1 rfl).1 hx
  clear hx;go_enter Tryz.func16,Tryz.ntmps16;go_wp2;go_ret;exact ⟨rfl,HBA.out⟩
 have h1b:(n.kind==n'.kind)=true:=by simpa using hx
 have H1:=hid hx;clear hx
 by_cases hx:n.data=n'.data
 case neg =>
  have hxb:(n.data.toList==n'.data.toList)=false:=by rw[z4o]; exact decide_eq_false hx
  obtain rfl:b=false:=by
   cases b
   · rfl
   · exact absurd (HQ.out.1 rfl).2.1 hx
  clear hx;go_enter Tryz.func16,Tryz.ntmps16;go_wp2;go_ret;exact ⟨rfl,HBA.out⟩
 have h2b:(n.data.toList==n'.data.toList)=true:=by rw[z4o]; exact decide_eq_true hx
 have H2:=hid hx;clear hx
 by_cases hx:n.size=n'.size
 case neg =>
  have hxb:(n.size==n'.size)=false:=by simpa using hx
  obtain rfl:b=false:=by
   cases b
   · rfl
   · exact absurd (HQ.out.1 rfl).2.2.1 hx
  clear hx;go_enter Tryz.func16,Tryz.ntmps16;go_wp2;go_ret;exact ⟨rfl,HBA.out⟩
 have h3b:(n.size==n'.size)=true:=by simpa using hx
 have H3:=hid hx;clear hx
 by_cases hx:n.count=n'.count
 case neg =>
  have hxb:(n.count==n'.count)=false:=by simpa using hx
  obtain rfl:b=false:=by
   cases b
   · rfl
   · exact absurd (HQ.out.1 rfl).2.2.2.1 hx
  clear hx;go_enter Tryz.func16,Tryz.ntmps16;go_wp2;go_ret;exact ⟨rfl,HBA.out⟩
 have h4b:(n.count==n'.count)=true:=by simpa using hx
 have H4:=hid hx;clear hx
 by_cases hx:n.ptrs=n'.ptrs
 case neg =>
  obtain rfl:b=false:=by
   cases b
   · rfl
   · exact absurd (HQ.out.1 rfl).2.2.2.2.1 hx
  have HC:=hid (HS.out m' h.A h'.A h.a h'.a n.ptrs n'.ptrs _ S S' false HN.out.2.1 HN'.out.2.1 (z4j hx));clear hx;go_enter Tryz.func16,Tryz.ntmps16
  go_wp2_with fail
  refine HC.out.mono ?_;rintro e w1 ⟨rfl,hb1⟩;have HB1:=hid (HBA.out.trans (hb1.mono HBA.out.size));clear hb1;go_wp2;go_ret;exact ⟨rfl,HB1.out⟩
 have H5:=hid hx;have HC:=hid (HS.out m' h.A h'.A h.a h'.a n.ptrs n'.ptrs _ S S' true HN.out.2.1 HN'.out.2.1 (z41 hx));have H6:Hid (b=true↔n.items=n'.items):=hid ⟨fun h=>(HQ.out.1 h).2.2.2.2.2,fun h=>HQ.out.2 ⟨H1.out,H2.out,H3.out,H4.out,H5.out,h⟩⟩;clear hx;go_enter Tryz.func16,Tryz.ntmps16
 go_wp2_with fail
 generalize ((w.alloc (.cells #[.int .i64 n.kind,.string n.data,.slice h.A n.ptrs.length h.a,.int .i64 n.size,.int .i64 n.count,.slice h.B n.items.length h.b] nodeT)).alloc (.cells #[.int .i64 n'.kind,.string n'.data,.slice h'.A n'.ptrs.length h'.a,.int .i64 n'.size,.int .i64 n'.count,.slice h'.B n'.items.length h'.b] nodeT))=W at *;refine HC.out.mono ?_;rintro e w1 ⟨rfl,hb1⟩;have HB1:=hid hb1;obtain ⟨a0,a1,a2,a3,a4,a5⟩:=z04 ((hb1.block _ (by have:=HTS.out; omega)).trans HK1.out);obtain ⟨b0,b1,b2,b3,b4,b5⟩:=z04 ((hb1.block _ (by have:=HTS.out; omega)).trans HK2.out);clear hb1
 go_wp2_with fail
 refine (HS.out m' h.B h'.B h.b h'.b n.items n'.items w1 S S' b (HN.out.below HB1.out).2.2 (HN'.out.below HB1.out).2.2 H6.out).mono ?_;rintro e w2 ⟨rfl,hb2⟩;have HB2:=hid (HBA.out.trans ((HB1.out.trans (hb2.mono HB1.out.size)).mono (by have:=HTS.out; omega)));clear hb2;go_wp2;go_ret;exact ⟨rfl,HB2.out⟩
theorem zk3:QnS 0:=by
 intro m' A B c c' l l' w S S' b hl hl' hb
 obtain rfl:=hl.zero;have hlen:=hl'.len;unfold maxLen at hlen
 by_cases h0:l'.length=0
 · obtain rfl:b=true:=hb.2 (List.eq_nil_of_length_eq_zero h0).symm
   rw[h0];clear hb hl hl' h0 hlen;go_enter Tryz.func54,Tryz.ntmps54;go_wp2
   go_loop [5] (fun i=>i= .int .i64 0) (fun _=>0)
   case atStart=>rfl
   case round =>
    obtain rfl:=hrel;go_wp2;go_ret;exact ⟨rfl,Below.refl _ _⟩
 · obtain rfl:b=false:=z2p hb (fun e=>h0 (by rw[← e]; rfl))
   have hxb:((([]:List Nd).length:Int) != (l'.length:Int))=true:=by simp; omega
   clear hb hl hl';go_enter Tryz.func54,Tryz.ntmps54;go_wp2;go_ret;exact ⟨rfl,Below.refl _ _⟩
theorem zk2 (m:Nat)(hN:QnN m):QnS (m+1):=by
 intro m' A B c c' l l' w S S' b h h' hb
 have hlm:=h.len;have hlm':=h'.len;unfold maxLen at hlm hlm'
 by_cases hll:l'.length=l.length
 case neg =>
  obtain rfl:b=false:=z2p hb (fun e=>hll (by rw[e]))
  have hxb:((l.length:Int) != (l'.length:Int))=true:=by simp; omega
  clear hb h h' hN;go_enter Tryz.func54,Tryz.ntmps54;go_wp2;go_ret;exact ⟨rfl,Below.refl _ _⟩
 have HF:=hid h;have HG:=hid (h'.mono (Nat.le_succ m'));have HN:=hid hN;have HQ:=hid hb;rw[hll];have HLL:=hid hll;clear h h' hN hb hll hlm';go_enter Tryz.func54,Tryz.ntmps54;go_wp2
 go_loopw [5] (fun i wr=>∃k:Nat,i= .int .i64 k∧k≤l.length∧Hid (Below w.heap.size w wr)∧Hid (∀j,j<k→l[j]? =l'[j]?)) (fun i _=>l.length-(intOf i).toNat)
 case atStart=>exact ⟨0,rfl,by omega,hid (Below.refl _ _),hid (fun j hj=>by omega)⟩
 case round =>
  obtain ⟨k,rfl,hk,HB,HE⟩:=hrel
  by_cases hlt:k<l.length
  · have hlt':k<l'.length:=by have:=HLL.out; omega
    obtain ⟨x,hx,rfl,cx,nx⟩:=(HF.out.below HB.out).at_ hlt;obtain ⟨y,hy,rfl,cy,ny⟩:=(HG.out.below HB.out).at_ hlt';have HEQ:Hid (l[k]=l'[k]→l[k]? =l'[k]?):=hid (fun e=>by rw[List.getElem?_eq_getElem hlt,List.getElem?_eq_getElem hlt',e]);have HNE:Hid (l[k]≠l'[k]→l≠l'):=hid (fun e hl=>e (by subst hl; rfl));generalize l[k]=n at cx nx HEQ HNE;generalize l'[k]=n' at cy ny HEQ HNE
    have hd1:Below wr.heap.size wr wr.drew:=⟨rfl,rfl,rfl,Nat.le_refl _,fun _ _=>rfl⟩
    have hx1:=cx.lt;have hx2:=cy.lt;obtain ⟨c0,c1,c2,c3,c4,c5⟩:=cx;obtain ⟨d0,d1,d2,d3,d4,d5⟩:=cy
    have hk2:(k:Int)<(l.length:Int):=by omega
    have hs:=HB.out.size
    by_cases hnn:n=n'
    · have HP:=hid (HN.out m' n n' hx hy wr.drew S S' true (nx.below hd1) (ny.below hd1) (z41 hnn))
      have HP0:=hid (HN.out m' n n' hx hy wr S S' true nx ny (z41 hnn));have HE1:=hid (HEQ.out hnn);clear nx ny hnn HEQ HNE;go_wp2
      go_region_with (go_at_call 16; refine HP.out.mono ?_; rintro e w2 ⟨rfl,hb2⟩)
      all_goals
       have HB2:=hid (HB.out.trans ((show Below w.heap.size wr wr.drew from ⟨rfl,rfl,rfl,Nat.le_refl _,fun _ _=>rfl⟩).trans (hb2.mono (by simpa using hs))));clear hb2;go_wp2
       go_roundw
       case rel =>
        refine ⟨k+1,by go_num,by omega,HB2,hid fun j hj=>?_⟩
        rcases Nat.lt_or_ge j k with hl | hge
        · exact HE.out j hl
        · obtain rfl:j=k:=by omega
          exact HE1.out
       case measure=>simp[intOf]; omega
    · have HP:=hid (HN.out m' n n' hx hy wr.drew S S' false (nx.below hd1) (ny.below hd1) (z4j hnn))
      obtain rfl:b=false:=z2p HQ.out (HNE.out hnn);clear nx ny hnn HEQ HNE;go_wp2
      go_region_with (go_at_call 16; refine HP.out.mono ?_; rintro e w2 ⟨rfl,hb2⟩)
      all_goals
       have HB2:=hid (HB.out.trans ((show Below w.heap.size wr wr.drew from ⟨rfl,rfl,rfl,Nat.le_refl _,fun _ _=>rfl⟩).trans (hb2.mono (by simpa using hs))));clear hb2;go_wp2;go_ret;exact ⟨rfl,HB2.out⟩
  · obtain rfl:k=l.length:=by omega
    obtain rfl:b=true:=HQ.out.2 (List.ext_getElem? fun j=>by
     rcases Nat.lt_or_ge j l.length with hl | hge
     · exact HE.out j hl
     · rw[List.getElem?_eq_none hge,List.getElem?_eq_none (by have:=HLL.out; omega)])
    go_wp2;go_ret;exact ⟨rfl,HB.out⟩
theorem zhh:∀m,QnS m
 | 0=>zk3
 | m+1=>zk2 m (zlx m (zhh m))
theorem zm6 (m:Nat):QnN m:=zlx m (zhh m)
theorem z8c {w:World}{S S':Nat→Prop}{m m':Nat}{p:Addr}{n n':Nd}{h h':Hd}(ih:∀(m':Nat) (A:Option Addr) (l l':List Nd),NdsAt w S m A l→NdsAt w S' m' A l'→l.length=l'.length→l=l')
 (c:NdCell w p n h) (c':NdCell w p n' h') (a:NdAt w S m n h) (a':NdAt w S' m' n' h'):n=n':=by
 have e0:=Option.some.inj (c.c0.symm.trans c'.c0);have e1:=Option.some.inj (c.c1.symm.trans c'.c1);have e2:=Option.some.inj (c.c2.symm.trans c'.c2);have e3:=Option.some.inj (c.c3.symm.trans c'.c3);have e4:=Option.some.inj (c.c4.symm.trans c'.c4);have e5:=Option.some.inj (c.c5.symm.trans c'.c5)
 simp only[Value.int.injEq,Value.string.injEq,Value.slice.injEq,true_and] at e0 e1 e2 e3 e4 e5
 have a1:=a'.2.1;have a2:=a'.2.2;rw[← e2.1] at a1;rw[← e5.1] at a2;exact (nd_eq n n').2 ⟨e0,e1,e3,e4,ih m' h.A n.ptrs n'.ptrs a.2.1 a1 e2.2.1,ih m' h.B n.items n'.items a.2.2 a2 e5.2.1⟩
theorem z9b {w:World}{S S':Nat→Prop} :∀(m m':Nat) (A:Option Addr) (l l':List Nd),NdsAt w S m A l→NdsAt w S' m' A l'→l.length=l'.length→l=l'
 | 0,m',A,l,l',h,h',hl=>by
   obtain rfl:=h.zero;exact (List.eq_nil_of_length_eq_zero hl.symm).symm
 | m+1,m',A,l,l',h,h',hl=>by
   apply List.ext_getElem hl
   intro k h1 h2
   obtain ⟨x,hx,hA,c,n⟩:=h.at_ h1;obtain ⟨y,hy,hA',c',n'⟩:=(h'.mono (Nat.le_succ m')).at_ h2
   obtain rfl:x=y:=by rw[hA] at hA'; exact Option.some.inj hA'
   exact z8c (z9b m) c c' n n'
theorem zc6 {w:World}{S S':Nat→Prop}{m m':Nat}{p:Addr}{n n':Nd}{h h':Hd}(c:NdCell w p n h)(c':NdCell w p n' h')(a:NdAt w S m n h)(a':NdAt w S' m' n' h'):n=n':=z8c (z9b m) c c' a a'
def z6i (n n':Nd):Prop:=n.kind=n'.kind∧n.data=n'.data∧n.size=n'.size∧n.count=n'.count∧n.ptrs.length=n'.ptrs.length∧n.items.length=n'.items.length
def z9l (D:List (Nd×Nd))(l l':List Nd):Prop:=∀(k:Nat) x y,l[k]? =some x→l'[k]? =some y→(x,y)∈D
def z9r (D E:List (Nd×Nd)):Prop:=∀d∈D,z6i d.1 d.2∧z9l E d.1.ptrs d.2.ptrs∧z9l E d.1.items d.2.items
theorem zgo (n:Nd):SizeOf.sizeOf n.ptrs+SizeOf.sizeOf n.items<SizeOf.sizeOf n:=by
 cases n
 simp only[Nd.ptrs,Nd.items,Nd.mk.sizeOf_spec]
 omega
theorem zbs {D:List (Nd×Nd)}{l l':List Nd}(hl:l.length=l'.length)(h:z9l D l l')(ih:∀x∈l,∀y,(x,y)∈D→x=y):l=l':=by
 apply List.ext_getElem hl
 intro k h1 h2
 exact ih _ (List.getElem_mem h1) _ (h k _ _ (List.getElem?_eq_getElem h1) (List.getElem?_eq_getElem h2))
theorem z5k {D:List (Nd×Nd)}(hD:z9r D D):∀(N:Nat) (n n':Nd),SizeOf.sizeOf n≤N→(n,n')∈D→n=n'
 | 0,n,n',h,_=>by have:=zgo n; omega
 | N+1,n,n',h,hm=>by
   obtain ⟨⟨e0,e1,e2,e3,e4,e5⟩,w1,w2⟩:=hD _ hm;have hs:=zgo n;refine (nd_eq n n').2 ⟨e0,e1,e2,e3,zbs e4 w1 fun x hx y hy=>?_,zbs e5 w2 fun x hx y hy=>?_⟩
   · have:=List.sizeOf_lt_of_mem hx
     exact z5k hD N x y (by omega) hy
   · have:=List.sizeOf_lt_of_mem hx
     exact z5k hD N x y (by omega) hy
abbrev PT:=(Addr×Addr)×(Nd×Nd)
def Lies (w:World)(S:Nat→Prop)(M:Nat)(t:PT):Prop:=S t.1.1.block∧S t.1.2.block∧∃(h h':Hd) (m':Nat),NdCell w t.1.1 t.2.1 h∧NdAt w S M t.2.1 h∧NdCell w t.1.2 t.2.2 h'∧NdAt w S m' t.2.2 h'
theorem Lies.one {w:World}{S:Nat→Prop}{M:Nat}{p:Addr×Addr}{d d':Nd×Nd}(h:Lies w S M (p,d))(h':Lies w S M (p,d')):d=d':=by
 obtain ⟨_,_,x,y,m',c,a,c',a'⟩:=h;obtain ⟨_,_,x2,y2,m2',c2,a2,c2',a2'⟩:=h';exact Prod.ext (zc6 c c2 a a2) (zc6 c' c2' a' a2')
def pts (x y:Addr):Nat→List Nd→List Nd→List PT
 | i,a :: l,b :: l'=>((x.add (i*6),y.add (i*6)),(a,b)) :: pts x y (i+1) l l'
 | _,_,_=> []
theorem z4t (x y:Addr):∀(i:Nat) (l l':List Nd),l.length=l'.length→(pts x y i l l').length=l.length
 | i,[],[],_=>rfl
 | i,a :: l,b :: l',h=>by
   simp only[pts,List.length_cons]
   rw[z4t x y (i+1) l l' (by simpa using h)]
 | i,[],b :: l',h=>by simp at h
 | i,a :: l,[],h=>by simp at h
theorem zec (x y:Addr):∀(i:Nat) (l l':List Nd) (k:Nat) (a b:Nd),l[k]? =some a→l'[k]? =some b→(pts x y i l l')[k]? =some ((x.add ((i+k)*6),y.add ((i+k)*6)),(a,b))
 | i,u :: l,v :: l',0,a,b,ha,hb=>by
   simp at ha hb
   subst ha hb
   rfl
 | i,u :: l,v :: l',k+1,a,b,ha,hb=>by
   have:=zec x y (i+1) l l' k a b (by simpa using ha) (by simpa using hb);rw[show i+1+k=i+(k+1) by omega] at this
   simpa [pts] using this
 | i,[],l',k,a,b,ha,hb=>by simp at ha
 | i,u :: l,[],k,a,b,ha,hb=>by simp at hb
theorem zha (x y:Addr)(i:Nat)(l l':List Nd)(t:PT)(hl:l.length=l'.length)(h:t∈pts x y i l l'):∃k,∃h1:k<l.length,∃h2:k<l'.length,t=((x.add ((i+k)*6),y.add ((i+k)*6)),(l[k],l'[k])):=by
 obtain ⟨k,hk0,rfl⟩:=List.mem_iff_getElem.1 h;have hk:=hk0;rw[z4t x y i l l' hl] at hk;refine ⟨k,hk,by omega,?_⟩;have:=zec x y i l l' k _ _ (List.getElem?_eq_getElem hk) (List.getElem?_eq_getElem (by omega));rw[List.getElem?_eq_getElem hk0] at this;exact Option.some.inj this
theorem zhi (x y:Addr)(f:Nd→Nat):∀(i:Nat) (l l':List Nd),((pts x y i l l').map fun t=>f t.2.1).sum≤(l.map f).sum
 | i,[],l'=>by cases l' <;> simp[pts]
 | i,a :: l,[]=>by simp[pts]
 | i,a :: l,b :: l'=>by
   have:=zhi x y f (i+1) l l'
   simp only[pts,List.map_cons,List.sum_cons]
   omega
def wt (M:Nat)(G:List PT):Nat:=(G.map fun t=>1+totN M t.2.1).sum
theorem zh1 (M:Nat)(G H:List PT):wt M (G++H)=wt M G+wt M H:=by unfold wt; rw[List.map_append,List.sum_append]
theorem zbp (M:Nat):∀G:List PT,G.length≤wt M G
 | []=>Nat.le_refl _
 | t :: G=>by
   have:=zbp M G
   show G.length+1≤(1+totN M t.2.1)+wt M G
   omega
theorem zer {w:World}{S:Nat→Prop}{M:Nat}{A:Option Addr}{l:List Nd}(x y:Addr)(l':List Nd)(h:NdsAt w S M A l):wt M (pts x y 0 l l')≤totL M l:=by
 have h1:=zhi x y (fun n=>1+totN M n) 0 l l'
 have h2:(l.map fun n=>1+totN M n).sum=totL M l:=by rw[← z0v]; exact z69 M A l h
 unfold wt;omega
theorem NdsAt.blk {w:World}{S:Nat→Prop}{m:Nat}{A:Option Addr}{l:List Nd}(h:NdsAt w S m A l){k:Nat}(hk:k<l.length):S (A.getD default).block:=by
 obtain ⟨j,rfl⟩:=h.pred hk;obtain ⟨_,q,rfl,hc,_⟩:=h;rw[List.length_map] at hk
 rcases hc with rfl | ⟨x,rfl,hs,_⟩
 · cases hk
 · exact hs
theorem z9v (x y:Addr)(l l':List Nd):z9l ((pts x y 0 l l').map (·.2)) l l':=by
 intro k a b ha hb
 have:=zec x y 0 l l' k a b ha hb;exact List.mem_map.2 ⟨_,List.mem_of_getElem? this,rfl⟩
theorem zfb {w:World}{S:Nat→Prop}{M m':Nat}{A B:Option Addr}{l l':List Nd}(h:NdsAt w S M A l)(h':NdsAt w S m' B l')(hl:l.length=l'.length):∀t∈pts (A.getD default) (B.getD default) 0 l l',Lies w S M t:=by
 intro t ht
 obtain ⟨k,h1,h2,rfl⟩:=zha _ _ _ _ _ _ hl ht;have s1:=h.blk h1;have s2:=h'.blk h2;obtain ⟨j,rfl⟩:=h.pred h1;obtain ⟨j',rfl⟩:=h'.pred h2;obtain ⟨x,hx,rfl,c,n⟩:=h.at_ h1;obtain ⟨y,hy,rfl,c',n'⟩:=h'.at_ h2;rw[Nat.zero_add];exact ⟨by rw[z05]; exact s1,by rw[z05]; exact s2,hx,hy,j',c,n.mono (Nat.le_succ j),c',n'⟩
structure Inv (w:World) (S:Nat→Prop) (M:Nat) (n0 n0':Nd) (G:List PT) (K:List (Addr×Addr)) (D:List (Nd×Nd)):Prop where
 lies:∀t∈G,Lies w S M t
 keys:∀a∈K,∃d,Lies w S M (a,d)∧d∈D
 closed:z9r D (D++G.map (·.2))
 root:(n0,n0')∈D++G.map (·.2)
 sound:n0=n0'→∀t∈G,t.2.1=t.2.2
theorem z9r.sub {D E E':List (Nd×Nd)}(h:z9r D E)(hs:∀x∈E,x∈E'):z9r D E':=fun d hd=>⟨(h d hd).1,fun k x y a b=>hs _ ((h d hd).2.1 k x y a b),fun k x y a b=>hs _ ((h d hd).2.2 k x y a b)⟩
theorem Inv.end_ {w:World}{S:Nat→Prop}{M:Nat}{n0 n0':Nd}{K:List (Addr×Addr)}{D:List (Nd×Nd)}(h:Inv w S M n0 n0' [] K D):n0=n0':=by
 have hc:z9r D D:=h.closed.sub (by simp);exact z5k hc _ n0 n0' (Nat.le_refl _) (by simpa using h.root)
theorem Inv.skip {w:World}{S:Nat→Prop}{M:Nat}{n0 n0':Nd}{G:List PT}{t:PT}{K:List (Addr×Addr)}{D:List (Nd×Nd)}(h:Inv w S M n0 n0' (G++ [t]) K D)(hk:t.1∈K):Inv w S M n0 n0' G K D:=by
 obtain ⟨d,h1,h2⟩:=h.keys _ hk;obtain ⟨p,q⟩:=t;obtain rfl:=(h.lies (p,q) (by simp)).one h1
 have hs:∀x∈D++(G++ [(p,q)]).map (·.2),x∈D++G.map (·.2):=by
  intro x hx
  simp only[List.map_append,List.map_cons,List.map_nil,List.mem_append,List.mem_cons,List.not_mem_nil,or_false] at hx ⊢
  rcases hx with hx | hx | hx
  · exact .inl hx
  · exact .inr hx
  · exact .inl (hx ▸ h2)
 exact ⟨fun t ht=>h.lies t (List.mem_append_left _ ht),h.keys,h.closed.sub hs,hs _ h.root,fun e t ht=>h.sound e t (List.mem_append_left _ ht)⟩
theorem Inv.step {w:World}{S:Nat→Prop}{M:Nat}{n0 n0':Nd}{G H1 H2:List PT}{t:PT}{K:List (Addr×Addr)}{D:List (Nd×Nd)}(h:Inv w S M n0 n0' (G++ [t]) K D)(hp:z6i t.2.1 t.2.2)
 (l1:∀u∈H1,Lies w S M u) (l2:∀u∈H2,Lies w S M u) (i1:z9l (H1.map (·.2)) t.2.1.ptrs t.2.2.ptrs) (i2:z9l (H2.map (·.2)) t.2.1.items t.2.2.items)
 (s1:t.2.1=t.2.2→∀u∈H1,u.2.1=u.2.2) (s2:t.2.1=t.2.2→∀u∈H2,u.2.1=u.2.2):Inv w S M n0 n0' (G++H1++H2) (K++ [t.1]) (t.2 :: D):=by
 have hs:∀x∈D++(G++ [t]).map (·.2),x∈(t.2 :: D)++(G++H1++H2).map (·.2):=by
  intro x hx
  simp only[List.map_append,List.map_cons,List.map_nil,List.mem_append,List.mem_cons,List.not_mem_nil,or_false] at hx ⊢
  rcases hx with hx | hx | hx
  · exact .inl (.inr hx)
  · exact .inr (.inl (.inl hx))
  · exact .inl (.inl hx)
 refine ⟨fun u hu=>?_,fun a ha=>?_,fun d hd=>?_,hs _ h.root,fun e u hu=>?_⟩
 · simp only[List.mem_append] at hu
   rcases hu with (hu | hu) | hu
   · exact h.lies u (List.mem_append_left _ hu)
   · exact l1 u hu
   · exact l2 u hu
 · rcases List.mem_append.1 ha with ha | ha
   · obtain ⟨d,h1,h2⟩:=h.keys a ha
     exact ⟨d,h1,List.mem_cons_of_mem _ h2⟩
   · obtain rfl:=List.mem_singleton.1 ha
     exact ⟨t.2,h.lies t (by simp),List.mem_cons_self⟩
 · rcases List.mem_cons.1 hd with rfl | hd
   · refine ⟨hp,fun k x y a b=>?_,fun k x y a b=>?_⟩
     · have:=i1 k x y a b
       simp only[List.map_append,List.mem_append]
       exact .inr (.inl (.inr this))
     · have:=i2 k x y a b
       simp only[List.map_append,List.mem_append]
       exact .inr (.inr this)
   · exact (h.closed.sub hs) d hd
 · simp only[List.mem_append] at hu
   have ht:=h.sound e t (by simp)
   rcases hu with (hu | hu) | hu
   · exact h.sound e u (List.mem_append_left _ hu)
   · exact s1 ht u hu
   · exact s2 ht u hu
theorem ze2 (x y:Addr){l l':List Nd}(e:l=l'):∀u∈pts x y 0 l l',u.2.1=u.2.2:=by
 subst e
 intro u hu
 obtain ⟨k,h1,h2,rfl⟩:=zha _ _ _ _ _ _ rfl hu
 rfl
end Go.Proofs.YtblcibgphccfkaaGreatDoor
