/- Texts of the proof of the law FnRecordCanon, side by side: part 10. -/
import Derived.Maps.OwnSet
import Derived.Test.YtblcibgphccfkaaGreatDoorMRecordCanon09
set_option maxHeartbeats 8000000
set_option maxRecDepth 100000
open Go.Lib (hid)
namespace Go.Proofs.YtblcibgphccfkaaGreatDoor
structure Fld where
 size:Int
 choice:Bool
 els:Int
structure LS where
 words:Nat
 hole:Nat→Nat
def upd (h:Nat→Nat)(k v:Nat):Nat→Nat:=fun i=>if i=k then v else h i
theorem z4b (h:Nat→Nat)(k v:Nat):upd h k v k=v:=by simp[upd]
theorem z22 (h:Nat→Nat)(k v i:Nat)(hi:i≠k):upd h k v i=h i:=by simp[upd,hi]
def roomF:Nat→LS→Nat×LS
 | 0,s=>(s.words,⟨s.words+1,s.hole⟩)
 | k+1,s=>if s.hole (k+1)≠0 then (s.hole (k+1),⟨s.words,upd s.hole (k+1) 0⟩) else (2*(roomF k s).1,⟨(roomF k s).2.words,upd (roomF k s).2.hole (k+1) (2*(roomF k s).1+1)⟩)
theorem z63 (k:Nat)(s:LS)(h:s.hole (k+1)≠0):roomF (k+1) s=(s.hole (k+1),⟨s.words,upd s.hole (k+1) 0⟩):=by rw[roomF,if_pos h]
theorem z4q (k:Nat)(s:LS)(h:s.hole (k+1)=0):roomF (k+1) s=(2*(roomF k s).1,⟨(roomF k s).2.words,upd (roomF k s).2.hole (k+1) (2*(roomF k s).1+1)⟩):=by rw[roomF,if_neg (by simp[h])]
theorem z9h (s:LS)(i:Nat):∀k,k<i→(roomF k s).2.hole i=s.hole i
 | 0,_=>rfl
 | k+1,h=>by
   by_cases h0:s.hole (k+1)=0
   · rw[z4q k s h0]
     show upd _ _ _ i=_
     rw[z22 _ _ _ _ (by omega),z9h s i k (by omega)]
   · rw[z63 k s h0]
     exact z22 _ _ _ _ (by omega)
def LBd (n:Nat)(s:LS):Prop:=s.words≤n∧∀i,s.hole i<2^i*(n+1)
theorem LBd.mono {n m:Nat}{s:LS}(h:LBd n s)(hm:n≤m):LBd m s:=⟨Nat.le_trans h.1 hm,fun i=>Nat.lt_of_lt_of_le (h.2 i) (Nat.mul_le_mul_left _ (by omega))⟩
theorem z84 (n:Nat)(s:LS)(h:LBd n s):∀k,(roomF k s).1<2^k*(n+1)∧(roomF k s).2.words≤n+1∧(∀i,(roomF k s).2.hole i<2^i*(n+1))
 | 0=>by
   refine ⟨?_,?_,h.2⟩
   · show s.words<_; have:=h.1; omega
   · show s.words+1≤_; have:=h.1; omega
 | k+1=>by
   obtain ⟨i1,i2,i3⟩:=z84 n s h k
   by_cases h0:s.hole (k+1)=0
   · rw[z4q k s h0]
     refine ⟨?_,i2,fun i=>?_⟩
     · show 2*(roomF k s).1<_
       rw[Nat.pow_succ]
       have:2^k*2*(n+1)=2*(2^k*(n+1)):=by rw[Nat.mul_comm (2^k) 2,Nat.mul_assoc]
       omega
     · show upd _ _ _ i<_
       by_cases hi:i=k+1
       · subst hi
         rw[z4b,Nat.pow_succ]
         have:2^k*2*(n+1)=2*(2^k*(n+1)):=by rw[Nat.mul_comm (2^k) 2,Nat.mul_assoc]
         omega
       · rw[z22 _ _ _ _ hi]; exact i3 i
   · rw[z63 k s h0]
     refine ⟨h.2 _,by show s.words≤_; have:=h.1; omega,fun i=>?_⟩
     show upd _ _ _ i<_
     by_cases hi:i=k+1
     · subst hi
       rw[z4b];exact Nat.lt_of_le_of_lt (Nat.zero_le _) (h.2 (k+1))
     · rw[z22 _ _ _ _ hi]; exact h.2 i
theorem zd2 {n:Nat}{s:LS}(h:LBd n s)(k:Nat):(roomF k s).1<2^k*(n+1)∧LBd (n+1) (roomF k s).2:=by
 obtain ⟨i1,i2,i3⟩:=z84 n s h k;exact ⟨i1,i2,fun i=>Nat.lt_of_lt_of_le (i3 i) (Nat.mul_le_mul_left _ (by omega))⟩
def holeF:Nat→LS→Option Nat×LS
 | 0,s=>(none,s)
 | k+1,s=>if s.hole (k+1)≠0 then (some (s.hole (k+1)),⟨s.words,upd s.hole (k+1) 0⟩) else
    match holeF k s with
    | (none,_)=>(none,s)
    | (some a,t)=>(some (2*a),⟨t.words,upd t.hole (k+1) (2*a+1)⟩)
def zfg (k:Nat)(s:LS):LS:=⟨s.words+1,fun i=>if 1≤i∧i≤k then 2^i*s.words+1 else s.hole i⟩
theorem z4r (s:LS):∀k,roomF k s=(match holeF k s with | (some a,t)=>(a,t) | (none,_)=>(2^k*s.words,zfg k s))
 | 0=>by
   simp only[roomF,holeF,zfg]
   refine Prod.ext (by simp) ?_
   simp only[LS.mk.injEq,true_and]
   funext i
   rw[if_neg (by omega)]
 | k+1=>by
   by_cases h0:s.hole (k+1)=0
   · rw[z4q k s h0,z4r s k,holeF,if_neg (by simp[h0])]
     cases h:holeF k s with
     | mk o t =>
      cases o with
      | none =>
       simp only
       refine Prod.ext ?_ ?_
       · simp only[Nat.pow_succ]; rw[Nat.mul_comm (2^k) 2,Nat.mul_assoc]
       · simp only[zfg,LS.mk.injEq,true_and]
         funext i
         by_cases hi:i=k+1
         · subst hi
           rw[z4b,if_pos ⟨by omega,Nat.le_refl _⟩,Nat.pow_succ,Nat.mul_comm (2^k) 2,Nat.mul_assoc]
         · rw[z22 _ _ _ _ hi]
           by_cases hc:1≤i∧i≤k
           · rw[if_pos hc,if_pos ⟨hc.1,by omega⟩]
           · rw[if_neg hc,if_neg (by omega)]
      | some a=>rfl
   · rw[z63 k s h0,holeF,if_pos h0]
theorem zbu (s:LS):∀k,(holeF k s).1=none→(holeF k s).2=s
 | 0,_=>rfl
 | k+1,h=>by
   rw[holeF] at h ⊢
   by_cases h0:s.hole (k+1)≠0
   · rw[if_pos h0] at h; cases h
   · rw[if_neg h0] at h ⊢
     cases hh:holeF k s with
     | mk o t =>
      rw[hh] at h
      cases o with
      | none=>rfl
      | some a=>cases h
structure PS where
 ls:LS
 ptrs:Nat
 tag:Int
 many:Nat
 shared:List (Nat×Nat)
 point:Int
def kOf (size:Int):Nat:=if size=1 then 6 else if size=2 then 3 else if size=3 then 2 else if size=4 then 1 else 0
def z23 (size:Int):Int:=if size=1 then 1 else if size=2 then 8 else if size=3 then 16 else if size=4 then 32 else if size=5 then 64 else 0
def z2z (k:Nat)(s:PS):Nat×PS :=
 match s.shared.find? (fun r=>r.1≤k) with
 | some r=>(r.2*2^(k-r.1),s)
 | none=>((roomF k s.ls).1, { s with ls:=(roomF k s.ls).2,shared:=s.shared++ [(k,(roomF k s.ls).1)] })
def ptrF (s:PS):Nat×PS:=(s.ptrs, { s with ptrs:=s.ptrs+1 })
def z1d (s:PS):Nat×PS:=if s.point<0 then (s.ptrs, { s with ptrs:=s.ptrs+1,point:=s.ptrs }) else (s.point.toNat,s)
def tagF (c:Bool)(s:PS):PS :=
 if c then (if s.many+1=2 then { s with many:=s.many+1,ls:=(roomF 2 s.ls).2,tag:=(roomF 2 s.ls).1 } else { s with many:=s.many+1 }) else s
def dataF (k:Nat)(s:PS):Nat×PS:=((roomF k s.ls).1, { s with ls:=(roomF k s.ls).2 })
def z11 (f:Fld)(s:PS):Nat×PS :=
 if f.size=6 then (if f.choice then z1d (tagF f.choice s) else ptrF (tagF f.choice s))
 else if f.choice then z2z (kOf f.size) (tagF f.choice s) else dataF (kOf f.size) (tagF f.choice s)
def layF:List Fld→PS→List Nat×PS
 | [],s=>([],s)
 | f :: r,s=>((z11 f s).1 :: (layF r (z11 f s).2).1,(layF r (z11 f s).2).2)
def ps0:PS:=⟨⟨0,fun _=>0⟩,0, -1,0,[], -1⟩
theorem ze3 (f:Fld):∀(l:List Fld) (s:PS),layF (l++ [f]) s=((layF l s).1++ [(z11 f (layF l s).2).1],(z11 f (layF l s).2).2)
 | [],s=>rfl
 | g :: r,s=>by
   rw[List.cons_append]
   show (_ :: (layF (r++ [f]) (z11 g s).2).1,(layF (r++ [f]) (z11 g s).2).2)=_
   rw[ze3 f r]
   rfl
theorem z0a:∀(l:List Fld) (s:PS),(layF l s).1.length=l.length
 | [],_=>rfl
 | f :: r,s=>by show _+1=_; rw[z0a r]; rfl
structure PBd (n:Nat) (s:PS):Prop where
 ls:LBd (2*n) s.ls
 ptrs:s.ptrs≤n
 tag: -1≤s.tag∧s.tag<4*(2*n+1)
 many:s.many≤n
 len:s.shared.length≤n
 shared:∀r∈s.shared,r.1≤6∧r.2<2^r.1*(2*n+1)
 point: -1≤s.point∧s.point<s.ptrs
theorem pbd0:PBd 0 ps0:=⟨⟨Nat.le_refl _,fun i=>by show 0<_; exact Nat.mul_pos (Nat.pow_pos (by decide)) (by decide)⟩,Nat.le_refl _,by decide,Nat.le_refl _,Nat.le_refl _,(fun _ h=>by cases h),by decide⟩
structure PBm (n:Nat) (s:PS):Prop where
 ls:LBd (2*n+1) s.ls
 ptrs:s.ptrs≤n
 tag: -1≤s.tag∧s.tag<4*(2*n+2)
 many:s.many≤n+1
 len:s.shared.length≤n
 shared:∀r∈s.shared,r.1≤6∧r.2<2^r.1*(2*n+1)
 point: -1≤s.point∧s.point<s.ptrs
theorem z8g {n:Nat}{s:PS}(h:PBd n s)(c:Bool):PBm n (tagF c s):=by
 have hr:=zd2 h.ls 2;obtain ⟨h1,h2,h3,h4,h5,h6,h7⟩:=h;unfold tagF
 cases c with
 | false =>
  rw[if_neg (by simp)];exact ⟨h1.mono (by omega),h2,⟨h3.1,by omega⟩,by omega,h5,h6,h7⟩
 | true =>
  rw[if_pos rfl]
  by_cases hm:s.many+1=2
  · rw[if_pos hm]
    refine ⟨hr.2,h2,⟨by show (-1:Int)≤((roomF 2 s.ls).1:Int); omega,?_⟩,by show s.many+1≤_; omega,h5,h6,h7⟩
    show ((roomF 2 s.ls).1:Int)<_
    have:=hr.1
    simp only[show (2:Nat)^2=4 from rfl] at this
    omega
  · rw[if_neg hm]
    exact ⟨h1.mono (by omega),h2,⟨h3.1,by dsimp only; omega⟩,by show s.many+1≤_; omega,h5,h6,h7⟩
theorem z2x (z:Int):kOf z≤6:=by unfold kOf; split <;> (try split) <;> (try split) <;> (try split) <;> omega
theorem za7 {n:Nat}{s:LS}(h:LBd n s){k:Nat}(hk:k≤6):(roomF k s).1<64*(n+1):=by
 have:=(zd2 h k).1;have h2:2^k≤2^6:=Nat.pow_le_pow_right (by decide) hk;have h3:=Nat.mul_le_mul_right (n+1) h2
 simp only[show (2:Nat)^6=64 from rfl] at h3
 omega
theorem zht {k r:Nat}(h:r≤k):2^r*2^(k-r)=2^k:=by rw[← Nat.pow_add]; congr 1; omega
theorem zj5 {k r a m:Nat}(h:r≤k)(hk:k≤6)(ha:a<2^r*m):a*2^(k-r)<64*m:=by
 have h1:a*2^(k-r)<2^r*m*2^(k-r):=Nat.mul_lt_mul_of_pos_right ha (Nat.pow_pos (by decide))
 have h2:2^r*m*2^(k-r)=2^k*m:=by rw[Nat.mul_right_comm,zht h]
 have h3:2^k*m≤2^6*m:=Nat.mul_le_mul_right _ (Nat.pow_le_pow_right (by decide) hk)
 simp only[show (2:Nat)^6=64 from rfl] at h3
 omega
theorem ze0 {n:Nat}{s:PS}(h:PBd n s)(f:Fld):PBd (n+1) (z11 f s).2∧(z11 f s).1≤64*(2*n+2):=by
 have hm:=z8g h f.choice;obtain ⟨h1,h2,h3,h4,h5,h6,h7⟩:=hm;have hk:=z2x f.size;have hr:=zd2 h1 (kOf f.size);have hr7:=za7 h1 hk
 have hsh:∀r∈(tagF f.choice s).shared,r.1≤6∧r.2<2^r.1*(2*(n+1)+1):=fun r hrm=>⟨(h6 r hrm).1,Nat.lt_of_lt_of_le (h6 r hrm).2 (Nat.mul_le_mul_left _ (by omega))⟩
 unfold z11
 by_cases hp:f.size=6
 · rw[if_pos hp]
   cases hc:f.choice with
   | false =>
    rw[if_neg (by simp)];rw[hc] at h1 h2 h3 h4 h5 h6 h7 hsh;exact ⟨⟨h1.mono (by omega),by show (tagF false s).ptrs+1≤_; omega,⟨h3.1,by have:=h3.2; show (tagF false s).tag<_; omega⟩,by show (tagF false s).many≤_; omega,by show (tagF false s).shared.length≤_; omega,hsh,⟨h7.1,by have:=h7.2; show (tagF false s).point<(((tagF false s).ptrs+1:Nat):Int); omega⟩⟩,by show (tagF false s).ptrs≤_; omega⟩
   | true =>
    rw[if_pos rfl];rw[hc] at h1 h2 h3 h4 h5 h6 h7 hsh;unfold z1d
    by_cases hq:(tagF true s).point<0
    · rw[if_pos hq]
      exact ⟨⟨h1.mono (by omega),by show (tagF true s).ptrs+1≤_; omega,⟨h3.1,by have:=h3.2; show (tagF true s).tag<_; omega⟩,by show (tagF true s).many≤_; omega,by show (tagF true s).shared.length≤_; omega,hsh,⟨by show (-1:Int)≤((tagF true s).ptrs:Int); omega,by show ((tagF true s).ptrs:Int)<(((tagF true s).ptrs+1:Nat):Int); omega⟩⟩,by show (tagF true s).ptrs≤_; omega⟩
    · rw[if_neg hq]
      exact ⟨⟨h1.mono (by omega),by dsimp only; omega,⟨h3.1,by have:=h3.2; dsimp only; omega⟩,by dsimp only; omega,by dsimp only; omega,hsh,h7⟩,by show (tagF true s).point.toNat≤_; omega⟩
 · rw[if_neg hp]
   cases hc:f.choice with
   | false =>
    rw[if_neg (by simp)];rw[hc] at h1 h2 h3 h4 h5 h6 h7 hsh hr hr7;exact ⟨⟨hr.2,by show (tagF false s).ptrs≤_; omega,⟨h3.1,by have:=h3.2; show (tagF false s).tag<_; omega⟩,by show (tagF false s).many≤_; omega,by show (tagF false s).shared.length≤_; omega,hsh,h7⟩,by show (roomF _ _).1≤_; omega⟩
   | true =>
    rw[if_pos rfl];rw[hc] at h1 h2 h3 h4 h5 h6 h7 hsh hr hr7;unfold z2z
    cases hf:(tagF true s).shared.find? (fun r=>r.1≤kOf f.size) with
    | none =>
     refine ⟨⟨hr.2,by show (tagF true s).ptrs≤_; omega,⟨h3.1,by have:=h3.2; show (tagF true s).tag<_; omega⟩,by show (tagF true s).many≤_; omega,by show (_++ [_]).length≤_; simp; omega,?_,h7⟩,by show (roomF _ _).1≤_; omega⟩
     intro r hrm
     rcases List.mem_append.1 hrm with hrm | hrm
     · exact hsh r hrm
     · obtain rfl:r=(kOf f.size,(roomF (kOf f.size) (tagF true s).ls).1):=by simpa using hrm
       exact ⟨hk,Nat.lt_of_lt_of_le hr.1 (Nat.mul_le_mul_left _ (by omega))⟩
    | some r =>
     have hrm:=List.mem_of_find?_eq_some hf
     have hrk:r.1≤kOf f.size:=by simpa using List.find?_some hf
     refine ⟨⟨h1.mono (by omega),by dsimp only; omega,⟨h3.1,by have:=h3.2; dsimp only; omega⟩,by dsimp only; omega,by dsimp only; omega,hsh,h7⟩,?_⟩
     show r.2*2^(kOf f.size-r.1)≤_
     have:=zj5 hrk hk (h6 r hrm).2;omega
theorem zln:∀(l:List Fld) {n:Nat} {s:PS},PBd n s→PBd (n+l.length) (layF l s).2
 | [],_,_,h=>h
 | f :: r,n,s,h=>by
   have:=zln r (ze0 h f).1;rw[show n+(f :: r).length=n+1+r.length by simp; omega];exact this
theorem zb5:∀(l:List Fld) {n:Nat} {s:PS},PBd n s→n+l.length≤13→∀a∈(layF l s).1,a≤2000
 | [],_,_,_,_=>fun _ h=>by cases h
 | f :: r,n,s,h,hn=>fun a ha=>by
   have hp:=ze0 h f
   simp at hn
   rcases List.mem_cons.1 ha with rfl | ha
   · have:=hp.2; omega
   · exact zb5 r hp.1 (by omega) a ha
open Go.RowKit
structure FldAt (w:World) (p:Addr) (f:Fld):Prop where
 c0:w.cell? p=some (.int .i64 f.size)
 c1:w.cell? ⟨p.block,p.off+1,none⟩=some (.bool f.choice)
 c2:w.cell? ⟨p.block,p.off+2,none⟩=some (.int .i64 f.els)
def Flds (w:World)(A:Option Addr)(l:List Fld):Prop :=
 l= []∨∃x,A=some x∧x.block<w.heap.size∧∀k f,l[k]? =some f→FldAt w (x.add (k*3)) f
theorem FldAt.below {B:Nat}{w w':World}{p:Addr}{f:Fld}(h:FldAt w p f)(hb:Below B w w')(hp:p.block<B):FldAt w' p f :=
 ⟨(hb.cell (p:=p) hp).trans h.c0,(hb.cell (p:=⟨p.block,p.off+1,none⟩) hp).trans h.c1,(hb.cell (p:=⟨p.block,p.off+2,none⟩) hp).trans h.c2⟩
theorem Flds.below {w w':World}{A:Option Addr}{l:List Fld}(h:Flds w A l)(hb:Below w.heap.size w w'):Flds w' A l:=by
 rcases h with h | ⟨x,rfl,hx,hc⟩
 · exact .inl h
 · exact .inr ⟨x,rfl,Nat.lt_of_lt_of_le hx hb.size,fun k f hk=>(hc k f hk).below hb (by rw[z05]; exact hx)⟩
theorem Flds.at_ {w:World}{A:Option Addr}{l:List Fld}(h:Flds w A l){k:Nat}(hk:k<l.length):∃x,A=some x∧FldAt w (x.add (k*3)) l[k]:=by
 rcases h with h | ⟨x,rfl,hx,hc⟩
 · rw[h] at hk; exact absurd hk (Nat.not_lt_zero _)
 · exact ⟨x,rfl,hc k _ (List.getElem?_eq_getElem hk)⟩
def fitB (size n:Int):Bool:=if size=6 then n==0 else if size=5 then true else decide (0≤n∧n≤2^(z23 size).toNat-1)
def fldOk (f:Fld):Bool:=inB f.size 1 6&&fitB f.size f.els
def z14 (l:List Fld):Bool:=l.all fldOk&&decide (l.length≤12)
def withB (n b:Int):Bool:=decide (0≤n∧n<b)
theorem z3s (n b:Int)(w:World) :
 Calls Tryz.prog 27 #[.int .i64 n,.int .i64 b] w fun e w'=>e= .returned (.bool (withB n b))∧w=w':=by
 by_cases h1:0≤n
 all_goals
  go_enter Tryz.func27,Tryz.ntmps27;go_wp2
  all_goals go_ret
  all_goals refine ⟨z0f ?_,rfl⟩
  all_goals (simp[withB]; try omega)
def z1h (n:Int):Int:=if n=6 then 64 else z23 n
theorem z6q (n:Int)(w:World)(h0:0≤n)(h1:n≤6) :
 Calls Tryz.prog 105 #[.int .i64 n] w fun e w'=>e= .returned (.int .i64 (z1h n))∧w=w':=by
 have h:n=0∨n=1∨n=2∨n=3∨n=4∨n=5∨n=6:=by omega
 rcases h with rfl | rfl | rfl | rfl | rfl | rfl | rfl
 all_goals
  go_enter Tryz.func105,Tryz.ntmps105;go_wp2;go_ret;exact ⟨z15 (by decide),rfl⟩
theorem z4u (n:Int)(w:World)(h0:0≤n)(h1:n≤6) :
 Calls Tryz.prog 67 #[.int .i64 n] w fun e w'=>e= .returned (.int .i64 (z1h n))∧Below w.heap.size w w':=by
 have h:n=0∨n=1∨n=2∨n=3∨n=4∨n=5∨n=6:=by omega
 rcases h with rfl | rfl | rfl | rfl | rfl | rfl | rfl
 all_goals
  go_enter Tryz.func67,Tryz.ntmps67;go_wp2;go_ret;exact ⟨z15 (by decide),(Below.refl _ _).alloc (Nat.le_refl _) _⟩
theorem znv (a n b:Int)(h:b=2^(z23 a).toNat-1)(h6:a≠6)(h5:a≠5):inB n 0 b=fitB a n:=by
 unfold inB fitB;rw[if_neg h6,if_neg h5,h]
theorem zkg (a n b:Int)(h:b=2^(z23 a).toNat)(h6:a≠6)(h5:a≠5):withB n b=fitB a n:=by
 unfold withB fitB;rw[if_neg h6,if_neg h5,h,Bool.eq_iff_iff]
 simp only[decide_eq_true_eq]
 omega
theorem z4w (a n:Int)(w:World)(h0:1≤a)(h1:a≤6) :
 Calls Tryz.prog 40 #[.int .i64 a,.int .i64 n] w fun e w'=>e= .returned (.bool (fitB a n))∧Below w.heap.size w w':=by
 have h:a=6∨a=5∨a=1∨a=2∨a=3∨a=4:=by omega
 rcases h with rfl | rfl | h
 · go_enter Tryz.func40,Tryz.ntmps40
   go_wp2;go_ret;exact ⟨z0f rfl,Below.refl _ _⟩
 · go_enter Tryz.func40,Tryz.ntmps40
   go_wp2;go_ret;exact ⟨z0f rfl,Below.refl _ _⟩
 · rcases h with rfl | rfl | rfl | rfl
   all_goals
    go_enter Tryz.func40,Tryz.ntmps40
    go_wp2_with (first | (go_at_call 67; go_must (refine (z4u _ _ (by decide) (by decide)).mono ?_); rintro e w1 ⟨rfl,hb1⟩; simp only[show z1h 1=1 from rfl,show z1h 2=8 from rfl,show z1h 3=16 from rfl,show z1h 4=32 from rfl]) | (go_at_call 34; go_must (refine (z0t _ _ _ _).mono ?_); rintro e w2 ⟨rfl,rfl⟩))
    go_ret;exact ⟨z0f (znv _ _ _ (by decide) (by decide) (by decide)),hb1⟩
theorem z6t (a n:Int)(w:World)(h0:1≤a)(h1:a≤6) :
 Calls Tryz.prog 68 #[.int .i64 n,.int .i64 a] w fun e w'=>e= .returned (.bool (fitB a n))∧w=w':=by
 have h:a=6∨a=5∨a=1∨a=2∨a=3∨a=4:=by omega
 rcases h with rfl | rfl | h
 · go_enter Tryz.func68,Tryz.ntmps68
   go_wp2;go_ret;exact ⟨z0f rfl,rfl⟩
 · go_enter Tryz.func68,Tryz.ntmps68
   go_wp2;go_ret;exact ⟨z0f rfl,rfl⟩
 · rcases h with rfl | rfl | rfl | rfl
   all_goals
    go_enter Tryz.func68,Tryz.ntmps68
    go_wp2_with (first | (go_at_call 105; go_must (refine (z6q _ _ (by decide) (by decide)).mono ?_); rintro e w1 ⟨rfl,rfl⟩; simp only[show z1h 1=1 from rfl,show z1h 2=8 from rfl,show z1h 3=16 from rfl,show z1h 4=32 from rfl]) | (go_at_call 27; go_must (refine (z3s _ _ _).mono ?_); rintro e w2 ⟨rfl,rfl⟩))
    go_ret;exact ⟨z0f (zkg _ _ _ (by decide) (by decide) (by decide)),rfl⟩
theorem z5x (l:List Fld)(k:Nat)(h:k<l.length):(l.take (k+1)).all fldOk=((l.take k).all fldOk&&fldOk l[k]):=by
 rw[List.take_succ_eq_append_getElem h,List.all_append]; simp
theorem z6w (l:List Fld)(k:Nat)(h:k<l.length)(hf:fldOk l[k]=false):l.all fldOk=false:=by
 rw[List.all_eq_false];exact ⟨l[k],List.getElem_mem h,by simp[hf]⟩
theorem z6n {f:Fld}(h:inB f.size 1 6=false):fldOk f=false:=by simp[fldOk,h]
theorem z9a {f:Fld}(h:fitB f.size f.els=false):fldOk f=false:=by simp[fldOk,h]
theorem zeu {f:Fld}(h:inB f.size 1 6=true)(h2:fitB f.size f.els=true):fldOk f=true:=by simp[fldOk,h,h2]
theorem z3t {l:List Fld}(h:l.all fldOk=false):z14 l=false:=by simp[z14,h]
theorem zho {n a b:Int}(h:inB n a b=true):a≤n∧n≤b:=by simpa [inB] using h
theorem z1a (A:Option Addr)(c:Nat)(l:List Fld)(w:World)(h:Flds w A l)(hl:l.length≤10000000) :
 Calls Tryz.prog 11 #[.slice A l.length c] w fun e w'=>e= .returned (.bool (z14 l))∧Below w.heap.size w w':=by
 have HF:=hid h;clear h;go_enter Tryz.func11,Tryz.ntmps11;go_wp2
 go_loopw [3] (fun i wr=>∃k:Nat,i= .int .i64 k∧k≤l.length∧Hid ((l.take k).all fldOk=true)∧Hid (Below w.heap.size w wr)) (fun i _=>l.length-(intOf i).toNat)
 case atStart=>exact ⟨0,rfl,by omega,by exact hid rfl,by exact hid (Below.refl _ _)⟩
 case round =>
  obtain ⟨k,rfl,hk,HA,HB⟩:=hrel
  by_cases hlt:k<l.length
  · obtain ⟨x,rfl,hx⟩:=(HF.out.below HB.out).at_ hlt
    have HS:=hid (z5x l k hlt);have HFF:=hid (z6w l k hlt);generalize l[k]=f at hx HS HFF;obtain ⟨fs,fc,fe⟩:=f;obtain ⟨c0,c1,c2⟩:=hx
    cases hs:inB fs 1 6 with
    | false =>
     have HX:=hid (HFF.out (z6n hs))
     go_wp2_with (go_at_call 34; go_must (refine (z0t _ _ _ _).mono ?_); rintro e w2 ⟨rfl,rfl⟩)
     go_ret;exact ⟨z0f (z3t HX.out).symm,HB.out.alloc HB.out.size _⟩
    | true =>
     have hs2:=zho hs
     cases hf:fitB fs fe with
     | false =>
      have HX:=hid (HFF.out (z9a hf))
      go_wp2_with (first | (go_at_call 34; go_must (refine (z0t _ _ _ _).mono ?_); rintro e w2 ⟨rfl,rfl⟩) | (go_at_call 40; go_must (refine (z4w _ _ _ hs2.1 hs2.2).mono ?_); rintro e w3 ⟨rfl,hb3⟩))
      go_ret;exact ⟨z0f (z3t HX.out).symm,(HB.out.alloc HB.out.size _).trans (hb3.mono (by have:=HB.out.size; simp; omega))⟩
     | true =>
      have HX:Hid ((l.take (k+1)).all fldOk=true):=by
       refine hid ?_
       rw[HS.out,HA.out,zeu (f:=⟨fs,fc,fe⟩) hs hf]; rfl
      go_wp2_with (first | (go_at_call 34; go_must (refine (z0t _ _ _ _).mono ?_); rintro e w2 ⟨rfl,rfl⟩) | (go_at_call 40; go_must (refine (z4w _ _ _ hs2.1 hs2.2).mono ?_); rintro e w3 ⟨rfl,hb3⟩))
      go_roundw
      case rel=>exact ⟨k+1,by go_num,by omega,HX,hid ((HB.out.alloc HB.out.size _).trans (hb3.mono (by have:=HB.out.size; simp; omega)))⟩
      case measure=>simp[intOf]; omega
  · obtain rfl:k=l.length:=by omega
    have HT:Hid (l.all fldOk=true):=by refine hid ?_; rw[← HA.out,List.take_of_length_le (Nat.le_refl _)]
    have HE:Hid (z14 l=decide ((l.length:Int)≤12)):=by
     refine hid ?_;unfold z14;rw[HT.out,Bool.true_and,Bool.eq_iff_iff]
     simp only[decide_eq_true_eq]
     omega
    go_wp2;go_ret;exact ⟨z0f HE.out.symm,HB.out⟩
theorem z71 (A:Option Addr)(c:Nat)(l:List Fld)(w:World)(h:Flds w A l)(hl:l.length≤10000000) :
 Calls Tryz.prog 41 #[.slice A l.length c] w fun e w'=>e= .returned (.bool (z14 l))∧Below w.heap.size w w':=by
 have HF:=hid h;clear h
 by_cases h12:12<l.length
 · have HX:Hid (z14 l=false):=by refine hid ?_; unfold z14; rw[show decide (l.length≤12)=false by simp; omega,Bool.and_false]
   go_enter Tryz.func41,Tryz.ntmps41;go_wp2;go_ret;exact ⟨z0f HX.out.symm,Below.refl _ _⟩
 have hl12:l.length≤12:=by omega
 go_enter Tryz.func41,Tryz.ntmps41;go_wp2
 go_loopw [10] (fun i wr=>∃k:Nat,i= .int .i64 k∧k≤l.length∧Hid ((l.take k).all fldOk=true)∧Hid (Below w.heap.size w wr)) (fun i _=>l.length-(intOf i).toNat)
 case atStart=>exact ⟨0,rfl,by omega,by exact hid rfl,by exact hid (Below.refl _ _)⟩
 case round =>
  obtain ⟨k,rfl,hk,HA,HB⟩:=hrel
  by_cases hlt:k<l.length
  · obtain ⟨x,rfl,hx⟩:=(HF.out.below HB.out).at_ hlt
    have HS:=hid (z5x l k hlt);have HFF:=hid (z6w l k hlt);generalize l[k]=f at hx HS HFF;obtain ⟨fs,fc,fe⟩:=f;obtain ⟨c0,c1,c2⟩:=hx
    by_cases hs1:fs<1
    · have HX:=hid (HFF.out (z6n (by simp[inB]; omega)))
      go_wp2;go_ret;exact ⟨z0f (z3t HX.out).symm,HB.out.alloc HB.out.size _⟩
    have hs1':1≤fs:=by omega
    by_cases hs6:6<fs
    · have HX:=hid (HFF.out (z6n (by simp[inB]; omega)))
      go_wp2;go_ret;exact ⟨z0f (z3t HX.out).symm,HB.out.alloc HB.out.size _⟩
    have hs6':fs≤6:=by omega
    clear hs1 hs6
    cases hf:fitB fs fe with
    | false =>
     have HX:=hid (HFF.out (z9a hf))
     go_wp2_with (go_at_call 68; go_must (refine (z6t _ _ _ hs1' hs6').mono ?_); rintro e w3 ⟨rfl,rfl⟩)
     go_ret;exact ⟨z0f (z3t HX.out).symm,HB.out.alloc HB.out.size _⟩
    | true =>
     have HX:Hid ((l.take (k+1)).all fldOk=true):=by
      refine hid ?_
      rw[HS.out,HA.out,zeu (f:=⟨fs,fc,fe⟩) (by simp[inB]; omega) hf]; rfl
     go_wp2_with (go_at_call 68; go_must (refine (z6t _ _ _ hs1' hs6').mono ?_); rintro e w3 ⟨rfl,rfl⟩)
     go_roundw
     case rel=>exact ⟨k+1,by go_num,by omega,HX,hid (HB.out.alloc HB.out.size _)⟩
     case measure=>simp[intOf]; omega
  · obtain rfl:k=l.length:=by omega
    have HE:Hid (z14 l=true):=by
     refine hid ?_;unfold z14;rw[List.take_of_length_le (Nat.le_refl _)] at HA;rw[HA.out,Bool.true_and]
     simpa using hl12
    go_wp2;go_ret;exact ⟨z0f HE.out.symm,HB.out⟩
open Go.Maps (IsMap has)
theorem zaw:Maps.Keyed Tryz.prog 115:=Maps.int_keyed Tryz.underlying115
theorem zn0 (w:World):(zeroValue 3).run Tryz.prog w= .ok (.int .i64 0) w:=by kernel_rfl
theorem wf_mk {n:Int}(h0: -9223372036854775808≤n)(h1:n≤9223372036854775807):(Lit.int .i64 n).wf=true:=by
 simp[Lit.wf,IntKind.min,IntKind.max,IntKind.bits,IntKind.signed]; omega
theorem zea {n:Int}(h0:0≤n)(h1:n≤100):keyOf Tryz.prog 115 (.int .i64 n)=some (.int .i64 n):=Maps.keyOf_int_mk Tryz.underlying115 (wf_mk (by omega) (by omega))
def keyI (i:Nat):Lit:= .int .i64 (6-(i:Int))
theorem za4 {i j:Nat}(h:i≠j):keyI i≠keyI j:=by
 intro e
 unfold keyI at e
 injection e with e1 e2
 omega
theorem zff (i:Nat):WideAt.IsKeyLit (keyI i):=by unfold keyI; trivial
def HoleD (D:DataW Unit)(h:Nat→Nat):Prop :=
 IsMap D∧∀i,1≤i→i≤6→(h i=0→has D (keyI i)=false)∧(h i≠0→has D (keyI i)=true∧∀z,D.atKey (keyI i) z= .lit (.int .i64 (h i)))
theorem zcw:HoleD (.map []) (fun _=>0):=⟨Maps.isMap_empty,fun i _ _=>⟨fun _=>rfl,fun h=>absurd rfl h⟩⟩
theorem HoleD.put {D:DataW Unit}{h:Nat→Nat}(hd:HoleD D h)(k v:Nat)(hv:v≠0):HoleD (D.put (keyI k) (.lit (.int .i64 v))) (upd h k v):=by
 refine ⟨hd.1.put _ _,fun i hi hi6=>?_⟩
 by_cases hik:i=k
 · subst hik
   rw[z4b];exact ⟨fun e=>absurd e hv,fun _=>⟨Maps.has_put_same hd.1 (zff i) _,fun z=>Maps.atKey_put_same hd.1 (zff i) _ z⟩⟩
 · rw[z22 _ _ _ _ hik,Maps.has_put_other (za4 hik)]
   exact ⟨(hd.2 i hi hi6).1,fun e=>⟨((hd.2 i hi hi6).2 e).1,fun z=>by rw[Maps.atKey_put_other (za4 hik)]; exact ((hd.2 i hi hi6).2 e).2 z⟩⟩
theorem HoleD.del {D:DataW Unit}{h:Nat→Nat}(hd:HoleD D h)(k:Nat):HoleD (D.del (keyI k)) (upd h k 0):=by
 refine ⟨hd.1.del _,fun i hi hi6=>?_⟩
 by_cases hik:i=k
 · subst hik
   rw[z4b];exact ⟨fun _=>Maps.has_del_same,fun e=>absurd rfl e⟩
 · rw[z22 _ _ _ _ hik,Maps.has_del_other (za4 hik)]
   exact ⟨(hd.2 i hi hi6).1,fun e=>⟨((hd.2 i hi hi6).2 e).1,fun z=>by rw[Maps.atKey_del_other (za4 hik)]; exact ((hd.2 i hi hi6).2 e).2 z⟩⟩
def z1b (l:List Nat):List Value:=l.map fun a:Nat=>Value.int .i64 (a:Int)
def z1r:List (Nat×Nat)→List Value
 | []=> []
 | r :: t=> .int .i64 (6-(r.1:Int)) :: .int .i64 (r.2:Int) :: z1r t
theorem z5s:∀(l m:List (Nat×Nat)),z1r (l++m)=z1r l++z1r m
 | [],_=>rfl
 | r :: t,m=>by rw[List.cons_append,z1r,z5s t m]; rfl
abbrev planT:TypeId:=80
abbrev slotT:TypeId:=73
abbrev roomT:TypeId:=144
def z2i (s:PS)(v1 v2:Value)(bm:Nat):Array Value:= #[.int .i64 (s.ls.words:Int),.int .i64 (s.ptrs:Int),v1,.int .i64 s.tag,.map (some bm),.int .i64 (s.many:Int),v2,.int .i64 s.point]
structure Pl (w:World) (R g bm:Nat) (v1 v2:Value) (s:PS) (slots:List Nat) (N:Nat):Prop where
 row:w.heap[g]? =some (.cells (z2i s v1 v2 bm) planT (0,0))
 rg:R≤g
 rb:R≤bm
 slots:w.ownsRow R slotT 1 v1 slots.length (z1b slots)
 shared:w.ownsRow R roomT 2 v2 s.shared.length (z1r s.shared)
 holes:∃n D,n≤N∧w.ownsMap (H:=Unit) Tryz.prog 115 (plainElem Tryz.prog 3) bm n D∧HoleD D s.ls.hole
theorem z0o {w:World}{base g n size:Nat}{e t:TypeId}{v:Value}{xs:List Value}{cs:Array Value}(h:w.ownsRow base e size v n xs)(hb:w.heap[g]? =some (.cells cs t (0,0)))(hne:e≠t):v.ownBlock≠some g:=by
 rcases h.2 with ⟨rfl,_⟩ | ⟨g',cap,cur,rfl,_,hg,_⟩
 · simp[Value.ownBlock]
 · intro he
   have:g'=g:=by simpa [Value.ownBlock] using he
   subst this;rw[hb] at hg
   injection hg with hg
   injection hg with _ ht
   exact hne ht.symm
theorem z6g {w:World}{base g n size:Nat}{e:TypeId}{v:Value}{xs:List Value}{es:Array MapEntry}{c:Nat}(h:w.ownsRow base e size v n xs)(hb:w.heap[g]? =some (.map es c)):v.ownBlock≠some g:=by
 rcases h.2 with ⟨rfl,_⟩ | ⟨g',cap,cur,rfl,_,hg,_⟩
 · simp[Value.ownBlock]
 · intro he
   have:g'=g:=by simpa [Value.ownBlock] using he
   subst this;rw[hb] at hg
   injection hg with hg
   cases hg
theorem Pl.gm {w:World}{R g bm:Nat}{v1 v2:Value}{s:PS}{sl:List Nat}{N:Nat}(h:Pl w R g bm v1 v2 s sl N):g≠bm:=by
 rintro rfl;obtain ⟨n,D,_,⟨es,c,hb,_⟩,_⟩:=h.holes;rw[h.row] at hb
 injection hb with hb
 cases hb
theorem Pl.lt {w:World}{R g bm:Nat}{v1 v2:Value}{s:PS}{sl:List Nat}{N:Nat}(h:Pl w R g bm v1 v2 s sl N):g<w.heap.size:=z00 h.row
theorem Pl.mono {w:World}{R g bm:Nat}{v1 v2:Value}{s:PS}{sl:List Nat}{N M:Nat}(h:Pl w R g bm v1 v2 s sl N)(hm:N≤M):Pl w R g bm v1 v2 s sl M:=by
 obtain ⟨n,D,hn,r⟩:=h.holes;exact ⟨h.row,h.rg,h.rb,h.slots,h.shared,n,D,Nat.le_trans hn hm,r⟩
theorem Pl.below {w w':World}{R g bm:Nat}{v1 v2:Value}{s:PS}{sl:List Nat}{N:Nat}(h:Pl w R g bm v1 v2 s sl N)(hb:Below w.heap.size w w'):Pl w' R g bm v1 v2 s sl N:=by
 have hg:w.grownBy w' none:=⟨hb.os,hb.tape,hb.output,hb.size,fun k hk _=>hb.block k hk⟩
 obtain ⟨n,D,hn,hm,hd⟩:=h.holes;exact ⟨(hb.block g h.lt).trans h.row,h.rg,h.rb,h.slots.kept hg (by cases hv:v1.ownBlock <;> simp),h.shared.kept hg (by cases hv:v2.ownBlock <;> simp),n,D,hn,hm.kept hg (by simp),hd⟩
theorem Pl.turn {w w':World}{R g bm:Nat}{v1 v2:Value}{s:PS}{sl:List Nat}{N M n:Nat}{D:DataW Unit}{h':Nat→Nat}(h:Pl w R g bm v1 v2 s sl N)(hg:w.grownBy w' (some bm))(hm:w'.ownsMap (H:=Unit) Tryz.prog 115 (plainElem Tryz.prog 3) bm n D)(hn:n≤M)(hd:HoleD D h') :
 Pl w' R g bm v1 v2 { s with ls:=⟨s.ls.words,h'⟩ } sl M:=by
 obtain ⟨n0,D0,_,⟨es,c,hb,_⟩,_⟩:=h.holes;exact ⟨(hg.block g h.lt (fun e=>h.gm (by injection e))).trans h.row,h.rg,h.rb,h.slots.kept hg (.inr (z6g h.slots hb)),h.shared.kept hg (.inr (z6g h.shared hb)),n,D,hn,hm,hd⟩
theorem z1g (w:World)(g i:Nat)(u:Value):w.grownBy (w.setCell ⟨g,i,none⟩ u) (some g) :=
 ⟨rfl,rfl,rfl,by simp[World.setCell],fun k _ hk=>Below.heap_setCell w ⟨g,i,none⟩ u k (fun e=>hk (by rw[e]))⟩
theorem z3b {w:World}{g:Nat}{cs:Array Value}{T:TypeId}(h:w.heap[g]? =some (.cells cs T (0,0)))(i:Nat)(u:Value):(w.setCell ⟨g,i,none⟩ u).heap[g]? =some (.cells (cs.setIfInBounds i u) T (0,0)):=by
 simp[World.setCell,Array.getElem?_modify,h]
theorem Pl.set_ {w:World}{R g bm:Nat}{v1 v2:Value}{s:PS}{sl:List Nat}{N:Nat}(h:Pl w R g bm v1 v2 s sl N)(i:Nat)(u:Value)(s':PS)(hs:(z2i s v1 v2 bm).setIfInBounds i u=z2i s' v1 v2 bm)(hl:s'.ls.hole=s.ls.hole)(hsh:s'.shared=s.shared) :
 Pl (w.setCell ⟨g,i,none⟩ u) R g bm v1 v2 s' sl N:=by
 have hg:=z1g w g i u;obtain ⟨n,D,hn,hm,hd⟩:=h.holes;refine ⟨?_,h.rg,h.rb,h.slots.kept hg (.inr (z0o h.slots h.row (by decide))),?_,n,D,hn,hm.kept hg (fun e=>h.gm (by injection e with e; exact e.symm)),by rw[hl]; exact hd⟩
 · rw[z3b h.row,hs]
 · rw[hsh]; exact h.shared.kept hg (.inr (z0o h.shared h.row (by decide)))
theorem Pl.cells {w:World}{R g bm:Nat}{v1 v2:Value}{s:PS}{sl:List Nat}{N:Nat}(h:Pl w R g bm v1 v2 s sl N) :
 w.cell? ⟨g,0,none⟩=some (.int .i64 (s.ls.words:Int))∧w.cell? ⟨g,1,none⟩=some (.int .i64 (s.ptrs:Int))∧w.cell? ⟨g,2,none⟩=some v1∧w.cell? ⟨g,3,none⟩=some (.int .i64 s.tag)∧w.cell? ⟨g,4,none⟩=some (.map (some bm))∧w.cell? ⟨g,5,none⟩=some (.int .i64 (s.many:Int))∧w.cell? ⟨g,6,none⟩=some v2∧w.cell? ⟨g,7,none⟩=some (.int .i64 s.point):=by
 refine ⟨?_,?_,?_,?_,?_,?_,?_,?_⟩ <;> (rw[cell_of_row _ _ _ _ _ _ h.row]; rfl)
theorem Pl.set_below {w w0:World}{R g bm:Nat}{v1 v2:Value}{s:PS}{sl:List Nat}{N:Nat}(h:Pl w R g bm v1 v2 s sl N)(hb:Below R w0 w)(i:Nat)(u:Value):Below R w0 (w.setCell ⟨g,i,none⟩ u):=hb.setCell (p:=⟨g,i,none⟩) h.rg u
theorem z65 {w w':World}{R bm:Nat}(hg:w.grownBy w' (some bm))(h:R≤bm)(hR:R≤w.heap.size):Below R w w' :=
 ⟨hg.os,hg.tape,hg.output,hg.size,fun k hk=>hg.block k (by omega) (fun e=>by injection e with e; omega)⟩
theorem Pl.rs {w:World}{R g bm:Nat}{v1 v2:Value}{s:PS}{sl:List Nat}{N:Nat}(h:Pl w R g bm v1 v2 s sl N):R≤w.heap.size:=Nat.le_of_lt (Nat.lt_of_le_of_lt h.rg h.lt)
def TakeP (bm n:Nat)(D:DataW Unit)(kl:Lit)(c:Int)(b:Bool)(w:World)(e:Ending)(w':World):Prop :=
 e= .returned (.tuple #[.int .i64 c,.bool b])∧w'.ownsMap (H:=Unit) Tryz.prog 115 (plainElem Tryz.prog 3) bm n (D.del kl)∧w.grownBy w' (some bm)
theorem zf2 (bm n:Nat)(D:DataW Unit)(k c:Int)(b:Bool)(w:World)(hown:w.ownsMap (H:=Unit) Tryz.prog 115 (plainElem Tryz.prog 3) bm n D)(h0:0≤k)(h1:k≤100)
 (hb:has D (.int .i64 k)=b) (hc:D.atKey (.int .i64 k) (.lit (.int .i64 0))= .lit (.int .i64 c)) :
 Calls Tryz.prog 106 #[.map (some bm),.int .i64 k] w (TakeP bm n D (.int .i64 k) c b w):=by
 have HB:=hid hb;have HC:=hid hc;have HK:=hid (zea h0 h1);clear hb hc;go_enter Tryz.func106,Tryz.ntmps106
 go_wp2_with (first
  | (at_lookup; refine wpList_lookup_own_ok_int _ rfl _ _ 77 rfl 115 3 .i64 zaw Tryz.underlying77 Tryz.underlying3 (zn0 _) bm n D rfl hown _ _ rfl HK.out ?_; intro c' hat hwc; obtain rfl:c'=c:=(by have:=hat.symm.trans HC.out; injection this with this; injection this); clear hat; rw[HB.out])
  | (at_delete; refine wpList_delete_own _ rfl _ _ 77 115 rfl 3 zaw Tryz.underlying77 _ bm n D rfl hown _ _ rfl HK.out ?_; intro w1 hown1 hturn1))
 go_ret2
 exact ⟨rfl,hown1,hturn1.grown⟩
end Go.Proofs.YtblcibgphccfkaaGreatDoor
