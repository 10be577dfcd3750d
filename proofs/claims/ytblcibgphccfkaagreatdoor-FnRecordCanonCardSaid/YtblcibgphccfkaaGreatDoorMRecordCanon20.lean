/- Texts of the proof of the law FnRecordCanon, side by side: part 20. -/
import Derived.Test.YtblcibgphccfkaaGreatDoorMRecordCanon19
set_option maxHeartbeats 8000000
set_option maxRecDepth 100000
open Go.Lib (hid)
namespace Go.Proofs.YtblcibgphccfkaaGreatDoor
open Go.RowKit Go.Deep
theorem zac (w:World)(S:Nat→Prop):∀m,NdAt w S m z07 ⟨none,0,none,0⟩
 | 0=>⟨by decide,rfl,rfl⟩
 | m+1=>⟨by decide,⟨by decide,[],rfl,.inl rfl,fun r h=>by cases h⟩,⟨by decide,[],rfl,.inl rfl,fun r h=>by cases h⟩⟩
theorem z7w:sizN z07≤2000000:=by decide
theorem z0x.up {m:Nat}{x:Int}{y:Nd}{b:Bool}{w w':World}{e:Ending}(h:z0x m x y b w e w'):z0x (m+1) x y b w e w':=by
 obtain ⟨hh,bs,he,ho,hr⟩:=h;exact ⟨hh,bs,he,ho.succ,hr⟩
theorem zl1 {z:Int}(hz:z=2∨z=3∨z=4∨z=5)(W:World):Calls Tryz.prog 61 #[.int .i64 z] W fun e w'=>∃b gg,e= .returned (.agg #[nK1 b,gg])∧Below W.heap.size W w'∧w'.heap[b]? =some (.cells #[.int .i64 (wdF z)] 3 (0,0)):=by
 refine (zbb z W (by omega) (by omega)).mono ?_;rintro e w' ⟨f,gg,rfl,hb,hk⟩
 have hN:NumK (wdF z) W w' f gg:=by
  rcases hz with rfl | rfl | rfl | rfl
  · rcases hk with ⟨h,_⟩ | ⟨h,_⟩ | ⟨_,h⟩ | ⟨h,_⟩ | ⟨h,_⟩ | ⟨h,_⟩ <;> first | exact h | (exact absurd h (by decide))
  · rcases hk with ⟨h,_⟩ | ⟨h,_⟩ | ⟨h,_⟩ | ⟨_,h⟩ | ⟨h,_⟩ | ⟨h,_⟩ <;> first | exact h | (exact absurd h (by decide))
  · rcases hk with ⟨h,_⟩ | ⟨h,_⟩ | ⟨h,_⟩ | ⟨h,_⟩ | ⟨_,h⟩ | ⟨h,_⟩ <;> first | exact h | (exact absurd h (by decide))
  · rcases hk with ⟨h,_⟩ | ⟨h,_⟩ | ⟨h,_⟩ | ⟨h,_⟩ | ⟨h,_⟩ | ⟨_,h⟩ <;> first | exact h | (exact absurd h (by decide))
 obtain ⟨b,rfl,rfl, -,hx⟩:=hN;exact ⟨b,_,rfl,hb,hx⟩
theorem zkv (W:World):Calls Tryz.prog 61 #[.int .i64 1] W fun e w'=>∃gg,e= .returned (.agg #[fnV 96,gg])∧Below W.heap.size W w':=by
 refine (za1 W).mono ?_;rintro e w' ⟨f,gg,rfl,hb,hk⟩
 obtain rfl:f=fnV 96:=by
  rcases hk with ⟨_,h,_⟩ | ⟨h,_⟩ | ⟨h,_⟩ | ⟨h,_⟩ | ⟨h,_⟩ | ⟨h,_⟩ <;> first | exact h | (exact absurd h (by decide))
 exact ⟨gg,rfl,hb⟩
theorem zhm (W:World):Calls Tryz.prog 61 #[.int .i64 6] W fun e w'=>∃gg,e= .returned (.agg #[fnV 99,gg])∧Below W.heap.size W w':=by
 refine (z9e W).mono ?_;rintro e w' ⟨f,gg,rfl,hb,hk⟩
 obtain rfl:f=fnV 99:=by
  rcases hk with ⟨h,_⟩ | ⟨_,h,_⟩ | ⟨h,_⟩ | ⟨h,_⟩ | ⟨h,_⟩ | ⟨h,_⟩ <;> first | exact h | (exact absurd h (by decide))
 exact ⟨gg,rfl,hb⟩
theorem zcc (z:Int):0≤wdF z∧wdF z≤8:=by rcases zdy z with h | h | h | h <;> rw[h] <;> decide
theorem ze7 {w:World}{S:Nat→Prop}{m:Nat}{n:Nd}{h:Hd}(hn:NdAt w S m n h)(htn:totN m n≤2000000):n.ptrs.length≤maxLen:=by
 have:=zel hn; have:=zee hn; unfold ptrsL at *; simp at *; unfold maxLen; omega
theorem z8n (A:Option Addr)(c:Nat)(l:List Fld)(m:Nat)(n:Nd)(h:Hd)(w:World)(S:Nat→Prop)(ht:Tab w)(h1w:1<w.heap.size)(hl:Flds w A l)(hll:l.length≤10000000)(hc:l.length≤c)(hn:NdAt w S m n h)(htn:totN m n≤2000000)(a:Int) :
 Calls Tryz.prog 8 #[.slice A l.length c,.agg #[.int .i64 n.kind,.string n.data,.slice h.A n.ptrs.length h.a,.int .i64 n.size,.int .i64 n.count,.slice h.B n.items.length h.b],.int .i64 a] w (z0x (m+1) (rgN l n a) (rgY l n a) (rgB l n a) w):=by
 have no:rgB l n a=false→z0x (m+1) (rgN l n a) (rgY l n a) (rgB l n a) w=z0x (m+1) 0 z07 false w:=fun hB=>by
  have e1:rgN l n a=0:=by unfold rgN; rw[hB]; rfl
  have e2:rgY l n a=z07:=by unfold rgY; rw[hB]; rfl
  rw[hB,e1,e2]
 cases hyes:recB l n
 · rw[no (by unfold rgB; rw[hyes]; rfl)]
   exact zny A c l m n h w S ht h1w hl hll hn htn a (m+1) hyes
 cases hw:withB a l.length
 · rw[no (by unfold rgB; rw[hyes,hw]; rfl)]
   exact zmx A c l m n h w S ht h1w hl hll hn htn a (m+1) hyes hw
 have hwb:0≤a∧a<l.length:=by simpa [withB] using hw
 obtain ⟨k,rfl⟩:=Int.eq_ofNat_of_zero_le hwb.1
 have hk:k<l.length:=by omega
 cases hs:seenB l n k
 · rw[no (by unfold rgB; rw[hyes,hw,Int.toNat_natCast,hs]; rfl)]
   have htb:z2v l k=true:=by
    cases hq:z2v l k
    · unfold seenB at hs; rw[hq] at hs; simp at hs
    · rfl
   have hne:choN l n≠(plcN l k:Int):=by unfold seenB at hs; rw[htb] at hs; simpa using hs
   exact zft A c l m n h w S ht h1w hl hll hn htn k _ rfl hc hyes hk (m+1) htb hne
 have hB:rgB l n (k:Int)=true:=by unfold rgB; rw[hyes,hw,Int.toNat_natCast,hs]; rfl
 have e1:rgN l n (k:Int)=fNum l n k:=by unfold rgN; rw[if_pos hB,Int.toNat_natCast]
 have e2:rgY l n (k:Int)=fNod l n k:=by unfold rgY; rw[if_pos hB,Int.toNat_natCast]
 rw[hB,e1,e2]
 have main:∀(j:Nat) (xv:Int) (yv:Nd) (hv:Hd),NdAt w S j yv hv→sizN yv≤2000000→(∀(V:World) (g:Nat) (x y:Addr) (cy:Nat),Below w.heap.size w V→A=some x→x.block<V.heap.size→RecAt V g (some x) l.length c l (.slice (some y) l.length cy) n h→y.block<V.heap.size→V.cell? (x.add (k*3))=some (.int .i64 (fldK l k).size)→V.cell? (y.add k)=some (.int .i64 (atF l k:Nat))→Calls Tryz.prog 62 #[.pointer (some ⟨g,0,none⟩),.int .i64 (k:Int)] V fun e w'=>e= .returned (.agg #[.int .i64 xv,.int .i64 yv.kind,.string yv.data,.slice hv.A yv.ptrs.length hv.a,.int .i64 yv.size,.int .i64 yv.count,.slice hv.B yv.items.length hv.b])∧Below V.heap.size V w') →
  Calls Tryz.prog 8 #[.slice A l.length c,.agg #[.int .i64 n.kind,.string n.data,.slice h.A n.ptrs.length h.a,.int .i64 n.size,.int .i64 n.count,.slice h.B n.items.length h.b],.int .i64 (k:Int)] w (z0x (j+1) (xorI xv (fldK l k).els) yv true w):=by
  intro j xv yv hv hny hyz HRAW
  cases htb:z2v l k
  · exact zky A c l m n h w S ht h1w hl hll hn htn k _ rfl hc hyes hk j xv yv hv hny hyz HRAW htb
  · have hne:choN l n=(plcN l k:Int):=by unfold seenB at hs; rw[htb] at hs; simpa using hs
    exact zl4 A c l m n h w S ht h1w hl hll hn htn k _ rfl hc hyes hk j xv yv hv hny hyz HRAW htb hne
 have hok9:=(z17 hyes).2.2;have hl12:=z0n hok9;have hd:n.data.size≤maxLen:=hn.1;have hsz:=z2j hok9 k hk;rw[← z1n hk] at hsz;have hat:=zlm hok9 hk
 have hz:(fldK l k).size=1∨((fldK l k).size=2∨(fldK l k).size=3∨(fldK l k).size=4∨(fldK l k).size=5)∨(fldK l k).size=6:=by omega
 rcases hz with hz | hz | hz
 · have e3:fNum l n k=xorI (bitI (byR n) (atF l k:Nat)) (fldK l k).els:=by unfold fNum rawI; rw[if_neg (by omega),if_pos hz]
   have e4:fNod l n k=z07:=by unfold fNod; rw[if_neg (by omega)]
   rw[e3,e4]
   exact main m _ z07 ⟨none,0,none,0⟩ (zac w S m) z7w fun V g x y cy hV hA hxb hr hyb hzx hsy=>zn2 g x y c cy l n h k hk _ (atF l k) V hr hxb hyb hzx hsy hl12 _ z07 ⟨none,0,none,0⟩ fun W hW=>by
    rw[hz]
    exact (zkv W).mono fun e w' ⟨gg,he,hb⟩=>⟨gg,he,hb,fun V2 hV2=>zjr n h _ V2 hd⟩
 · have e3:fNum l n k=xorI (getI (byR n) ((atF l k:Nat)*wdF (fldK l k).size) (wdF (fldK l k).size)) (fldK l k).els:=by unfold fNum rawI; rw[if_neg (by omega),if_neg (by omega)]
   have e4:fNod l n k=z07:=by unfold fNod; rw[if_neg (by omega)]
   rw[e3,e4]
   exact main m _ z07 ⟨none,0,none,0⟩ (zac w S m) z7w fun V g x y cy hV hA hxb hr hyb hzx hsy=>zna g x y c cy l n h k hk _ (atF l k) V hr hxb hyb hzx hsy hl12 _ z07 ⟨none,0,none,0⟩ fun W hW =>
    (zl1 hz W).mono fun e w' ⟨b,gg,he,hb,hx⟩=>⟨b,gg,he,hb,fun V2 hV2=>ze5 n h (atF l k:Nat) (wdF (fldK l k).size) b V2 hd ((hV2.block _ (z00 hx)).trans hx) (by omega) (by omega) (zcc _).1 (zcc _).2⟩
 · have hel:(fldK l k).els=0:=by rw[z1n hk] at hz ⊢; exact zmj (zbg hok9 hk) hz
   have e3:fNum l n k=xorI 0 (fldK l k).els:=by unfold fNum; rw[if_pos hz,hel]; rfl
   rw[e3]
   have HK6:∀(j:Nat) (yv:Nd) (hv:Hd),NdAt w S j yv hv→sizN yv≤2000000→(∀V:World,Below w.heap.size w V→Calls Tryz.prog 99 #[.agg #[.int .i64 n.kind,.string n.data,.slice h.A n.ptrs.length h.a,.int .i64 n.size,.int .i64 n.count,.slice h.B n.items.length h.b],.int .i64 (atF l k:Nat)] V fun e w'=>e= .returned (valV 0 yv hv)∧Below V.heap.size V w') →
    Calls Tryz.prog 8 #[.slice A l.length c,.agg #[.int .i64 n.kind,.string n.data,.slice h.A n.ptrs.length h.a,.int .i64 n.size,.int .i64 n.count,.slice h.B n.items.length h.b],.int .i64 (k:Int)] w (z0x (j+1) (xorI 0 (fldK l k).els) yv true w):=by
    intro j yv hv hny hyz HGN
    exact main j _ yv hv hny hyz fun V g x y cy hV hA hxb hr hyb hzx hsy=>zkw g x y c cy l n h k hk _ (atF l k) V hr hxb hyb hzx hsy hl12 _ yv hv fun W hW=>by
     rw[hz]
     exact (zhm W).mono fun e w' ⟨gg,he,hb⟩=>⟨gg,he,hb,fun V2 hV2=>HGN V2 ((hV.trans (hW.mono hV.size)).trans ((hb.trans (hV2.mono hb.size)).mono (Nat.le_trans hV.size hW.size)))⟩
   have hmx:=ze7 hn htn
   by_cases hlt:atF l k<n.ptrs.length
   · obtain ⟨qA,qa,qB,qb⟩:=h
     obtain ⟨j,rfl⟩:=NdsAt.pred hn.2.1 hlt;obtain ⟨x,hd9,hxe,hc9,hne⟩:=NdsAt.at_ hn.2.1 hlt;have hxe':qA=some x:=hxe;subst hxe'
     have e4:fNod l n k=n.ptrs[atF l k]:=by
      unfold fNod;rw[if_pos hz,List.getElem?_eq_getElem hlt]
      rfl
     rw[e4]
     have hsy:sizN n.ptrs[atF l k]≤2000000:=by
      have h1:=z87 hlt;have h2:=z2a n
      have h3:sizN n≤2000000:=by rw[← z19 hn]; exact htn
      omega
     exact (HK6 j _ hd9 hne hsy fun V hV=>zg4 n x qa qB qb (atF l k) n.ptrs[atF l k] hd9 V hlt hmx (hc9.block (hV.block _ hc9.lt))).mono fun _ _ h=>h.up
   · have e4:fNod l n k=z07:=by
      unfold fNod;rw[if_pos hz,List.getElem?_eq_none (by omega)]
      rfl
     rw[e4]
     exact HK6 m z07 ⟨none,0,none,0⟩ (zac w S m) z7w fun V hV=>zcz n h _ V (by omega) (by omega) hmx
end Go.Proofs.YtblcibgphccfkaaGreatDoor
namespace Go.Proofs.YtblcibgphccfkaaGreatDoor
open Go.RowKit
abbrev layT:TypeId:=111
abbrev intT:TypeId:=3
def z2t (l:List (Nat×Nat)):List Value:=l.map fun r=>Value.int .i64 (r.2:Int)
def z2r (l:List (Nat×Nat)):List Value:=l.map fun r=>Value.int .i64 (6-(r.1:Int))
def z0u (s:PS)(v1 v2:Value):Array Value:= #[.int .i64 (s.ls.words:Int),.int .i64 (s.ptrs:Int),.int .i64 (s.ls.hole 6:Int),.int .i64 (s.ls.hole 5:Int),.int .i64 (s.ls.hole 4:Int),.int .i64 (s.ls.hole 3:Int),.int .i64 (s.ls.hole 2:Int),.int .i64 (s.ls.hole 1:Int),.int .i64 s.tag,.int .i64 (s.many:Int),v1,v2,.int .i64 s.point]
structure Sl (w:World) (R g:Nat) (v1 v2:Value) (s:PS):Prop where
 row:w.heap[g]? =some (.cells (z0u s v1 v2) layT (0,0))
 rg:R≤g
 place:w.ownsRow R intT 1 v1 s.shared.length (z2t s.shared)
 scale:w.ownsRow R intT 1 v2 s.shared.length (z2r s.shared)
 ne:v1.ownBlock=none∨v1.ownBlock≠v2.ownBlock
theorem Sl.lt {w:World}{R g:Nat}{v1 v2:Value}{s:PS}(h:Sl w R g v1 v2 s):g<w.heap.size:=z00 h.row
theorem Sl.rs {w:World}{R g:Nat}{v1 v2:Value}{s:PS}(h:Sl w R g v1 v2 s):R≤w.heap.size:=Nat.le_of_lt (Nat.lt_of_le_of_lt h.rg h.lt)
theorem Sl.drew {w:World}{R g:Nat}{v1 v2:Value}{s:PS}(h:Sl w R g v1 v2 s):Sl w.drew R g v1 v2 s:=⟨h.row,h.rg,h.place,h.scale,h.ne⟩
theorem Sl.below {w w':World}{R g:Nat}{v1 v2:Value}{s:PS}(h:Sl w R g v1 v2 s)(hb:Below w.heap.size w w'):Sl w' R g v1 v2 s:=by
 have hg:w.grownBy w' none:=⟨hb.os,hb.tape,hb.output,hb.size,fun k hk _=>hb.block k hk⟩
 exact ⟨(hb.block g h.lt).trans h.row,h.rg,h.place.kept hg (by cases hv:v1.ownBlock <;> simp),h.scale.kept hg (by cases hv:v2.ownBlock <;> simp),h.ne⟩
theorem Sl.alloc {w:World}{R g:Nat}{v1 v2:Value}{s:PS}(h:Sl w R g v1 v2 s)(o:Obj):Sl (w.alloc o) R g v1 v2 s:=h.below ((Below.refl _ _).alloc (Nat.le_refl _) o)
theorem Sl.set_ {w:World}{R g:Nat}{v1 v2:Value}{s:PS}(h:Sl w R g v1 v2 s)(i:Nat)(u:Value)(s':PS)(hs:(z0u s v1 v2).setIfInBounds i u=z0u s' v1 v2)(hsh:s'.shared=s.shared) :
 Sl (w.setCell ⟨g,i,none⟩ u) R g v1 v2 s':=by
 have hg:=z1g w g i u;exact ⟨by rw[z3b h.row,hs],h.rg,by rw[hsh]; exact h.place.kept hg (.inr (z0o h.place h.row (by decide))),by rw[hsh]; exact h.scale.kept hg (.inr (z0o h.scale h.row (by decide))),h.ne⟩
theorem Sl.set_below {w w0:World}{R g:Nat}{v1 v2:Value}{s:PS}(h:Sl w R g v1 v2 s)(hb:Below R w0 w)(i:Nat)(u:Value):Below R w0 (w.setCell ⟨g,i,none⟩ u):=hb.setCell (p:=⟨g,i,none⟩) h.rg u
theorem Sl.cells {w:World}{R g:Nat}{v1 v2:Value}{s:PS}(h:Sl w R g v1 v2 s) :
 w.cell? ⟨g,0,none⟩=some (.int .i64 (s.ls.words:Int))∧w.cell? ⟨g,1,none⟩=some (.int .i64 (s.ptrs:Int))∧w.cell? ⟨g,2,none⟩=some (.int .i64 (s.ls.hole 6:Int))∧w.cell? ⟨g,3,none⟩=some (.int .i64 (s.ls.hole 5:Int))∧w.cell? ⟨g,4,none⟩=some (.int .i64 (s.ls.hole 4:Int))∧w.cell? ⟨g,5,none⟩=some (.int .i64 (s.ls.hole 3:Int))∧w.cell? ⟨g,6,none⟩=some (.int .i64 (s.ls.hole 2:Int))∧w.cell? ⟨g,7,none⟩=some (.int .i64 (s.ls.hole 1:Int))∧w.cell? ⟨g,8,none⟩=some (.int .i64 s.tag)∧w.cell? ⟨g,9,none⟩=some (.int .i64 (s.many:Int))∧w.cell? ⟨g,10,none⟩=some v1∧w.cell? ⟨g,11,none⟩=some v2∧w.cell? ⟨g,12,none⟩=some (.int .i64 s.point):=by
 refine ⟨?_,?_,?_,?_,?_,?_,?_,?_,?_,?_,?_,?_,?_⟩ <;> (rw[cell_of_row _ _ _ _ _ _ h.row]; rfl)
def optI:Option Nat→Int
 | none=> -1
 | some a=>(a:Int)
def HoleP (R g:Nat)(v1 v2:Value)(s:PS)(k:Nat)(w:World)(e:Ending)(w':World):Prop :=
 e= .returned (.int .i64 (optI (holeF k s.ls).1))∧Sl w' R g v1 v2 { s with ls:=(holeF k s.ls).2 } ∧Below R w w'∧Fr g g w w'
theorem zf9 (k:Nat)(s:LS)(h:s.hole (k+1)≠0):holeF (k+1) s=(some (s.hole (k+1)),⟨s.words,upd s.hole (k+1) 0⟩):=by rw[holeF,if_pos h]
theorem zbt (k:Nat)(s:LS)(h:s.hole (k+1)=0):holeF (k+1) s=(match holeF k s with | (none,_)=>(none,s) | (some a,t)=>(some (2*a),⟨t.words,upd t.hole (k+1) (2*a+1)⟩)):=by
 rw[holeF,if_neg (by simp[h])]
 rfl
theorem z9y (s:LS)(i:Nat):∀k,k<i→(holeF k s).2.hole i=s.hole i
 | 0,_=>rfl
 | k+1,h=>by
   by_cases h0:s.hole (k+1)=0
   · rw[zbt k s h0]
     have ih:=z9y s i k (by omega)
     cases hh:holeF k s with
     | mk o t =>
      rw[hh] at ih
      cases o with
      | none=>rfl
      | some a=>show upd _ _ _ i=_; rw[z22 _ _ _ _ (by omega)]; exact ih
   · rw[zf9 k s h0]; exact z22 _ _ _ _ (by omega)
theorem zix {n:Nat}{s:LS}(h:LBd n s)(k a:Nat)(hk:k≤6)(ha:(holeF k s).1=some a):a<64*(n+1):=by
 have h1:=z4r s k
 cases hh:holeF k s with
 | mk o t =>
  rw[hh] at h1 ha
  cases o with
  | none=>cases ha
  | some b =>
   obtain rfl:b=a:=by injection ha
   have:=za7 h hk;rw[h1] at this;exact this
theorem zne (g:Nat)(w:World):Fr g g w w:=⟨Nat.le_refl _,fun _ _ _ _=>rfl⟩
theorem z47 {c:Int}{k:Nat}(hc:c+(k+1:Nat)=6)(h0:0≤c)(s:PS)(v1 v2:Value) :
 (z0u s v1 v2)[2+c.toNat]? =some (.int .i64 (s.ls.hole (k+1):Int))∧∀v:Nat,(z0u s v1 v2).setIfInBounds (2+c.toNat) (.int .i64 (v:Int))=z0u { s with ls:=⟨s.ls.words,upd s.ls.hole (k+1) v⟩ } v1 v2:=by
 have hk6:k=0∨k=1∨k=2∨k=3∨k=4∨k=5:=by omega
 rcases hk6 with rfl | rfl | rfl | rfl | rfl | rfl
 · obtain rfl:c=5:=by omega
   exact ⟨rfl,fun v=>by simp[z0u,upd]⟩
 · obtain rfl:c=4:=by omega
   exact ⟨rfl,fun v=>by simp[z0u,upd]⟩
 · obtain rfl:c=3:=by omega
   exact ⟨rfl,fun v=>by simp[z0u,upd]⟩
 · obtain rfl:c=2:=by omega
   exact ⟨rfl,fun v=>by simp[z0u,upd]⟩
 · obtain rfl:c=1:=by omega
   exact ⟨rfl,fun v=>by simp[z0u,upd]⟩
 · obtain rfl:c=0:=by omega
   exact ⟨rfl,fun v=>by simp[z0u,upd]⟩
theorem zeo (R g:Nat)(v1 v2:Value)(s:PS)(hbd:LBd 40 s.ls):∀(k:Nat) (c:Int) (w:World),c+k=6→k≤6→Sl w R g v1 v2 s →
 Calls Tryz.prog 131 #[.pointer (some ⟨g,0,none⟩),.int .i64 c] w (HoleP R g v1 v2 s k w)
 | 0,c,w,hc,_,h=>by
   obtain rfl:c=6:=by omega
   have HH:=hid h;clear h;go_enter Tryz.func131,Tryz.ntmps131;go_wp2;go_ret;exact ⟨rfl,HH.out,Below.refl _ _,zne _ _⟩
 | k+1,c,w,hc,hk,h=>by
   have hbk:=hbd.2 (k+1);have hp6:2^(k+1)≤2^6:=Nat.pow_le_pow_right (by decide) hk
   have hbk2:s.ls.hole (k+1)<3000:=by
    have:=Nat.mul_le_mul_right 41 hp6
    simp only[show (2:Nat)^6=64 from rfl] at this
    omega
   have hc0:0≤c:=by omega
   have hc5:c<6:=by omega
   have hl:=z47 hc hc0 s v1 v2
   have hcell:w.cell? ⟨g,2+c.toNat,none⟩=some (.int .i64 (s.ls.hole (k+1):Int)):=by rw[cell_of_row _ _ _ _ _ _ h.row]; exact hl.1
   have hfz:=z03 h.row (2+c.toNat);clear hbk hp6
   by_cases h0:s.ls.hole (k+1)=0
   · have HM:=hid (zbt k s.ls h0)
     have HA:=hid (z9y s.ls (k+1) k (Nat.lt_succ_self k));have HBA:=hid (fun a=>zix hbd k a (by omega));have HN:=hid (zbu s.ls k);have HC:=hid hc
     have hc1:c+1+(k:Int)=6:=by omega
     have HR:=hid (zeo R g v1 v2 s hbd k (c+1) w hc1 (by omega) h)
     have hz:¬(0:Int)<(s.ls.hole (k+1):Int):=by omega
     generalize (s.ls.hole (k+1):Int)=hv at hcell hz;clear h hl hbk2 hc hc1 h0;go_enter Tryz.func131,Tryz.ntmps131
     go_wp2_with fail
     refine HR.out.mono ?_;rintro e w1 ⟨rfl,hs1,hb1,hf1⟩;have hrow:=z03 hs1.row (2+c.toNat);have hl1:=z47 HC.out hc0 { s with ls:=(holeF k s.ls).2 } v1 v2
     have hcell1:w1.cell? ⟨g,2+c.toNat,none⟩=some (.int .i64 ((holeF k s.ls).2.hole (k+1):Int)):=by rw[cell_of_row _ _ _ _ _ _ hs1.row]; exact hl1.1
     have HS1:=hid hs1;have HB1:=hid hb1;have HF1:=hid hf1;have HL1:=hid hl1.2;clear hs1 hb1 hf1 hl1;generalize holeF k s.ls=p at *;obtain ⟨o,t⟩:=p
     cases o with
     | none =>
      have ht:t=s.ls:=HN.out rfl;subst ht
      simp only[optI]
      go_wp2;go_ret;rw[HoleP,HM.out];exact ⟨rfl,HS1.out,HB1.out,HF1.out⟩
     | some a =>
      have ha:=HBA.out a rfl;have HE:=hid (HS1.out.set_ (2+c.toNat) (.int .i64 ((2*a+1:Nat):Int)) _ (HL1.out (2*a+1)) rfl);have HBE:=hid (HS1.out.set_below HB1.out (2+c.toNat) (.int .i64 ((2*a+1:Nat):Int)))
      have he:((2*a+1:Nat):Int)=2*(a:Int)+1:=by omega
      rw[he] at HE HBE;clear he
      simp only[optI]
      go_wp2;go_ret;rw[HoleP,HM.out];exact ⟨z15 (by show _=((2*a:Nat):Int); omega),HE.out,HBE.out,HF1.out.trans (Fr.set g g _ w1 _)⟩
   · have HM:=hid (zf9 k s.ls h0)
     have hs1:=h.set_ (2+c.toNat) (.int .i64 ((0:Nat):Int)) _ (hl.2 0) rfl;have HS:=hid hs1;have HB:=hid (h.set_below (Below.refl R w) (2+c.toNat) (.int .i64 0))
     have hz:(0:Int)<(s.ls.hole (k+1):Int):=by omega
     clear h hl hs1 hc h0;go_enter Tryz.func131,Tryz.ntmps131;go_wp2;go_ret;rw[HoleP,HM.out];exact ⟨rfl,HS.out,HB.out,Fr.set g g _ w _⟩
end Go.Proofs.YtblcibgphccfkaaGreatDoor
