/- Texts of the proof of the law FnCanonSent, side by side: part 5. -/
import Derived.Deep.MidRow
import Derived.Test.YtlbfffokkhccaaaGreatDoorMCanonSent04
set_option maxHeartbeats 8000000
set_option maxRecDepth 100000
open Go.Lib (hid)
namespace Go.Proofs.YtlbfffokkhccaaaGreatDoor
open Go.RowKit
theorem z0o {w w1:World}{R n b:Nat}(h:z0h w R n w1)(hR:R<w.heap.size)(hb:w.heap.size≤b)(i:Nat)(v:Value):z0h w R n (w1.setCell ⟨b,i,none⟩ v):=by
 obtain ⟨⟨a,l,c,p,hp,hr,hc⟩,hk⟩:=h;have hs:=z0p w1.heap.size b w1 i v;refine ⟨⟨a,l,c,p,hp,(hs.block R (z00 hr) (by omega)).trans hr,hc.keeps hs (Nat.le_of_lt (z00 hr)) (by omega)⟩,?_⟩;exact ⟨hs.os.trans hk.os,hs.tape.trans hk.tape,hs.output.trans hk.output,Nat.le_trans hk.size hs.size,fun k hk1 hk2=>(hs.block k (Nat.lt_of_lt_of_le hk1 hk.size) (by omega)).trans (hk.block k hk1 hk2)⟩
theorem z4v {w w1:World}{R n b:Nat}{T:TypeId}{a0 a1 a2 a3 a4 a5:Value}(h:w1.heap[b]? =some (.cells #[a0,a1,a2,a3,a4,a5] T (0,0)))(hp:z0h w R n w1)(hR:R<w.heap.size)(hb:w.heap.size≤b)(v0 v1 v2 v3 v4 v5:Value) :
 ∃wf,((((((w1.setCell ⟨b,0,none⟩ v0).setCell ⟨b,1,none⟩ v1).setCell ⟨b,2,none⟩ v2).setCell ⟨b,3,none⟩ v3).setCell ⟨b,4,none⟩ v4).setCell ⟨b,5,none⟩ v5)=wf∧wf.heap[b]? =some (.cells #[v0,v1,v2,v3,v4,v5] T (0,0))∧z0h w R n wf∧Upon (b+1) w1 wf :=
 ⟨_,rfl,z08 (z08 (z08 (z08 (z08 (z08 h 0 v0) 1 v1) 2 v2) 3 v3) 4 v4) 5 v5,z0o (z0o (z0o (z0o (z0o (z0o hp hR hb 0 v0) hR hb 1 v1) hR hb 2 v2) hR hb 3 v3) hR hb 4 v4) hR hb 5 v5,
  ((((((Upon.refl (b+1) w1).setCell (p:=⟨b,0,none⟩) (by simp) v0).setCell (p:=⟨b,1,none⟩) (by simp) v1).setCell (p:=⟨b,2,none⟩) (by simp) v2).setCell (p:=⟨b,3,none⟩) (by simp) v3).setCell (p:=⟨b,4,none⟩) (by simp) v4).setCell (p:=⟨b,5,none⟩) (by simp) v5⟩
theorem z0e {w w1:World}{R n b:Nat}{o:Obj}(h:w.heap[b]? =some o)(hp:z0h w R n w1)(hne:b≠R):w1.heap[b]? =some o:=(hp.2.block b (z00 h) hne).trans h
def SB (T:Nat)(n:Nd):Prop:=(T≤259259→n.data.size≤1100)∧(n.kind=2→n.data.size≤1592)∧n.items.length≤1000
def TB (M:Nat)(n:Nd)(T:Nat):Prop:=totN M n≤T∧SB T n
theorem SB.mono {T T':Nat}{n:Nd}(h:SB T n)(hT:T≤T'):SB T' n:=⟨fun h'=>h.1 (Nat.le_trans hT h'),h.2⟩
theorem SB.small {T:Nat}{n:Nd}(h:n.data.size≤1100)(hi:n.items.length≤1000):SB T n:=⟨fun _=>h,fun _=>Nat.le_trans h (by decide),hi⟩
def NdP (M T:Nat)(R k:Nat)(w:World)(e:Ending)(w':World):Prop:=∃(n:Nd) (h:Hd),e= .returned (.agg #[.int .i64 n.kind,.string n.data,.slice h.A n.ptrs.length h.a,.int .i64 n.size,.int .i64 n.count,.slice h.B n.items.length h.b])∧NdAt w' (FromC w' w.heap.size) M n h∧TB M n T∧z0h w R k w'
theorem zg8 (R n:Nat)(w:World)(h:Rd w R n)(hn:n≤800000) :
 Calls Tryz.prog 114 #[.pointer (some ⟨R,0,none⟩)] w (NdP 0 1001 R (n+40) w):=by
 have hRw:=h.lt;have hq0:=h.self.below ((Below.refl w.heap.size w).alloc (Nat.le_refl _) (.cells #[.int .i64 0,.string { data:= #[] },.slice none 0 0,.int .i64 0,.int .i64 0,.slice none 0 0] nodeT));have hr0:=heap_alloc_new w (.cells #[.int .i64 0,.string { data:= #[] },.slice none 0 0,.int .i64 0,.int .i64 0,.slice none 0 0] nodeT);have HQ0:=hid hq0;have HR0:=hid hr0;clear h hq0 hr0;go_enter Tryz.func114,Tryz.ntmps114
 go_wp2_with fail
 refine (z17 R n _ _ HQ0.out.1 (by omega)).mono ?_;rintro e w1 ⟨s,⟨hs0,hs1⟩,rfl,hp1⟩;have HQ1:=hid (HQ0.out.then hp1);have HR1:=hid (z0e HR0.out hp1 (by omega))
 have hs5:s≤5:=by omega
 clear hp1 hs1
 go_wp2_with fail
 refine (z17 R (n+1) _ _ HQ1.out.1 (by omega)).mono ?_;rintro e w2 ⟨c,⟨hc0,hc1⟩,rfl,hp2⟩;have HQ2:=hid (HQ1.out.then hp2);have HR2:=hid (z0e HR1.out hp2 (by omega))
 have hc11:c≤11:=by omega
 clear hp2 hc1;have hq3:=HQ2.out.below ((Below.refl w2.heap.size w2).alloc (Nat.le_refl _) (.cells #[.int .i64 2,.string { data:= #[] },.slice none 0 0,.int .i64 s,.int .i64 c,.slice none 0 0] nodeT));have HQ3:=hid hq3;have HB3:=hid (heap_alloc_new w2 (.cells #[.int .i64 2,.string { data:= #[] },.slice none 0 0,.int .i64 s,.int .i64 c,.slice none 0 0] nodeT));have hlt2:=z00 HR2.out;have hwl2:=HQ2.out.2.size;have hRl:=HQ2.out.1.lt;have HR3:=hid ((Below.heap_alloc w2 (.cells #[.int .i64 2,.string { data:= #[] },.slice none 0 0,.int .i64 s,.int .i64 c,.slice none 0 0] nodeT) _ hlt2).trans HR2.out);clear hq3
 go_wp2_with fail
 refine (zdh R (n+2) 12 _ HQ3.out.1 (by omega) (by decide)).mono ?_;rintro e w4 ⟨u,⟨j,hj,hju⟩,rfl,hp4⟩;have HQ4:=hid (HQ3.out.then hp4);have hr4:=z0e HR3.out hp4 (by omega);have hb4:=z0e HB3.out hp4 (by omega);have HR4:=hid hr4;have HB4:=hid hb4;have HJ:=hid hju;obtain ⟨c0,c1,c2,c3,c4,c5⟩:=z01 hb4;clear hp4 hju hr4 hb4
 go_wp2_with fail
 refine (z3g ⟨#[5]⟩ 96 _ (by decide) (by decide) (by decide) (by decide)).mono ?_;rintro e w5 ⟨rfl,rfl⟩
 have hrs:(⟨(repL (⟨#[5]⟩:ByteArray).data.toList (Int.toNat 96)).toArray⟩:ByteArray).size=96:=by rw[rep8]; rfl
 generalize (⟨(repL (⟨#[5]⟩:ByteArray).data.toList (Int.toNat 96)).toArray⟩:ByteArray)=rp at *
 have hts:(u++rp).size=8*j+96:=by rw[z1g,HJ.out,hrs]
 have f1:¬9223372036854775807<u.size+rp.size:=by have:=HJ.out; omega
 have HTX:=hid hts;clear hrs hts
 go_wp2_with fail
 have hts:=HTX.out;generalize u++rp=tx at *;refine (zr8 tx s c _ hs0 hs5 hc0 hc11 (by omega) (by omega)).mono ?_;rintro e w6 ⟨dd,hdd,rfl,hb6⟩;have HQ6:=hid (HQ4.out.below hb6);have hr6:=(hb6.block _ (z00 HR4.out)).trans HR4.out;have hx6:=(hb6.block _ (z00 HB4.out)).trans HB4.out;have HX6:=hid hx6;have HR6:=hid hr6;have HDD:=hid hdd;clear c0 c1 c2 c3 c4 c5 hts f1 hb6 hdd;obtain ⟨c0,c1,c2,c3,c4,c5⟩:=z01 hx6;have cf:=z02 hx6
 have hz0:∀v k,(w6.setCell ⟨w2.heap.size,1,none⟩ v).cell? ⟨w.heap.size,k,none⟩=(#[.int .i64 0,.string { data:= #[] },.slice none 0 0,.int .i64 0,.int .i64 0,.slice none 0 0]:Array Value)[k]? :=fun v k=>cell_of_row _ _ _ _ _ _ ((Below.heap_setCell w6 ⟨w2.heap.size,1,none⟩ v w.heap.size (by simp; omega)).trans hr6)
 have hzf:∀v k,(w6.setCell ⟨w2.heap.size,1,none⟩ v).frozen? ⟨w.heap.size,k,none⟩=false:=fun v k=>z02 ((Below.heap_setCell w6 ⟨w2.heap.size,1,none⟩ v w.heap.size (by simp; omega)).trans hr6) k
 clear hx6 hr6
 go_wp2_with fail
 obtain ⟨wf,hwf,hrw,hpw,huw⟩:=z4v (w1:=w6.setCell ⟨w2.heap.size,1,none⟩ (.string dd)) (b:=w.heap.size) ((Below.heap_setCell w6 ⟨w2.heap.size,1,none⟩ (.string dd) w.heap.size (by simp; omega)).trans HR6.out) (z0o HQ6.out hRw (by omega) 1 (.string dd)) hRw (Nat.le_refl _) (.int .i64 2) (.string dd) (.slice none 0 0) (.int .i64 s) (.int .i64 c) (.slice none 0 0);rw[hwf];obtain ⟨e0,e1,e2,e3,e4,e5⟩:=z01 hrw
 exact bodyPost_ret (v:= .agg #[.int .i64 2,.string dd,.slice none 0 0,.int .i64 s,.int .i64 c,.slice none 0 0])
  (by simp[results,Tryz.results114,go_sem,e0,e1,e2,e3,e4,e5]) rfl
  ⟨.mk 2 dd [] s c [],⟨none,0,none,0⟩,rfl,⟨by show dd.size≤maxLen; have:=HDD.out; unfold maxLen; omega,rfl,rfl⟩,⟨by show dd.size+0+0≤1001; exact HDD.out,SB.small (by show dd.size≤1100; have:=HDD.out; omega) (show (0:Nat)≤1000 by decide)⟩,hpw.mono (by omega)⟩
theorem NdsAt.map' {w w':World}{S S':Nat→Prop}(hS:∀k,k<w.heap.size→S k→S' k)(hf:∀p n h,S p.block→NdCell w p n h→NdCell w' p n h):∀m A l,NdsAt w S m A l→NdsAt w' S' m A l
 | 0,_,_,h=>h
 | m+1,A,l,⟨hl,q,hq,hc,hr⟩=>by
   refine ⟨hl,q,hq,?_,fun r h=>⟨(hr r h).1,NdsAt.map' hS hf m _ _ (hr r h).2.1,NdsAt.map' hS hf m _ _ (hr r h).2.2⟩⟩
   rcases hc with hc | ⟨x,hx,hs,hk⟩
   · exact .inl hc
   · cases q with
     | nil=>exact .inl rfl
     | cons r t =>
      have hlt:=(hk 0 r rfl).lt;rw[z0r] at hlt;exact .inr ⟨x,hx,hS _ hlt hs,fun k r' h=>hf _ _ _ (by rw[z0r]; exact hs) (hk k r' h)⟩
theorem NdAt.map' {w w':World}{S S':Nat→Prop}{m:Nat}{n:Nd}{h:Hd}(hS:∀k,k<w.heap.size→S k→S' k)(hf:∀p n h,S p.block→NdCell w p n h→NdCell w' p n h)(hn:NdAt w S m n h):NdAt w' S' m n h:=⟨hn.1,NdsAt.map' hS hf _ _ _ hn.2.1,NdsAt.map' hS hf _ _ _ hn.2.2⟩
theorem zg2 {w w':World}{R n base m z:Nat}{e:TypeId}{v:Value}{xs:List Value}(h:w.ownsRow base e z v m xs)(hp:z0h w R n w')(hR:R<base):w'.ownsRow base e z v m xs:=by
 refine h.kept (row:=some R) ⟨hp.2.os,hp.2.tape,hp.2.output,hp.2.size,fun k hk hne=>hp.2.block k hk (fun e=>hne (by rw[e]))⟩ ?_
 by_cases hv:v.ownBlock=none
 · exact .inl hv
 · refine .inr (fun e=>?_)
   have:=(h.lt R (by rw[e])).1;omega
theorem z47 {ops:Array Oper}{o:Oper}{a:Act}{w:World}{K:Act→World→Prop}{Q:Exit→Act→World→Prop}{E:Prop}(hgd:o.guard=none)(s x:Operand)
 (ho:o.op= .call { callee:= .builtin .append,args:= #[s,x],argTypes:= #[z2d,z2d] })
 (base:Nat) (v:Value) (n:Nat) (xs:List Value) (hs:a.eval s=v) (hown:w.ownsRow base nodeT 6 v n xs)
 (ad:Addr) (c:Nat) (r:Nd×Hd) (hx:a.eval x= .slice (some ad) 1 c) (hnews:∀j u,(rowOf [r])[j]? =some u→w.cell? (ad.add j)=some u) (hn:n≤1000) (hbase:base≤w.heap.size)
 (h:∀A' c' w',Hid (w'.ownsRow base nodeT 6 (.slice A' (n+1) c') (n+1) (xs++rowOf [r]))→Hid (w.grownBy w' v.ownBlock)→Hid ((Value.slice A' (n+1) c').ownBlock=v.ownBlock∨(Value.slice A' (n+1) c').ownBlock=some w.heap.size)→K (a.put o.dst (.slice A' (n+1) c')) w') :
 if Region.wanted o (yielded ops a.tmps)=true then Oper.wp Tryz.prog o a w K Q else E:=by
 have hw:Region.wanted o (yielded ops a.tmps)=true:=by simp[Region.wanted,hgd]
 rw[if_pos hw];obtain ⟨i0,hi,hz0,hz1,hz2⟩:=info_parts z63;obtain ⟨v',w',hr,h2,h3,_,h5⟩:=run_append_own_at (P:=Tryz.prog) w base z2d o.type nodeT i0 _ 6 88 Tryz.underlying23 hi hz0 hz1 hz2 rfl (by decide) v n xs hown ad 1 c (rowOf [r]) rfl hnews (z3v _) (by unfold maxLen; omega) (by omega) hbase;obtain ⟨A',c',rfl⟩:=z3e h2;unfold Oper.wp execOp
 simp only[ho,resolve,invoke,builtin,Sem.run_bind,Sem.run_pure,Result.andThen_ok,List.map_toArray,List.map_cons,List.map_nil,hs,hx,hr]
 exact h A' c' w' h2 h3 h5
theorem z28 (w:World)(r:Nd×Hd)(t:TypeId):∀j u,(rowOf [r])[j]? =some u→(w.alloc (.cells #[.int .i64 r.1.kind,.string r.1.data,.slice r.2.A r.1.ptrs.length r.2.a,.int .i64 r.1.size,.int .i64 r.1.count,.slice r.2.B r.1.items.length r.2.b] t)).cell? ((⟨w.heap.size,0,none⟩:Addr).add j)=some u:=by
 intro j u hj
 rw[z1r,cell_of_row _ _ _ _ _ (0,0) (heap_alloc_new w _)]
 simp only[rowOf] at hj
 match j,hj with
 | 0,hj=>simpa using hj
 | 1,hj=>simpa using hj
 | 2,hj=>simpa using hj
 | 3,hj=>simpa using hj
 | 4,hj=>simpa using hj
 | 5,hj=>simpa using hj
open Go.RowKit Go.Deep
def NRowC (w:World)(B:Nat)(v:Value)(q:List (Nd×Hd))(M T:Nat):Prop :=
 w.ownsRow B nodeT 6 v q.length (rowOf q)∧∀r∈q,NdAt w (fun k=>FromC w B k∧some k≠v.ownBlock) M r.1 r.2∧totN M r.1≤T
theorem NRowC.nil (w:World)(B M T:Nat):NRowC w B (.slice none 0 0) [] M T:=⟨World.ownsRow_nil _ _ _ _,fun r h=>by cases h⟩
theorem NRowC.picked {w w':World}{B M T R n:Nat}{v:Value}{q:List (Nd×Hd)}(h:NRowC w B v q M T)(hp:z0h w R n w')(hR:R<B):NRowC w' B v q M T :=
 ⟨zg2 h.1 hp hR,fun r hr=>⟨(h.2 r hr).1.map' (fun k hk hs=>⟨⟨hs.1.1,z5e hs.1.2 (hp.2.block k hk (by have:=hs.1.1; omega))⟩,hs.2⟩) (fun p _ _ hs hc=>hc.block (hp.2.block _ hc.lt (by have:=hs.1.1; omega))),(h.2 r hr).2⟩⟩
theorem NRowC.store {w:World}{B M T g i:Nat}{u v:Value}{q:List (Nd×Hd)}(h:NRowC w B v q M T)(hg:g<B):NRowC (w.setCell ⟨g,i,none⟩ u) B v q M T :=
 ⟨ownsRow_setCell_below h.1 hg u,fun r hr=>⟨(h.2 r hr).1.map' (fun k hk hs=>⟨⟨hs.1.1,zmb hs.1.2 _ _⟩,hs.2⟩) (fun p _ _ hs hc=>hc.block (Below.heap_setCell w ⟨g,i,none⟩ u _ (by have:=hs.1.1; show p.block≠g; omega))),(h.2 r hr).2⟩⟩
theorem NRowC.drew {w:World}{B M T:Nat}{v:Value}{q:List (Nd×Hd)}(h:NRowC w B v q M T):NRowC w.drew B v q M T :=
 ⟨h.1.drew,fun r hr=>⟨(h.2 r hr).1.below ⟨rfl,rfl,rfl,Nat.le_refl _,fun _ _=>rfl⟩,(h.2 r hr).2⟩⟩
theorem NRowC.low {w w':World}{B M T:Nat}{v:Value}{q:List (Nd×Hd)}(h:NRowC w B v q M T)(hb:Below w.heap.size w w'):NRowC w' B v q M T :=
 ⟨h.1.kept (row:=none) ⟨hb.os,hb.tape,hb.output,hb.size,fun k hk _=>hb.block k hk⟩ (by
  by_cases hv:v.ownBlock=none
  · exact .inl hv
  · exact .inr (fun e=>hv e)),fun r hr=>⟨((h.2 r hr).1.below hb).weak (fun k hs=>⟨⟨hs.1.1,z6i hs.1.2 hb⟩,hs.2⟩),(h.2 r hr).2⟩⟩
theorem NRowC.alloc {w:World}{B M T:Nat}{v:Value}{q:List (Nd×Hd)}(h:NRowC w B v q M T)(o:Obj):NRowC (w.alloc o) B v q M T:=h.low ((Below.refl _ _).alloc (Nat.le_refl _) o)
theorem NRowC.next {w3 w4:World}{B H M T:Nat}{v v':Value}{q:List (Nd×Hd)}{y:Nd}{hy:Hd}(h:NRowC w3 B v q M T)(hny:NdAt w3 (FromC w3 H) M y hy)(hty:totN M y≤T)(hBH:B≤H)(hvH:∀k,v.ownBlock=some k→k<H)
 (hown:w4.ownsRow B nodeT 6 v' (q.length+1) (rowOf q++rowOf [(y,hy)])) (hgrow:w3.grownBy w4 v.ownBlock) (hat:v'.ownBlock=v.ownBlock∨v'.ownBlock=some w3.heap.size):NRowC w4 B v' (q++ [(y,hy)]) M T:=by
 have hS:∀k,k<w3.heap.size→(FromC w3 B k∧some k≠v.ownBlock)→(FromC w4 B k∧some k≠v'.ownBlock):=fun k hk ⟨h1,h2⟩=>⟨⟨h1.1,z5e h1.2 (hgrow.block k hk h2)⟩,by
  rcases hat with h | h
  · rw[h]; exact h2
  · rw[h]; intro e; injection e with e; omega⟩
 refine ⟨by rw[List.length_append,z4g]; exact hown,fun r hr=>?_⟩
 rcases List.mem_append.1 hr with hr | hr
 · exact ⟨(h.2 r hr).1.map' hS (fun p _ _ hs hc=>hc.block (hgrow.block _ hc.lt hs.2)),(h.2 r hr).2⟩
 · obtain rfl:=List.mem_singleton.1 hr
   have h1:NdAt w3 (fun k=>FromC w3 B k∧some k≠v.ownBlock) M y hy:=hny.weak (fun k hk=>⟨⟨Nat.le_trans hBH hk.1,hk.2⟩,fun e=>by have:=hvH k e.symm; have:=hk.1; omega⟩);exact ⟨h1.map' hS (fun p _ _ hs hc=>hc.block (hgrow.block _ hc.lt hs.2)),hty⟩
theorem NRowC.nds {w:World}{B M T:Nat}{v:Value}{q:List (Nd×Hd)}(h:NRowC w B v q M T)(hq:q.length≤1000000):∃A cap,v= .slice A q.length cap∧NdsAt w (FromC w B) (M+1) A (q.map (·.1))∧totL (M+1) (q.map (·.1))≤q.length*(1+T):=by
 obtain ⟨A,cap,hv,hn⟩:=zgg h.1 (by unfold maxLen; omega) (fun r hr=>(h.2 r hr).1.weak (fun _ h=>h.1));refine ⟨A,cap,hv,hn,?_⟩;rw[z0q]
 have:∀q:List (Nd×Hd),(∀r∈q,totN M r.1≤T)→((q.map (·.1)).map fun n=>1+totN M n).sum≤q.length*(1+T):=by
  intro q
  induction q with
  | nil=>intro _; simp
  | cons a t ih =>
   intro hq
   have h1:=hq a List.mem_cons_self;have h2:=ih (fun r hr=>hq r (List.mem_cons_of_mem _ hr))
   simp only[List.map_cons,List.sum_cons,List.length_cons,Nat.add_mul]
   omega
 exact this q (fun r hr=>(h.2 r hr).2)
end Go.Proofs.YtlbfffokkhccaaaGreatDoor
namespace Go.Proofs.YtlbfffokkhccaaaGreatDoor
open Go.RowKit
def blk:Option Addr→List Nat
 | none=> []
 | some a=> [a.block]
abbrev NB:=Nd×Hd×List Nat
def rowB (q:List NB):List Value:=rowOf (q.map fun r=>(r.1,r.2.1))
def blkB (q:List NB):List Nat:=q.flatMap fun r=>r.2.2
def OwS (w:World):Nat→Option Addr→Nat→List Nd→List Nat→Prop
 | 0,A,c,l,bs=>l= []∧w.ownsRow 0 nodeT 6 (.slice A 0 c) 0 []∧bs=blk A
 | m+1,A,c,l,bs=>∃q:List NB,q.map (·.1)=l∧w.ownsRow 0 nodeT 6 (.slice A q.length c) q.length (rowB q)∧bs=blk A++blkB q ∧
    ∀r∈q,r.1.data.size≤maxLen∧∃b1 b2,r.2.2=b1++b2∧OwS w m r.2.1.A r.2.1.a r.1.ptrs b1∧OwS w m r.2.1.B r.2.1.b r.1.items b2
def OwN (w:World)(m:Nat)(n:Nd)(h:Hd)(bs:List Nat):Prop:=n.data.size≤maxLen∧∃b1 b2,bs=b1++b2∧OwS w m h.A h.a n.ptrs b1∧OwS w m h.B h.b n.items b2
theorem z5d {w:World}{B n k c:Nat}{A:Option Addr}{xs:List Value}(h:w.ownsRow B nodeT 6 (.slice A n c) k xs):(A=none∧n=0∧c=0∧k=0)∨∃g cur,A=some ⟨g,0,none⟩∧n=k∧B≤g∧w.heap[g]? =some (.cells cur nodeT (0,0))∧k≤c∧c≤maxLen∧cur.size=c*6∧cur.toList.take (k*6)=xs:=by
 rcases h.2 with ⟨hv,h0⟩ | ⟨g,cap,cur,hv,h1,h2,h3,h4,h5,h6⟩
 · injection hv with a b c
   exact .inl ⟨a,b,c,h0⟩
 · injection hv with a b c
   subst a b c;exact .inr ⟨g,cur,rfl,rfl,h1,h2,h3,h4,h5,h6⟩
theorem z98 {w w':World}{n k c:Nat}{A:Option Addr}{xs:List Value}(h:w.ownsRow 0 nodeT 6 (.slice A n c) k xs)(hb:∀b∈blk A,w'.heap[b]? =w.heap[b]?):w'.ownsRow 0 nodeT 6 (.slice A n c) k xs:=by
 refine ⟨h.1,?_⟩
 rcases h.2 with hv | ⟨g,cap,cur,hv,h1,h2,h3⟩
 · exact .inl hv
 · refine .inr ⟨g,cap,cur,hv,h1,?_,h3⟩
   injection hv with a
   rw[hb g (by rw[a]; exact List.mem_singleton.2 rfl)];exact h2
theorem OwS.frame {w w':World} :∀(m:Nat) (A:Option Addr) (c:Nat) (l:List Nd) (bs:List Nat),OwS w m A c l bs→(∀b∈bs,w'.heap[b]? =w.heap[b]?)→OwS w' m A c l bs
 | 0,A,c,l,bs,⟨hl,ho,hb⟩,hf=>⟨hl,z98 ho (fun b hm=>hf b (by rw[hb]; exact hm)),hb⟩
 | m+1,A,c,l,bs,⟨q,hq,ho,hb,hr⟩,hf=>by
   refine ⟨q,hq,z98 ho (fun b hm=>hf b (by rw[hb]; exact List.mem_append_left _ hm)),hb,fun r hm=>?_⟩;obtain ⟨h0,b1,b2,he,h1,h2⟩:=hr r hm
   have hsub:∀b∈r.2.2,w'.heap[b]? =w.heap[b]? :=fun b hbm=>hf b (by rw[hb]; exact List.mem_append_right _ (List.mem_flatMap.2 ⟨r,hm,hbm⟩))
   exact ⟨h0,b1,b2,he,OwS.frame m _ _ _ _ h1 (fun b hbm=>hsub b (by rw[he]; exact List.mem_append_left _ hbm)),OwS.frame m _ _ _ _ h2 (fun b hbm=>hsub b (by rw[he]; exact List.mem_append_right _ hbm))⟩
theorem OwN.frame {w w':World}{m:Nat}{n:Nd}{h:Hd}{bs:List Nat}(hn:OwN w m n h bs)(hf:∀b∈bs,w'.heap[b]? =w.heap[b]?):OwN w' m n h bs:=by
 obtain ⟨h0,b1,b2,he,h1,h2⟩:=hn;exact ⟨h0,b1,b2,he,OwS.frame m _ _ _ _ h1 (fun b hbm=>hf b (by rw[he]; exact List.mem_append_left _ hbm)),OwS.frame m _ _ _ _ h2 (fun b hbm=>hf b (by rw[he]; exact List.mem_append_right _ hbm))⟩
theorem zq7 {w:World}{n k c:Nat}{A:Option Addr}{xs:List Value}(h:w.ownsRow 0 nodeT 6 (.slice A n c) k xs):∀b∈blk A,b<w.heap.size∧Clean w b:=by
 intro b hb
 rcases z5d h with ⟨rfl,_⟩ | ⟨g,cur,rfl,_,_,hg,_⟩
 · cases hb
 · obtain rfl:=List.mem_singleton.1 hb
   exact ⟨z00 hg,_,_,hg⟩
theorem OwS.lt {w:World} :∀(m:Nat) (A:Option Addr) (c:Nat) (l:List Nd) (bs:List Nat),OwS w m A c l bs→∀b∈bs,b<w.heap.size∧Clean w b
 | 0,A,c,l,bs,⟨hl,ho,hb⟩=>by rw[hb]; exact zq7 ho
 | m+1,A,c,l,bs,⟨q,hq,ho,hb,hr⟩=>by
   rw[hb]
   intro b hm
   rcases List.mem_append.1 hm with hm | hm
   · exact zq7 ho b hm
   · obtain ⟨r,hrm,hbr⟩:=List.mem_flatMap.1 hm
     obtain ⟨_,b1,b2,he,h1,h2⟩:=hr r hrm
     have hbr':b∈b1++b2:=by rw[← he]; exact hbr
     rcases List.mem_append.1 hbr' with hbr' | hbr'
     · exact OwS.lt m _ _ _ _ h1 b hbr'
     · exact OwS.lt m _ _ _ _ h2 b hbr'
theorem OwN.lt {w:World}{m:Nat}{n:Nd}{h:Hd}{bs:List Nat}(hn:OwN w m n h bs):∀b∈bs,b<w.heap.size∧Clean w b:=by
 obtain ⟨_,b1,b2,he,h1,h2⟩:=hn
 intro b hb
 rw[he] at hb
 rcases List.mem_append.1 hb with hb | hb
 · exact h1.lt _ _ _ _ _ b hb
 · exact h2.lt _ _ _ _ _ b hb
theorem OwS.nil (w:World):∀m,OwS w m none 0 [] []
 | 0=>⟨rfl,World.ownsRow_nil _ _ _ _,rfl⟩
 | m+1=>⟨[],rfl,World.ownsRow_nil _ _ _ _,rfl,fun r h=>by cases h⟩
theorem OwN.none (w:World)(m:Nat):OwN w m (.mk 0 ⟨#[]⟩ [] 0 0 []) ⟨none,0,none,0⟩ []:=⟨by decide,[],[],rfl,OwS.nil w m,OwS.nil w m⟩
theorem OwS.succ {w:World} :∀(m:Nat) (A:Option Addr) (c:Nat) (l:List Nd) (bs:List Nat),OwS w m A c l bs→OwS w (m+1) A c l bs
 | 0,A,c,l,bs,⟨hl,ho,hb⟩=>⟨[],by rw[hl]; rfl,ho,by rw[hb]; simp[blkB],fun r h=>by cases h⟩
 | m+1,A,c,l,bs,⟨q,hq,ho,hb,hr⟩=>⟨q,hq,ho,hb,fun r hm=>by
   obtain ⟨h0,b1,b2,he,h1,h2⟩:=hr r hm
   exact ⟨h0,b1,b2,he,OwS.succ m _ _ _ _ h1,OwS.succ m _ _ _ _ h2⟩⟩
def InB (w:World)(bs:List Nat):Nat→Prop:=fun k=>k∈bs∧Clean w k
theorem zro {w:World}{n k c:Nat}{A:Option Addr}{xs:List Value}(h:w.ownsRow 0 nodeT 6 (.slice A n c) k xs):k≤maxLen:=by
 rcases z5d h with ⟨_,_,_,h0⟩ | ⟨_,_,_,_,_,_,h1,h2,_⟩
 · omega
 · omega
theorem OwS.nds {w:World} :∀(m:Nat) (A:Option Addr) (c:Nat) (l:List Nd) (bs:List Nat),OwS w m A c l bs→NdsAt w (InB w bs) m A l
 | 0,A,c,l,bs,⟨hl,_,_⟩=>hl
 | m+1,A,c,l,bs,⟨q,hq,ho,hb,hr⟩=>by
   have hlen:=zro ho;refine ⟨by rw[← hq,List.length_map]; exact hlen,q.map fun r=>(r.1,r.2.1),by rw[List.map_map]; exact hq,?_,fun r hm=>?_⟩
   · rcases z5d ho with ⟨_,h0,_⟩ | ⟨g,cur,hA,_,_,hg,h3,h4,h5,h6⟩
     · left
       rw[List.eq_nil_of_length_eq_zero h0]; rfl
     · right
       refine ⟨⟨g,0,Option.none⟩,hA,⟨by rw[hb,hA]; exact List.mem_append_left _ (List.mem_singleton.2 rfl),_,_,hg⟩,z8i fun j u hj=>?_⟩;rw[z1r,cell_of_row _ _ _ _ _ _ hg]
       have hj':(cur.toList.take (q.length*6))[j]? =some u:=by rw[h6]; exact hj
       have hlt:j<q.length*6:=by
        rcases Nat.lt_or_ge j (q.length*6) with h | h
        · exact h
        · rw[List.getElem?_eq_none (by rw[List.length_take]; omega)] at hj'; cases hj'
       rw[List.getElem?_take_of_lt hlt] at hj'
       simpa using hj'
   · obtain ⟨r0,hr0,rfl⟩:=List.mem_map.1 hm
     obtain ⟨h0,b1,b2,he,h1,h2⟩:=hr r0 hr0
     have hsub:∀b∈r0.2.2,b∈bs:=fun b hbm=>by rw[hb]; exact List.mem_append_right _ (List.mem_flatMap.2 ⟨r0,hr0,hbm⟩)
     exact ⟨h0,(OwS.nds m _ _ _ _ h1).weak (fun k hk=>⟨hsub k (by rw[he]; exact List.mem_append_left _ hk.1),hk.2⟩),(OwS.nds m _ _ _ _ h2).weak (fun k hk=>⟨hsub k (by rw[he]; exact List.mem_append_right _ hk.1),hk.2⟩)⟩
theorem OwN.nd {w:World}{m:Nat}{n:Nd}{h:Hd}{bs:List Nat}(hn:OwN w m n h bs):NdAt w (InB w bs) m n h:=by
 obtain ⟨h0,b1,b2,he,h1,h2⟩:=hn;exact ⟨h0,(h1.nds _ _ _ _ _).weak (fun k hk=>⟨by rw[he]; exact List.mem_append_left _ hk.1,hk.2⟩),(h2.nds _ _ _ _ _).weak (fun k hk=>⟨by rw[he]; exact List.mem_append_right _ hk.1,hk.2⟩)⟩
def RowO (w:World)(B:Nat)(v:Value)(q:List NB)(M:Nat):Prop :=
 w.ownsRow B nodeT 6 v q.length (rowB q)∧(∀r∈q,OwN w M r.1 r.2.1 r.2.2)∧(blkB q).Nodup∧∀b∈blkB q,B≤b∧some b≠v.ownBlock
theorem RowO.nil (w:World)(B M:Nat):RowO w B (.slice none 0 0) [] M:=⟨World.ownsRow_nil _ _ _ _,fun r h=>(by cases h),List.nodup_nil,fun b h=>(by cases h)⟩
theorem RowO.lt {w:World}{B M:Nat}{v:Value}{q:List NB}(h:RowO w B v q M):∀b∈blkB q,b<w.heap.size:=by
 intro b hb
 obtain ⟨r,hr,hbr⟩:=List.mem_flatMap.1 hb;exact ((h.2.1 r hr).lt b hbr).1
theorem RowO.low {w w':World}{B M:Nat}{v:Value}{q:List NB}(h:RowO w B v q M)(hb:Below w.heap.size w w'):RowO w' B v q M :=
 ⟨h.1.kept (row:=none) ⟨hb.os,hb.tape,hb.output,hb.size,fun k hk _=>hb.block k hk⟩ (by
  by_cases hv:v.ownBlock=none
  · exact .inl hv
  · exact .inr (fun e=>hv e)),fun r hr=>(h.2.1 r hr).frame (fun b hbr=>hb.block b ((h.2.1 r hr).lt b hbr).1),h.2.2⟩
theorem RowO.alloc {w:World}{B M:Nat}{v:Value}{q:List NB}(h:RowO w B v q M)(o:Obj):RowO (w.alloc o) B v q M:=h.low ((Below.refl _ _).alloc (Nat.le_refl _) o)
theorem ze4 (q:List NB)(r:NB):blkB (q++ [r])=blkB q++r.2.2:=by unfold blkB; simp
theorem znd (q:List NB)(r:NB):rowB (q++ [r])=rowB q++rowOf [(r.1,r.2.1)]:=by unfold rowB; rw[List.map_append,z4g]; rfl
theorem RowO.next {w3 w4:World}{B H M:Nat}{v v':Value}{q:List NB}{y:Nd}{hy:Hd}{bs:List Nat}(h:RowO w3 B v q M)(hny:OwN w3 M y hy bs)(hnd:bs.Nodup)(hbs:∀b∈bs,H≤b)(hBH:B≤H)(hqH:∀b∈blkB q,b<H)(hvH:∀k,v.ownBlock=some k→k<H)
 (hown:w4.ownsRow B nodeT 6 v' (q.length+1) (rowB q++rowOf [(y,hy)])) (hgrow:w3.grownBy w4 v.ownBlock) (hat:v'.ownBlock=v.ownBlock∨v'.ownBlock=some w3.heap.size):RowO w4 B v' (q++ [(y,hy,bs)]) M:=by
 have hk:∀b,b<w3.heap.size→some b≠v.ownBlock→w4.heap[b]? =w3.heap[b]? ∧some b≠v'.ownBlock:=fun b h1 h2=>⟨hgrow.block b h1 h2,by
  rcases hat with e | e
  · rw[e]; exact h2
  · rw[e]; intro e2; injection e2 with e2; omega⟩
 have hy':∀b∈bs,b<w3.heap.size∧some b≠v.ownBlock:=fun b hb=>⟨(hny.lt b hb).1,fun e=>by have:=hvH b e.symm; have:=hbs b hb; omega⟩
 refine ⟨by rw[List.length_append,znd]; exact hown,fun r hr=>?_,?_,?_⟩
 · rcases List.mem_append.1 hr with hr | hr
   · exact (h.2.1 r hr).frame (fun b hb=>(hk b (((h.2.1 r hr).lt b hb).1) (h.2.2.2 b (List.mem_flatMap.2 ⟨r,hr,hb⟩)).2).1)
   · obtain rfl:=List.mem_singleton.1 hr
     exact hny.frame (fun b hb=>(hk b (hy' b hb).1 (hy' b hb).2).1)
 · rw[ze4]
   exact List.nodup_append.2 ⟨h.2.2.1,hnd,fun a ha b hb e=>by have:=hqH a ha; have:=hbs b hb; omega⟩
 · intro b hb
   rw[ze4] at hb
   rcases List.mem_append.1 hb with hb | hb
   · exact ⟨(h.2.2.2 b hb).1,(hk b (h.lt b hb) (h.2.2.2 b hb).2).2⟩
   · exact ⟨Nat.le_trans hBH (hbs b hb),(hk b (hy' b hb).1 (hy' b hb).2).2⟩
theorem znj {w:World}{B:Nat}{v:Value}{n:Nat}{xs:List Value}(h:w.ownsRow B nodeT 6 v n xs):w.ownsRow 0 nodeT 6 v n xs:=by
 refine ⟨h.1,?_⟩
 rcases h.2 with hv | ⟨g,cap,cur,hv,_,h3⟩
 · exact .inl hv
 · exact .inr ⟨g,cap,cur,hv,Nat.zero_le _,h3⟩
theorem RowO.done {w:World}{B M:Nat}{v:Value}{q:List NB}(h:RowO w B v q M):∃A c bs,v= .slice A q.length c∧OwS w (M+1) A c (q.map (·.1)) bs∧bs.Nodup∧∀b∈bs,B≤b:=by
 have hv:∃A c,v= .slice A q.length c:=by
  rcases h.1.2 with ⟨h1,h0⟩ | ⟨g,cap,cur,h1,_⟩
  · exact ⟨none,0,by rw[h1,h0]⟩
  · exact ⟨_,_,h1⟩
 obtain ⟨A,c,rfl⟩:=hv;refine ⟨A,c,blk A++blkB q,rfl,⟨q,rfl,znj h.1,rfl,fun r hr=>h.2.1 r hr⟩,?_,?_⟩
 · refine List.nodup_append.2 ⟨?_,h.2.2.1,fun a ha b hb e=>?_⟩
   · cases A with
     | none=>exact List.nodup_nil
     | some x=>exact List.nodup_cons.2 ⟨by simp,List.nodup_nil⟩
   · cases A with
     | none=>cases ha
     | some x =>
      obtain rfl:=List.mem_singleton.1 ha;exact (h.2.2.2 b hb).2 (by rw[← e]; rfl)
 · intro b hb
   rcases List.mem_append.1 hb with hb | hb
   · rcases z5d h.1 with ⟨rfl,_⟩ | ⟨g,cur,rfl,_,hg,_⟩
     · cases hb
     · obtain rfl:=List.mem_singleton.1 hb; exact hg
   · exact (h.2.2.2 b hb).1
def NewO (m:Nat)(n:Nd)(w:World)(e:Ending)(w':World):Prop:=∃(h:Hd) (bs:List Nat),e= .returned (.agg #[.int .i64 n.kind,.string n.data,.slice h.A n.ptrs.length h.a,.int .i64 n.size,.int .i64 n.count,.slice h.B n.items.length h.b])∧OwN w' m n h bs∧bs.Nodup∧(∀b∈bs,w.heap.size≤b)∧Below w.heap.size w w'
def NewOS (m:Nat)(l:List Nd)(w:World)(e:Ending)(w':World):Prop:=∃(A:Option Addr) (c:Nat) (bs:List Nat),e= .returned (.slice A l.length c)∧OwS w' m A c l bs∧bs.Nodup∧(∀b∈bs,w.heap.size≤b)∧Below w.heap.size w w'
theorem OwN.below {w w':World}{m:Nat}{n:Nd}{h:Hd}{bs:List Nat}(hn:OwN w m n h bs)(hb:Below w.heap.size w w'):OwN w' m n h bs:=hn.frame (fun b hm=>hb.block b (hn.lt b hm).1)
theorem OwS.below {w w':World}{m:Nat}{A:Option Addr}{c:Nat}{l:List Nd}{bs:List Nat}(hn:OwS w m A c l bs)(hb:Below w.heap.size w w'):OwS w' m A c l bs:=hn.frame _ _ _ _ _ (fun b hm=>hb.block b (hn.lt _ _ _ _ _ b hm).1)
theorem OwN.clean {w:World}{m:Nat}{n:Nd}{h:Hd}{bs:List Nat}(hn:OwN w m n h bs):NdAt w (Clean w) m n h:=hn.nd.weak (fun _ hk=>hk.2)
theorem zn1 {p:Nd}(h:formN p=true)(hk:(canN p).kind=0):canN p=z0i:=by
 rw[zmx] at hk;rw[z4p h hk,z2g]
theorem zp9 {y:Nd}{D P:Nat}(k1:y.kind=1)(k3:y.size=0)(k4:y.count=0)(k5:y.items= [])(h8:y.data.size%8=0)(hD8:D%8=0)(hD1:(canN y).data.size≤D)(hD2:D≤y.data.size)(hP1:endC (y.ptrs.map canN)≤P)(hP2:P≤y.ptrs.length)(hn:∀p∈y.ptrs,formN p=true) :
 evenN D P (canN y)= .mk 1 (y.data.extract 0 D) ((y.ptrs.map canN).take P) 0 0 []:=by
 have hd:=z3u k1 k3 k4 k5
 rw[zmy hP1 (by rw[List.length_map]; exact hP2) (fun q hq h0=>by
  obtain ⟨p,hp,rfl⟩:=List.mem_map.1 hq
  exact zn1 (hn p hp) h0)]
 rw[show D=8*(D/8) by omega,zna (j:=D/8) h8 (by omega) (by omega)];rw[z24 k1 k3 k4 k5] at hd ⊢;have hd':(trimD y.data).size=8*tw y.data.data.toList:=hd
 show Nd.mk 1 (trimD y.data++zeroD (8*(D/8)-(trimD y.data).size)) (endP (y.ptrs.map canN)++List.replicate (P-(endP (y.ptrs.map canN)).length) z0i) 0 0 []=_
 rw[z1q,show 8*(D/8)-(trimD y.data).size=8*(D/8-tw y.data.data.toList) by omega]
mutual
def sizN:Nd→Nat
 | .mk _ d p _ _ i=>d.size+sizL p+sizL i
def sizL:List Nd→Nat
 | []=>0
 | n :: t=>1+sizN n+sizL t
end
theorem z4l:∀l:List Nd,sizL l=(l.map fun n=>1+sizN n).sum
 | []=>by rw[sizL]; rfl
 | n :: t=>by rw[sizL,z4l t]; simp
theorem z38 (n:Nd):sizN n=n.data.size+sizL n.ptrs+sizL n.items:=by
 cases n with
 | mk k d p s c i=>rw[sizN]; rfl
theorem z8j:sizL []=0:=by rw[sizL]
theorem z8a {w:World}{S:Nat→Prop} :∀(m:Nat) (A:Option Addr) (l:List Nd),NdsAt w S m A l→totL m l=sizL l
 | 0,A,l,h=>by rw[h.zero,z8j]; rfl
 | m+1,A,l,h=>by
   rw[z0q,z4l]
   congr 1
   apply List.map_congr_left
   intro n hn
   obtain ⟨hd,h1⟩:=h.mem n hn;unfold totN;rw[z38,z8a m _ _ h1.2.1,z8a m _ _ h1.2.2]
theorem z3c {w:World}{S:Nat→Prop}{m:Nat}{n:Nd}{h:Hd}(hn:NdAt w S m n h):totN m n=sizN n:=by
 unfold totN;rw[z38,z8a m _ _ hn.2.1,z8a m _ _ hn.2.2]
theorem zhp (a b:List Nd):sizL (a++b)=sizL a+sizL b:=by rw[z4l,z4l,z4l,List.map_append,List.sum_append]
theorem za5 (l:List Nd)(k:Nat):sizL (l.take k)≤sizL l:=by
 conv=>rhs; rw[← List.take_append_drop k l]
 rw[zhp]; omega
theorem zf7 {l:List Nd}{f:Nd→Nd}(h:∀n∈l,sizN (f n)≤sizN n):sizL (l.map f)≤sizL l:=by
 rw[z4l,z4l,List.map_map]
 exact z62 _ _ _ fun n hn=>by have:=h n hn; show 1+sizN (f n)≤1+sizN n; omega
theorem zms {n:Nd}(hf:formN n=true)(hk:∀p∈ptrsL n,formN p=true):evenL (n.items.map canN)=n.items.map (fun y=> .mk 1 (y.data.extract 0 (topD (n.items.map canN))) ((y.ptrs.map canN).take (topP (n.items.map canN))) 0 0 []) ∧
 ∀y∈n.items,y.kind=1∧y.data.size%8=0∧y.size=0∧y.count=0∧y.items= []∧topD (n.items.map canN)≤y.data.size∧topP (n.items.map canN)≤y.ptrs.length:=by
 rcases z0d hf with hc | hc | hc
 · rw[z06 hc.2.2.2.2.2]; exact ⟨rfl,fun y h=>by cases h⟩
 · rw[z06 hc.2.2.2.2]; exact ⟨rfl,fun y h=>by cases h⟩
 · obtain ⟨h1,h2,hc | hc | hc⟩:=hc
   · rw[z06 hc.2.2.2.2]; exact ⟨rfl,fun y h=>by cases h⟩
   · rw[z06 hc.2.2.2]; exact ⟨rfl,fun y h=>by cases h⟩
   · have hi:=hc.2.2.2.2
     have hb:=z19 hi
     have hD:topD (n.items.map canN)≤(n.items.headD default).data.size:=zfy fun z hz=>by
      obtain ⟨y,hy,rfl⟩:=List.mem_map.1 hz;obtain ⟨k1,k2,k3,k4,k5,k6,_⟩:=hb y hy;rw[z3u k1 k3 k4 k5];have l2:=tw_le y.data.data.toList
      have l3:y.data.data.toList.length=y.data.size:=by simp
      omega
     have hP:topP (n.items.map canN)≤(n.items.headD default).ptrs.length:=zfd fun z hz=>by
      obtain ⟨y,hy,rfl⟩:=List.mem_map.1 hz;obtain ⟨k1,k2,k3,k4,k5,_,k7⟩:=hb y hy;rw[z24 k1 k3 k4 k5]
      show (endP (y.ptrs.map canN)).length≤_
      have l4:=z7c (y.ptrs.map canN);rw[z1q];rw[List.length_map] at l4;omega
     have h8:topD (n.items.map canN)%8=0:=zk2 fun z hz=>by
      obtain ⟨y2,hy2,rfl⟩:=List.mem_map.1 hz;obtain ⟨k1,k2,k3,k4,k5,_,_⟩:=hb y2 hy2
      rw[z3u k1 k3 k4 k5]; omega
     refine ⟨?_,fun y hy=>?_⟩
     · show (n.items.map canN).map (evenN (topD (n.items.map canN)) (topP (n.items.map canN)))=_
       rw[List.map_map]
       apply List.map_congr_left
       intro y hy
       obtain ⟨k1,k2,k3,k4,k5,k6,k7⟩:=hb y hy;have hy1:=z7f _ _ (List.mem_map.2 ⟨y,hy,rfl⟩:canN y∈n.items.map canN);have hy2:=z9b _ _ (List.mem_map.2 ⟨y,hy,rfl⟩:canN y∈n.items.map canN)
       have hy3:(canN y).ptrs.length=endC (y.ptrs.map canN):=by rw[z24 k1 k3 k4 k5]; exact z1q _
       exact zp9 k1 k3 k4 k5 k2 h8 hy1 (by omega) (by omega) (by omega) (fun p hp=>hk p (List.mem_append_right _ (List.mem_flatMap.2 ⟨y,hy,hp⟩)))
     · obtain ⟨k1,k2,k3,k4,k5,k6,k7⟩:=hb y hy
       exact ⟨k1,k2,k3,k4,k5,by omega,by omega⟩
theorem zd2:∀(d:Nat) (n:Nd),okN d n=true→sizN (canN n)≤sizN n
 | 0,n,h=>by
   have hf:=(z1h h).1
   simp only[okN,Bool.and_eq_true,decide_eq_true_eq] at h
   rw[z4p hf h.2,z2g]; exact Nat.le_refl _
 | d+1,n,h=>by
   obtain ⟨hf,hk⟩:=z1h h
   have hp:sizL (n.ptrs.map canN)≤sizL n.ptrs:=zf7 fun p hp=>zd2 d p (hk p (List.mem_append_left _ hp))
   rcases z0d hf with hc | hc | hc
   · rw[z4p hf hc.1,z2g]; exact Nat.le_refl _
   · obtain ⟨h1,h2,h3,h4,h5⟩:=hc
     rw[z24 h1 h3 h4 (z06 h5),z38,z38 n]
     show (trimD n.data).size+sizL (endP (n.ptrs.map canN))+sizL []≤_
     have l1:=z2j n.data;have l2:=tw_le n.data.data.toList
     have l3:n.data.data.toList.length=n.data.size:=by simp
     have l4:sizL (endP (n.ptrs.map canN))≤sizL (n.ptrs.map canN):=za5 _ _;rw[z8j];omega
   · have h1:=hc.1
     obtain ⟨he,hb⟩:=zms hf (fun p hp=>(z1h (hk p hp)).1);rw[z6g h1,z38,z38 n]
     show n.data.size+sizL (n.ptrs.map canN)+sizL (evenL (n.items.map canN))≤_
     have:sizL (evenL (n.items.map canN))≤sizL n.items:=by
      rw[he]
      refine zf7 fun y hy=>?_
      obtain ⟨k1,k2,k3,k4,k5,k6,k7⟩:=hb y hy;rw[z38,z38 y,k5]
      show (y.data.extract 0 _).size+sizL ((y.ptrs.map canN).take _)+sizL []≤_
      have l1:(y.data.extract 0 (topD (n.items.map canN))).size≤y.data.size:=by simp[ByteArray.size_extract]; omega
      have l2:=za5 (y.ptrs.map canN) (topP (n.items.map canN))
      have l3:sizL (y.ptrs.map canN)≤sizL y.ptrs:=zf7 fun p hp=>zd2 d p (hk p (List.mem_append_right _ (List.mem_flatMap.2 ⟨y,hy,hp⟩)))
      omega
     omega
theorem zlc {n:Nd}(h:z0g n=true)(hk:n.kind=1):n.data.size%8=0∧n.data.size≤1592:=by
 obtain ⟨h1,h2⟩:=z21 h;have hf:=(z1h h1).1;rw[z1c h1] at h2
 have h3:(n.data.size+7)/8≤ownN n:=by unfold ownN ownB; omega
 rcases z0d hf with hc | hc | hc
 · omega
 · exact ⟨by have:=hc.2.1; omega,by have:=hc.2.1; omega⟩
 · omega
def cellE (r:Nd×Hd):Nat→Value
 | 0=> .int .i64 r.1.kind
 | 1=> .string r.1.data
 | 2=> .slice r.2.A r.1.ptrs.length r.2.a
 | 3=> .int .i64 r.1.size
 | 4=> .int .i64 r.1.count
 | _=> .slice r.2.B r.1.items.length r.2.b
theorem z56:∀(q:List (Nd×Hd)) (j:Nat),(rowOf q)[j]? =(q[j/6]?).map fun r=>cellE r (j%6)
 | [],j=>by simp[rowOf]
 | r :: t,0=>rfl
 | r :: t,1=>rfl
 | r :: t,2=>rfl
 | r :: t,3=>rfl
 | r :: t,4=>rfl
 | r :: t,5=>rfl
 | r :: t,j+1+1+1+1+1+1=>by
   show (rowOf t)[j]? =_
   rw[z56 t j,show (j+1+1+1+1+1+1)/6=j/6+1 by omega,show (j+1+1+1+1+1+1)%6=j%6 by omega,List.getElem?_cons_succ]
theorem zmt {cur:Array Value}{c e:Nat}{pre post:List (Nd×Hd)}{r r':Nd×Hd}(hs:cur.size=c*6)(hle:(pre++r :: post).length≤c)(hc:cur.toList.take ((pre++r :: post).length*6)=rowOf (pre++r :: post))(he:e<6)(hr:∀f,f<6→f≠e→cellE r' f=cellE r f) :
 (cur.setIfInBounds (pre.length*6+e) (cellE r' e)).toList.take ((pre++r' :: post).length*6)=rowOf (pre++r' :: post):=by
 have hl:(pre++r' :: post).length=(pre++r :: post).length:=by simp
 rw[hl]
 have hpl:pre.length<(pre++r :: post).length:=by simp
 apply List.ext_getElem?
 intro j
 have h0:(cur.toList.take ((pre++r :: post).length*6))[j]? =((pre++r :: post)[j/6]?).map fun r=>cellE r (j%6):=by rw[hc,z56]
 rw[z56]
 by_cases hj:j<(pre++r :: post).length*6
 · rw[List.getElem?_take_of_lt hj] at h0 ⊢
   rw[Array.getElem?_toList] at h0 ⊢;rw[Array.getElem?_setIfInBounds]
   have hset:(pre++r' :: post)[j/6]? =if j/6=pre.length then some r' else (pre++r :: post)[j/6]? :=by
    by_cases h:j/6=pre.length
    · rw[if_pos h,h,List.getElem?_append_right (Nat.le_refl _),Nat.sub_self]; rfl
    · rw[if_neg h]
      rcases Nat.lt_or_ge (j/6) pre.length with h2 | h2
      · rw[List.getElem?_append_left h2,List.getElem?_append_left h2]
      · rw[List.getElem?_append_right h2,List.getElem?_append_right h2]
        obtain ⟨x,hx⟩:∃x,j/6-pre.length=x+1:=⟨j/6-pre.length-1,by omega⟩
        rw[hx,List.getElem?_cons_succ,List.getElem?_cons_succ]
   rw[hset]
   have hat:(pre++r :: post)[pre.length]? =some r:=by rw[List.getElem?_append_right (Nat.le_refl _),Nat.sub_self]; rfl
   by_cases h1:pre.length*6+e=j
   · rw[if_pos h1,if_pos (by omega),if_pos (by omega)]
     show some (cellE r' e)=some (cellE r' (j%6))
     rw[show j%6=e by omega]
   · rw[if_neg h1]
     by_cases h2:j/6=pre.length
     · rw[if_pos h2]
       rw[h2,hat] at h0;rw[h0]
       show some (cellE r (j%6))=some (cellE r' (j%6))
       rw[hr (j%6) (by omega) (by omega)]
     · rw[if_neg h2,h0]
 · rw[List.getElem?_eq_none (by rw[List.length_take]; omega)]
   rw[List.getElem?_eq_none (by rw[hl]; omega)]; rfl
def RowG (w:World)(g c:Nat)(q:List NB)(M:Nat):Prop :=
 ∃cur:Array Value,w.heap[g]? =some (.cells cur nodeT (0,0))∧cur.size=c*6∧q.length≤c∧c≤maxLen∧cur.toList.take (q.length*6)=rowB q∧(∀r∈q,OwN w M r.1 r.2.1 r.2.2)∧(blkB q).Nodup∧g∉blkB q
theorem zgo (a b:List NB):rowB (a++b)=rowB a++rowB b:=by unfold rowB; rw[List.map_append,z4g]
theorem z27 (a b:List NB):blkB (a++b)=blkB a++blkB b:=by unfold blkB; rw[List.flatMap_append]
theorem z22 (r:NB)(b:List NB):blkB (r :: b)=r.2.2++blkB b:=by unfold blkB; rw[List.flatMap_cons]
theorem OwS.rowG {w:World}{M g c:Nat}{l:List Nd}{bs:List Nat}(h:OwS w (M+1) (some ⟨g,0,none⟩) c l bs)(hnd:bs.Nodup):∃q:List NB,q.map (·.1)=l∧bs=g :: blkB q∧RowG w g c q M:=by
 obtain ⟨q,hq,ho,hb,hr⟩:=h
 rcases z5d ho with ⟨h1,_⟩ | ⟨g',cur,hg,h1,h2,h3,h4,h5,h6,h7⟩
 · cases h1
 · injection hg with hg
   injection hg with hg
   subst hg;have hb':bs=g :: blkB q:=hb;rw[hb'] at hnd;have:=List.nodup_cons.1 hnd;exact ⟨q,hq,hb',cur,h3,h6,h4,h5,h7,hr,this.2,this.1⟩
theorem RowG.own {w:World}{M g c:Nat}{q:List NB}(h:RowG w g c q M):OwS w (M+1) (some ⟨g,0,none⟩) c (q.map (·.1)) (g :: blkB q)∧(g :: blkB q).Nodup:=by
 obtain ⟨cur,h1,h2,h3,h4,h5,h6,h7,h8⟩:=h;exact ⟨⟨q,rfl,⟨by rw[← h5,List.length_take]; simp; omega,.inr ⟨g,c,cur,rfl,Nat.zero_le _,h1,h3,h4,h2,h5⟩⟩,rfl,h6⟩,List.nodup_cons.2 ⟨h8,h7⟩⟩
theorem RowG.set {w:World}{M g c:Nat}{pre post:List NB}{r:NB}{n':Nd}(e:Nat)(v:Value)(h:RowG w g c (pre++r :: post) M)(he:e<6)(hv:v=cellE (n',r.2.1) e)(hr:∀f,f<6→f≠e→cellE (n',r.2.1) f=cellE (r.1,r.2.1) f)
 (hp:n'.ptrs=r.1.ptrs) (hi:n'.items=r.1.items) (hd:n'.data.size≤maxLen):RowG (w.setCell ⟨g,pre.length*6+e,none⟩ v) g c (pre++(n',r.2) :: post) M:=by
 subst hv;obtain ⟨cur,h1,h2,h3,h4,h5,h6,h7,h8⟩:=h
 have hlen:(pre++(n',r.2) :: post).length=(pre++r :: post).length:=by simp
 have hblk:blkB (pre++(n',r.2) :: post)=blkB (pre++r :: post):=by rw[z27,z27,z22,z22]
 have hother:∀b,b≠g→(w.setCell ⟨g,pre.length*6+e,none⟩ (cellE (n',r.2.1) e)).heap[b]? =w.heap[b]? :=fun b hb=>Below.heap_setCell w ⟨g,pre.length*6+e,none⟩ _ b hb
 have hfr:∀x∈pre++r :: post,∀b∈x.2.2,b≠g:=fun x hx b hb e=>h8 (by rw[← e]; exact List.mem_flatMap.2 ⟨x,hx,hb⟩)
 refine ⟨_,z08 h1 _ _,by simpa using h2,by rw[hlen]; exact h3,h4,?_,fun x hx=>?_,by rw[hblk]; exact h7,by rw[hblk]; exact h8⟩
 · have h5':cur.toList.take ((pre.map (fun r=>(r.1,r.2.1))++(r.1,r.2.1) :: post.map (fun r=>(r.1,r.2.1))).length*6)=rowOf (pre.map (fun r=>(r.1,r.2.1))++(r.1,r.2.1) :: post.map (fun r=>(r.1,r.2.1))):=by
    have:=h5;unfold rowB at this;rw[List.map_append,List.map_cons] at this
    simpa using this
   have:=zmt (r':=(n',r.2.1)) h2 (by simpa using h3) h5' he hr;unfold rowB;rw[List.map_append,List.map_cons]
   simpa using this
 · have hold:∀x∈pre++r :: post,OwN (w.setCell ⟨g,pre.length*6+e,none⟩ (cellE (n',r.2.1) e)) M x.1 x.2.1 x.2.2:=fun x hx=>(h6 x hx).frame (fun b hb=>hother b (hfr x hx b hb))
   rcases List.mem_append.1 hx with hx | hx
   · exact hold x (List.mem_append_left _ hx)
   · rcases List.mem_cons.1 hx with rfl | hx
     · obtain ⟨_,b1,b2,e1,e2,e3⟩:=hold r (List.mem_append_right _ List.mem_cons_self)
       refine ⟨hd,b1,b2,e1,?_,?_⟩
       · show OwS _ M r.2.1.A r.2.1.a n'.ptrs b1
         rw[hp]; exact e2
       · show OwS _ M r.2.1.B r.2.1.b n'.items b2
         rw[hi]; exact e3
     · exact hold x (List.mem_append_right _ (List.mem_cons_of_mem _ hx))
theorem RowG.frame {w w':World}{M g c:Nat}{q:List NB}(h:RowG w g c q M)(hf:∀b,b=g∨b∈blkB q→w'.heap[b]? =w.heap[b]?):RowG w' g c q M:=by
 obtain ⟨cur,h1,h2,h3,h4,h5,h6,h7,h8⟩:=h;exact ⟨cur,(hf g (.inl rfl)).trans h1,h2,h3,h4,h5,fun r hr=>(h6 r hr).frame (fun b hb=>hf b (.inr (List.mem_flatMap.2 ⟨r,hr,hb⟩))),h7,h8⟩
theorem RowG.lt {w:World}{M g c:Nat}{q:List NB}(h:RowG w g c q M):g<w.heap.size∧∀b∈blkB q,b<w.heap.size:=by
 obtain ⟨cur,h1,h2,h3,h4,h5,h6,h7,h8⟩:=h;refine ⟨z00 h1,fun b hb=>?_⟩;obtain ⟨r,hr,hbr⟩:=List.mem_flatMap.1 hb;exact ((h6 r hr).lt b hbr).1
theorem RowG.below {w w':World}{M g c:Nat}{q:List NB}(h:RowG w g c q M)(hb:Below w.heap.size w w'):RowG w' g c q M :=
 h.frame (fun b hm=>hb.block b (by rcases hm with rfl | hm; exact h.lt.1; exact h.lt.2 b hm))
structure OnlyIn (bs:List Nat) (w w':World):Prop where
 os:w'.os=w.os
 tape:w'.tape=w.tape
 output:w'.output=w.output
 size:w.heap.size≤w'.heap.size
 block:∀k,k<w.heap.size→k∉bs→w'.heap[k]? =w.heap[k]?
theorem OnlyIn.refl (bs:List Nat)(w:World):OnlyIn bs w w:=⟨rfl,rfl,rfl,Nat.le_refl _,fun _ _ _=>rfl⟩
theorem OnlyIn.trans {bs:List Nat}{a b c:World}(h:OnlyIn bs a b)(k:OnlyIn bs b c):OnlyIn bs a c :=
 ⟨k.os.trans h.os,k.tape.trans h.tape,k.output.trans h.output,Nat.le_trans h.size k.size,fun x hx hn=>(k.block x (Nat.lt_of_lt_of_le hx h.size) hn).trans (h.block x hx hn)⟩
theorem OnlyIn.of_below {bs:List Nat}{w w':World}(h:Below w.heap.size w w'):OnlyIn bs w w':=⟨h.os,h.tape,h.output,h.size,fun k hk _=>h.block k hk⟩
theorem OnlyIn.setCell {bs:List Nat}{w:World}{p:Addr}(hp:p.block∈bs)(v:Value):OnlyIn bs w (w.setCell p v):=⟨rfl,rfl,rfl,by simp[World.setCell],fun k _ hn=>Below.heap_setCell w p v k (fun e=>hn (e ▸ hp))⟩
theorem OnlyIn.below {bs:List Nat}{B:Nat}{w w':World}(h:OnlyIn bs w w')(hB:B≤w.heap.size)(hs:∀b∈bs,B≤b):Below B w w':=⟨h.os,h.tape,h.output,h.size,fun k hk=>h.block k (by omega) (fun hm=>by have:=hs k hm; omega)⟩
theorem OwS.take {w:World}{m c:Nat}{A:Option Addr}{l:List Nd}{bs:List Nat}(h:OwS w m A c l bs)(k:Nat)(hk:k≤l.length):∃bs',OwS w m A c (l.take k) bs'∧bs'.Sublist bs:=by
 cases m with
 | zero =>
  obtain ⟨hl,ho,hb⟩:=h;subst hl;refine ⟨bs,⟨by simp,ho,hb⟩,List.Sublist.refl _⟩
 | succ m =>
  obtain ⟨q,hq,ho,hb,hr⟩:=h
  have hql:q.length=l.length:=by rw[← hq,List.length_map]
  have hsub:(blkB (q.take k)).Sublist (blkB q):=by
   conv=>rhs; rw[← List.take_append_drop k q]
   rw[z27];exact List.sublist_append_left _ _
  refine ⟨blk A++blkB (q.take k),⟨q.take k,by rw[List.map_take,hq],?_,rfl,fun r hm=>hr r (List.mem_of_mem_take hm)⟩,by rw[hb]; exact List.Sublist.append (List.Sublist.refl _) hsub⟩
  have hlk:(q.take k).length=k:=by rw[List.length_take]; omega
  rw[hlk]
  have hrl:(rowB (q.take k)).length=k*6:=by unfold rowB; rw[z35,List.length_map,hlk]
  refine ⟨hrl,?_⟩
  rcases z5d ho with ⟨h1,h2,h3,h4⟩ | ⟨g,cur,h1,h2,h3,h4,h5,h6,h7,h8⟩
  · left; rw[h1,h3]; exact ⟨by rw[show k=0 by omega],by omega⟩
  · right
    refine ⟨g,c,cur,by rw[h1],h3,h4,by omega,h6,h7,?_⟩
    have e1:rowB q=rowB (q.take k)++rowB (q.drop k):=by rw[← zgo,List.take_append_drop]
    have e2:cur.toList.take (k*6)=(cur.toList.take (q.length*6)).take (k*6):=by rw[List.take_take,Nat.min_eq_left (by omega)]
    rw[e2,h8,e1,List.take_append_of_le_length (by rw[hrl]; exact Nat.le_refl _),List.take_of_length_le (by rw[hrl]; exact Nat.le_refl _)]
abbrev buT:TypeId:=55
abbrev sgT:TypeId:=116
abbrev psgT:TypeId:=113
abbrev wdT:TypeId:=87
structure KP (P:Nat→Prop) (w w':World):Prop where
 os:w'.os=w.os
 tape:w'.tape=w.tape
 output:w'.output=w.output
 size:w.heap.size≤w'.heap.size
 block:∀k,k<w.heap.size→¬P k→w'.heap[k]? =w.heap[k]?
theorem KP.refl (P:Nat→Prop)(w:World):KP P w w:=⟨rfl,rfl,rfl,Nat.le_refl _,fun _ _ _=>rfl⟩
theorem KP.trans {P Q:Nat→Prop}{a b c:World}(h:KP P a b)(g:KP Q b c)(hQ:∀k,k<a.heap.size→Q k→P k):KP P a c :=
 ⟨g.os.trans h.os,g.tape.trans h.tape,g.output.trans h.output,Nat.le_trans h.size g.size,fun k hk hn=>(g.block k (Nat.lt_of_lt_of_le hk h.size) (fun q=>hn (hQ k hk q))).trans (h.block k hk hn)⟩
theorem KP.of_below {P:Nat→Prop}{w w':World}(h:Below w.heap.size w w'):KP P w w':=⟨h.os,h.tape,h.output,h.size,fun k hk _=>h.block k hk⟩
theorem KP.below {P:Nat→Prop}{B:Nat}{w w':World}(h:KP P w w')(hB:B≤w.heap.size)(hP:∀k,P k→B≤k):Below B w w' :=
 ⟨h.os,h.tape,h.output,h.size,fun k hk=>h.block k (Nat.lt_of_lt_of_le hk hB) (fun p=>by have:=hP k p; omega)⟩
theorem KP.set {P:Nat→Prop}{b:Nat}(hb:P b)(w:World)(i:Nat)(u:Value):KP P w (w.setCell ⟨b,i,none⟩ u) :=
 ⟨rfl,rfl,rfl,by simp[World.setCell],fun k _ hk=>Below.heap_setCell w ⟨b,i,none⟩ u k (fun e=>hk (by rw[e]; exact hb))⟩
theorem zh3 (P D:List Value)(n k:Nat)(h:P.length=n):(P++D).drop (n+k)=D.drop k:=by
 subst h;rw[← List.drop_drop,List.drop_left' rfl]
theorem zky (L:List Value)(o:Nat)(v:Value)(r:List Value)(h:o<L.length):(L.set o v).take (o+1)++r++(L.set o v).drop (o+1+r.length)=L.take o++(v :: r)++L.drop (o+(v :: r).length):=by
 obtain ⟨A,x,D,rfl,hA⟩:∃A x D,L=A++x :: D∧A.length=o:=⟨L.take o,L[o],L.drop (o+1),by rw[List.getElem_cons_drop,List.take_append_drop],by simp; omega⟩
 subst hA
 have e1:(A++x :: D).set A.length v=(A++ [v])++D:=by simp[List.set_append]
 have e2:A++x :: D=(A++ [x])++D:=by simp
 have e3:((A++ [x])++D).take A.length=A:=by rw[← e2]; exact List.take_left' rfl
 rw[e1,List.take_left' (by simp),zh3 (A++ [v]) D (A.length+1) r.length (by simp),e2,e3,
  show A.length+(v :: r).length=(A.length+1)+r.length by simp; omega,zh3 (A++ [x]) D (A.length+1) r.length (by simp)]
 simp
theorem z7t:∀(vs:List Value) (g o:Nat) (w:World) (cur:Array Value) (T:TypeId),w.heap[g]? =some (.cells cur T (0,0))→o+vs.length≤cur.size →
 (w.setCells g o vs).heap[g]? =some (.cells (cur.toList.take o++vs++cur.toList.drop (o+vs.length)).toArray T (0,0))
 | [],g,o,w,cur,T,h,_=>by
   rw[World.setCells,h]
   simp
 | v :: r,g,o,w,cur,T,h,hl=>by
   rw[World.setCells];have h1:=z08 h o v;have h2:=z7t r g (o+1) _ _ T h1 (by simp at hl ⊢; omega);rw[h2]
   congr 3
   rw[Array.toList_setIfInBounds];exact zky _ _ _ _ (by simp at hl ⊢; omega)
theorem z1i:∀(vs:List Value) (g o:Nat) (w:World) (k:Nat),k≠g→(w.setCells g o vs).heap[k]? =w.heap[k]?
 | [],_,_,_,_,_=>rfl
 | v :: r,g,o,w,k,h=>by rw[World.setCells,z1i r g (o+1) _ k h,Below.heap_setCell w ⟨g,o,none⟩ v k h]
theorem z71:∀(vs:List Value) (g o:Nat) (w:World),(w.setCells g o vs).heap.size=w.heap.size
 | [],_,_,_=>rfl
 | v :: r,g,o,w=>by rw[World.setCells,z71 r g (o+1)]; simp[World.setCell]
theorem z4r:∀(vs:List Value) (g o:Nat) (w:World),(w.setCells g o vs).os=w.os∧(w.setCells g o vs).tape=w.tape∧(w.setCells g o vs).output=w.output
 | [],_,_,_=>⟨rfl,rfl,rfl⟩
 | v :: r,g,o,w=>by rw[World.setCells]; exact z4r r g (o+1) _
theorem KP.sets {P:Nat→Prop}{b:Nat}(hb:P b)(w:World)(i:Nat)(vs:List Value):KP P w (w.setCells b i vs) :=
 ⟨(z4r vs b i w).1,(z4r vs b i w).2.1,(z4r vs b i w).2.2,Nat.le_of_eq (z71 vs b i w).symm,fun k _ hk=>z1i vs b i w k (fun e=>hk (by rw[e]; exact hb))⟩
structure Bu (w:World) (base b size W:Nat) (ss:Segs) (row:Value) (g:Nat→Nat) (v:Nat→Value):Prop where
 hb:w.heap[b]? =some (.cells #[row,.int .i64 size,.int .i64 (W:Nat)] buT (0,0))
 hr:w.ownsRow base psgT 1 row ss.length ((List.range ss.length).map fun i=>Value.pointer (some ⟨g i,0,none⟩))
 hg:∀i,i<ss.length→w.heap[g i]? =some (.cells #[v i] sgT (0,0))
 ho:∀i,i<ss.length→w.ownsRow base wdT 8 (v i) (wn (sgS ss i)) (Lib.byteCells (sgS ss i))
 gi:∀i j,i<ss.length→j<ss.length→g i=g j→i=j
 vi:∀i j k,i<ss.length→j<ss.length→(v i).ownBlock=some k→(v j).ownBlock=some k→i=j
 lo:base≤b
 gl:∀i,i<ss.length→base≤g i
def Bk (b:Nat)(row:Value)(g:Nat→Nat)(v:Nat→Value)(n k:Nat):Prop:=k=b∨row.ownBlock=some k∨∃i,i<n∧(k=g i∨(v i).ownBlock=some k)
def Bun (w:World)(base b size:Nat)(ss:Segs)(P:Nat→Prop):Prop:=∃row g v,Bu w base b size (totS ss) ss row g v∧∀k,Bk b row g v ss.length k→P k
theorem z13 {w w':World}{B T sz n:Nat}{v:Value}{xs:List Value}(h:w.ownsRow B T sz v n xs)(hb:∀k,v.ownBlock=some k→w'.heap[k]? =w.heap[k]?):w'.ownsRow B T sz v n xs:=by
 refine ⟨h.1,?_⟩
 rcases h.2 with hv | ⟨g,cap,cur,rfl,h1,h2,h3⟩
 · exact .inl hv
 · exact .inr ⟨g,cap,cur,rfl,h1,(hb g rfl).trans h2,h3⟩
theorem Bu.keep {w w':World}{base b size W:Nat}{ss:Segs}{row:Value}{g:Nat→Nat}{v:Nat→Value}(h:Bu w base b size W ss row g v)(hk:∀k,Bk b row g v ss.length k→w'.heap[k]? =w.heap[k]?):Bu w' base b size W ss row g v :=
 ⟨(hk b (.inl rfl)).trans h.hb,z13 h.hr (fun k e=>hk k (.inr (.inl e))),fun i hi=>(hk _ (.inr (.inr ⟨i,hi,.inl rfl⟩))).trans (h.hg i hi),fun i hi=>z13 (h.ho i hi) (fun k e=>hk k (.inr (.inr ⟨i,hi,.inr e⟩))),h.gi,h.vi,h.lo,h.gl⟩
theorem Bu.lt {w:World}{base b size W:Nat}{ss:Segs}{row:Value}{g:Nat→Nat}{v:Nat→Value}(h:Bu w base b size W ss row g v):∀k,Bk b row g v ss.length k→base≤k∧k<w.heap.size:=by
 rintro k (rfl | e | ⟨i,hi,rfl | e⟩)
 · exact ⟨h.lo,z00 h.hb⟩
 · exact h.hr.lt k e
 · exact ⟨h.gl i hi,z00 (h.hg i hi)⟩
 · exact (h.ho i hi).lt k e
theorem Bun.low {w w':World}{base b size:Nat}{ss:Segs}{P:Nat→Prop}(h:Bun w base b size ss P)(hb:Below w.heap.size w w'):Bun w' base b size ss P:=by
 obtain ⟨row,g,v,hB,hP⟩:=h;exact ⟨row,g,v,hB.keep (fun k hk=>hb.block k (hB.lt k hk).2),hP⟩
theorem Bun.weak {w:World}{base b size:Nat}{ss:Segs}{P Q:Nat→Prop}(h:Bun w base b size ss P)(hQ:∀k,P k→Q k):Bun w base b size ss Q:=by
 obtain ⟨row,g,v,hB,hP⟩:=h;exact ⟨row,g,v,hB,fun k hk=>hQ k (hP k hk)⟩
theorem Bun.tight {w:World}{base b size:Nat}{ss:Segs}{P:Nat→Prop}(h:Bun w base b size ss P):Bun w base b size ss (fun k=>P k∧base≤k∧k<w.heap.size):=by
 obtain ⟨row,g,v,hB,hP⟩:=h;exact ⟨row,g,v,hB,fun k hk=>⟨hP k hk,hB.lt k hk⟩⟩
theorem z2s {w:World}{B T sz n:Nat}{v:Value}{xs:List Value}(h:w.ownsRow B T sz v n xs)(hn:0<n):∃g cap cur,v= .slice (some ⟨g,0,none⟩) n cap∧B≤g∧w.heap[g]? =some (.cells cur T (0,0))∧n≤cap∧cap≤maxLen∧cur.size=cap*sz∧cur.toList.take (n*sz)=xs:=by
 rcases h.2 with ⟨_,h0⟩ | ⟨g,cap,cur,h1,h2⟩
 · omega
 · exact ⟨g,cap,cur,h1,h2⟩
theorem Bu.row {w:World}{base b size W:Nat}{ss:Segs}{row:Value}{g:Nat→Nat}{v:Nat→Value}(h:Bu w base b size W ss row g v){i:Nat}(hi:i<ss.length) :
 ∃r cap,row= .slice (some ⟨r,0,none⟩) ss.length cap∧∀j,j<ss.length→w.cell? ⟨r,j,none⟩=some (.pointer (some ⟨g j,0,none⟩)):=by
 obtain ⟨r,cap,cur,h1,h2,h3,h4,h5,h6,h7⟩:=z2s h.hr (by omega);refine ⟨r,cap,h1,fun j hj=>?_⟩;have:=h.hr.cells (g:=r) (by rw[h1]; rfl) j (.pointer (some ⟨g j,0,none⟩)) (by simp[hj])
 rwa [z1r] at this
theorem Bu.seg {w:World}{base b size W:Nat}{ss:Segs}{row:Value}{g:Nat→Nat}{v:Nat→Value}(h:Bu w base b size W ss row g v){i:Nat}(hi:i<ss.length):∃A cap,v i= .slice A (wn (sgS ss i)) cap∧w.cell? ⟨g i,0,none⟩=some (v i)∧w.frozen? ⟨g i,0,none⟩=false:=by
 have hc:w.cell? ⟨g i,0,none⟩=some (v i):=by rw[cell_of_row _ _ _ _ _ _ (h.hg i hi)]; rfl
 rcases (h.ho i hi).2 with ⟨h1,h2⟩ | ⟨x,cap,cur,h1,_⟩
 · exact ⟨none,0,by rw[h1,h2],hc,z02 (h.hg i hi) 0⟩
 · exact ⟨_,cap,h1,hc,z02 (h.hg i hi) 0⟩
theorem z0k {w:World}{g:Nat}{v0 v1 v2:Value}{T:TypeId}(h:w.heap[g]? =some (.cells #[v0,v1,v2] T (0,0))):w.cell? ⟨g,0,none⟩=some v0∧w.cell? ⟨g,1,none⟩=some v1∧w.cell? ⟨g,2,none⟩=some v2:=by
 refine ⟨?_,?_,?_⟩ <;> (rw[cell_of_row _ _ _ _ _ _ h]; rfl)
theorem z1f (l:List UInt8):(Lib.byteCells l).length=l.length:=by simp[Lib.byteCells]
theorem z4j (a b:List UInt8):Lib.byteCells (a++b)=Lib.byteCells a++Lib.byteCells b:=by simp[Lib.byteCells]
theorem z6t (s t:List UInt8)(p:Nat):Lib.byteCells (spl s p t)=(Lib.byteCells s).take p++Lib.byteCells t++(Lib.byteCells s).drop (p+(Lib.byteCells t).length):=by
 unfold spl;rw[z4j,z4j,z1f]
 simp[Lib.byteCells,List.map_take,List.map_drop]
theorem zpm {L xs vs:List Value}{n o:Nat}(h:L.take n=xs)(hl:xs.length=n)(ho:o+vs.length≤n) :
 (L.take o++vs++L.drop (o+vs.length)).take n=xs.take o++vs++xs.drop (o+vs.length):=by
 obtain ⟨r,rfl⟩:∃r,L=xs++r:=⟨L.drop n,by rw[← h,List.take_append_drop]⟩
 have e1:(xs++r).take o=xs.take o:=List.take_append_of_le_length (by omega);have e2:(xs++r).drop (o+vs.length)=xs.drop (o+vs.length)++r:=List.drop_append_of_le_length (by omega);rw[e1,e2,← List.append_assoc];exact List.take_left' (by simp; omega)
theorem own_T {w:World}{B T sz n k:Nat}{v:Value}{xs:List Value}(h:w.ownsRow B T sz v n xs)(e:v.ownBlock=some k):∃cur,w.heap[k]? =some (.cells cur T (0,0)):=by
 rcases h.2 with ⟨rfl,_⟩ | ⟨g,cap,cur,rfl,h1,h2,h3⟩
 · cases e
 · injection e with e
   subst e;exact ⟨cur,h2⟩
theorem ne_T {w:World}{a b:Nat}{x y:Array Value}{T U:TypeId}(ha:w.heap[a]? =some (.cells x T (0,0)))(hb:w.heap[b]? =some (.cells y U (0,0)))(hT:T≠U):a≠b:=by
 rintro rfl;rw[ha] at hb
 injection hb with hb
 injection hb with _ h2
 exact hT h2
theorem Bu.putAt {w:World}{base b size W:Nat}{ss:Segs}{row:Value}{g:Nat→Nat}{v:Nat→Value}(h:Bu w base b size W ss row g v){i:Nat}(hi:i<ss.length){o:Nat}{t:List UInt8}(ha:o+t.length≤(sgS ss i).length)(x n cap:Nat)(hv:v i= .slice (some ⟨x,0,none⟩) n cap) :
 Bu (w.setCells x o (Lib.byteCells t)) base b size W (ss.set i (spl (sgS ss i) o t)) row g v:=by
 obtain ⟨cur,hx⟩:=own_T (h.ho i hi) (k:=x) (by rw[hv]; rfl)
 have hne:∀(k:Nat) (y:Array Value) (T:TypeId),w.heap[k]? =some (Obj.cells y T (0,0))→T≠wdT→(w.setCells x o (Lib.byteCells t)).heap[k]? =w.heap[k]? :=fun k y T hk hT=>z1i _ _ _ _ _ (ne_T hk hx hT)
 have hlen:(ss.set i (spl (sgS ss i) o t)).length=ss.length:=by simp
 have hal:=zod (t:=t) hi ha;refine ⟨?_,?_,fun j hj=>?_,fun j hj=>?_,by rw[hlen]; exact h.gi,by rw[hlen]; exact h.vi,h.lo,by rw[hlen]; exact h.gl⟩
 · exact (hne _ _ _ h.hb (by decide)).trans h.hb
 · rw[hlen]
   exact z13 h.hr (fun k e=>by obtain ⟨c,hc⟩:=own_T h.hr e; exact hne _ _ _ hc (by decide))
 · rw[hlen] at hj
   exact (hne _ _ _ (h.hg j hj) (by decide)).trans (h.hg j hj)
 · rw[hlen] at hj
   have hw:wn (sgS (ss.set i (spl (sgS ss i) o t)) j)=wn (sgS ss j):=by unfold wn; rw[← hal.2 j]
   rw[hw]
   by_cases e:j=i
   · subst e
     have h1:=h.ho j hj
     have hsg:sgS (ss.set j (spl (sgS ss j) o t)) j=spl (sgS ss j) o t:=by rw[z69 hi,if_pos rfl]
     rw[hsg,z6t];have hl8:(Lib.byteCells (sgS ss j)).length=wn (sgS ss j)*8:=h1.1;rw[z1f] at hl8;refine ⟨?_,?_⟩
     · rw[← z6t,z1f,z2u ha]; exact hl8
     · rcases h1.2 with ⟨h2,_⟩ | ⟨y,cp,cu,h2,h3,h4,h5,h6,h7,h8⟩
       · rw[hv] at h2; cases h2
       · obtain rfl:x=y:=by rw[hv] at h2; injection h2 with h2; injection h2 with h2; injection h2
         have hcs:o+(Lib.byteCells t).length≤cu.size:=by
          rw[z1f]
          have:(cu.toList.take (wn (sgS ss j)*8)).length=wn (sgS ss j)*8:=by rw[h8,z1f]; exact hl8
          rw[List.length_take] at this
          simp at this
          omega
         refine .inr ⟨x,cp,_,h2,h3,z7t _ x o w cu wdT h4 hcs,h5,h6,?_,?_⟩
         · simp only[List.size_toArray,List.length_append,List.length_take,List.length_drop,Array.length_toList]
           omega
         · exact zpm h8 (by rw[z1f]; exact hl8) (by rw[z1f]; omega)
   · have hsg:sgS (ss.set i (spl (sgS ss i) o t)) j=sgS ss j:=by rw[z69 hi,if_neg e]
     rw[hsg];exact z13 (h.ho j hj) (fun k ek=>z1i _ _ _ _ _ (fun e2=>e (h.vi j i k hj hi ek (by rw[hv,e2]; rfl))))
theorem Bu.put {w:World}{base b size W:Nat}{ss:Segs}{row:Value}{g:Nat→Nat}{v:Nat→Value}(h:Bu w base b size W ss row g v){i:Nat}(hi:i<ss.length){a:Nat}{t:List UInt8}(ha:8*a+t.length≤(sgS ss i).length)(x n cap:Nat)(hv:v i= .slice (some ⟨x,0,none⟩) n cap) :
 Bu (w.setCells x (8*a) (Lib.byteCells t)) base b size W (putS ss i a t) row g v:=h.putAt hi ha x n cap hv
theorem Bu.grow {w w1:World}{base b size W:Nat}{ss:Segs}{row:Value}{g:Nat→Nat}{v:Nat→Value}(h:Bu w base b size W ss row g v)(hBw:base≤w.heap.size){i k:Nat}(hi:i<ss.length)(hw8:WdS ss)(v':Value)
 (hown:w1.ownsRow base wdT 8 v' (wn (sgS ss i)+k) (Lib.byteCells (sgS ss i)++List.replicate (8*k) (.int .u8 0))) (hgrow:w.grownBy w1 (v i).ownBlock) (hat:v'.ownBlock=(v i).ownBlock∨v'.ownBlock=some w.heap.size) :
 Bu (w1.setCell ⟨g i,0,none⟩ v') base b size W (growB ss i k) row g (fun j=>if j=i then v' else v j):=by
 have hlen:=z0b ss i k
 have hgi:w1.heap[g i]? =some (.cells #[v i] sgT (0,0)):=(hgrow.block _ (z00 (h.hg i hi)) (fun e=>by
  obtain ⟨c,hc⟩:=own_T (h.ho i hi) e.symm
  exact ne_T (h.hg i hi) hc (by decide) rfl)).trans (h.hg i hi)
 have hne:∀(m:Nat) (y:Array Value) (T:TypeId),w.heap[m]? =some (Obj.cells y T (0,0))→some m≠(v i).ownBlock→m≠g i→(w1.setCell ⟨g i,0,none⟩ v').heap[m]? =w.heap[m]? :=fun m y T hm h1 h2 =>
  (Below.heap_setCell w1 ⟨g i,0,none⟩ v' m h2).trans (hgrow.block m (z00 hm) h1)
 have hvT:∀(m:Nat) (y:Array Value) (T:TypeId),w.heap[m]? =some (Obj.cells y T (0,0))→T≠wdT→some m≠(v i).ownBlock:=fun m y T hm hT e=>by
  obtain ⟨c,hc⟩:=own_T (h.ho i hi) e.symm;exact ne_T hm hc hT rfl
 have hbl:∀m,Bk b row g v ss.length m→base≤m:=by
  rintro m (rfl | e | ⟨j,hj,rfl | e⟩)
  · exact h.lo
  · exact (h.hr.lt m e).1
  · exact h.gl j hj
  · exact ((h.ho j hj).lt m e).1
 refine ⟨?_,?_,fun j hj=>?_,fun j hj=>?_,by rw[hlen]; exact h.gi,?_,h.lo,by rw[hlen]; exact h.gl⟩
 · exact (hne _ _ _ h.hb (hvT _ _ _ h.hb (by decide)) (ne_T h.hb (h.hg i hi) (by decide))).trans h.hb
 · rw[hlen]
   exact z13 h.hr (fun m e=>by obtain ⟨c,hc⟩:=own_T h.hr e; exact hne _ _ _ hc (hvT _ _ _ hc (by decide)) (ne_T hc (h.hg i hi) (by decide)))
 · rw[hlen] at hj
   by_cases e:j=i
   · subst e
     rw[if_pos rfl];exact z08 hgi 0 v'
   · rw[if_neg e]
     exact (hne _ _ _ (h.hg j hj) (hvT _ _ _ (h.hg j hj) (by decide)) (fun x=>e (h.gi j i hj hi x))).trans (h.hg j hj)
 · rw[hlen] at hj
   by_cases e:j=i
   · subst e
     rw[if_pos rfl,z2q hi,z4t hi,if_pos rfl,z4j]
     have hz:Lib.byteCells (zer k)=List.replicate (8*k) (.int .u8 0):=by simp[Lib.byteCells,zer]
     rw[hz];refine z13 hown (fun m em=>Below.heap_setCell w1 ⟨g j,0,none⟩ v' m ?_)
     intro e2
     rw[e2] at em;obtain ⟨c,hc⟩:=own_T hown em;exact ne_T hgi hc (by decide) rfl
   · rw[if_neg e,z4t hi,if_neg e]
     refine z13 (h.ho j hj) (fun m em=>?_);obtain ⟨c,hc⟩:=own_T (h.ho j hj) em;exact hne _ _ _ hc (fun x=>e (h.vi j i m hj hi em x.symm)) (fun x=>by rw[x] at hc; exact ne_T (h.hg i hi) hc (by decide) rfl)
 · rw[hlen]
   intro j l m hj hl
   have hnew:∀j,j<ss.length→j≠i→(v j).ownBlock=some m→v'.ownBlock=some m→False:=fun j hj hne e1 e2=>by
    rcases hat with e | e
    · exact hne (h.vi j i m hj hi e1 (by rw[← e]; exact e2))
    · rw[e] at e2
      injection e2 with e2
      have:=((h.ho j hj).lt m e1).2;omega
   by_cases ej:j=i <;> by_cases el:l=i
   · intro _ _; rw[ej,el]
   · rw[if_pos ej,if_neg el]; intro e1 e2; exact (hnew l hl el e2 e1).elim
   · rw[if_neg ej,if_pos el]; intro e1 e2; exact (hnew j hj ej e1 e2).elim
   · rw[if_neg ej,if_neg el]; exact h.vi j l m hj hl
theorem Bu.more {w wa w1:World}{base b size W:Nat}{ss:Segs}{row:Value}{g:Nat→Nat}{v:Nat→Value}(h:Bu w base b size W ss row g v)(hBw:base≤w.heap.size)(hwa:Below w.heap.size w wa)(hwn:wa.heap[w.heap.size]? =some (.cells #[.slice none 0 0] sgT (0,0)))(row':Value)
 (hown:w1.ownsRow base psgT 1 row' (ss.length+1) (((List.range ss.length).map fun i=>Value.pointer (some ⟨g i,0,none⟩))++ [.pointer (some ⟨w.heap.size,0,none⟩)]))
 (hgrow:wa.grownBy w1 row.ownBlock) :
 Bu (w1.setCell ⟨b,0,none⟩ row') base b size W (ss++ [[]]) row' (fun j=>if j=ss.length then w.heap.size else g j) (fun j=>if j=ss.length then .slice none 0 0 else v j):=by
 have hnew:w1.heap[w.heap.size]? =some (.cells #[.slice none 0 0] sgT (0,0)):=(hgrow.block _ (z00 hwn) (fun e=>by have:=(h.hr.lt _ e.symm).2; omega)).trans hwn
 have hne:∀(m:Nat) (y:Array Value) (T:TypeId),w.heap[m]? =some (Obj.cells y T (0,0))→T≠psgT→w1.heap[m]? =w.heap[m]? :=fun m y T hm hT =>
  (hgrow.block m (by have:=z00 hm; have:=hwa.size; omega) (fun e=>by obtain ⟨c,hc⟩:=own_T h.hr e.symm; exact ne_T hm hc hT rfl)).trans (hwa.block m (z00 hm))
 have hb1:w1.heap[b]? =some (.cells #[row,.int .i64 size,.int .i64 (W:Nat)] buT (0,0)):=(hne _ _ _ h.hb (by decide)).trans h.hb
 have hlen:(ss++ [[]]).length=ss.length+1:=by simp
 refine ⟨z08 hb1 0 row',?_,fun j hj=>?_,fun j hj=>?_,?_,?_,h.lo,?_⟩
 · rw[hlen]
   have hl:(List.range (ss.length+1)).map (fun j=>Value.pointer (some ⟨if j=ss.length then w.heap.size else g j,0,none⟩))=((List.range ss.length).map fun i=>Value.pointer (some ⟨g i,0,none⟩))++ [.pointer (some ⟨w.heap.size,0,none⟩)]:=by
    rw[List.range_succ,List.map_append]
    congr 1
    · apply List.map_congr_left
      intro j hj
      rw[if_neg (by have:=List.mem_range.1 hj; omega)]
    · simp
   rw[hl];refine z13 hown (fun m em=>Below.heap_setCell w1 ⟨b,0,none⟩ row' m ?_)
   intro e2
   rw[e2] at em;obtain ⟨c,hc⟩:=own_T hown em;exact ne_T hb1 hc (by decide) rfl
 · rw[hlen] at hj
   by_cases e:j=ss.length
   · rw[if_pos e,if_pos e]
     exact (Below.heap_setCell w1 ⟨b,0,none⟩ row' _ (by have:=z00 h.hb; show w.heap.size≠b; omega)).trans hnew
   · rw[if_neg e,if_neg e]
     have hj':j<ss.length:=by omega
     exact (Below.heap_setCell w1 ⟨b,0,none⟩ row' _ (ne_T (h.hg j hj') h.hb (by decide))).trans ((hne _ _ _ (h.hg j hj') (by decide)).trans (h.hg j hj'))
 · rw[hlen] at hj
   by_cases e:j=ss.length
   · subst e
     rw[if_pos rfl,z7g,if_pos rfl];exact World.ownsRow_nil _ _ _ _
   · rw[if_neg e,z7g,if_neg e]
     have hj':j<ss.length:=by omega
     refine z13 (h.ho j hj') (fun m em=>?_);obtain ⟨c,hc⟩:=own_T (h.ho j hj') em;exact (Below.heap_setCell w1 ⟨b,0,none⟩ row' _ (ne_T hc h.hb (by decide))).trans (hne _ _ _ hc (by decide))
 · rw[hlen]
   intro j l hj hl e
   have hg:∀j,j<ss.length→g j<w.heap.size:=fun j hj=>z00 (h.hg j hj)
   by_cases ej:j=ss.length <;> by_cases el:l=ss.length
   · rw[ej,el]
   · rw[if_pos ej,if_neg el] at e; have:=hg l (by omega); omega
   · rw[if_neg ej,if_pos el] at e; have:=hg j (by omega); omega
   · rw[if_neg ej,if_neg el] at e; exact h.gi j l (by omega) (by omega) e
 · rw[hlen]
   intro j l m hj hl
   by_cases ej:j=ss.length <;> by_cases el:l=ss.length
   · intro _ _; rw[ej,el]
   · rw[if_pos ej]; intro e; cases e
   · rw[if_pos el]; intro _ e; cases e
   · rw[if_neg ej,if_neg el]; exact h.vi j l m (by omega) (by omega)
 · rw[hlen]
   intro j hj
   by_cases e:j=ss.length
   · rw[if_pos e]; exact hBw
   · rw[if_neg e]; exact h.gl j (by omega)
theorem Bu.words {w:World}{base b size W:Nat}{ss:Segs}{row:Value}{g:Nat→Nat}{v:Nat→Value}(h:Bu w base b size W ss row g v)(W':Nat):Bu (w.setCell ⟨b,2,none⟩ (.int .i64 (W':Nat))) base b size W' ss row g v:=by
 have hne:∀(m:Nat) (y:Array Value) (T:TypeId),w.heap[m]? =some (Obj.cells y T (0,0))→T≠buT→(w.setCell ⟨b,2,none⟩ (.int .i64 (W':Nat))).heap[m]? =w.heap[m]? :=fun m y T hm hT=>Below.heap_setCell w ⟨b,2,none⟩ _ m (ne_T hm h.hb hT)
 exact ⟨z08 h.hb 2 _,z13 h.hr (fun m e=>by obtain ⟨c,hc⟩:=own_T h.hr e; exact hne _ _ _ hc (by decide)),fun i hi=>(hne _ _ _ (h.hg i hi) (by decide)).trans (h.hg i hi),fun i hi=>z13 (h.ho i hi) (fun m e=>by obtain ⟨c,hc⟩:=own_T (h.ho i hi) e; exact hne _ _ _ hc (by decide)),h.gi,h.vi,h.lo,h.gl⟩
end Go.Proofs.YtlbfffokkhccaaaGreatDoor
