/- Texts of the proof of the law FnRecordCanon, side by side: part 33. -/
import Derived.Test.YtblcibgphccfkaaGreatDoorMRecordCanon32
set_option maxHeartbeats 8000000
set_option maxRecDepth 100000
open Go.Lib (hid)
namespace Go.Proofs.YtblcibgphccfkaaGreatDoor
open Go.RowKit Go.Deep
theorem Lits.newN (w:World)(vs:Array Value)(t:TypeId)(fr:Nat×Nat){g:Nat}(hg:w.heap.size=g):Lits (w.alloc (.cells vs t fr)) g vs.toList:=hg ▸ Lits.new w vs t fr
theorem dKT:∀d,d≤4→dK d≤12950∧dT d≤259259
 | 0,_=>by decide
 | 1,_=>by decide
 | 2,_=>by decide
 | 3,_=>by decide
 | 4,_=>by decide
 | d+5,h=>by omega
def AnB (b0 b:Nat)(w:World):Nat→Prop:=fun j=>(b0<j∧j≠b)∧Clean w j
theorem AnB.low {w w':World}{b0 b M:Nat}{n:Nd}{h:Hd}(hn:NdAt w (AnB b0 b w) M n h)(hb:Below w.heap.size w w'):NdAt w' (AnB b0 b w') M n h:=(hn.below hb).weak (fun _k hk=>⟨hk.1,z5p hk.2 hb⟩)
theorem AnB.other {w w':World}{b0 b M:Nat}{n:Nd}{h:Hd}(hn:NdAt w (AnB b0 b w) M n h)(hk:∀j,j≠b→w'.heap[j]? =w.heap[j]?):NdAt w' (AnB b0 b w') M n h:=hn.map' (fun k _ hs=>⟨hs.1,z5q hs.2 (hk k hs.1.2)⟩) (fun _p _ _ hs hc=>hc.block (hk _ hs.1.2))
theorem AnB.picked {w w':World}{b0 b M R m:Nat}{n:Nd}{h:Hd}(hn:NdAt w (AnB b0 b w) M n h)(hp:z0e w R m w')(hR:R≤b0):NdAt w' (AnB b0 b w') M n h:=hn.map' (fun k hk hs=>⟨hs.1,z5q hs.2 (hp.2.block k hk (by have:=hs.1.1; omega))⟩) (fun p _ _ hs hc=>hc.block (hp.2.block _ hc.lt (by have:=hs.1.1; omega)))
def AnS (b b0 R M T k:Nat)(w w':World):Prop :=
 ∃(n:Nd) (h:Hd),w'.heap[b]? =some (.cells #[.int .i64 n.kind,.string n.data,.slice h.A n.ptrs.length h.a,.int .i64 n.size,.int .i64 n.count,.slice h.B n.items.length h.b] nodeT (0,0))∧w'.heap[b0]? =some (.cells #[.int .i64 0,.string { data:= #[] },.slice none 0 0,.int .i64 0,.int .i64 0,.slice none 0 0] nodeT (0,0))∧NdAt w' (AnB b0 b w') M n h∧TB M n T∧z0e w R k w'
theorem AnS.pick {b b0 R M T k m:Nat}{w w1 w2:World}(h:AnS b b0 R M T k w w1)(hp:z0e w1 R m w2)(hR:R<w.heap.size)(h0:w.heap.size≤b0)(hb:b0<b):AnS b b0 R M T m w w2:=by
 obtain ⟨n,h,hx,hz,hn,ht,hk⟩:=h;exact ⟨n,h,z0k hx hp (by omega),z0k hz hp (by omega),AnB.picked hn hp (by omega),ht,hk.then hp⟩
theorem AnS.mono {b b0 R M T k M' T' k':Nat}{w w1:World}(h:AnS b b0 R M T k w w1)(hM:M≤M')(hT:T≤T')(hk:k≤k'):AnS b b0 R M' T' k' w w1:=by
 obtain ⟨n,h,hx,hz,hn,ht,hp⟩:=h;exact ⟨n,h,hx,hz,hn.mono hM,ht.mono hn hM hT,hp.mono hk⟩
theorem AnS.put {b b0 R M T k:Nat}{w w1:World}{cs:Array Value}(n:Nd)(h:Hd)(hx:w1.heap[b]? =some (.cells cs nodeT (0,0)))(hs:cs.size=6)(hz:w1.heap[b0]? =some (.cells #[.int .i64 0,.string { data:= #[] },.slice none 0 0,.int .i64 0,.int .i64 0,.slice none 0 0] nodeT (0,0)))(hn:NdAt w1 (AnB b0 b w1) M n h)(ht:TB M n T)(hp:z0e w R k w1)(hR:R<w.heap.size)(h0:w.heap.size≤b0)(hb:b0<b) :
 ∃wf,((((((w1.setCell ⟨b,0,none⟩ (.int .i64 n.kind)).setCell ⟨b,1,none⟩ (.string n.data)).setCell ⟨b,2,none⟩ (.slice h.A n.ptrs.length h.a)).setCell ⟨b,3,none⟩ (.int .i64 n.size)).setCell ⟨b,4,none⟩ (.int .i64 n.count)).setCell ⟨b,5,none⟩ (.slice h.B n.items.length h.b))=wf∧AnS b b0 R M T k w wf:=by
 obtain ⟨l,rfl⟩:∃l,cs=⟨l⟩:=⟨cs.toList,rfl⟩
 match l,hs with
 | [a0,a1,a2,a3,a4,a5],_ =>
  obtain ⟨wf,hwf,hrw,hpw,huw⟩:=z3a hx hp hR (by omega) (.int .i64 n.kind) (.string n.data) (.slice h.A n.ptrs.length h.a) (.int .i64 n.size) (.int .i64 n.count) (.slice h.B n.items.length h.b)
  have hk:∀j,j≠b→wf.heap[j]? =w1.heap[j]? :=by
   intro j hj
   rw[← hwf]
   simp[World.setCell,Array.getElem?_modify,Ne.symm hj]
  exact ⟨wf,hwf,n,h,hrw,(hk b0 (by omega)).trans hz,AnB.other hn hk,ht,hpw⟩
theorem AnS.set {b b0 R M T k:Nat}{w w1:World}{n:Nd}{h:Hd}(n':Nd)(i:Nat)(u:Value)(hx:w1.heap[b]? =some (.cells #[.int .i64 n.kind,.string n.data,.slice h.A n.ptrs.length h.a,.int .i64 n.size,.int .i64 n.count,.slice h.B n.items.length h.b] nodeT (0,0)))(hz:w1.heap[b0]? =some (.cells #[.int .i64 0,.string { data:= #[] },.slice none 0 0,.int .i64 0,.int .i64 0,.slice none 0 0] nodeT (0,0)))(hn:NdAt w1 (AnB b0 b w1) M n h)(hp:z0e w R k w1)(hR:R<w.heap.size)(h0:w.heap.size≤b0)(hb:b0<b)
 (hs:(#[.int .i64 n.kind,.string n.data,.slice h.A n.ptrs.length h.a,.int .i64 n.size,.int .i64 n.count,.slice h.B n.items.length h.b]).setIfInBounds i u= #[.int .i64 n'.kind,.string n'.data,.slice h.A n'.ptrs.length h.a,.int .i64 n'.size,.int .i64 n'.count,.slice h.B n'.items.length h.b]) (h1:n'.ptrs=n.ptrs) (h2:n'.items=n.items) (h3:n'.data.size≤maxLen) (h4:TB M n' T):AnS b b0 R M T k w (w1.setCell ⟨b,i,none⟩ u):=by
 have hk:∀j,j≠b→(w1.setCell ⟨b,i,none⟩ u).heap[j]? =w1.heap[j]? :=by
  intro j hj
  simp[World.setCell,Array.getElem?_modify,Ne.symm hj]
 refine ⟨n',h,by rw[← hs]; exact z06 hx i u,(hk b0 (by omega)).trans hz,?_,h4,z0g hp hR (by omega) i u⟩;have:=AnB.other hn hk;exact ⟨h3,h1 ▸ this.2.1,h2 ▸ this.2.2⟩
theorem AnS.fin {b b0 R M T k:Nat}{w w1:World}{n:Nd}{h:Hd}(hz:w1.heap[b0]? =some (.cells #[.int .i64 0,.string { data:= #[] },.slice none 0 0,.int .i64 0,.int .i64 0,.slice none 0 0] nodeT (0,0)))(hn:NdAt w1 (AnB b0 b w1) M n h)(ht:TB M n T)(hp:z0e w R k w1)(hR:R<w.heap.size)(h0:w.heap.size=b0) :
 ∃wf,((((((w1.setCell ⟨b0,0,none⟩ (.int .i64 n.kind)).setCell ⟨b0,1,none⟩ (.string n.data)).setCell ⟨b0,2,none⟩ (.slice h.A n.ptrs.length h.a)).setCell ⟨b0,3,none⟩ (.int .i64 n.size)).setCell ⟨b0,4,none⟩ (.int .i64 n.count)).setCell ⟨b0,5,none⟩ (.slice h.B n.items.length h.b))=wf∧wf.heap[b0]? =some (.cells #[.int .i64 n.kind,.string n.data,.slice h.A n.ptrs.length h.a,.int .i64 n.size,.int .i64 n.count,.slice h.B n.items.length h.b] nodeT (0,0))∧NdP M T R k w (.returned (.agg #[.int .i64 n.kind,.string n.data,.slice h.A n.ptrs.length h.a,.int .i64 n.size,.int .i64 n.count,.slice h.B n.items.length h.b])) wf:=by
 obtain ⟨wf,hwf,hrw,hpw,huw⟩:=z3a hz hp hR (by omega) (.int .i64 n.kind) (.string n.data) (.slice h.A n.ptrs.length h.a) (.int .i64 n.size) (.int .i64 n.count) (.slice h.B n.items.length h.b);refine ⟨wf,hwf,hrw,n,h,rfl,?_,ht,hpw⟩;have h1:NdAt w1 (FromC w1 (b0+1)) M n h:=hn.weak (fun _ hk=>⟨hk.1.1,hk.2⟩);exact (h1.uponC huw).fromC (by omega)
theorem AnS.put' {b b0 R M T k:Nat}{w w1:World}{a0 a1 a2 a3 a4 a5:Value}(n:Nd)(h:Hd)(v0 v1 v2 v3 v4 v5:Value)(hv:(#[v0,v1,v2,v3,v4,v5]:Array Value)= #[.int .i64 n.kind,.string n.data,.slice h.A n.ptrs.length h.a,.int .i64 n.size,.int .i64 n.count,.slice h.B n.items.length h.b])(hx:w1.heap[b]? =some (.cells #[a0,a1,a2,a3,a4,a5] nodeT (0,0)))(hz:w1.heap[b0]? =some (.cells #[.int .i64 0,.string { data:= #[] },.slice none 0 0,.int .i64 0,.int .i64 0,.slice none 0 0] nodeT (0,0)))(hn:NdAt w1 (AnB b0 b w1) M n h)(ht:TB M n T)(hp:z0e w R k w1)(hR:R<w.heap.size)(h0:w.heap.size≤b0)(hb:b0<b) :
 AnS b b0 R M T k w ((((((w1.setCell ⟨b,0,none⟩ v0).setCell ⟨b,1,none⟩ v1).setCell ⟨b,2,none⟩ v2).setCell ⟨b,3,none⟩ v3).setCell ⟨b,4,none⟩ v4).setCell ⟨b,5,none⟩ v5):=by
 obtain ⟨wf,hwf,hrw,hpw,huw⟩:=z3a hx hp hR (by omega) v0 v1 v2 v3 v4 v5;rw[hwf]
 have hk:∀j,j≠b→wf.heap[j]? =w1.heap[j]? :=by
  intro j hj
  rw[← hwf]
  simp[World.setCell,Array.getElem?_modify,Ne.symm hj]
 exact ⟨n,h,hv ▸ hrw,(hk b0 (by omega)).trans hz,AnB.other hn hk,ht,hpw⟩
theorem AnS.putE {b b0 R M T k:Nat}{w w1:World}{a0 a1 a2 a3 a4 a5:Value}(n:Nd)(h:Hd)(v0 v1 v2 v3 v4 v5:Value)(hv:(#[v0,v1,v2,v3,v4,v5]:Array Value)= #[.int .i64 n.kind,.string n.data,.slice h.A n.ptrs.length h.a,.int .i64 n.size,.int .i64 n.count,.slice h.B n.items.length h.b])(hx:w1.heap[b]? =some (.cells #[a0,a1,a2,a3,a4,a5] nodeT (0,0)))(hz:w1.heap[b0]? =some (.cells #[.int .i64 0,.string { data:= #[] },.slice none 0 0,.int .i64 0,.int .i64 0,.slice none 0 0] nodeT (0,0)))(hn:NdAt w1 (AnB b0 b w1) M n h)(ht:TB M n T)(hp:z0e w R k w1)(hR:R<w.heap.size)(h0:w.heap.size≤b0)(hb:b0<b) :
 ∃wq,((((((w1.setCell ⟨b,0,none⟩ v0).setCell ⟨b,1,none⟩ v1).setCell ⟨b,2,none⟩ v2).setCell ⟨b,3,none⟩ v3).setCell ⟨b,4,none⟩ v4).setCell ⟨b,5,none⟩ v5)=wq∧AnS b b0 R M T k w wq:=⟨_,rfl,AnS.put' n h v0 v1 v2 v3 v4 v5 hv hx hz hn ht hp hR h0 hb⟩
theorem z7y {b b0 R M k m:Nat}{w w1 w2 w3:World}{n:Nd}{h:Hd}(hx:w1.heap[b]? =some (.cells #[.int .i64 n.kind,.string n.data,.slice h.A n.ptrs.length h.a,.int .i64 n.size,.int .i64 n.count,.slice h.B n.items.length h.b] nodeT (0,0)))(hz:w1.heap[b0]? =some (.cells #[.int .i64 0,.string { data:= #[] },.slice none 0 0,.int .i64 0,.int .i64 0,.slice none 0 0] nodeT (0,0)))(hn:NdAt w1 (AnB b0 b w1) M n h)(hp:z0e w R k w1)(hbl:Below w1.heap.size w1 w2)(hp3:z0e w2 R m w3)(hR:R<w.heap.size)(h0:w.heap.size≤b0)(hb:b0<b) :
 w3.heap[b]? =some (.cells #[.int .i64 n.kind,.string n.data,.slice h.A n.ptrs.length h.a,.int .i64 n.size,.int .i64 n.count,.slice h.B n.items.length h.b] nodeT (0,0))∧w3.heap[b0]? =some (.cells #[.int .i64 0,.string { data:= #[] },.slice none 0 0,.int .i64 0,.int .i64 0,.slice none 0 0] nodeT (0,0))∧NdAt w3 (AnB b0 b w3) M n h∧z0e w R m w3 :=
 ⟨z0k ((hbl.block _ (z00 hx)).trans hx) hp3 (by omega),z0k ((hbl.block _ (z00 hz)).trans hz) hp3 (by omega),AnB.picked (AnB.low hn hbl) hp3 (by omega),(hp.below hbl).then hp3⟩
theorem z5e (w:World):Below w.heap.size w w.drew:=⟨rfl,rfl,rfl,Nat.le_refl _,fun _ _=>rfl⟩
theorem zlj {w:World}{R n:Nat}(h:Rd w R n)(o:Obj):Rd (w.drew.alloc o) R n:=(h.below (z5e w)).below ((Below.refl _ _).alloc (Nat.le_refl _) _)
theorem z5a (R n0:Nat)(w:World)(h:Rd w R n0)(hn:n0≤100000) :
 Calls Tryz.prog 59 #[.pointer (some ⟨R,0,none⟩)] w (NdP 18 300000 R (n0+13000) w):=by
 have hRw:=h.lt;go_enter Tryz.func59,Tryz.ntmps59
 go_wp2_with fail
 have HQ0:=hid (h.self.below ((Below.refl w.heap.size w).alloc (Nat.le_refl _) (.cells #[.int .i64 0,.string { data:= #[] },.slice none 0 0,.int .i64 0,.int .i64 0,.slice none 0 0] nodeT)));have HR0:=hid (heap_alloc_new w (.cells #[.int .i64 0,.string { data:= #[] },.slice none 0 0,.int .i64 0,.int .i64 0,.slice none 0 0] nodeT));clear h
 refine (z6l R n0 (w.heap.size+1) 5 5 (fun z=>1≤z∧z≤4) _ _ (by exact HQ0.out.1.below ((Below.refl _ _).alloc (Nat.le_refl _) _)) (by omega) (by exact Lits.newN _ _ _ _ (by simp)) (by
  intro v hv
  simp at hv
  rcases hv with rfl | rfl | rfl | rfl | rfl
  all_goals exact ⟨_,rfl,by omega⟩) (by omega) (by simp) (by omega) (by omega)).mono ?_
 rintro e w1 ⟨x,⟨hx0,hx1⟩,rfl,hp1⟩;have HQ1:=hid ((HQ0.out.below ((Below.refl _ _).alloc (Nat.le_refl _) _)).then hp1);have HR1:=hid (z0k (z02 HR0.out _) hp1 (by omega));clear hp1;obtain ⟨d,rfl⟩:=Int.eq_ofNat_of_zero_le (show 0≤x by omega)
 have hd4:d≤4:=by omega
 obtain ⟨hdk,hdt⟩:=dKT d hd4;have HC:=hid (z86 d hd4 R (n0+1) w1 HQ1.out.1 (by omega));unfold NdP at HC;clear hx0 hx1
 go_wp2_with fail
 refine HC.out.mono ?_;rintro e w2 ⟨y,hy,rfl,hny,hty,hp2⟩
 have hb2:w.heap.size<w2.heap.size:=by have:=z00 HR1.out; have:=hp2.2.size; omega
 have hs1:w.heap.size<w1.heap.size:=z00 HR1.out;obtain ⟨i0,hi,hz0,hz1,hz2⟩:=info_parts z5z
 have HA2:Hid (AnS w2.heap.size w.heap.size R 8 259259 (n0+1+dK d) w (w2.alloc (.cells #[.int .i64 y.kind,.string y.data,.slice hy.A y.ptrs.length hy.a,.int .i64 y.size,.int .i64 y.count,.slice hy.B y.items.length hy.b] nodeT))):=by
  have hbl:=(Below.refl w2.heap.size w2).alloc (Nat.le_refl _) (.cells #[.int .i64 y.kind,.string y.data,.slice hy.A y.ptrs.length hy.a,.int .i64 y.size,.int .i64 y.count,.slice hy.B y.items.length hy.b] nodeT);have hn8:NdAt w2 (FromC w2 w1.heap.size) 8 y hy:=hny.mono (by omega);refine hid ⟨y,hy,heap_alloc_new w2 _,z02 (z0k HR1.out hp2 (by omega)) _,?_,hty.mono hny (by omega) (by omega),(HQ1.out.then hp2).below hbl⟩;exact hn8.map' (fun k h1 h2=>⟨⟨by have:=h2.1; omega,by omega⟩,z5p h2.2 hbl⟩) (fun p n h hs hc=>z13 hbl p n h hc)
 clear hny hty hp2 HC HR1 HQ1 HR0 HQ0
 go_wp2_with fail
 obtain ⟨_,_,_,_,_,_,hpq⟩:=id HA2.out;refine (z0q R (n0+1+dK d) _ _ hpq.1 (by omega)).mono ?_;rintro e w3 ⟨p,⟨hp0,hp1⟩,rfl,hp3⟩;have HA3:=hid ((HA2.out.pick hp3 hRw (Nat.le_refl _) hb2).mono (show 8≤8 by omega) (Nat.le_refl _) (show n0+1+dK d+1≤n0+12952 by omega))
 have hb3:w2.heap.size<w3.heap.size:=by have:=hp3.2.size; simp at this; omega
 clear hpq hp3 HA2;generalize w2.heap.size=b at *;have c_step:True:=trivial
 by_cases p0:p=0
 · subst p0
   obtain ⟨y,hy,hx,hzz,hny,hty,hpk⟩:=HA3.out;obtain ⟨c0,c1,c2,c3,c4,c5⟩:=z04 hx;have cf:=z03 hx
   go_wp2_with fail
   refine (z0q R (n0+12952) _ _ hpk.1 (by omega)).mono ?_;rintro e w4 ⟨v,⟨hv0,hv1⟩,rfl,hp4⟩;have HA4:=hid (HA3.out.pick hp4 hRw (Nat.le_refl _) hb2);clear c0 c1 c2 c3 c4 c5 cf hx hzz hny hty hpk HA3 hp4;obtain ⟨y,hy,hx,hzz,hny,hty,hpk⟩:=HA4.out;have HA5:=hid (AnS.set (Nd.mk v y.data y.ptrs y.size y.count y.items) 0 (.int .i64 v) hx hzz hny hpk hRw (Nat.le_refl _) hb2 rfl rfl rfl hny.1 (show TB 8 (Nd.mk v y.data y.ptrs y.size y.count y.items) 259259 from ⟨hty.1,SB.small (hty.2.1 (Nat.le_refl _)) hty.2.2.2⟩));have cf:=z03 hx;obtain ⟨c0,c1,c2,c3,c4,c5⟩:=z04 hx;have HA6:=hid (HA5.out.mono (show 8≤18 by omega) (show 259259≤300000 by omega) (show n0+12952+1≤n0+13000 by omega));clear hx hzz hny hty hpk HA4 HA5;obtain ⟨u,hu,ux,uz,un,ut,up⟩:=HA6.out;obtain ⟨x0,x1,x2,x3,x4,x5⟩:=z04 ux;obtain ⟨z0,z1,z2,z3,z4,z5⟩:=z04 uz;have zf:=z03 uz
   go_wp2_with fail
   obtain ⟨wf,hwf,hrw,hfin⟩:=AnS.fin uz un ut up hRw rfl;rw[hwf];obtain ⟨e0,e1,e2,e3,e4,e5⟩:=z04 hrw;exact bodyPost_ret (v:= .agg #[.int .i64 u.kind,.string u.data,.slice hu.A u.ptrs.length hu.a,.int .i64 u.size,.int .i64 u.count,.slice hu.B u.items.length hu.b]) (by simp[results,Tryz.results59,go_sem,e0,e1,e2,e3,e4,e5]) rfl hfin
 by_cases p1:p=1
 · subst p1
   obtain ⟨y,hy,hx,hzz,hny,hty,hpk⟩:=HA3.out;obtain ⟨c0,c1,c2,c3,c4,c5⟩:=z04 hx;have cf:=z03 hx
   have hds:y.data.size≤259259:=by have:=hty.1; unfold totN at this; omega
   have hHX:=hid hx;have HNY:=hid (And.intro hny (And.intro hpk hzz));clear hx hny hpk hzz HA3
   go_wp2_with fail
   have hdr:(w3.drew).heap.size=w3.heap.size:=rfl
   have hlit:∀v∈([.string ⟨#[120]⟩,.string ⟨(repL (⟨#[0]⟩:ByteArray).data.toList (Int.toNat 8)).toArray⟩]:List Value),∃x,v= .string x∧x.size≤8:=by
    intro v hv
    simp only[List.mem_cons,List.not_mem_nil,or_false] at hv
    rcases hv with rfl | rfl
    · exact ⟨_,rfl,by decide⟩
    · exact ⟨_,rfl,by rw[rep8]; decide⟩
   go_region_with (first | (go_at_call 95; go_must (refine (z4y ⟨#[0]⟩ 8 _ (by decide) (by decide) (by decide) (by decide)).mono ?_); rintro e w5 ⟨rfl,rfl⟩) | (go_at_call 94; go_must (refine (zlr R (n0+12952) w3.heap.size 2 2 (fun z=>z.size≤8) _ _ (by exact zlj HNY.out.2.1.1 _) (by omega) (by exact Lits.newN _ _ _ _ rfl) (by exact hlit) (by have:=z00 HNY.out.2.2; omega) (by simp) (by omega) (by omega)).mono ?_); rintro e w4 ⟨v,hv8,rfl,hp4⟩; have hf4:=z7y hHX.out HNY.out.2.2 HNY.out.1 HNY.out.2.1 ((z5e w3).alloc (Nat.le_refl _) _) hp4 hRw (Nat.le_refl _) hb2; have HF4:=hid hf4; obtain ⟨q0,q1,q2,q3,q4,q5⟩:=z04 hf4.1; have qf:=z03 hf4.1; clear hf4; have f1:¬9223372036854775807<y.data.size+v.size:=by omega))
   all_goals
    have HA5:=hid (AnS.set (Nd.mk y.kind (y.data++v) y.ptrs y.size y.count y.items) 1 (.string (y.data++v)) HF4.out.1 HF4.out.2.1 HF4.out.2.2.1 HF4.out.2.2.2 hRw (Nat.le_refl _) hb2 rfl rfl rfl (by show (y.data++v).size≤maxLen; rw[z1e]; unfold maxLen; omega) (show TB 8 (Nd.mk y.kind (y.data++v) y.ptrs y.size y.count y.items) 259267 from ⟨by have:=hty.1; unfold totN at this ⊢; show (y.data++v).size+totL 8 y.ptrs+totL 8 y.items≤_; rw[z1e]; omega,fun h=>absurd h (by decide),fun _=>by show (y.data++v).size≤1592; rw[z1e]; have:=hty.2.1 (Nat.le_refl _); omega,hty.2.2.2⟩));have HA6:=hid (HA5.out.mono (show 8≤18 by omega) (show 259267≤300000 by omega) (show n0+12952+1≤n0+13000 by omega));clear HA5 hp4;obtain ⟨u,hu,ux,uz,un,ut,up⟩:=HA6.out;obtain ⟨x0,x1,x2,x3,x4,x5⟩:=z04 ux;obtain ⟨z0,z1,z2,z3,z4,z5⟩:=z04 uz;have zf:=z03 uz
    go_wp2_with fail
    obtain ⟨wf,hwf,hrw,hfin⟩:=AnS.fin uz un ut up hRw rfl;rw[hwf];obtain ⟨e0,e1,e2,e3,e4,e5⟩:=z04 hrw;exact bodyPost_ret (v:= .agg #[.int .i64 u.kind,.string u.data,.slice hu.A u.ptrs.length hu.a,.int .i64 u.size,.int .i64 u.count,.slice hu.B u.items.length hu.b]) (by simp[results,Tryz.results59,go_sem,e0,e1,e2,e3,e4,e5]) rfl hfin
 by_cases p2:p=2
 · subst p2
   obtain ⟨y,hy,hx,hzz,hny,hty,hpk⟩:=HA3.out;obtain ⟨c0,c1,c2,c3,c4,c5⟩:=z04 hx;have cf:=z03 hx;have hHX:=hid hx;have HNY:=hid (And.intro hny (And.intro hpk hzz));clear hx hny hpk hzz HA3
   go_wp2_with fail
   have hdr:(w3.drew).heap.size=w3.heap.size:=rfl
   go_region_with (go_at_call 45; go_must (refine (z6l R (n0+12952) w3.heap.size 2 2 (fun z=> -1≤z∧z≤1) _ _ (by exact zlj HNY.out.2.1.1 _) (by omega) (by exact Lits.newN _ _ _ _ rfl) (by
    intro v hv
    simp at hv
    rcases hv with rfl | rfl
    all_goals exact ⟨_,rfl,by omega⟩) (by have:=z00 HNY.out.2.2; omega) (by simp) (by omega) (by omega)).mono ?_); rintro e w4 ⟨v,⟨hv0,hv1⟩,rfl,hp4⟩; have hf4:=z7y hHX.out HNY.out.2.2 HNY.out.1 HNY.out.2.1 ((z5e w3).alloc (Nat.le_refl _) _) hp4 hRw (Nat.le_refl _) hb2; have HF4:=hid hf4; obtain ⟨q0,q1,q2,q3,q4,q5⟩:=z04 hf4.1; have qf:=z03 hf4.1; clear hf4)
   all_goals
    generalize IntKind.i64.wrap (y.count+v)=cv at *;have HA5:=hid (AnS.set (Nd.mk y.kind y.data y.ptrs y.size cv y.items) 4 (.int .i64 cv) HF4.out.1 HF4.out.2.1 HF4.out.2.2.1 HF4.out.2.2.2 hRw (Nat.le_refl _) hb2 rfl rfl rfl HF4.out.2.2.1.1 (show TB 8 (Nd.mk y.kind y.data y.ptrs y.size cv y.items) 259259 from ⟨hty.1,SB.small (hty.2.1 (Nat.le_refl _)) hty.2.2.2⟩));have HA6:=hid (HA5.out.mono (show 8≤18 by omega) (show 259259≤300000 by omega) (show n0+12952+1≤n0+13000 by omega));clear HA5 hp4;obtain ⟨u,hu,ux,uz,un,ut,up⟩:=HA6.out;obtain ⟨x0,x1,x2,x3,x4,x5⟩:=z04 ux;obtain ⟨z0,z1,z2,z3,z4,z5⟩:=z04 uz;have zf:=z03 uz
    go_wp2_with fail
    obtain ⟨wf,hwf,hrw,hfin⟩:=AnS.fin uz un ut up hRw rfl;rw[hwf];obtain ⟨e0,e1,e2,e3,e4,e5⟩:=z04 hrw;exact bodyPost_ret (v:= .agg #[.int .i64 u.kind,.string u.data,.slice hu.A u.ptrs.length hu.a,.int .i64 u.size,.int .i64 u.count,.slice hu.B u.items.length hu.b]) (by simp[results,Tryz.results59,go_sem,e0,e1,e2,e3,e4,e5]) rfl hfin
 by_cases p4:p=4
 · subst p4
   obtain ⟨y,hy,hx,hzz,hny,hty,hpk⟩:=HA3.out
   go_wp2_with fail
   refine (z0q R (n0+12952) _ _ hpk.1 (by omega)).mono ?_;rintro e w4 ⟨v,⟨hv0,hv1⟩,rfl,hp4⟩;have HF4:=hid (z7y hx hzz hny hpk (Below.refl _ _) hp4 hRw (Nat.le_refl _) hb2);clear hx hzz hny hpk HA3 hp4
   have hv3:v≤3:=by omega
   have hw:IntKind.i64.wrap (8*IntKind.i64.wrap (197+v))=8*(197+v):=by rw[IntKind.wrap_i64,IntKind.wrap_i64]; omega
   go_wp2_with fail
   have hone:(⟨#[1]⟩:ByteArray).size=1∧(⟨#[1]⟩:ByteArray).data.toList.length=1∧(⟨#[1]⟩:ByteArray).size≤10000000:=⟨rfl,rfl,by decide⟩
   refine (z4y ⟨#[1]⟩ (8*(197+v)) _ (by omega) (by omega) hone.2.2 (by rw[hone.1,Nat.one_mul]; omega)).mono ?_;rintro e w5 ⟨rfl,rfl⟩
   have hrs:(⟨(repL (⟨#[1]⟩:ByteArray).data.toList (8*(197+v)).toNat).toArray⟩:ByteArray).size≤1600:=by rw[rep8,hone.2.1,Nat.one_mul]; omega
   generalize (⟨(repL (⟨#[1]⟩:ByteArray).data.toList (8*(197+v)).toNat).toArray⟩:ByteArray)=rp at *;have cf:=z03 HF4.out.1
   obtain ⟨wq,hwq,ha6⟩:=(AnS.putE (M:=18) (T:=300000) (Nd.mk 1 rp [] 0 0 []) ⟨none,0,none,0⟩ (.int .i64 1) (.string rp) (.slice none 0 0) (.int .i64 0) (.int .i64 0) (.slice none 0 0) rfl HF4.out.1 HF4.out.2.1 ⟨by show rp.size≤maxLen; unfold maxLen; omega,NdsAt.nil _ _ _ _,NdsAt.nil _ _ _ _⟩ ⟨by show rp.size+0+0≤300000; omega,fun h=>absurd h (by decide),fun h=>absurd (show (1:Int)=2 from h) (by decide),show (0:Nat)≤1000 by decide⟩ (HF4.out.2.2.2.mono (show n0+12952+1≤n0+13000 by omega)) hRw (Nat.le_refl _) hb2)
   obtain ⟨c0,c1,c2,c3,c4,c5⟩:=z04 HF4.out.1;have HA6:=hid ha6;clear ha6;obtain ⟨u,hu,ux,uz,un,ut,up⟩:=HA6.out;obtain ⟨x0,x1,x2,x3,x4,x5⟩:=z04 ux;obtain ⟨z0,z1,z2,z3,z4,z5⟩:=z04 uz;have zf:=z03 uz
   go_wp2_with fail
   obtain ⟨wf,hwf,hrw,hfin⟩:=AnS.fin uz un ut up hRw rfl;rw[hwf];obtain ⟨e0,e1,e2,e3,e4,e5⟩:=z04 hrw;exact bodyPost_ret (v:= .agg #[.int .i64 u.kind,.string u.data,.slice hu.A u.ptrs.length hu.a,.int .i64 u.size,.int .i64 u.count,.slice hu.B u.items.length hu.b]) (by simp[results,Tryz.results59,go_sem,e0,e1,e2,e3,e4,e5]) rfl hfin
 by_cases p5:p=5
 · subst p5
   obtain ⟨y,hy,hx,hzz,hny,hty,hpk⟩:=HA3.out
   go_wp2_with fail
   refine (z6l R (n0+12952) w3.heap.size 3 3 (fun z=>999≤z∧z≤1001) _ _ (by exact hpk.1.below ((Below.refl _ _).alloc (Nat.le_refl _) _)) (by omega) (by exact Lits.newN _ _ _ _ rfl) (by
    intro v hv
    simp at hv
    rcases hv with rfl | rfl | rfl
    all_goals exact ⟨_,rfl,by omega⟩) (by omega) (by simp) (by omega) (by omega)).mono ?_
   rintro e w4 ⟨v,⟨hv0,hv1⟩,rfl,hp4⟩;have HF4:=hid (z7y hx hzz hny hpk ((Below.refl _ _).alloc (Nat.le_refl _) _) hp4 hRw (Nat.le_refl _) hb2);clear hx hzz hny hpk HA3 hp4;have cf:=z03 HF4.out.1
   obtain ⟨wq,hwq,ha6⟩:=(AnS.putE (M:=18) (T:=300000) (Nd.mk 2 ⟨#[]⟩ [] 0 v []) ⟨none,0,none,0⟩ (.int .i64 2) (.string ⟨#[]⟩) (.slice none 0 0) (.int .i64 0) (.int .i64 v) (.slice none 0 0) rfl HF4.out.1 HF4.out.2.1 ⟨show (0:Nat)≤maxLen by decide,NdsAt.nil _ _ _ _,NdsAt.nil _ _ _ _⟩ ⟨by show 0+0+0≤300000; omega,SB.small (show (0:Nat)≤1100 by decide) (show (0:Nat)≤1000 by decide)⟩ (HF4.out.2.2.2.mono (show n0+12952+1≤n0+13000 by omega)) hRw (Nat.le_refl _) hb2)
   obtain ⟨c0,c1,c2,c3,c4,c5⟩:=z04 HF4.out.1;have HA6:=hid ha6;clear ha6;obtain ⟨u,hu,ux,uz,un,ut,up⟩:=HA6.out;obtain ⟨x0,x1,x2,x3,x4,x5⟩:=z04 ux;obtain ⟨z0,z1,z2,z3,z4,z5⟩:=z04 uz;have zf:=z03 uz
   go_wp2_with fail
   obtain ⟨wf,hwf,hrw,hfin⟩:=AnS.fin uz un ut up hRw rfl;rw[hwf];obtain ⟨e0,e1,e2,e3,e4,e5⟩:=z04 hrw;exact bodyPost_ret (v:= .agg #[.int .i64 u.kind,.string u.data,.slice hu.A u.ptrs.length hu.a,.int .i64 u.size,.int .i64 u.count,.slice hu.B u.items.length hu.b]) (by simp[results,Tryz.results59,go_sem,e0,e1,e2,e3,e4,e5]) rfl hfin
 by_cases p3:p=3
 · subst p3
   have HA3':=hid HA3.out
   go_wp2_with fail
   go_loopw [4] (fun i wr=>∃k:Nat,i= .int .i64 k∧k≤9∧Hid (AnS b w.heap.size R (8+k) (259259+k) (n0+12952+k) w wr)∧b<wr.heap.size) (fun i _=>9-(intOf i).toNat)
   case atStart=>exact ⟨0,rfl,by omega,HA3,hb3⟩
   case round =>
    obtain ⟨k,rfl,hk,HA,hbr⟩:=hrel;obtain ⟨y,hy,hx,hzz,hny,hty,hpk⟩:=HA.out
    go_wp2_with fail
    refine (z0q R (n0+12952+k) _ _ hpk.1 (by omega)).mono ?_;rintro e w4 ⟨v,⟨hv0,hv1⟩,rfl,hp4⟩;have HF4:=hid (z7y hx hzz hny hpk (Below.refl _ _) hp4 hRw (Nat.le_refl _) hb2)
    have hbr4:b<w4.heap.size:=by have:=hp4.2.size; omega
    clear hx hzz hny hpk hp4 HA;obtain ⟨v,rfl⟩:=Int.eq_ofNat_of_zero_le hv0
    have hv3:v≤3:=by omega
    have hw:IntKind.i64.wrap (6+(v:Int))=6+v:=by rw[IntKind.wrap_i64]; omega
    by_cases hlt:(k:Int)<6+v
    · have hx4:=HF4.out.1
      obtain ⟨c0,c1,c2,c3,c4,c5⟩:=z04 hx4;have cf:=z03 hx4
      go_wp2_with fail
      go_roundw
      case rel =>
       refine ⟨k+1,by go_num,by omega,?_,by simp[World.setCell]; omega⟩;obtain ⟨wf,hwf,hrw,hpw,huw⟩:=z3a hx4 HF4.out.2.2.2 hRw (by omega) (.int .i64 1) (.string ⟨#[]⟩) (.slice (some ⟨w4.heap.size,0,none⟩) 1 1) (.int .i64 0) (.int .i64 0) (.slice none 0 0);rw[hwf]
       have hsz:wf.heap.size=w4.heap.size:=by rw[← hwf]; simp[World.setCell]
       have hkk:∀j,j≠b→wf.heap[j]? =w4.heap[j]? :=by
        intro j hj
        rw[← hwf]
        simp[World.setCell,Array.getElem?_modify,Ne.symm hj]
       have hbl:=(Below.refl wf.heap.size wf).alloc (Nat.le_refl _) (.cells #[.int .i64 y.kind,.string y.data,.slice hy.A y.ptrs.length hy.a,.int .i64 y.size,.int .i64 y.count,.slice hy.B y.items.length hy.b] nodeT);have hn5:=AnB.low (AnB.other HF4.out.2.2.1 hkk) hbl;refine hid ⟨Nd.mk 1 ⟨#[]⟩ [y] 0 0 [],⟨some ⟨w4.heap.size,0,none⟩,1,none,0⟩,z02 hrw _,z02 ((hkk _ (by omega)).trans HF4.out.2.1) _,⟨show (0:Nat)≤maxLen by decide,?_,NdsAt.nil _ _ _ _⟩,?_,(hpw.below hbl).mono (by omega)⟩
       · exact zge (m:=8+k) (q:= [(y,hy)]) (hsz ▸ heap_alloc_new wf _) ⟨⟨by omega,by omega⟩,_,_,hsz ▸ heap_alloc_new wf _⟩ (show 1≤maxLen by decide) (fun j u h=>by rw[← h]; simp[rowOf]) (fun r hr=>by obtain rfl:=List.mem_singleton.1 hr; exact hn5)
       · refine ⟨?_,SB.small (show (0:Nat)≤1100 by decide) (show (0:Nat)≤1000 by decide)⟩
         show 0+totL (8+k+1) [y]+totL (8+k+1) []≤_
         rw[z0v,z0v];have:=hty.1
         simp
         omega
      case measure=>simp[intOf]; omega
    · have HA6:=hid (AnS.mono (M':=18) (T':=300000) (k':=n0+13000) ⟨y,hy,HF4.out.1,HF4.out.2.1,HF4.out.2.2.1,hty,HF4.out.2.2.2⟩ (by omega) (by omega) (by omega))
      clear hty HF4;obtain ⟨u,hu,ux,uz,un,ut,up⟩:=HA6.out;obtain ⟨x0,x1,x2,x3,x4,x5⟩:=z04 ux;obtain ⟨z0,z1,z2,z3,z4,z5⟩:=z04 uz;have zf:=z03 uz
      go_wp2_with fail
      obtain ⟨wf,hwf,hrw,hfin⟩:=AnS.fin uz un ut up hRw rfl;rw[hwf];obtain ⟨e0,e1,e2,e3,e4,e5⟩:=z04 hrw;exact bodyPost_ret (v:= .agg #[.int .i64 u.kind,.string u.data,.slice hu.A u.ptrs.length hu.a,.int .i64 u.size,.int .i64 u.count,.slice hu.B u.items.length hu.b]) (by simp[results,Tryz.results59,go_sem,e0,e1,e2,e3,e4,e5]) rfl hfin
 obtain ⟨u,hu,ux,uz,un,ut,up⟩:=(HA3.out.mono (show 8≤18 by omega) (show 259259≤300000 by omega) (show n0+12952≤n0+13000 by omega))
 have b0:(p==0)=false:=by simpa using p0
 have b1:(p==1)=false:=by simpa using p1
 have b2:(p==2)=false:=by simpa using p2
 have b3:(p==3)=false:=by simpa using p3
 have b4:(p==4)=false:=by simpa using p4
 have b5:(p==5)=false:=by simpa using p5
 obtain ⟨u,hu,ux,uz,un,ut,up⟩:=(HA3.out.mono (show 8≤18 by omega) (show 259259≤300000 by omega) (show n0+12952≤n0+13000 by omega))
 obtain ⟨x0,x1,x2,x3,x4,x5⟩:=z04 ux;obtain ⟨z0,z1,z2,z3,z4,z5⟩:=z04 uz;have zf:=z03 uz
 go_wp2_with fail
 obtain ⟨wf,hwf,hrw,hfin⟩:=AnS.fin uz un ut up hRw rfl;rw[hwf];obtain ⟨e0,e1,e2,e3,e4,e5⟩:=z04 hrw;exact bodyPost_ret (v:= .agg #[.int .i64 u.kind,.string u.data,.slice hu.A u.ptrs.length hu.a,.int .i64 u.size,.int .i64 u.count,.slice hu.B u.items.length hu.b]) (by simp[results,Tryz.results59,go_sem,e0,e1,e2,e3,e4,e5]) rfl hfin
theorem zic {z:Int}(hz:z=2∨z=3∨z=4∨z=5)(n:Int):fitB z n=fitsB n (wdF z):=by
 rw[Bool.eq_iff_iff]
 rcases hz with rfl | rfl | rfl | rfl
 · simp[fitB,fitsB,wdF,z23]; omega
 · simp[fitB,fitsB,wdF,z23]; omega
 · simp[fitB,fitsB,wdF,z23]; omega
 · simp[fitB,fitsB,wdF]
theorem zml {z:Int}(hz:z=2∨z=3∨z=4∨z=5):z23 z=8*wdF z:=by
 rcases hz with rfl | rfl | rfl | rfl <;> rfl
theorem zo2 {f:Fld}(hz:f.size=2∨f.size=3∨f.size=4∨f.size=5)(hf:fitB f.size f.els=true){n:Int}(hv:fitB f.size n=true)(hn: -9223372036854775808≤n∧n≤9223372036854775807){D:List UInt8}{W s:Nat}(hD:D.length=8*W)(hW:W≤24)(hin:toF f.size s≤64*(W:Int)) :
 putB D ((s:Int)*wdF f.size) (wdF f.size) (xorI n f.els)=true∧0≤(s:Int)*wdF f.size∧(s:Int)*wdF f.size+wdF f.size≤D.length:=by
 have hor:=zdy f.size;have hbd:=zcc f.size;rw[zic hz] at hf hv;have hx:=zin hn hor hf;rw[hv] at hx
 have h1:(s:Int)*wdF f.size+wdF f.size≤8*W:=by
  unfold toF at hin;rw[zml hz,Int.mul_left_comm] at hin;omega
 have h0:0≤(s:Int)*wdF f.size:=Int.mul_nonneg (by omega) hbd.1;have hm:((s:Int)*wdF f.size)%wdF f.size=0:=Int.mul_emod_left _ _;refine ⟨?_,h0,by omega⟩;unfold putB putOk;rw[hx]
 have hw:z0w D.length=true:=by unfold z0w; rw[decide_eq_true_eq]; omega
 rw[hw]
 have hp:z2k ((s:Int)*wdF f.size) (wdF f.size)=true:=by
  unfold z2k;rw[decide_eq_true_eq];exact ⟨h0,by omega,hor,hm⟩
 rw[hp]
 have:(s:Int)*wdF f.size<D.length:=by omega
 simp[this]
theorem znl {f:Fld}(hz:f.size=1)(hf:fitB f.size f.els=true){n:Int}(hv:fitB f.size n=true)(hn: -9223372036854775808≤n∧n≤9223372036854775807){D:List UInt8}{W s:Nat}(hD:D.length=8*W)(hW:W≤24)(hin:toF f.size s≤64*(W:Int)) :
 bputT D (s:Int) (xorI n f.els)=z5v D s (xorI n f.els).toNat∧(xorI n f.els=0∨xorI n f.els=1)∧s<8*D.length:=by
 rw[hz] at hf hv hin
 have h1:f.els=0∨f.els=1:=by simp[fitB,z23] at hf; omega
 have h2:n=0∨n=1:=by simp[fitB,z23] at hv; omega
 have h3:=(zku hn h1).2 h2
 have h4:s<8*D.length:=by unfold toF at hin; simp[z23] at hin; omega
 refine ⟨?_,h3,h4⟩
 have hw:z0w D.length=true:=by unfold z0w; rw[decide_eq_true_eq]; omega
 have hb:zhk D (s:Int) (xorI n f.els)=true:=by
  unfold zhk;rw[Bool.and_eq_true,decide_eq_true_eq,decide_eq_true_eq];exact ⟨by omega,h3⟩
 unfold bputT;rw[if_pos hw,if_pos hb,Int.toNat_natCast]
theorem tg_ok {l:List Fld}(hok:z14 l=true)(h0:0≤tagL l)(k:Nat)(hk:k≤12){D:List UInt8}(hD:D.length=8*(layF l ps0).2.ls.words)(hW:(layF l ps0).2.ls.words≤24) :
 putB D (tagL l*2) 2 ((plcN l k:Nat):Int)=true∧tagL l*2+2≤D.length:=by
 have ht:=(layOk l (z2j hok)).tagIn h0;have hpl:=z4k l k
 have h1:tagL l*2+2≤D.length:=by rw[hD]; unfold tagL at *; omega
 refine ⟨?_,h1⟩
 have hw:z0w D.length=true:=by unfold z0w; rw[decide_eq_true_eq]; omega
 unfold putB putOk;rw[hw]
 have hp:z2k (tagL l*2) 2=true:=by unfold z2k; rw[decide_eq_true_eq]; exact ⟨by omega,by omega,.inr (.inl rfl),by omega⟩
 rw[hp]
 have hf:fitsB ((plcN l k:Nat):Int) 2=true:=by unfold fitsB; rw[decide_eq_true_eq]; right; exact ⟨by omega,by show ((plcN l k:Nat):Int)<65536; omega⟩
 rw[hf]
 have:tagL l*2<D.length:=by omega
 simp[this]
theorem z7x {D:List UInt8}(h:z0w D.length=true)(a z n:Int):(putT D a z n).length=D.length:=by
 cases hB:putB D a z n
 · unfold putT
   unfold putB at hB;rw[h,Bool.true_and] at hB;rw[if_pos h,if_neg (by rw[hB]; decide)]
 · exact z8f hB
theorem zfx {D:List UInt8}(h:z0w D.length=true)(a n:Int):(bputT D a n).length=D.length:=by
 unfold bputT;rw[if_pos h]
 split
 · unfold z5v; simp
 · rfl
theorem z3l (l:List Fld)(vs:List Vl)(ch:Int)(hW:(layF l ps0).2.ls.words≤24):∀k,(fillF l vs ch k).d.length=8*(layF l ps0).2.ls.words
 | 0=>by show (List.replicate _ _).length=_; simp
 | k+1=>by
   have h1:=z3l l vs ch hW k
   have hw:∀D:List UInt8,D.length=8*(layF l ps0).2.ls.words→z0w D.length=true:=fun D hD=>by unfold z0w; rw[decide_eq_true_eq]; omega
   have ht:(tgF l k (fillF l vs ch k).d).length=8*(layF l ps0).2.ls.words:=by
    unfold tgF
    split
    · rw[z7x (hw _ h1)]; exact h1
    · exact h1
   show (if pickB l k ch=true then setF l k (vlK vs k) (fillF l vs ch k) else fillF l vs ch k).d.length=_
   split
   · unfold setF
     split
     · exact ht
     · show (wrF _ _ _ _).length=_
       unfold wrF
       split
       · rw[zfx (hw _ ht)]; exact ht
       · rw[z7x (hw _ ht)]; exact ht
   · exact h1
end Go.Proofs.YtblcibgphccfkaaGreatDoor
