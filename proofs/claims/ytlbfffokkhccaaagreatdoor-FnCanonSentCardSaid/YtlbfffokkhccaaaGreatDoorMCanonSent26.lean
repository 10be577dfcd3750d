/- Texts of the proof of the law FnCanonSent, side by side: part 26. -/
import Derived.LaidEqlPtr
import Derived.Laws.StructEq
import Derived.MapKept
import Derived.Carry
import Derived.Test.YtlbfffokkhccaaaGreatDoorMCanonSent25
set_option maxHeartbeats 8000000
set_option maxRecDepth 100000
open Go.Lib (hid)
namespace Go.Proofs.YtlbfffokkhccaaaGreatDoor
open Go.RowKit
abbrev mapT:TypeId:=222
abbrev ndpT:TypeId:=179
def kv (a:Addr×Addr):Value:= .agg #[.pointer (some a.1),.pointer (some a.2)]
theorem zqh (w:World)(a b:Addr)(ha:Clean w a.block)(hb:Clean w b.block)(d:Nat):(Op.equalIn (d+1) ndpT (.pointer (some a)) (.pointer (some b))).run Tryz.prog w= .ok (decide (a=b)) w:=by
 obtain ⟨i0,hi,hz0,hz1,hz2⟩:=info_parts z63
 by_cases h:a=b
 · subst h
   simp[Op.equalIn,run_underlying (P:=Tryz.prog) Tryz.underlying179,sizeOf,typeInfo,hi,run_sameAddr_same]
 · obtain ⟨ca,ta,ha⟩:=ha
   obtain ⟨cb,tb,hb⟩:=hb
   have hs:i0.size≠0:=by rw[hz1]; decide
   simp[Op.equalIn,run_underlying (P:=Tryz.prog) Tryz.underlying179,sizeOf,typeInfo,hi,hs,run_sameAddr_other w h ha hb,h]
theorem znz : (Tryz.prog.fieldsOf prT).toList.map (fun f => (f.name, f.type, f.offset)) = [("a", ndpT, 0), ("b", ndpT, 1)] := by kernel_rfl
theorem z4b (w:World)(xs:Array Value)(k:Nat)(v:Value)(h:xs[k]? =some v):(part ndpT xs k).run Tryz.prog w= .ok v w:=by simp[part,h]
theorem eq_pr (w:World)(a b:Addr×Addr)(h1:Clean w a.1.block)(h2:Clean w a.2.block)(h3:Clean w b.1.block)(h4:Clean w b.2.block):(Op.equal prT (kv a) (kv b)).run Tryz.prog w= .ok (decide (a=b)) w:=by
 unfold kv Op.equal Op.maxDepth;rw[run_equalIn_struct w 9999 prT _ _ (by kernel_rfl) (by kernel_rfl)];have hf:=znz;generalize (Tryz.prog.fieldsOf prT).toList=fs at hf;have hl:=congrArg List.length hf
 simp only[List.length_map,List.length_cons,List.length_nil] at hl
 obtain ⟨f,g,rfl⟩:∃f g,fs= [f,g]:=by
  match fs,hl with
  | [f,g],_=>exact ⟨f,g,rfl⟩
 simp only[List.map_cons,List.map_nil,List.cons.injEq,Prod.mk.injEq,and_true] at hf
 obtain ⟨⟨n1,t1,o1⟩,n2,t2,o2⟩:=hf;obtain ⟨a1,a2⟩:=a;obtain ⟨b1,b2⟩:=b
 dsimp only at h1 h2 h3 h4 ⊢
 have q1:(Op.equalIn 9999 ndpT (.pointer (some a1)) (.pointer (some b1))).run Tryz.prog w= .ok (decide (a1=b1)) w:=zqh w a1 b1 h1 h3 9998;have q2:(Op.equalIn 9999 ndpT (.pointer (some a2)) (.pointer (some b2))).run Tryz.prog w= .ok (decide (a2=b2)) w:=zqh w a2 b2 h2 h4 9998
 simp only[Op.eqFields,n1,n2,t1,t2,o1,o2]
 have p1:(part ndpT #[.pointer (some a1),.pointer (some a2)] 0).run Tryz.prog w= .ok (.pointer (some a1)) w:=z4b w _ 0 _ rfl;have p2:(part ndpT #[.pointer (some a1),.pointer (some a2)] 1).run Tryz.prog w= .ok (.pointer (some a2)) w:=z4b w _ 1 _ rfl;have p3:(part ndpT #[.pointer (some b1),.pointer (some b2)] 0).run Tryz.prog w= .ok (.pointer (some b1)) w:=z4b w _ 0 _ rfl;have p4:(part ndpT #[.pointer (some b1),.pointer (some b2)] 1).run Tryz.prog w= .ok (.pointer (some b2)) w:=z4b w _ 1 _ rfl
 simp only[Sem.run_ite,Sem.run_bind,Sem.run_pure,p1,p2,p3,p4,q1,q2,Result.andThen_ok]
 by_cases e1:a1=b1
 · by_cases e2:a2=b2
   · simp[e1,e2]
   · simp[e1,e2]
 · simp[e1]
def MapSt (w:World)(mb:Nat)(K:List (Addr×Addr)):Prop:=∃es clock,w.heap[mb]? =some (.map es clock)∧es.toList.map (fun e=>(e.key,e.val))=K.map (fun a=>(kv a,Value.bool true))
def z6w (w:World)(a:Addr×Addr):Prop:=Clean w a.1.block∧Clean w a.2.block
instance:DecidableEq (Addr×Addr):=instDecidableEqProd
theorem z64 (w:World)(a:Addr×Addr)(ha:z6w w a):∀(es:List MapEntry) (K:List (Addr×Addr)) (i:Nat),es.map (fun e=>(e.key,e.val))=K.map (fun a=>(kv a,Value.bool true))→(∀b∈K,z6w w b) →
 (a∈K∧∃j,(Instr.findAsking prT (kv a) es i).run Tryz.prog w= .ok (some (j,.bool true)) w)∨(a∉K∧(Instr.findAsking prT (kv a) es i).run Tryz.prog w= .ok none w)
 | [],K,i,h,_=>by
   obtain rfl:K= []:=by cases K; rfl; simp at h
   exact .inr ⟨by simp,by simp[Instr.findAsking]⟩
 | e :: es,[],i,h,_=>by simp at h
 | e :: es,b :: K,i,h,hc=>by
   simp only[List.map_cons,List.cons.injEq,Prod.mk.injEq] at h
   have hb:=hc b List.mem_cons_self;have he:=eq_pr w a b ha.1 ha.2 hb.1 hb.2
   by_cases hab:a=b
   · subst hab
     refine .inl ⟨List.mem_cons_self,i,?_⟩
     simp[Instr.findAsking,h.1.1,h.1.2,he]
   · rcases z64 w a ha es K (i+1) h.2 (fun x hx=>hc x (List.mem_cons_of_mem _ hx)) with ⟨h1,j,h2⟩ | ⟨h1,h2⟩
     · exact .inl ⟨List.mem_cons_of_mem _ h1,j,by simp[Instr.findAsking,h.1.1,he,hab,h2]⟩
     · exact .inr ⟨by simp[hab,h1],by simp[Instr.findAsking,h.1.1,he,hab,h2]⟩
theorem z3j (e:Bool)(a:Addr×Addr)(w:World):(Instr.checkKey e 10000 prT (kv a)).run Tryz.prog w= .ok () w:=by
 have hq:∀(n:Nat) (p:Addr),(Instr.checkKey e (n+1) ndpT (.pointer (some p))).run Tryz.prog w= .ok () w:=fun n p=>by
  simp[Instr.checkKey,run_underlying (P:=Tryz.prog) Tryz.underlying179]
 have hp:∀(p:Addr),(Instr.checkKey e 9999 ndpT (.pointer (some p))).run Tryz.prog w= .ok () w:=hq 9998;unfold kv;unfold Instr.checkKey
 simp[run_underlying (P:=Tryz.prog) Tryz.underlying181,hp,z4b w #[.pointer (some a.1),.pointer (some a.2)] 0 _ rfl,z4b w #[.pointer (some a.1),.pointer (some a.2)] 1 _ rfl]
theorem zl1:Tryz.prog.underlying mapT=some (.map prT 4):=Tryz.underlying222
theorem z66 (w:World)(a:Addr×Addr)(ha:z6w w a)(es:List MapEntry)(K:List (Addr×Addr))(h:es.map (fun e=>(e.key,e.val))=K.map (fun a=>(kv a,Value.bool true)))(hK:∀b∈K,z6w w b) :
 (a∈K∧∃j,(Instr.findKey prT (kv a) es).run Tryz.prog w= .ok (some (j,.bool true)) w)∨(a∉K∧(Instr.findKey prT (kv a) es).run Tryz.prog w= .ok none w):=by
 cases es with
 | nil =>
  obtain rfl:K= []:=by cases K; rfl; simp at h
  refine .inr ⟨by simp,?_⟩
  simp[Instr.findKey,run_underlying (P:=Tryz.prog) Tryz.underlying181,Instr.findNow]
 | cons e es =>
  have hk:e.key=kv (K.headD default):=by
   cases K with
   | nil=>simp at h
   | cons b K=>simp at h; exact h.1.1
  have h1:(Instr.findKey prT (kv a) (e :: es)).run Tryz.prog w=(Instr.findAsking prT (kv a) (e :: es) 0).run Tryz.prog w:=by
   simp[Instr.findKey,run_underlying (P:=Tryz.prog) Tryz.underlying181,Instr.findNow,hk,kv,Instr.sameNow]
  rw[h1];exact z64 w a ha (e :: es) K 0 h hK
theorem zek (w:World)(mb:Nat)(a:Addr×Addr)(K:List (Addr×Addr))(hm:MapSt w mb K)(ha:z6w w a)(hK:∀b∈K,z6w w b)(b:Bool)(hb:b=true↔a∈K) :
 (Instr.lookup mapT (.map (some mb)) (kv a) false).run Tryz.prog w= .ok (.bool b) w:=by
 obtain ⟨es,clock,hw,he⟩:=hm
 rcases z66 w a ha es.toList K he hK with ⟨h1,j,h2⟩ | ⟨h1,h2⟩
 · obtain rfl:b=true:=hb.2 h1
   simp[Instr.lookup,run_underlying (P:=Tryz.prog) zl1,MapKept.run_getObj_map hw,z3j,h2]
 · obtain rfl:b=false:=z48 hb h1
   simp[Instr.lookup,run_underlying (P:=Tryz.prog) zl1,MapKept.run_getObj_map hw,z3j,h2]
theorem zng (w:World)(mb:Nat)(a:Addr×Addr)(K:List (Addr×Addr))(hm:MapSt w mb K)(ha:z6w w a)(hK:∀b∈K,z6w w b)(hb:a∉K) :
 ∃w',(Instr.mapUpdate mapT (.map (some mb)) (kv a) (.bool true)).run Tryz.prog w= .ok () w'∧MapSt w' mb (K++ [a])∧w'.os=w.os∧w'.tape=w.tape∧w'.output=w.output∧w'.heap.size=w.heap.size∧∀k,k≠mb→w'.heap[k]? =w.heap[k]? :=by
 obtain ⟨es,clock,hw,he⟩:=hm
 rcases z66 w a ha es.toList K he hK with ⟨h1,_⟩ | ⟨_,h2⟩
 · exact absurd h1 hb
 · refine ⟨{ w with heap:=w.heap.setIfInBounds mb (.map (es.push { key:=kv a,val:= .bool true,born:=clock }) (clock+1)) },?_,⟨_,_,(MapKept.heap_set hw).1,?_⟩,rfl,rfl,rfl,by simp,(MapKept.heap_set hw).2⟩
   · simp[Instr.mapUpdate,run_underlying (P:=Tryz.prog) zl1,MapKept.run_getObj_map hw,z3j,h2,MapKept.run_setObj_map _ hw]
   · simp[he]
open Go.RowKit Go.Deep
theorem kb {w w':World}{B b o:Nat}{v:Value}(hb:Below B w w')(hl:b<B)(h:w.cell? ⟨b,o,none⟩=some v):w'.cell? ⟨b,o,none⟩=some v:=(hb.cell hl).trans h
theorem z55 {w:World}{B B' e z n:Nat}{v:Value}{xs:List Value}(h:w.ownsRow B e z v n xs)(hb:B'≤B):w.ownsRow B' e z v n xs:=by
 refine ⟨h.1,h.2.imp id ?_⟩;rintro ⟨g,cap,cur,e,hB,hr⟩;exact ⟨g,cap,cur,e,Nat.le_trans hb hB,hr⟩
theorem zaz {n n':Nd}(h:z7e n n'):n.ptrs.length=n'.ptrs.length∧n.items.length=n'.items.length:=⟨h.2.2.2.2.1,h.2.2.2.2.2⟩
theorem zif {n n':Nd}(h:n=n'):z7e n n':=by subst h; exact ⟨rfl,rfl,rfl,rfl,rfl,rfl⟩
theorem z4q {w w':World}{k:Nat}(h:Clean w k)(hb:Below w.heap.size w w'):Clean w' k:=by
 obtain ⟨c,t,hk⟩:=h;exact ⟨c,t,(hb.block k (z00 hk)).trans hk⟩
theorem z8d {w:World}{S:Nat→Prop}{m:Nat}{A:Option Addr}{l:List Nd}(h:NdsAt w S m A l):l= []∨∃x,A=some x:=by
 rcases Nat.eq_zero_or_pos l.length with h0 | h0
 · exact .inl (List.eq_nil_of_length_eq_zero h0)
 · obtain ⟨j,rfl⟩:=h.pred h0
   obtain ⟨x,_,hA,_⟩:=h.at_ h0;exact .inr ⟨x,hA⟩
theorem zki {α:Type}(l:List α)(h:0<l.length):∃l' x,l=l'++ [x]:=by
 rcases List.eq_nil_or_concat l with e | ⟨l',x,e⟩
 · subst e; cases h
 · exact ⟨l',x,by rw[e,List.concat_eq_append]⟩
theorem zpe {w:World}{B n cap:Nat}{A:Option Addr}{xs:List Value}(h:w.ownsRow B prT 2 (.slice A (n+1) cap) (n+1) xs):∃g,A=some ⟨g,0,none⟩∧B≤g∧n+1≤cap∧g<w.heap.size∧∀j u,xs[j]? =some u→w.cell? ⟨g,j,none⟩=some u:=by
 rcases h.2 with ⟨e,_⟩ | ⟨g,cap',cur,e,hB,hg,hc,_⟩
 · simp at e
 · simp only[Value.slice.injEq,true_and] at e
   obtain ⟨rfl,rfl⟩:=e;refine ⟨g,rfl,hB,hc,z00 hg,fun j u hj=>?_⟩;have:=h.cells (g:=g) rfl j u hj
   rwa [z1r] at this
theorem zcu {w w':World}{B e z n:Nat}{v:Value}{xs:List Value}(h:w.ownsRow B e z v n xs)(hk:∀k,B≤k→k<w.heap.size→w'.heap[k]? =w.heap[k]?):w'.ownsRow B e z v n xs:=by
 refine ⟨h.1,h.2.imp id ?_⟩;rintro ⟨g,cap,cur,e,hB,hg,hr⟩;exact ⟨g,cap,cur,e,hB,(hk g hB (z00 hg)).trans hg,hr⟩
theorem zsd {w:World}{B cap:Nat}{A:Option Addr}{G:List PT}{t:PT}(h:w.ownsRow B prT 2 (.slice A (G.length+1) cap) (G.length+1) (rowP (G++ [t]))):w.ownsRow B prT 2 (.slice A G.length cap) G.length (rowP G):=by
 refine ⟨z2z G,?_⟩
 rcases h.2 with ⟨e,_⟩ | ⟨g,cap',cur,e,hB,hg,hc,hm,hs,ht⟩
 · simp at e
 · simp only[Value.slice.injEq,true_and] at e
   obtain ⟨rfl,rfl⟩:=e;refine .inr ⟨g,cap,cur,rfl,hB,hg,by omega,hm,hs,?_⟩;rw[z5i] at ht;have h1:=congrArg (List.take (G.length*2)) ht;rw[List.take_take,Nat.min_eq_left (by omega),List.take_append_of_le_length (Nat.le_of_eq (z2z G).symm)] at h1;rw[h1];exact List.take_of_length_le (by rw[z2z]; exact Nat.le_refl _)
def hd1 (t:PT)(hx hy:Hd):List PT:=pts (hx.A.getD default) (hy.A.getD default) 0 t.2.1.ptrs t.2.2.ptrs
def hd2 (t:PT)(hx hy:Hd):List PT:=pts (hx.B.getD default) (hy.B.getD default) 0 t.2.1.items t.2.2.items
def LookP (t:PT)(hx hy:Hd)(W:World)(e:Ending)(w':World):Prop:=∃(A:Option Addr) (l c:Nat),e= .returned (.tuple #[.bool (z7s t.2.1 t.2.2),.slice A l c])∧(z7s t.2.1 t.2.2=true→l=(hd1 t hx hy).length+(hd2 t hx hy).length∧w'.ownsRow W.heap.size prT 2 (.slice A l c) l (rowP (hd1 t hx hy)++rowP (hd2 t hx hy)))∧Below W.heap.size W w'
theorem zte (t:PT)(hx hy:Hd)(m m':Nat)(S S':Nat→Prop)(w:World)(nx:NdCell w t.1.1 t.2.1 hx)(ny:NdCell w t.1.2 t.2.2 hy)(ax:NdAt w S m t.2.1 hx)(ay:NdAt w S' m' t.2.2 hy)(ht:totN m t.2.1≤2000000) :
 Calls Tryz.prog 111 #[.agg #[.pointer (some t.1.1),.pointer (some t.1.2)]] w (LookP t hx hy w):=by
 have hba:=(Below.refl w.heap.size w).alloc (Nat.le_refl _) (.cells #[.pointer (some t.1.1),.pointer (some t.1.2)] prT);have HP:=hid (heap_alloc_new w (.cells #[.pointer (some t.1.1),.pointer (some t.1.2)] prT));have HBA:=hid hba
 have hsz:(w.alloc (.cells #[.pointer (some t.1.1),.pointer (some t.1.2)] prT)).heap.size=w.heap.size+1:=by simp
 have HCX:Hid (∀V:World,Below w.heap.size w V→NdCell V t.1.1 t.2.1 hx∧NdCell V t.1.2 t.2.2 hy):=hid fun V hV=>⟨z0u hV _ _ _ nx,z0u hV _ _ _ ny⟩
 have HSP:=hid (zg1 t.1.1 t.1.2 t.2.1 t.2.2 hx hy _ (HCX.out _ hba).1 (HCX.out _ hba).2 ax.2.1.len ax.2.2.len ay.2.1.len ay.2.2.len);have HAX:=hid (And.intro ax ay);have HT:=hid ht
 obtain ⟨p0,p1⟩:(w.alloc (.cells #[.pointer (some t.1.1),.pointer (some t.1.2)] prT)).cell? ⟨w.heap.size,0,none⟩=some (.pointer (some t.1.1))∧(w.alloc (.cells #[.pointer (some t.1.1),.pointer (some t.1.2)] prT)).cell? ⟨w.heap.size,1,none⟩=some (.pointer (some t.1.2)):=⟨by rw[cell_of_row _ _ _ _ _ _ HP.out]; rfl,by rw[cell_of_row _ _ _ _ _ _ HP.out]; rfl⟩
 unfold LookP
 obtain ⟨Q1,hQ1⟩:∃Q1,Q1=hd1 t hx hy:=⟨_,rfl⟩
 obtain ⟨Q2,hQ2⟩:∃Q2,Q2=hd2 t hx hy:=⟨_,rfl⟩
 rw[← hQ1,← hQ2];have HQ1:=hid hQ1;have HQ2:=hid hQ2;clear nx ny ax ay ht hba hQ1 hQ2;go_enter Tryz.func111,Tryz.ntmps111
 go_wp2_with fail
 generalize w.alloc (.cells #[.pointer (some t.1.1),.pointer (some t.1.2)] prT)=W at *;refine HSP.out.mono ?_;rintro e w5 ⟨rfl,hb5⟩;have HP5:=hid ((hb5.block _ (z00 HP.out)).trans HP.out);have HB5:=hid (HBA.out.trans (hb5.mono HBA.out.size));have hs5:=hb5.size;clear hb5 p0 p1 HSP HP HBA;cases hpp:z7s t.2.1 t.2.2
 · go_wp2
   go_ret2
   rw[hpp];exact ⟨none,0,0,rfl,(fun e=>by cases e),HB5.out⟩
 · have HPP:=hid hpp
   have hpe:=(z5q _ _).1 hpp;obtain ⟨l1,l2⟩:=zaz hpe;have htl:totN m t.2.1≤2000000:=HT.out;have hpl:=z12 HAX.out.1.2.1 (by unfold totN at htl; omega);have hil:=z12 HAX.out.1.2.2 (by unfold totN at htl; omega)
   have hw1:wt m Q1≤totL m t.2.1.ptrs:=by rw[HQ1.out]; exact zhe _ _ _ HAX.out.1.2.1
   have hw2:wt m Q2≤totL m t.2.1.items:=by rw[HQ2.out]; exact zhe _ _ _ HAX.out.1.2.2
   have hlen3:Q1.length+Q2.length≤2000001:=by
    have q1:=ze3 m Q1;have q2:=ze3 m Q2;have:totN m t.2.1=t.2.1.data.size+totL m t.2.1.ptrs+totL m t.2.1.items:=rfl;omega
   have HPR1:Hid (∀V:World,Calls Tryz.prog 113 #[.slice hx.A t.2.1.ptrs.length hx.a,.slice hy.A t.2.2.ptrs.length hy.a] V fun e w'=>∃v,e= .returned v∧w'.ownsRow V.heap.size prT 2 v Q1.length (rowP Q1)∧Below V.heap.size V w'):=hid fun V=>by
    have:=zdf hx.A hy.A hx.a hy.a t.2.1.ptrs t.2.2.ptrs V (z8d HAX.out.1.2.1) (z8d HAX.out.2.2.1) l1 hpl;unfold zhw at this;rw[HQ1.out];exact this
   have HPR2:Hid (∀V:World,Calls Tryz.prog 113 #[.slice hx.B t.2.1.items.length hx.b,.slice hy.B t.2.2.items.length hy.b] V fun e w'=>∃v,e= .returned v∧w'.ownsRow V.heap.size prT 2 v Q2.length (rowP Q2)∧Below V.heap.size V w'):=hid fun V=>by
    have:=zdf hx.B hy.B hx.b hy.b t.2.1.items t.2.2.items V (z8d HAX.out.1.2.2) (z8d HAX.out.2.2.2) l2 hil;unfold zhw at this;rw[HQ2.out];exact this
   have hPlt:=z00 HP5.out;obtain ⟨c0,c1,c2,c3,c4,c5⟩:=(HCX.out w5 HB5.out).1;obtain ⟨d0,d1,d2,d3,d4,d5⟩:=(HCX.out w5 HB5.out).2
   have p0:w5.cell? ⟨w.heap.size,0,none⟩=some (.pointer (some t.1.1)):=by rw[cell_of_row _ _ _ _ _ _ HP5.out]; rfl
   have p1:w5.cell? ⟨w.heap.size,1,none⟩=some (.pointer (some t.1.2)):=by rw[cell_of_row _ _ _ _ _ _ HP5.out]; rfl
   clear hw1 hw2 htl hpl hil l1 l2 hpe hpp
   go_wp2_with fail
   have hlp:w.heap.size<w5.heap.size:=hPlt;have hlx:t.1.1.block<w5.heap.size:=(HCX.out w5 HB5.out).1.lt;have hly:t.1.2.block<w5.heap.size:=(HCX.out w5 HB5.out).2.lt;have HSB:Hid (Below w5.heap.size w5 w5):=hid (Below.refl _ _);clear c0 c1 c3 c4 d0 d1 d3 d4
   go_region_held3 (fun V=>(V.cell? ⟨w.heap.size,0,none⟩=some (.pointer (some t.1.1))∧V.cell? ⟨w.heap.size,1,none⟩=some (.pointer (some t.1.2)))∧(V.cell? ⟨t.1.1.block,t.1.1.off+2,none⟩=some (.slice hx.A t.2.1.ptrs.length hx.a)∧V.cell? ⟨t.1.1.block,t.1.1.off+5,none⟩=some (.slice hx.B t.2.1.items.length hx.b)∧V.cell? ⟨t.1.2.block,t.1.2.off+2,none⟩=some (.slice hy.A t.2.2.ptrs.length hy.a)∧V.cell? ⟨t.1.2.block,t.1.2.off+5,none⟩=some (.slice hy.B t.2.2.items.length hy.b))∧Below w5.heap.size w5 V)
    ((first | exact ⟨⟨p0,p1⟩,⟨c2,c5,d2,d5⟩,HSB.out.drew⟩ | (obtain ⟨⟨s0,s1⟩,⟨s2,s5,u2,u5⟩,sb⟩:= ‹(_∧_)∧(_∧_)∧Below w5.heap.size w5 _›; exact ⟨⟨kb hbq hlp s0,kb hbq hlp s1⟩,⟨kb hbq hlx s2,kb hbq hlx s5,kb hbq hly u2,kb hbq hly u5⟩,sb.trans hbq⟩)))
    (first | (refine z52 rfl (.tmp 20) (.tmp 31) rfl w5.heap.size w5.heap.size _ v3 Q1.length (rowP Q1) Q2 rfl rfl HO8.out HV3.out (by omega) (by omega) ?_; intro A7 c7 w7 hown7 hgrow7; have hbq:Below w5.heap.size w8 w7:=(Below.refl w5.heap.size w8).grown hgrow7.out (by omega) (fun k hk=>(HO8.out.lt k hk).1)) | (go_at_call 113; first | ((with_reducible refine (HPR1.out _).mono ?_); rintro e w6 ⟨v2,rfl,hown2,hb6⟩; have hsv:=(‹(_∧_)∧(_∧_)∧Below w5.heap.size w5 _›).2.2.size; have hs6:w5.heap.size≤w6.heap.size:=Nat.le_trans hsv hb6.size; have HV2:Hid (w6.ownsRow w5.heap.size prT 2 v2 Q1.length (rowP Q1)):=hid (z55 hown2 hsv); have hbq:=hb6.mono hsv; clear hb6 hown2) | ((with_reducible refine (HPR2.out _).mono ?_); rintro e w8 ⟨v3,rfl,hown3,hb8⟩; have hsv:=(‹(_∧_)∧(_∧_)∧Below w5.heap.size w5 _›).2.2.size; have hs8:w5.heap.size≤w8.heap.size:=Nat.le_trans hsv hb8.size; have HV3:Hid (w8.ownsRow w5.heap.size prT 2 v3 Q2.length (rowP Q2)):=hid (z55 hown3 hsv); have HO8:Hid (w8.ownsRow w5.heap.size prT 2 v2 Q1.length (rowP Q1)):=hid (zcu (w:=w6) HV2.out (fun k _ hk=>hb8.block k hk)); have hbq:=hb8.mono hsv; clear hb8 hown3)))
   all_goals
    have hS:= ‹(_∧_)∧(_∧_)∧Below w5.heap.size w5 _›;have hb7:Below w.heap.size w w7:=HB5.out.trans (hS.2.2.mono HB5.out.size);have hbase:w.heap.size≤w5.heap.size:=HB5.out.size;have HOWN7:=hid (z55 hown7.out hbase);have HB7:=hid hb7;clear hb7 hown7 hgrow7 hS c2 c5 d2 d5 p0 p1;go_wp2
    go_ret2
    rw[HPP.out];exact ⟨A7,_,c7,rfl,fun _=>⟨rfl,HOWN7.out⟩,HB7.out⟩
theorem z7h {ops:Array Oper}{rest:List Oper}{o:Oper}{a:Act}{w:World}{Q:Exit→Act→World→Prop}(hgd:o.guard=none)(s x:Operand)
 (ho:o.op= .call { callee:= .builtin .append,args:= #[s,x],argTypes:= #[prsT,prsT] })
 (base base2:Nat) (v v2:Value) (n:Nat) (xs:List Value) (G:List PT) (hs:a.eval s=v) (hx:a.eval x=v2) (hown:w.ownsRow base prT 2 v n xs) (h2:w.ownsRow base2 prT 2 v2 G.length (rowP G)) (hb:n+G.length≤4000002) (hbase:base≤w.heap.size)
 (h:∀A' c' w',Hid (w'.ownsRow base prT 2 (.slice A' (n+G.length) c') (n+G.length) (xs++rowP G))→Hid (w.grownBy w' v.ownBlock)→wpList Tryz.prog ops Q rest (a.put o.dst (.slice A' (n+G.length) c')) w') :
 wpList Tryz.prog ops Q (o :: rest) a w :=
 wpList_plain hgd fun K hK=>by
  obtain ⟨v',w',hr,h3,h4⟩:=z5z base base2 o.type w v v2 n xs G hown h2 hb hbase;obtain ⟨A',c',rfl⟩:=z3e h3;unfold Oper.wp execOp
  simp only[ho,resolve,invoke,builtin,Sem.run_bind,Sem.run_pure,Result.andThen_ok,List.map_toArray,List.map_cons,List.map_nil,hs,hx,hr]
  exact hK _ _ (h A' c' w' h3 h4)
theorem zme (m:Nat)(n n':Nd)(pa pb:Addr)(w:World)(b:Bool)(hl:Lies w (Clean w) m ((pa,pb),(n,n')))(ht:totN m n≤2000000)(hb:b=true↔n=n') :
 Calls Tryz.prog 110 #[.pointer (some pa),.pointer (some pb),.func (.func 111) #[] #[]] w fun e w'=>e= .returned (.bool b)∧Below w.heap.size w w':=by
 have hmp:((w.alloc (.map #[] 0)).alloc (.cells #[.pointer (some pa),.pointer (some pb)] prT)).heap[w.heap.size]? =some (.map #[] 0):=z05 Array.getElem?_push_size _;have hb4:Below w.heap.size w ((w.alloc (.map #[] 0)).alloc (.cells #[.pointer (some pa),.pointer (some pb)] prT)):=((Below.refl _ _).alloc (Nat.le_refl _) _).alloc (by simp) _;have ho4:=zmr (w.alloc (.map #[] 0)) ((pa,pb),(n,n'));rw[show (w.alloc (.map #[] 0)).heap.size=w.heap.size+1 by simp] at ho4;have HI0:Hid (Inv w (Clean w) m n n' [((pa,pb),(n,n'))] [] []):=hid ⟨fun t ht=>by obtain rfl:=List.mem_singleton.1 ht; exact hl,fun a ha=>(by cases ha),fun d hd=>(by cases hd),by simp,fun e t ht=>by obtain rfl:=List.mem_singleton.1 ht; exact e⟩;have HM4:Hid (MapSt ((w.alloc (.map #[] 0)).alloc (.cells #[.pointer (some pa),.pointer (some pb)] prT)) w.heap.size []):=hid ⟨_,_,hmp,rfl⟩;have HB4:=hid hb4;have HO4:=hid ho4;have HQ:=hid hb;have HT:=hid ht;clear hmp hb4 ho4 hl hb ht;have hmm:= @run_makeMap Tryz.prog;go_enter Tryz.func110,Tryz.ntmps110
 go_wp2_with fail
 go_loopg [8] (1+totN m n) (fun g v wr=>∃(A:Option Addr) (len cap:Nat) (G:List PT) (K:List (Addr×Addr)) (D:List (Nd×Nd)),v= .slice A len cap∧len=G.length∧wt m G=g∧g≤2000001∧Hid (wr.ownsRow (w.heap.size+1) prT 2 (.slice A len cap) G.length (rowP G))∧Hid (Inv w (Clean w) m n n' G K D)∧Hid (MapSt wr w.heap.size K)∧Hid (Below w.heap.size w wr))
 case atStart=>exact ⟨_,1,1,_,[],[],rfl,rfl,Nat.add_zero _,by have:=HT.out; omega,HO4,HI0,HM4,HB4⟩
 case round =>
  obtain ⟨A,len,cap,G,K,D,rfl,hlen,hwt,hg,HO,HI,HM,HB⟩:=hrel;have hGw:=ze3 m G
  by_cases h0:len=0
  · subst h0
    obtain rfl:G= []:=List.eq_nil_of_length_eq_zero hlen.symm;obtain rfl:b=true:=HQ.out.2 HI.out.end_;clear hmm hlen hwt hg hGw;go_wp2;go_ret;exact ⟨rfl,HB.out⟩
  · obtain ⟨k,rfl⟩:∃k,len=k+1:=⟨len-1,by omega⟩
    obtain ⟨G',t,rfl⟩:=zki G (by omega)
    have hk':G'.length=k:=by simp at hlen; omega
    subst hk'
    have hkb:G'.length≤2000001:=by omega
    obtain ⟨g,rfl,hgB,hcap,hgs,hcell⟩:=zpe (by have:=HO.out; rw[show (G'++ [t]).length=G'.length+1 by simp] at this; exact this);have hl2:=zlf G' t;have c0:=hcell _ _ hl2.1;have c1:=hcell _ _ hl2.2;have HO1:=hid (zsd (by have:=HO.out; rw[show (G'++ [t]).length=G'.length+1 by simp] at this; exact this));have hadd:(⟨g,0,none⟩:Addr).add (G'.length*2)=⟨g,G'.length*2,none⟩:=z1r _ _
    have hwr:IntKind.i64.wrap (((G'.length+1:Nat):Int)-1)=(G'.length:Int):=by rw[IntKind.wrap_i64]; omega
    have hlt:(G'.length:Int)<((G'.length+1:Nat):Int):=by omega
    have hcp:(G'.length:Int)≤(cap:Int):=by omega
    have HC:=hid hcell;clear hl2 hcell h0 hlen hGw hmm
    have hw64:wrap64 (G'.length:Int)=(G'.length:Int):=by unfold wrap64; omega
    have hlt0:Lies w (Clean w) m t:=HI.out.lies t (by simp)
    have hkeep:∀k,Clean w k→Clean wr k:=fun k hk=>by
     obtain ⟨c,T,hc⟩:=hk;exact ⟨c,T,(HB.out.block k (z00 hc)).trans hc⟩
    have hcl:∀a,(a=t.1∨a∈K)→z6w (wr.alloc (.cells #[.pointer (some t.1.1),.pointer (some t.1.2)] prT)) a:=fun a ha=>by
     have h1:Clean w a.1.block∧Clean w a.2.block:=by
      rcases ha with rfl | ha
      · exact ⟨hlt0.1,hlt0.2.1⟩
      · obtain ⟨d,hd,_⟩:=HI.out.keys a ha
        exact ⟨hd.1,hd.2.1⟩
     exact ⟨z4q (hkeep _ h1.1) ((Below.refl _ _).alloc (Nat.le_refl _) _),z4q (hkeep _ h1.2) ((Below.refl _ _).alloc (Nat.le_refl _) _)⟩
    have hM1:MapSt (wr.alloc (.cells #[.pointer (some t.1.1),.pointer (some t.1.2)] prT)) w.heap.size K:=by
     obtain ⟨es,cl,h1,h2⟩:=HM.out;exact ⟨es,cl,z05 h1 _,h2⟩
    have hB1:=HB.out.alloc HB.out.size (.cells #[.pointer (some t.1.1),.pointer (some t.1.2)] prT);have hP1:=heap_alloc_new wr (.cells #[.pointer (some t.1.1),.pointer (some t.1.2)] prT);have HO2:=hid (HO1.out.alloc (.cells #[.pointer (some t.1.1),.pointer (some t.1.2)] prT))
    have hwt2:wt m G'+(1+totN m t.2.1)=gk:=by rw[← hwt,zk3]; rfl
    by_cases hin:t.1∈K
    · have hlk:=zek _ w.heap.size t.1 K hM1 (hcl _ (.inl rfl)) (fun b hb=>hcl b (.inr hb)) true (z9d hin)
      unfold kv at hlk;have HM1:=hid hM1;have HB1:=hid hB1;have HS:=hid (HI.out.skip hin);clear hcl hkeep hlt0 hM1 hB1 hin hP1 hwt;go_wp2
      go_roundg (wt m G')
      case measure=>omega
      case rel=>exact ⟨_,G'.length,cap,G',K,D,rfl,rfl,rfl,by omega,HO2,HS,HM1,HB1⟩
    · have hlk:=zek _ w.heap.size t.1 K hM1 (hcl _ (.inl rfl)) (fun b hb=>hcl b (.inr hb)) false (zew hin)
      obtain ⟨Wm,hup,hMm,q1,q2,q3,q4,q5⟩:=zng _ w.heap.size t.1 K hM1 (hcl _ (.inl rfl)) (fun b hb=>hcl b (.inr hb)) hin;unfold kv at hlk hup
      have hsz:(wr.alloc (.cells #[.pointer (some t.1.1),.pointer (some t.1.2)] prT)).heap.size=wr.heap.size+1:=by simp
      have hsB:=HB.out.size;have hPm:Wm.heap[wr.heap.size]? =some (.cells #[.pointer (some t.1.1),.pointer (some t.1.2)] prT (0,0)):=(q5 _ (by have:=z00 HM.out.choose_spec.choose_spec.1; omega)).trans hP1
      have hBm:Below w.heap.size w Wm:=⟨q1.trans hB1.os,q2.trans hB1.tape,q3.trans hB1.output,by rw[q4]; exact hB1.size,fun k hk=>(q5 k (by omega)).trans (hB1.block k hk)⟩
      have hOm:Wm.ownsRow (w.heap.size+1) prT 2 (.slice (some ⟨g,0,none⟩) G'.length cap) G'.length (rowP G'):=zcu HO2.out (fun k h1 _=>q5 k (by omega));obtain ⟨sA,sB,hx,hy,my,nx,ax,ny,ay⟩:=hlt0
      have htl:totN m t.2.1≤2000000:=by omega
      have HLK:=hid (zte t hx hy m my _ _ Wm (z0u hBm _ _ _ nx) (z0u hBm _ _ _ ny) (ax.below hBm) (ay.below hBm) htl);unfold LookP at HLK;have HAX:=hid (And.intro ax ay);have HMm:=hid hMm;have HBm:=hid hBm;have HOm:=hid hOm
      have p0:Wm.cell? ⟨wr.heap.size,0,none⟩=some (.pointer (some t.1.1)):=by rw[cell_of_row _ _ _ _ _ _ hPm]; rfl
      have p1:Wm.cell? ⟨wr.heap.size,1,none⟩=some (.pointer (some t.1.2)):=by rw[cell_of_row _ _ _ _ _ _ hPm]; rfl
      clear hcl hkeep hM1 hB1 hP1 q1 q2 q3 q4 q5 hPm hBm hOm hMm nx ny ax ay sA sB hin
      go_wp2_with fail
      refine HLK.out.mono ?_;rintro e w5 ⟨A5,l5,c5,rfl,hrow5,hb5⟩
      have HM5:Hid (MapSt w5 w.heap.size (K++ [t.1])):=hid (by
       obtain ⟨es,cl,h1,h2⟩:=HMm.out
       exact ⟨es,cl,(hb5.block _ (z00 h1)).trans h1,h2⟩)
      have HB5:=hid (HBm.out.trans (hb5.mono HBm.out.size));have HO5:=hid (zcu HOm.out (fun k _ hk=>hb5.block k hk));have hs5:Wm.heap.size≤w5.heap.size:=hb5.size;have HR5:=hid hrow5;clear hb5 p0 p1 HMm HOm hrow5 HLK;cases hpp:z7s t.2.1 t.2.2
      · obtain rfl:b=false:=z48 HQ.out (fun e=>by
         have:=(z5q _ _).2 (zif (HI.out.sound e t (by simp)))
         rw[hpp] at this; cases this)
        go_wp2;go_ret;exact ⟨rfl,HB5.out⟩
      · have hpe:=(z5q _ _).1 hpp
        obtain ⟨l1,l2⟩:=zaz hpe;obtain ⟨hl5,hown5⟩:=HR5.out hpp;subst hl5
        obtain ⟨H1,hH1⟩:∃H1,H1=hd1 t hx hy:=⟨_,rfl⟩
        obtain ⟨H2,hH2⟩:∃H2,H2=hd2 t hx hy:=⟨_,rfl⟩
        rw[← hH1,← hH2] at hown5;rw[← hH1,← hH2];have hw1:wt m H1≤totL m t.2.1.ptrs:=hH1 ▸ zhe _ _ _ HAX.out.1.2.1;have hw2:wt m H2≤totL m t.2.1.items:=hH2 ▸ zhe _ _ _ HAX.out.1.2.2
        have hwt3:wt m (G'++H1++H2)<gk∧wt m (G'++H1++H2)≤2000001:=by
         rw[zk3,zk3];have:totN m t.2.1=t.2.1.data.size+totL m t.2.1.ptrs+totL m t.2.1.items:=rfl;omega
        have hlen3:G'.length+H1.length+H2.length≤2000001:=by
         have:=ze3 m (G'++H1++H2)
         simp only[List.length_append] at this
         omega
        have HINV:Hid (Inv w (Clean w) m n n' (G'++H1++H2) (K++ [t.1]) (t.2 :: D)):=hid (HI.out.step hpe
         (by rw[hH1]; exact zgi HAX.out.1.2.1 HAX.out.2.2.1 l1) (by rw[hH2]; exact zgi HAX.out.1.2.2 HAX.out.2.2.2 l2)
         (by rw[hH1]; exact zb2 _ _ _ _) (by rw[hH2]; exact zb2 _ _ _ _)
         (fun e=>by rw[hH1]; exact zi9 _ _ (by rw[e])) (fun e=>by rw[hH2]; exact zi9 _ _ (by rw[e])))
        have hown6:w5.ownsRow Wm.heap.size prT 2 (.slice A5 (H1.length+H2.length) c5) (H1++H2).length (rowP (H1++H2)):=by rw[z5i,List.length_append]; exact hown5
        have HV5:=hid hown6
        have hg5:w.heap.size+1≤w5.heap.size:=by have:=z00 HM5.out.choose_spec.choose_spec.1; omega
        have hla:G'.length+(H1++H2).length=G'.length+H1.length+H2.length:=by rw[List.length_append]; omega
        clear hH1 hH2 hw1 hw2 htl l1 l2 hwt hpp hpe hown5 hown6 HR5 hlk hup hsz c0 c1 hadd hwr hlt hcp hw64 hcap
        go_wp2_with (at_builtin; go_must (refine z7h rfl (.tmp 44) (.tmp 45) rfl (w.heap.size+1) Wm.heap.size _ (.slice A5 (H1.length+H2.length) c5) G'.length (rowP G') (H1++H2) rfl rfl HO5.out HV5.out (by omega) (by omega) ?_); intro A9 c9 w9 hown9 hgrow9)
        have HB9:=hid (HB5.out.grown hgrow9.out HB5.out.size (fun k hk=>by have:=(HO5.out.lt k hk).1; omega))
        have HM9:Hid (MapSt w9 w.heap.size (K++ [t.1])):=hid (by
         obtain ⟨es,cl,h1,h2⟩:=HM5.out;have h3:=z00 h1
         exact ⟨es,cl,(hgrow9.out.block _ (by omega) (fun e=>by have:=(HO5.out.lt _ e.symm).1; omega)).trans h1,h2⟩)
        have HO9:Hid (w9.ownsRow (w.heap.size+1) prT 2 (.slice A9 (G'.length+(H1.length+H2.length)) c9) (G'++H1++H2).length (rowP (G'++H1++H2))):=hid (by
         have e1:(G'++H1++H2).length=G'.length+(H1.length+H2.length):=by simp only[List.length_append]; omega
         have e2:rowP (G'++H1++H2)=rowP G'++rowP (H1++H2):=by rw[List.append_assoc,z5i]
         have e3:=hown9.out;rw[show (H1++H2).length=H1.length+H2.length from List.length_append] at e3;rw[e1,e2]
         exact e3)
        clear hown9 hgrow9;go_wp2
        go_roundg (wt m (G'++H1++H2))
        case measure=>exact hwt3.1
        case rel=>exact ⟨A9,G'.length+(H1.length+H2.length),c9,G'++H1++H2,K++ [t.1],t.2 :: D,rfl,by simp only[List.length_append]; omega,rfl,hwt3.2,HO9,HINV,HM9,HB9⟩
theorem zar (m m':Nat)(n n':Nd)(h h':Hd)(w:World)(b:Bool)(hn:NdAt w (Clean w) m n h)(hn':NdAt w (Clean w) m' n' h')(ht:totN m n≤2000000)(hb:b=true↔n=n') :
 Calls Tryz.prog 64 #[.agg #[.int .i64 n.kind,.string n.data,.slice h.A n.ptrs.length h.a,.int .i64 n.size,.int .i64 n.count,.slice h.B n.items.length h.b],.agg #[.int .i64 n'.kind,.string n'.data,.slice h'.A n'.ptrs.length h'.a,.int .i64 n'.size,.int .i64 n'.count,.slice h'.B n'.items.length h'.b]] w fun e w'=>e= .returned (.bool b)∧Below w.heap.size w w':=by
 have hba:Below w.heap.size w ((w.alloc (.cells #[.int .i64 n.kind,.string n.data,.slice h.A n.ptrs.length h.a,.int .i64 n.size,.int .i64 n.count,.slice h.B n.items.length h.b] nodeT)).alloc (.cells #[.int .i64 n'.kind,.string n'.data,.slice h'.A n'.ptrs.length h'.a,.int .i64 n'.size,.int .i64 n'.count,.slice h'.B n'.items.length h'.b] nodeT)):=((Below.refl _ _).alloc (Nat.le_refl _) _).alloc (by simp) _;have k1:((w.alloc (.cells #[.int .i64 n.kind,.string n.data,.slice h.A n.ptrs.length h.a,.int .i64 n.size,.int .i64 n.count,.slice h.B n.items.length h.b] nodeT)).alloc (.cells #[.int .i64 n'.kind,.string n'.data,.slice h'.A n'.ptrs.length h'.a,.int .i64 n'.size,.int .i64 n'.count,.slice h'.B n'.items.length h'.b] nodeT)).heap[w.heap.size]? =some (.cells #[.int .i64 n.kind,.string n.data,.slice h.A n.ptrs.length h.a,.int .i64 n.size,.int .i64 n.count,.slice h.B n.items.length h.b] nodeT (0,0)):=(Below.heap_alloc _ _ _ (by simp)).trans (heap_alloc_new w _)
 have k2:((w.alloc (.cells #[.int .i64 n.kind,.string n.data,.slice h.A n.ptrs.length h.a,.int .i64 n.size,.int .i64 n.count,.slice h.B n.items.length h.b] nodeT)).alloc (.cells #[.int .i64 n'.kind,.string n'.data,.slice h'.A n'.ptrs.length h'.a,.int .i64 n'.size,.int .i64 n'.count,.slice h'.B n'.items.length h'.b] nodeT)).heap[w.heap.size+1]? =some (.cells #[.int .i64 n'.kind,.string n'.data,.slice h'.A n'.ptrs.length h'.a,.int .i64 n'.size,.int .i64 n'.count,.slice h'.B n'.items.length h'.b] nodeT (0,0)):=by have:=heap_alloc_new (w.alloc (.cells #[.int .i64 n.kind,.string n.data,.slice h.A n.ptrs.length h.a,.int .i64 n.size,.int .i64 n.count,.slice h.B n.items.length h.b] nodeT)) (.cells #[.int .i64 n'.kind,.string n'.data,.slice h'.A n'.ptrs.length h'.a,.int .i64 n'.size,.int .i64 n'.count,.slice h'.B n'.items.length h'.b] nodeT); rwa [show (w.alloc (.cells #[.int .i64 n.kind,.string n.data,.slice h.A n.ptrs.length h.a,.int .i64 n.size,.int .i64 n.count,.slice h.B n.items.length h.b] nodeT)).heap.size=w.heap.size+1 by simp] at this
 have HN:=(hn.below hba).weak (S':=Clean ((w.alloc (.cells #[.int .i64 n.kind,.string n.data,.slice h.A n.ptrs.length h.a,.int .i64 n.size,.int .i64 n.count,.slice h.B n.items.length h.b] nodeT)).alloc (.cells #[.int .i64 n'.kind,.string n'.data,.slice h'.A n'.ptrs.length h'.a,.int .i64 n'.size,.int .i64 n'.count,.slice h'.B n'.items.length h'.b] nodeT))) (fun k hk=>z4q hk hba);have HN':=(hn'.below hba).weak (S':=Clean ((w.alloc (.cells #[.int .i64 n.kind,.string n.data,.slice h.A n.ptrs.length h.a,.int .i64 n.size,.int .i64 n.count,.slice h.B n.items.length h.b] nodeT)).alloc (.cells #[.int .i64 n'.kind,.string n'.data,.slice h'.A n'.ptrs.length h'.a,.int .i64 n'.size,.int .i64 n'.count,.slice h'.B n'.items.length h'.b] nodeT))) (fun k hk=>z4q hk hba);have HL0:Hid (Lies ((w.alloc (.cells #[.int .i64 n.kind,.string n.data,.slice h.A n.ptrs.length h.a,.int .i64 n.size,.int .i64 n.count,.slice h.B n.items.length h.b] nodeT)).alloc (.cells #[.int .i64 n'.kind,.string n'.data,.slice h'.A n'.ptrs.length h'.a,.int .i64 n'.size,.int .i64 n'.count,.slice h'.B n'.items.length h'.b] nodeT)) (Clean ((w.alloc (.cells #[.int .i64 n.kind,.string n.data,.slice h.A n.ptrs.length h.a,.int .i64 n.size,.int .i64 n.count,.slice h.B n.items.length h.b] nodeT)).alloc (.cells #[.int .i64 n'.kind,.string n'.data,.slice h'.A n'.ptrs.length h'.a,.int .i64 n'.size,.int .i64 n'.count,.slice h'.B n'.items.length h'.b] nodeT))) m ((⟨w.heap.size,0,none⟩,⟨w.heap.size+1,0,none⟩),(n,n'))):=hid ⟨⟨_,_,k1⟩,⟨_,_,k2⟩,h,h',m',⟨(z01 k1).1,(z01 k1).2.1,(z01 k1).2.2.1,(z01 k1).2.2.2.1,(z01 k1).2.2.2.2.1,(z01 k1).2.2.2.2.2⟩,HN,⟨(z01 k2).1,(z01 k2).2.1,(z01 k2).2.2.1,(z01 k2).2.2.2.1,(z01 k2).2.2.2.2.1,(z01 k2).2.2.2.2.2⟩,HN'⟩
 have HBA:=hid hba;have HC:=hid (zme m n n' _ _ _ b HL0.out ht hb);clear hn hn' hba k1 k2 hb ht HN HN' HL0;go_enter Tryz.func64,Tryz.ntmps64
 go_wp2_with fail
 refine HC.out.mono ?_;rintro e w5 ⟨rfl,hb5⟩;have HB5:=hid (HBA.out.trans (hb5.mono HBA.out.size));clear hb5;go_wp2;go_ret;exact ⟨rfl,HB5.out⟩
theorem kc {V V':World}{a:Addr}{v:Value}(hb:Below V.heap.size V V')(h:V.cell? a=some v):V'.cell? a=some v:=(hb.cell (World.block_lt_of_cell? V a h)).trans h
theorem zfn (m m':Nat)(n n':Nd)(h h':Hd)(w:World)(S S':Nat→Prop)(b:Bool)(hn:NdAt w S m n h)(hn':NdAt w S' m' n' h')(ht:totN m n≤2000000)(ht':totN m' n'≤2000000)(hb:b=true↔(z0g n=true∧z0g n'=true∧canN n=canN n')) :
 Calls Tryz.prog 28 #[.agg #[.int .i64 n.kind,.string n.data,.slice h.A n.ptrs.length h.a,.int .i64 n.size,.int .i64 n.count,.slice h.B n.items.length h.b],.agg #[.int .i64 n'.kind,.string n'.data,.slice h'.A n'.ptrs.length h'.a,.int .i64 n'.size,.int .i64 n'.count,.slice h'.B n'.items.length h'.b]] w fun e w'=>e= .returned (.bool b)∧Below w.heap.size w w':=by
 have HO1:Hid (∀W:World,Below w.heap.size w W→Calls Tryz.prog 32 #[.agg #[.int .i64 n.kind,.string n.data,.slice h.A n.ptrs.length h.a,.int .i64 n.size,.int .i64 n.count,.slice h.B n.items.length h.b]] W fun e w'=>e= .returned (.bool (z0g n))∧Below W.heap.size W w'):=hid fun W hW=>z1s m n h W S (hn.below hW) ht
 have HO2:Hid (∀W:World,Below w.heap.size w W→Calls Tryz.prog 32 #[.agg #[.int .i64 n'.kind,.string n'.data,.slice h'.A n'.ptrs.length h'.a,.int .i64 n'.size,.int .i64 n'.count,.slice h'.B n'.items.length h'.b]] W fun e w'=>e= .returned (.bool (z0g n'))∧Below W.heap.size W w'):=hid fun W hW=>z1s m' n' h' W S' (hn'.below hW) ht'
 have HC1:Hid (z0g n=true→∀W:World,Below w.heap.size w W→Calls Tryz.prog 63 #[.agg #[.int .i64 n.kind,.string n.data,.slice h.A n.ptrs.length h.a,.int .i64 n.size,.int .i64 n.count,.slice h.B n.items.length h.b]] W (NewO (m+1) (canN n) W)):=hid fun hok W hW=>by
  have:=z6h m n h W S (hn.below hW) ht;unfold canX at this
  rwa [if_pos hok] at this
 have HC2:Hid (z0g n'=true→∀W:World,Below w.heap.size w W→Calls Tryz.prog 63 #[.agg #[.int .i64 n'.kind,.string n'.data,.slice h'.A n'.ptrs.length h'.a,.int .i64 n'.size,.int .i64 n'.count,.slice h'.B n'.items.length h'.b]] W (NewO (m'+1) (canN n') W)):=hid fun hok W hW=>by
  have:=z6h m' n' h' W S' (hn'.below hW) ht';unfold canX at this
  rwa [if_pos hok] at this
 have HTZ:Hid (z0g n=true→∀(W:World) (hy:Hd) (bs:List Nat),OwN W (m+1) (canN n) hy bs→totN (m+1) (canN n)≤2000000):=hid fun hok W hy bs ho=>by
  rw[z3c ho.nd];have h1:=zd2 8 n (z21 hok).1;rw[← z3c hn] at h1;omega
 have hba:Below w.heap.size w ((w.alloc (.cells #[.int .i64 n.kind,.string n.data,.slice h.A n.ptrs.length h.a,.int .i64 n.size,.int .i64 n.count,.slice h.B n.items.length h.b] nodeT)).alloc (.cells #[.int .i64 n'.kind,.string n'.data,.slice h'.A n'.ptrs.length h'.a,.int .i64 n'.size,.int .i64 n'.count,.slice h'.B n'.items.length h'.b] nodeT)):=((Below.refl _ w).alloc (Nat.le_refl _) _).alloc (by simp) _;have hx0:((w.alloc (.cells #[.int .i64 n.kind,.string n.data,.slice h.A n.ptrs.length h.a,.int .i64 n.size,.int .i64 n.count,.slice h.B n.items.length h.b] nodeT)).alloc (.cells #[.int .i64 n'.kind,.string n'.data,.slice h'.A n'.ptrs.length h'.a,.int .i64 n'.size,.int .i64 n'.count,.slice h'.B n'.items.length h'.b] nodeT)).heap[w.heap.size]? =some (.cells #[.int .i64 n.kind,.string n.data,.slice h.A n.ptrs.length h.a,.int .i64 n.size,.int .i64 n.count,.slice h.B n.items.length h.b] nodeT (0,0)):=z05 (heap_alloc_new w _) _
 have hy0:((w.alloc (.cells #[.int .i64 n.kind,.string n.data,.slice h.A n.ptrs.length h.a,.int .i64 n.size,.int .i64 n.count,.slice h.B n.items.length h.b] nodeT)).alloc (.cells #[.int .i64 n'.kind,.string n'.data,.slice h'.A n'.ptrs.length h'.a,.int .i64 n'.size,.int .i64 n'.count,.slice h'.B n'.items.length h'.b] nodeT)).heap[w.heap.size+1]? =some (.cells #[.int .i64 n'.kind,.string n'.data,.slice h'.A n'.ptrs.length h'.a,.int .i64 n'.size,.int .i64 n'.count,.slice h'.B n'.items.length h'.b] nodeT (0,0)):=by have:=heap_alloc_new (w.alloc (.cells #[.int .i64 n.kind,.string n.data,.slice h.A n.ptrs.length h.a,.int .i64 n.size,.int .i64 n.count,.slice h.B n.items.length h.b] nodeT)) (.cells #[.int .i64 n'.kind,.string n'.data,.slice h'.A n'.ptrs.length h'.a,.int .i64 n'.size,.int .i64 n'.count,.slice h'.B n'.items.length h'.b] nodeT); rwa [show (w.alloc (.cells #[.int .i64 n.kind,.string n.data,.slice h.A n.ptrs.length h.a,.int .i64 n.size,.int .i64 n.count,.slice h.B n.items.length h.b] nodeT)).heap.size=w.heap.size+1 by simp] at this
 have HBA:=hid hba;have HBB:=hid hb;obtain ⟨a0,a1,a2,a3,a4,a5⟩:=z01 hx0;obtain ⟨b0,b1,b2,b3,b4,b5⟩:=z01 hy0;clear hn hn' ht ht' hb hba hx0 hy0;go_enter Tryz.func28,Tryz.ntmps28
 go_wp2_with fail
 generalize ((w.alloc (.cells #[.int .i64 n.kind,.string n.data,.slice h.A n.ptrs.length h.a,.int .i64 n.size,.int .i64 n.count,.slice h.B n.items.length h.b] nodeT)).alloc (.cells #[.int .i64 n'.kind,.string n'.data,.slice h'.A n'.ptrs.length h'.a,.int .i64 n'.size,.int .i64 n'.count,.slice h'.B n'.items.length h'.b] nodeT))=W0 at *;cases hok:z0g n
 · have hbf:b=false:=z48 HBB.out (fun h=>by rw[hok] at h; cases h.1)
   subst hbf;rw[hok] at HO1;clear hok HC1 HC2 HTZ HBB;have q0:=cell_regrown a0;have q1:=cell_regrown a1;have q2:=cell_regrown a2;have q3:=cell_regrown a3;have q4:=cell_regrown a4;have q5:=cell_regrown a5;have r0:=cell_regrown b0;have r1:=cell_regrown b1;have r2:=cell_regrown b2;have r3:=cell_regrown b3;have r4:=cell_regrown b4;have r5:=cell_regrown b5
   have hwx:∀d os,Below w.heap.size w («Sort».grow (redrawn W0 d) os):=fun d os=>HBA.out.trans ((below_regrown W0 d os).mono HBA.out.size)
   refine wp_region_quiet_below (by kernel_rfl) (by kernel_rfl) ?_
   repeat (first | go_big_quiet_step (first | (go_at_call 32; first | with_reducible exact Calls.regrown_of (HO1.out _ (hwx _ _)) | with_reducible exact Calls.regrown_of (HO2.out _ (hwx _ _)))) | quiet_step (first | (go_at_call 32; first | with_reducible exact Calls.regrown_of (HO1.out _ (hwx _ _)) | with_reducible exact Calls.regrown_of (HO2.out _ (hwx _ _)))))
   refine wpQuiet_nil ?_
   intro _ hw'
   obtain ⟨⟨dq,osq⟩,hw''⟩:=hw';subst hw'';have HFIN:=hid (hwx dq osq);clear hwx q0 q1 q2 q3 q4 q5 r0 r1 r2 r3 r4 r5 a0 a1 a2 a3 a4 a5 b0 b1 b2 b3 b4 b5;generalize «Sort».grow (redrawn W0 dq) osq=W1 at HFIN ⊢;go_wp2;go_ret;exact ⟨rfl,HFIN.out⟩
 · cases hok':z0g n'
   · have hbf:b=false:=z48 HBB.out (fun h=>by rw[hok'] at h; cases h.2.1)
     subst hbf;rw[hok] at HO1;rw[hok'] at HO2;clear hok hok' HC1 HC2 HTZ HBB;have q0:=cell_regrown a0;have q1:=cell_regrown a1;have q2:=cell_regrown a2;have q3:=cell_regrown a3;have q4:=cell_regrown a4;have q5:=cell_regrown a5;have r0:=cell_regrown b0;have r1:=cell_regrown b1;have r2:=cell_regrown b2;have r3:=cell_regrown b3;have r4:=cell_regrown b4;have r5:=cell_regrown b5
     have hwx:∀d os,Below w.heap.size w («Sort».grow (redrawn W0 d) os):=fun d os=>HBA.out.trans ((below_regrown W0 d os).mono HBA.out.size)
     refine wp_region_quiet_below (by kernel_rfl) (by kernel_rfl) ?_
     repeat (first | go_big_quiet_step (first | (go_at_call 32; first | with_reducible exact Calls.regrown_of (HO1.out _ (hwx _ _)) | with_reducible exact Calls.regrown_of (HO2.out _ (hwx _ _)))) | quiet_step (first | (go_at_call 32; first | with_reducible exact Calls.regrown_of (HO1.out _ (hwx _ _)) | with_reducible exact Calls.regrown_of (HO2.out _ (hwx _ _)))))
     refine wpQuiet_nil ?_
     intro _ hw'
     obtain ⟨⟨dq,osq⟩,hw''⟩:=hw';subst hw'';have HFIN:=hid (hwx dq osq);clear hwx q0 q1 q2 q3 q4 q5 r0 r1 r2 r3 r4 r5 a0 a1 a2 a3 a4 a5 b0 b1 b2 b3 b4 b5;generalize «Sort».grow (redrawn W0 dq) osq=W1 at HFIN ⊢;go_wp2;go_ret;exact ⟨rfl,HFIN.out⟩
   · have HBZ:Hid (b=true↔canN n=canN n'):=hid (HBB.out.trans ⟨fun h=>h.2.2,fun h=>⟨hok,hok',h⟩⟩)
     replace HC1:=hid (HC1.out hok)
     replace HC2:=hid (HC2.out hok')
     replace HTZ:=hid (HTZ.out hok)
     rw[hok] at HO1;rw[hok'] at HO2;clear hok hok' HBB;unfold NewO at HC1 HC2;generalize canN n=z at *;generalize canN n'=z' at *
     first | go_region_held3 (fun V=>(V.cell? ⟨w.heap.size,0,none⟩=some (.int .i64 n.kind)∧V.cell? ⟨w.heap.size,1,none⟩=some (.string n.data)∧V.cell? ⟨w.heap.size,2,none⟩=some (.slice h.A n.ptrs.length h.a)∧V.cell? ⟨w.heap.size,3,none⟩=some (.int .i64 n.size)∧V.cell? ⟨w.heap.size,4,none⟩=some (.int .i64 n.count)∧V.cell? ⟨w.heap.size,5,none⟩=some (.slice h.B n.items.length h.b))∧(V.cell? ⟨w.heap.size+1,0,none⟩=some (.int .i64 n'.kind)∧V.cell? ⟨w.heap.size+1,1,none⟩=some (.string n'.data)∧V.cell? ⟨w.heap.size+1,2,none⟩=some (.slice h'.A n'.ptrs.length h'.a)∧V.cell? ⟨w.heap.size+1,3,none⟩=some (.int .i64 n'.size)∧V.cell? ⟨w.heap.size+1,4,none⟩=some (.int .i64 n'.count)∧V.cell? ⟨w.heap.size+1,5,none⟩=some (.slice h'.B n'.items.length h'.b))∧Below w.heap.size w V) ((first | exact ⟨⟨a0,a1,a2,a3,a4,a5⟩,⟨b0,b1,b2,b3,b4,b5⟩,HBA.out.drew⟩ | (obtain ⟨⟨s0,s1,s2,s3,s4,s5⟩,⟨t0,t1,t2,t3,t4,t5⟩,sb⟩:= ‹(_∧_)∧(_∧_)∧Below w.heap.size w _›; exact ⟨⟨kc hbq s0,kc hbq s1,kc hbq s2,kc hbq s3,kc hbq s4,kc hbq s5⟩,⟨kc hbq t0,kc hbq t1,kc hbq t2,kc hbq t3,kc hbq t4,kc hbq t5⟩,sb.trans (hbq.mono sb.size)⟩))) (first | (go_at_call 32; first | ((with_reducible refine (HO1.out _ (by have hh:= ‹(_∧_)∧(_∧_)∧Below w.heap.size w _›; exact hh.2.2)).mono ?_); rintro e w4 ⟨rfl,hbq⟩) | ((with_reducible refine (HO2.out _ (by have hh:= ‹(_∧_)∧(_∧_)∧Below w.heap.size w _›; exact hh.2.2)).mono ?_); rintro e w4 ⟨rfl,hbq⟩)) | (go_at_call 63; first | ((with_reducible refine (HC1.out _ (by have hh:= ‹(_∧_)∧(_∧_)∧Below w.heap.size w _›; exact hh.2.2)).mono ?_); rintro e w4 ⟨hy1,bs1,rfl,hown1,hnd1,hge1,hbq⟩) | ((with_reducible refine (HC2.out _ (by have hh:= ‹(_∧_)∧(_∧_)∧Below w.heap.size w _›; exact hh.2.2)).mono ?_); rintro e w5 ⟨hy2,bs2,rfl,hown2,hnd2,hge2,hbq⟩; have hown3:=hown1.below hbq)) | (go_at_call 64; (with_reducible refine (zar (m+1) (m'+1) z z' hy1 hy2 _ b hown3.clean hown2.clean (HTZ.out _ _ _ hown3) HBZ.out).mono ?_); rintro e w6 ⟨rfl,hbq⟩)) | fail
     all_goals
      have hfin:= ‹(_∧_)∧(_∧_)∧Below w.heap.size w _›;have HFIN:=hid hfin.2.2;clear hfin;go_wp2;go_ret;exact ⟨rfl,HFIN.out⟩
end Go.Proofs.YtlbfffokkhccaaaGreatDoor
namespace Go.Proofs.YtlbfffokkhccaaaGreatDoor
open Go.RowKit
open Go.RowKit Go.Deep
end Go.Proofs.YtlbfffokkhccaaaGreatDoor
namespace Go.Proofs.YtlbfffokkhccaaaGreatDoor
open Go.RowKit
def oneS:Option Segs→ByteArray
 | some (s :: _)=>⟨s.toArray⟩
 | _=> { data:= #[] }
def oneB:Option Segs→Bool
 | some _=>true
 | none=>false
theorem One1.det {r:Option Segs}{w:World}{e:Ending}{w':World}(h:One1 r w e w'):e= .returned (.tuple #[.string (oneS r),.bool (oneB r)])∧Below w.heap.size w w':=by
 rcases h with ⟨s,t,rfl,rfl,hb⟩ | ⟨rfl,rfl,hb⟩
 · exact ⟨rfl,hb⟩
 · exact ⟨rfl,hb⟩
open Go.RowKit Go.Deep
def cpV (n:Nd):Option Segs:=if z0g n=true then bldV (canX n) 200 else none
theorem zlp {n:Nd} :sizN (canX n)≤sizN n:=by
 unfold canX
 by_cases hok:z0g n=true
 · rw[if_pos hok]; exact zd2 8 n (z21 hok).1
 · rw[if_neg hok,z38]
   have:z0i.data.size+sizL z0i.ptrs+sizL z0i.items=0:=by
    show 0+sizL []+sizL []=0
    rw[z8j]
   omega
def CpQ (n:Nd)(w:World)(e:Ending)(w':World):Prop:=e= .returned (.tuple #[.string (oneS (cpV n)),.bool (oneB (cpV n))])∧Below w.heap.size w w'
theorem z65 (m:Nat)(n:Nd)(h:Hd)(w:World)(S:Nat→Prop)(hn:NdAt w S m n h)(ht:totN m n≤2000000) :
 Calls Tryz.prog 27 #[.agg #[.int .i64 n.kind,.string n.data,.slice h.A n.ptrs.length h.a,.int .i64 n.size,.int .i64 n.count,.slice h.B n.items.length h.b]] w (CpQ n w):=by
 obtain ⟨qA,qa,qB,qb⟩:=h;have hb0:=(Below.refl w.heap.size w).alloc (Nat.le_refl _) (.cells #[.int .i64 n.kind,.string n.data,.slice qA n.ptrs.length qa,.int .i64 n.size,.int .i64 n.count,.slice qB n.items.length qb] nodeT);have HB0:=hid hb0;have R0:=hid (heap_alloc_new w (.cells #[.int .i64 n.kind,.string n.data,.slice qA n.ptrs.length qa,.int .i64 n.size,.int .i64 n.count,.slice qB n.items.length qb] nodeT));have hsz:sizN (canX n)≤2000000:=Nat.le_trans zlp (by rw[← z3c hn]; exact ht);have HOK:=hid (fun (W:World) (hW:Below w.heap.size w W)=>z1s m n ⟨qA,qa,qB,qb⟩ W S (hn.below hW) ht);have HCA:=hid (fun (W:World) (hW:Below w.heap.size w W)=>z6h m n ⟨qA,qa,qB,qb⟩ W S (hn.below hW) ht)
 have HBO:Hid (∀(W:World) (y:Hd) (S:Nat→Prop),NdAt W S (m+1) (canX n) y→Calls Tryz.prog 19 #[.agg #[.int .i64 (canX n).kind,.string (canX n).data,.slice y.A (canX n).ptrs.length y.a,.int .i64 (canX n).size,.int .i64 (canX n).count,.slice y.B (canX n).items.length y.b]] W fun e w'=>e= .returned (.tuple #[.string (oneS (bldV (canX n) 200)),.bool (oneB (bldV (canX n) 200))])∧Below W.heap.size W w'):=hid fun W y S hy=>(zas (m+1) (canX n) y W S hy (by rw[z3c hy]; exact hsz)).mono (fun _ _ h=>h.det)
 have HV:Hid (cpV n=if z0g n=true then bldV (canX n) 200 else none):=hid rfl;unfold CpQ;rw[HV.out];unfold NewO at HCA
 dsimp only at HOK HCA ⊢
 generalize bldV (canX n) 200=r at *;generalize canX n=x at *;clear hn hb0 hsz HV;cases hok:z0g n
 all_goals
  rw[hok] at HOK
  simp only[if_true,Bool.false_eq_true,if_false]
  clear hok;go_enter Tryz.func27,Tryz.ntmps27
  go_wp2_with fail
  refine (HOK.out _ HB0.out).mono ?_;rintro e w1 ⟨rfl,hb1⟩;have HB1:=hid (HB0.out.trans (hb1.mono HB0.out.size));obtain ⟨n0,n1,n2,n3,n4,n5⟩:=z01 ((hb1.block _ (z00 R0.out)).trans R0.out);clear hb1
 · go_wp2
   exact bodyPost_ret (v:= .tuple #[.string { data:= #[] },.bool false]) (by simp[results,Tryz.results27,go_sem]) rfl ⟨rfl,HB1.out⟩
 · go_wp2_with fail
   refine (HCA.out _ HB1.out).mono ?_;rintro e w2 ⟨h2,bs2,rfl,ho2,hd2,hg2,hb2⟩;have HB2:=hid (HB1.out.trans (hb2.mono HB1.out.size));have HC:=hid (HBO.out w2 h2 _ ho2.nd);clear hb2 ho2 hd2 hg2 n0 n1 n2 n3 n4 n5
   go_wp2_with fail
   refine HC.out.mono ?_;rintro e w3 ⟨rfl,hb3⟩;have HB3:=hid (HB2.out.trans (hb3.mono HB2.out.size));clear hb3 HC;go_wp2;exact bodyPost_ret (v:= .tuple #[.string (oneS r),.bool (oneB r)]) (by simp[results,Tryz.results27,go_sem]) rfl ⟨rfl,HB3.out⟩
theorem zry {n:Nd}(h:z0g n=true):canN n=canX n:=by unfold canX; rw[if_pos h]
theorem CpQ.two {n:Nd}{w:World}{e:Ending}{w':World}(h:CpQ n w e w'):e= .returned (.tuple #[.string (oneS (cpV n)),.bool (oneB (cpV n))])∧Below w.heap.size w w':=h
theorem ztb {n:Nd}(h:z0g n=true):∃s,cpV n=some [s]∧s.length≤1600∧z36 200 200 (canN n)=some [s]:=by
 have hx:=zjg h;have hw:=(z21 hx).2
 have hnw:z2r (canN n)=z03 8 (canN n):=by unfold z2r; rw[if_pos hx]
 obtain ⟨s,h1,h2⟩:=zee (size:=200) hx (by omega);refine ⟨s,?_,?_,h1⟩
 · unfold cpV bldV
   rw[if_pos h,← zry h,if_pos ⟨hx,by decide,by decide⟩];exact h1
 · rw[h2]
   skip
   omega
theorem walkCanonSent (w:World)(a:Option Addr)(len cap:Nat)(h:Arg w a len cap) :
 Calls Tryz.prog 8 #[.slice a len cap] w fun e w'=>e= .returned (.bool true)∧Below w.heap.size w w':=by
 have hlen:=h.1.1;unfold maxLen at hlen
 by_cases hbig:1048576<len
 · go_enter Tryz.func8,Tryz.ntmps8
   go_wp2;go_ret;exact ⟨rfl,Below.refl _ _⟩
 have HD:=hid (zdv a len cap w h);clear h;go_enter Tryz.func8,Tryz.ntmps8
 go_wp2_with fail
 refine HD.out.mono ?_;rintro e w1 ⟨n,h1,z,rfl,⟨z0,z1⟩,hn1,ht1,hb1⟩;have hb2:=(Below.refl w1.heap.size w1).alloc (Nat.le_refl _) (.cells #[.int .i64 n.kind,.string n.data,.slice h1.A n.ptrs.length h1.a,.int .i64 n.size,.int .i64 n.count,.slice h1.B n.items.length h1.b] nodeT);have HR2:=hid (heap_alloc_new w1 (.cells #[.int .i64 n.kind,.string n.data,.slice h1.A n.ptrs.length h1.a,.int .i64 n.size,.int .i64 n.count,.slice h1.B n.items.length h1.b] nodeT));have HB2:=hid (hb1.trans (hb2.mono hb1.size));have HN2:=hid ((hn1.weak (S':=Any) (fun _ _=>trivial)).below hb2);have HT:Hid (totN 18 n≤2000000):=hid (by omega);clear hb1 hn1 ht1 hb2 HD;have HLT:=hid (show w1.heap.size<(w1.alloc (.cells #[.int .i64 n.kind,.string n.data,.slice h1.A n.ptrs.length h1.a,.int .i64 n.size,.int .i64 n.count,.slice h1.B n.items.length h1.b] nodeT)).heap.size by simp);obtain ⟨a0,a1,a2,a3,a4,a5⟩:=z01 HR2.out
 go_wp2_with fail
 generalize w1.alloc (.cells #[.int .i64 n.kind,.string n.data,.slice h1.A n.ptrs.length h1.a,.int .i64 n.size,.int .i64 n.count,.slice h1.B n.items.length h1.b] nodeT)=W2 at *;have HTX:=hid (zeq n z);have HI:=hid (fun (W:World) (hW:Below W2.heap.size W2 W)=>zik 18 n h1 W Any z HTX.out.1 HTX.out.2.1 (HN2.out.below hW) HT.out);have HS:=hid (fun (W:World) (hW:Below W2.heap.size W2 W)=>zj1 18 n h1 W Any z HTX.out.1 HTX.out.2.2 HTX.out.2.1 (HN2.out.below hW) HT.out)
 have HC:Hid (∀W:World,Below W2.heap.size W2 W→Calls Tryz.prog 12 #[.agg #[.int .i64 n.kind,.string n.data,.slice h1.A n.ptrs.length h1.a,.int .i64 n.size,.int .i64 n.count,.slice h1.B n.items.length h1.b]] W fun e w'=>e= .returned (.int .i64 (z3b n:Nat))∧Below W.heap.size W w'):=hid fun W hW=>zao 18 n h1 W Any (HN2.out.below hW) HT.out
 have HPU:Hid (sndB (bldV n z)=true→_):=hid (fun h=>ztl (n:=n) (z:=z) h)
 have HNC:Hid (z0g n=true→z3b n=costN 8 n):=hid fun h=>by unfold z3b; rw[if_pos h]
 generalize z3b n=nc at *;clear HTX z0 z1
 cases hb:sndB (bldV n z) with
 | false =>
  rw[hb] at HI HS;clear HPU HC HNC hb;generalize sndS (bldV n z)=SB at *;refine (HI.out _ (Below.refl _ _)).mono ?_;rintro e w3 ⟨rfl,hb3⟩;have HX3:=hid hb3;clear hb3 a0 a1 a2 a3 a4 a5;obtain ⟨a0,a1,a2,a3,a4,a5⟩:=z01 ((HX3.out.block _ HLT.out).trans HR2.out)
  go_wp2_with fail
  refine (HS.out _ HX3.out).mono ?_;rintro e w4 ⟨rfl,hb4⟩;have HX4:=hid (HB2.out.trans ((HX3.out.trans (hb4.mono HX3.out.size)).mono HB2.out.size));clear hb4 a0 a1 a2 a3 a4 a5;go_wp2;go_ret;exact ⟨rfl,HX4.out⟩
 | true =>
  obtain ⟨hok,F,zs,f1,f2,f3,f4,f5,f6,F',ok,g1,g2,g3⟩:=HPU.out hb;rw[hb] at HI HS;have hnc:=HNC.out hok
  have HTY:Hid (nc≤1000→∀W:World,Calls Tryz.prog 24 #[.string (sndS (bldV n z)),.int .i64 1000] W (ReadQ n W)):=hid fun hle W=>zo0 _ F zs n W f2 f1 f3 f4 (fun A c V hV=>zip A c zs 1000 V n hV f5 (by decide) (by decide) (z21 hok).1 (z21 hok).2 f6 (by omega))
  have hq1:oneB (cpV n)=true:=by
   obtain ⟨s,h,_⟩:=ztb hok;rw[h]
   rfl
  have HCN:=hid (fun (W:World) (hW:Below W2.heap.size W2 W)=>(z65 18 n h1 W _ (HN2.out.below hW) HT.out).mono (fun _ _ h=>h.two));have HCY:=hid (fun (W:World) (y:Hd) (S:Nat→Prop) (hy:NdAt W S 16 n y)=>(z65 16 n y W S hy (by rw[z3c hy,← z3c HN2.out]; exact HT.out)).mono (fun _ _ h=>h.two));have HAL:=hid (fun (W V:World) (y:Hd) (S:Nat→Prop) (hy:NdAt V S 16 n y) (hV:Below V.heap.size V W) (hW:Below W2.heap.size W2 W)=>zfn 16 18 n n y h1 W S _ true (hy.below hV) (HN2.out.below hW) (by rw[z3c hy,← z3c HN2.out]; exact HT.out) HT.out (z9d ⟨hok,hok,rfl⟩));rw[hq1] at HCN HCY
  have hPP:((oneS (cpV n)).toList==(oneS (cpV n)).toList)=true:=by simp
  generalize oneS (cpV n)=PP at *;generalize sndS (bldV n z)=SB at *;clear hok f1 f2 f3 f4 f5 f6 g1 g2 g3 hnc HPU HNC hb hq1;refine (HI.out _ (Below.refl _ _)).mono ?_;rintro e w3 ⟨rfl,hb3⟩;have HX3:=hid hb3;clear hb3 a0 a1 a2 a3 a4 a5;obtain ⟨a0,a1,a2,a3,a4,a5⟩:=z01 ((HX3.out.block _ HLT.out).trans HR2.out)
  go_wp2_with fail
  refine (HS.out _ HX3.out).mono ?_;rintro e w4 ⟨rfl,hb4⟩;have HX4:=hid (HX3.out.trans (hb4.mono HX3.out.size));clear hb4 a0 a1 a2 a3 a4 a5;obtain ⟨a0,a1,a2,a3,a4,a5⟩:=z01 ((HX4.out.block _ HLT.out).trans HR2.out)
  go_wp2_with fail
  refine (HC.out _ HX4.out).mono ?_;rintro e w5 ⟨rfl,hb5⟩;have HX5:=hid (HX4.out.trans (hb5.mono HX4.out.size));clear hb5 a0 a1 a2 a3 a4 a5
  by_cases hle:nc≤1000
  · have hgt:¬(nc:Int)>1000:=by omega
    obtain ⟨a0,a1,a2,a3,a4,a5⟩:=z01 ((HX5.out.block _ HLT.out).trans HR2.out);have HT5:=hid (HTY.out hle w5);unfold ReadQ at HT5
    go_wp2_with fail
    refine HT5.out.mono ?_;rintro e w6 ⟨hy,rfl,hny,hb6⟩;have hX6:=HX5.out.trans (hb6.mono HX5.out.size);have hyx:=(Below.refl w6.heap.size w6).alloc (Nat.le_refl _) (.cells #[.int .i64 n.kind,.string n.data,.slice hy.A n.ptrs.length hy.a,.int .i64 n.size,.int .i64 n.count,.slice hy.B n.items.length hy.b] nodeT);have y6:=heap_alloc_new w6 (.cells #[.int .i64 n.kind,.string n.data,.slice hy.A n.ptrs.length hy.a,.int .i64 n.size,.int .i64 n.count,.slice hy.B n.items.length hy.b] nodeT);have HX6:=hid (hX6.trans (hyx.mono hX6.size));have HNY:=hid (hny.below hyx);have Y6:=hid y6;clear hb6 hX6 hyx y6 hny HT5 a0 a1 a2 a3 a4 a5;obtain ⟨a0,a1,a2,a3,a4,a5⟩:=z01 ((HX6.out.block _ HLT.out).trans HR2.out)
    go_wp2_with fail
    generalize w6.alloc (.cells #[.int .i64 n.kind,.string n.data,.slice hy.A n.ptrs.length hy.a,.int .i64 n.size,.int .i64 n.count,.slice hy.B n.items.length hy.b] nodeT)=W6 at *;generalize w6.heap.size=yb at *;refine (HCN.out _ HX6.out).mono ?_;rintro e w7 ⟨rfl,hb7⟩;have HX7:=hid (HX6.out.trans (hb7.mono HX6.out.size));have HNY7:=hid (HNY.out.below hb7);have Y7:=hid ((hb7.block _ (z00 Y6.out)).trans Y6.out);clear hb7 a0 a1 a2 a3 a4 a5;obtain ⟨b0,b1,b2,b3,b4,b5⟩:=z01 Y7.out;have HC7:=hid (HCY.out _ _ _ HNY7.out)
    go_wp2_with fail
    refine HC7.out.mono ?_;rintro e w8 ⟨rfl,hb8⟩;have HX8:=hid (HX7.out.trans (hb8.mono HX7.out.size));have HNY8:=hid (HNY7.out.below hb8);have Y8:=hid ((hb8.block _ (z00 Y7.out)).trans Y7.out);clear hb8 b0 b1 b2 b3 b4 b5;obtain ⟨b0,b1,b2,b3,b4,b5⟩:=z01 Y8.out;obtain ⟨a0,a1,a2,a3,a4,a5⟩:=z01 ((HX8.out.block _ HLT.out).trans HR2.out)
    go_wp2_with fail
    refine (HAL.out _ _ _ _ HNY8.out (Below.refl _ _) HX8.out).mono ?_;rintro e w9 ⟨rfl,hb9⟩;have HX9:=hid (HB2.out.trans ((HX8.out.trans (hb9.mono HX8.out.size)).mono HB2.out.size));clear a0 a1 a2 a3 a4 a5 b0 b1 b2 b3 b4 b5 hb9;go_wp2;go_ret;exact ⟨rfl,HX9.out⟩
  · have hgt:(nc:Int)>1000:=by omega
    have HX9:=hid (HB2.out.trans (HX5.out.mono HB2.out.size));go_wp2;go_ret;exact ⟨rfl,HX9.out⟩
end Go.Proofs.YtlbfffokkhccaaaGreatDoor
