/- Texts of the proof of the law FnCanonSent, side by side: part 2. -/
import Derived.Laws.AppendOwn
import Derived.Test.YtlbfffokkhccaaaGreatDoorMCanonSent01
set_option maxHeartbeats 8000000
set_option maxRecDepth 100000
open Go.Lib (hid)
namespace Go.Proofs.YtlbfffokkhccaaaGreatDoor
open Go.RowKit
theorem z9v (v:Value)(c:Nat)(ty:TypeId)(w:World)(hv:v= .slice none 0 0∨∃g n cap,v= .slice (some g) n cap∧n≤cap) :
 (Builtin.append_ #[z2d,z2d] ty #[v,.slice none 0 c]).run Tryz.prog w= .ok v w:=by
 obtain ⟨i0,hi,hz0,hz1,hz2⟩:=info_parts z63
 rcases hv with rfl | ⟨g,n,cap,rfl,hn⟩
 · simp[Builtin.append_,run_underlying (P:=Tryz.prog) Tryz.underlying23,sizeOf,typeInfo,hi,Builtin.lenOf,run_firstCells_none]
 · simp[Builtin.append_,run_underlying (P:=Tryz.prog) Tryz.underlying23,sizeOf,typeInfo,hi,Builtin.lenOf,hn,run_firstCells_none,storeCells]
def Src (w:World)(A:Option Addr)(q:List (Nd×Hd)):Prop:=q= []∨∃x,A=some x∧∀j u,(rowOf q)[j]? =some u→w.cell? (x.add j)=some u
theorem zah (base:Nat)(ty:TypeId)(w:World)(v:Value)(n:Nat)(xs:List Value)(hown:w.ownsRow base nodeT 6 v n xs)(A:Option Addr)(c:Nat)(q:List (Nd×Hd))(hq:Src w A q)(hb:n+q.length≤4000000)(hbase:base≤w.heap.size) :
 ∃v' w',(Builtin.append_ #[z2d,z2d] ty #[v,.slice A q.length c]).run Tryz.prog w= .ok v' w'∧w'.ownsRow base nodeT 6 v' (n+q.length) (xs++rowOf q)∧w.grownBy w' v.ownBlock:=by
 obtain ⟨i0,hi,hz0,hz1,hz2⟩:=info_parts z63
 cases A with
 | none =>
  have h0:q= []:=by
   rcases hq with h | ⟨x,hx,_⟩
   · exact h
   · cases hx
  subst h0;refine ⟨v,w,z9v v c ty w ?_,by simpa [rowOf] using hown,⟨rfl,rfl,rfl,Nat.le_refl _,fun _ _ _=>rfl⟩⟩
  rcases hown.2 with ⟨rfl,_⟩ | ⟨g,cap,cur,rfl,_,_,hc,_⟩
  · exact .inl rfl
  · exact .inr ⟨_,_,_,rfl,hc⟩
 | some x =>
  have hnews:∀(j:Nat) (u:Value),(rowOf q)[j]? =some u→w.cell? (x.add j)=some u:=by
   rcases hq with h | ⟨x',hx,h⟩
   · subst h; intro j u hj; simp[rowOf] at hj
   · obtain rfl:=Option.some.inj hx; exact h
  obtain ⟨v',w',h1,h2,h3,_⟩:=run_append_own (P:=Tryz.prog) w base z2d ty nodeT i0 _ 6 88 Tryz.underlying23 hi hz0 hz1 hz2 rfl (by decide) v n xs hown x q.length c (rowOf q) (z35 q) hnews (z3v q) (by unfold maxLen; omega) (by omega) hbase;exact ⟨v',w',h1,h2,h3⟩
theorem z4i {ops:Array Oper}{rest:List Oper}{o:Oper}{a:Act}{w:World}{Q:Exit→Act→World→Prop}(hgd:o.guard=none)(s x:Operand)
 (ho:o.op= .call { callee:= .builtin .append,args:= #[s,x],argTypes:= #[z2d,z2d] })
 (base:Nat) (v:Value) (n:Nat) (xs:List Value) (hs:a.eval s=v) (hown:w.ownsRow base nodeT 6 v n xs)
 (A:Option Addr) (c k:Nat) (q:List (Nd×Hd)) (hk:k=q.length) (hx:a.eval x= .slice A k c) (hq:Src w A q) (hb:n+q.length≤4000000) (hbase:base≤w.heap.size)
 (h:∀v' w',w'.ownsRow base nodeT 6 v' (n+q.length) (xs++rowOf q)→w.grownBy w' v.ownBlock→wpList Tryz.prog ops Q rest (a.put o.dst v') w'):wpList Tryz.prog ops Q (o :: rest) a w :=
 wpList_plain hgd fun _ hK=>by
  subst hk;obtain ⟨v',w',hr,h2,h3⟩:=zah base o.type w v n xs hown A c q hq hb hbase;unfold Oper.wp execOp
  simp only[ho,resolve,invoke,builtin,Sem.run_bind,Sem.run_pure,Result.andThen_ok,List.map_toArray,List.map_cons,List.map_nil,hs,hx,hr]
  exact hK _ _ (h v' w' h2 h3)
def ptrsL (n:Nd):List Nd:=n.ptrs++n.items.flatMap Nd.ptrs
theorem zqn {w:World}{S:Nat→Prop}{m:Nat}{A:Option Addr}{l:List Nd}(h:NdsAt w S m A l):∃q:List (Nd×Hd),q.map (·.1)=l∧Src w A q∧∀r∈q,NdAt w S (m-1) r.1 r.2:=by
 cases m with
 | zero =>
  obtain rfl:=h.zero;exact ⟨[],rfl,.inl rfl,fun r h=>by cases h⟩
 | succ m =>
  obtain ⟨q,h1,h2,h3⟩:=h.pairs;exact ⟨q,h1,h3,h2⟩
theorem Src.below {w w':World}{A:Option Addr}{q:List (Nd×Hd)}(h:Src w A q)(hb:Below w.heap.size w w'):Src w' A q:=by
 rcases h with h | ⟨x,hx,h⟩
 · exact .inl h
 · refine .inr ⟨x,hx,fun j u hj=>?_⟩
   have:=h j u hj;exact (hb.cell (World.block_lt_of_cell? w _ this)).trans this
theorem zej (l:List Nd):(l.flatMap Nd.ptrs).length=(l.map fun n=>n.ptrs.length).sum:=by
 induction l with
 | nil=>rfl
 | cons a t ih=>simp[ih]
theorem zjc {w:World}{S:Nat→Prop}{m:Nat}{A:Option Addr}{l:List Nd}(h:NdsAt w S m A l):(l.map fun n=>n.ptrs.length).sum≤totL m l:=by
 cases m with
 | zero=>rw[h.zero]; simp
 | succ m =>
  rw[z0q]
  refine z62 l _ _ fun n hn=>?_
  obtain ⟨hd,h1⟩:=h.mem n hn;have:=z91 h1.2.1;unfold totN;omega
theorem z3e {w:World}{B e n z:Nat}{v:Value}{xs:List Value}(h:w.ownsRow B e z v n xs):∃A cap,v= .slice A n cap:=by
 rcases h.2 with ⟨rfl,rfl⟩ | ⟨g,cap,_,rfl,_⟩
 · exact ⟨none,0,rfl⟩
 · exact ⟨_,cap,rfl⟩
theorem zh7 (m:Nat)(n:Nd)(h:Hd)(w:World)(S:Nat→Prop)(hn:NdAt w S m n h)(ht:totN m n≤2000000) :
 Calls Tryz.prog 82 #[.agg #[.int .i64 n.kind,.string n.data,.slice h.A n.ptrs.length h.a,.int .i64 n.size,.int .i64 n.count,.slice h.B n.items.length h.b]] w fun e w'=>∃A c,e= .returned (.slice A (ptrsL n).length c)∧NdsAt w' Any m A (ptrsL n)∧Below w.heap.size w w':=by
 obtain ⟨qA,qa,qB,qb⟩:=h
 dsimp only at hn ⊢
 have hpl:n.ptrs.length≤2000000:=z12 hn.2.1 (by unfold totN at ht; omega);have hil:n.items.length≤2000000:=z12 hn.2.2 (by unfold totN at ht; omega);obtain ⟨q1,hq1,hs1,hr1⟩:=zqn hn.2.1
 have hl1:n.ptrs.length=q1.length:=by rw[← hq1,List.length_map]
 have hlen:∀k,(n.ptrs++(n.items.take k).flatMap Nd.ptrs).length≤2000000:=fun k=>by
  rw[List.length_append,zej];have h1:=z18 n.items (fun n=>n.ptrs.length) k;have h2:=zjc hn.2.2;have h3:=z91 hn.2.1;unfold totN at ht;omega
 have HLEN:=hid hlen;have HN:=hid hn.2.2;have HP0:Hid (m=0→n.ptrs= []):=hid (fun h=>by subst h; exact hn.2.1.zero);have HR1:=hid (fun r hr=>(hr1 r hr).weak (S':=Any) (fun _ _=>trivial));have HQ1:=hid hq1;have HS1:=hid hs1;have HL1:=hid hl1
 have hl1m:q1.length≤2000000:=by omega
 clear hn hq1 hs1 hr1 hlen hl1 ht;go_enter Tryz.func82,Tryz.ntmps82
 go_wp2_with (at_builtin; go_must (refine z4i rfl (.tmp 6) (.tmp 8) rfl w.heap.size (.slice none 0 0) 0 [] rfl (World.ownsRow_nil _ _ _ _) qA qa n.ptrs.length q1 HL1.out rfl (HS1.out.below ((Below.refl _ _).alloc (Nat.le_refl _) _)) (by omega) (by simp) ?_); intro v1 w1 hown1 hgrow1; have hk1:=(hgrow1.block w.heap.size (by simp) (by simp[Value.ownBlock])).trans (heap_alloc_new w _); have HB1:=hid (((Below.refl w.heap.size w).alloc (Nat.le_refl _) _).grown hgrow1 (by simp) (by intro k hk; simp[Value.ownBlock] at hk)); have HO1:=hid hown1; obtain ⟨b0,b1,b2,b3,b4,b5⟩:=z01 hk1; clear hown1 hgrow1 hk1)
 rw[Nat.zero_add,List.nil_append] at HO1
 go_loopw [3,13] (fun v i wr=>∃(k:Nat) (q:List (Nd×Hd)),i= .int .i64 k∧k≤n.items.length∧Hid (wr.ownsRow w.heap.size nodeT 6 v q.length (rowOf q))∧Hid (q.map (·.1)=n.ptrs++(n.items.take k).flatMap Nd.ptrs)∧Hid (∀r∈q,NdAt w Any (m-1) r.1 r.2)∧Hid (Below w.heap.size w wr)) (fun _ i _=>n.items.length-(intOf i).toNat)
 case atStart=>exact ⟨0,q1,rfl,by omega,HO1,hid (by rw[HQ1.out]; simp),HR1,HB1⟩
 case round =>
  obtain ⟨k,q,rfl,hk,HO,HQ,HR,HB⟩:=hrel
  by_cases hlt:k<n.items.length
  · obtain ⟨j,rfl⟩:=HN.out.pred hlt
    obtain ⟨x,hd,rfl,hc0,hy⟩:=HN.out.at_ hlt;have hc:=z0u HB.out _ _ _ hc0;have HFL:Hid ((n.items.take (k+1)).flatMap Nd.ptrs=(n.items.take k).flatMap Nd.ptrs++(n.items[k]).ptrs):=hid (by rw[List.take_succ_eq_append_getElem hlt,List.flatMap_append]; simp);generalize n.items[k]=y at hc hy hc0 HFL;obtain ⟨q2,hq2,hs2,hr2⟩:=zqn hy.2.1;have HL2:Hid (y.ptrs.length=q2.length):=hid (by rw[← hq2,List.length_map]);have HS2:=hid (hs2.below HB.out)
    have HR2:Hid (∀r∈q++q2,NdAt w Any (j+1-1) r.1 r.2):=hid fun r hr=>by
     rcases List.mem_append.1 hr with h | h
     · exact HR.out r h
     · exact ((hr2 r h).mono (by omega)).weak (fun _ _=>trivial)
    have HQ2:Hid ((q++q2).map (·.1)=n.ptrs++(n.items.take (k+1)).flatMap Nd.ptrs):=hid (by rw[List.map_append,HQ.out,hq2,HFL.out,List.append_assoc])
    have hqq:q.length+q2.length≤2000000:=by have:=HLEN.out (k+1); rw[← HQ2.out,List.length_map,List.length_append] at this; exact this
    obtain ⟨d0,d1,d2,d3,d4,d5⟩:=hc;clear hc0 hy hq2 hs2 hr2;have hwr:=HB.out.size
    go_wp2_with (at_builtin; go_must (refine z4i rfl (.tmp 17) (.tmp 19) rfl w.heap.size _ q.length (rowOf q) rfl (HO.out.alloc _) hd.A hd.a y.ptrs.length q2 HL2.out rfl (HS2.out.below ((Below.refl _ _).alloc (Nat.le_refl _) _)) (by omega) (by simp; omega) ?_); intro v2 w2 hown2 hgrow2; have HB2:=hid ((HB.out.alloc HB.out.size _).grown hgrow2 (by simp; omega) (fun k hk=>(HO.out.lt k hk).1)); have HO2:=hid hown2; clear hown2 hgrow2)
    rw[← List.length_append,← z4g] at HO2
    go_roundw
    case rel=>exact ⟨k+1,q++q2,by go_num,by omega,HO2,HQ2,HR2,HB2⟩
    case measure=>simp[intOf]; omega
  · obtain rfl:k=n.items.length:=by omega
    rw[List.take_of_length_le (Nat.le_refl _)] at HQ
    have hql:q.length=(ptrsL n).length:=by have:=congrArg List.length HQ.out; rw[List.length_map] at this; exact this
    obtain ⟨A,cap,hv⟩:=z3e HO.out;rw[hv]
    have HRES:Hid (NdsAt wr Any m A (ptrsL n)):=hid (by
     cases m with
     | zero =>
      have h0:q= []:=by
       have h1:q.length=0:=by
        have h2:=HN.out.zero;have h3:=HQ.out;rw[h2] at h3;have h4:n.ptrs= []:=HP0.out rfl;rw[h4] at h3
        simpa using congrArg List.length h3
       exact List.eq_nil_of_length_eq_zero h1
      have h5:ptrsL n= []:=by
       rw[h0] at hql;exact List.eq_nil_of_length_eq_zero hql.symm
      rw[h5];exact NdsAt.nil _ _ _ _
     | succ m =>
      obtain ⟨A',cap',hv',hres⟩:=zbo HO.out (S:=Any) (fun _ _=>trivial) (by unfold maxLen; have:=HLEN.out n.items.length; rw[List.take_of_length_le (Nat.le_refl _),← HQ.out,List.length_map] at this; omega) (fun r hr=>(HR.out r hr).below HB.out);rw[hv] at hv'
      injection hv' with e1 e2 e3
      subst e1;rw[HQ.out] at hres
      exact hres)
    clear hv;rw[hql];go_wp2;go_ret;exact ⟨A,cap,rfl,HRES.out,HB.out⟩
abbrev measT:TypeId:=106
def okN:Nat→Nd→Bool
 | 0,n=>formN n&&decide (n.kind=0)
 | d+1,n=>formN n&&(decide (n.kind=0)||(ptrsL n).all (okN d))
def z03:Nat→Nd→Nat
 | 0,_=>0
 | d+1,n=>ownN n+((ptrsL n).map (z03 d)).sum
theorem zkw {d:Nat}{n:Nd}(h:formN n=false):okN d n=false:=by
 cases d <;> simp[okN,h]
theorem z06 {α:Type}{l:List α}(h:l.length=0):l= []:=List.eq_nil_of_length_eq_zero h
theorem z3h {d:Nat}{n:Nd}(h:formN n=true)(hk:n.kind=0):okN d n=true∧z03 d n=0:=by
 rcases z0d h with hc | hc | hc
 · obtain ⟨_,h1,h2,_,_,h5⟩:=hc
   have e1:ptrsL n= []:=by unfold ptrsL; rw[z06 h2,z06 h5]; rfl
   have e2:ownN n=0:=by unfold ownN ownB; rw[h1,h2,z06 h5,hk]; rfl
   cases d
   · exact ⟨by simp[okN,h,hk],rfl⟩
   · exact ⟨by simp[okN,h,hk],by simp[z03,e1,e2]⟩
 · omega
 · omega
theorem zfs {w:World}{b:Nat}{v:Value}{T:TypeId}{p:Addr}{n:Nd}{h:Hd}(hb:w.heap[b]? =some (.cells #[v] T (0,0)))(hc:NdCell w p n h):p.block≠b:=by
 intro e
 have h1:=hc.c1;rw[e,cell_of_row _ _ _ _ _ _ hb] at h1
 simp at h1
theorem NdsAt.keeps {w w':World}{S:Nat→Prop}{m b:Nat}{A:Option Addr}{l:List Nd}{v:Value}{T:TypeId}(h:NdsAt w S m A l)(hb:w.heap[b]? =some (.cells #[v] T (0,0)))(hk:Keeps w.heap.size b w w'):NdsAt w' S m A l :=
 NdsAt.map (fun _ h=>h) (fun _p _ _ _ hc=>hc.block (hk.block _ hc.lt (zfs hb hc))) _ _ _ h
theorem NdAt.keeps {w w':World}{S:Nat→Prop}{m b:Nat}{n:Nd}{h:Hd}{v:Value}{T:TypeId}(hn:NdAt w S m n h)(hb:w.heap[b]? =some (.cells #[v] T (0,0)))(hk:Keeps w.heap.size b w w'):NdAt w' S m n h :=
 ⟨hn.1,hn.2.1.keeps hb hk,hn.2.2.keeps hb hk⟩
theorem z7o {w:World}{S:Nat→Prop} :∀(m:Nat) (A:Option Addr) (l:List Nd),NdsAt w S m A l→totL (m+1) l=totL m l
 | 0,A,l,h=>by rw[h.zero]; rfl
 | m+1,A,l,h=>by
   rw[z0q (m+1),z0q m]
   congr 1
   apply List.map_congr_left
   intro n hn
   obtain ⟨hd,h1⟩:=h.mem n hn;unfold totN;rw[z7o m _ _ h1.2.1,z7o m _ _ h1.2.2]
theorem zia (l:List Nd)(m:Nat):totL (m+1) (l.flatMap Nd.ptrs)=(l.map fun y=>totL (m+1) y.ptrs).sum:=by
 induction l with
 | nil=>rfl
 | cons a t ih=>rw[List.flatMap_cons,z0q,List.map_append,List.sum_append,← z0q,← z0q,ih]; rfl
theorem zi8 {w:World}{S:Nat→Prop}{m:Nat}{n:Nd}{h:Hd}(hn:NdAt w S m n h):totL m (ptrsL n)≤totN m n:=by
 cases m with
 | zero=>exact Nat.zero_le _
 | succ m =>
  have h1:totL (m+1) (ptrsL n)=totL (m+1) n.ptrs+(n.items.map fun y=>totL (m+1) y.ptrs).sum:=by
   unfold ptrsL;rw[z0q,List.map_append,List.sum_append,← z0q,← z0q,zia]
  have h2:(n.items.map fun y=>totL (m+1) y.ptrs).sum≤totL (m+1) n.items:=by
   rw[z0q]
   refine z62 _ _ _ fun y hy=>?_
   obtain ⟨hd,h3⟩:=hn.2.2.mem y hy;rw[z7o m _ _ h3.2.1];unfold totN;omega
  rw[h1];unfold totN;omega
theorem zht {w:World}{S:Nat→Prop}{m:Nat}{n:Nd}{h:Hd}(hn:NdAt w S m n h):(ptrsL n).length≤totL m (ptrsL n):=by
 cases m with
 | zero =>
  unfold ptrsL;rw[hn.2.1.zero,hn.2.2.zero]
  simp
 | succ m=>exact zd7 m _
theorem z9g {w:World}{S:Nat→Prop}{m:Nat}{n:Nd}{h:Hd}(hn:NdAt w S m n h)(ht:totN m n≤2000000):ownN n≤3000000:=by
 have h1:ownB n≤n.data.size+n.ptrs.length:=by unfold ownB; omega
 have h2:=zfr hn.2.2;have h3:=z91 hn.2.1;unfold ownN;unfold totN at ht
 split <;> omega
abbrev msr (ws:Int):Obj:= .cells #[.int .i64 ws] measT (0,0)
def AlP (d:Nat)(n:Nd)(b:Nat)(ws:Int)(w:World)(e:Ending)(w':World):Prop :=
 ∃(r:Bool) (z:Int),e= .returned (.bool r)∧Keeps w.heap.size b w w'∧w'.heap[b]? =some (msr z)∧0≤z∧z≤4000000∧(r=true→okN d n=true∧z=ws+(z03 d n:Nat)∧z≤199)∧(r=false→okN d n=false∨200≤ws+(z03 d n:Nat))
def AlD (d:Nat):Prop:=∀(m:Nat) (n:Nd) (h:Hd) (w:World) (S:Nat→Prop) (b:Nat) (ws:Int),NdAt w S m n h→totN m n≤2000000→w.heap[b]? =some (msr ws)→0≤ws→ws≤199 →
 Calls Tryz.prog 69 #[.pointer (some ⟨b,0,none⟩),.agg #[.int .i64 n.kind,.string n.data,.slice h.A n.ptrs.length h.a,.int .i64 n.size,.int .i64 n.count,.slice h.B n.items.length h.b],.int .i64 (9-(d:Int))] w (AlP d n b ws w)
theorem z3z {d:Nat}{n:Nd} :ownN n≤z03 (d+1) n:=by simp[z03]
theorem z9t {w:World}{b:Nat}{z:Int}(h:w.heap[b]? =some (msr z)):w.cell? ⟨b,0,none⟩=some (.int .i64 z):=by rw[cell_of_row _ _ _ _ _ _ h]; rfl
theorem za9 (d:Nat)(hd:d≤8)(ih:∀j,d=j+1→AlD j):AlD d:=by
 intro m n h w S b ws hn ht hrow hw0 hw1
 obtain ⟨qA,qa,qB,qb⟩:=h
 dsimp only at hn ⊢
 have hpl:n.ptrs.length≤2000000:=z12 hn.2.1 (by unfold totN at ht; omega);have hil:n.items.length≤2000000:=z12 hn.2.2 (by unfold totN at ht; omega);have hblt:=z00 hrow;have HP:=hid (fun (W:World) (hb:Below w.heap.size w W)=>zj5 m n ⟨qA,qa,qB,qb⟩ W S (hn.below hb) hil hpl)
 dsimp only at HP
 have HIH:=hid ih;have HN:=hid hn;have HT:=hid ht;have HR:=hid hrow;have HB0:=hid ((Below.refl w.heap.size w).alloc (Nat.le_refl _) (.cells #[.int .i64 n.kind,.string n.data,.slice qA n.ptrs.length qa,.int .i64 n.size,.int .i64 n.count,.slice qB n.items.length qb] nodeT));have HBX:=hid (heap_alloc_new w (.cells #[.int .i64 n.kind,.string n.data,.slice qA n.ptrs.length qa,.int .i64 n.size,.int .i64 n.count,.slice qB n.items.length qb] nodeT));clear ih hn ht hrow;cases hf:formN n
 · have HX:=hid (zkw (d:=d) hf)
   rw[hf] at HP;go_enter Tryz.func69,Tryz.ntmps69
   go_wp2_with fail
   refine (HP.out _ HB0.out).mono ?_;rintro e w1 ⟨rfl,hb1⟩;have HB1:=hid (HB0.out.trans (hb1.mono HB0.out.size));clear hb1;go_wp2;go_ret;exact ⟨false,ws,rfl,Keeps.of_below HB1.out,(HB1.out.block _ hblt).trans HR.out,hw0,by omega,fun h=>(by cases h),fun _=> .inl HX.out⟩
 rw[hf] at HP;have HF:=hid hf;clear hf
 by_cases hk:n.kind=0
 · have HX:=hid (z3h (d:=d) HF.out hk)
   have hkb:(n.kind==0)=true:=by rw[hk]; rfl
   clear hk;go_enter Tryz.func69,Tryz.ntmps69
   go_wp2_with fail
   refine (HP.out _ HB0.out).mono ?_;rintro e w1 ⟨rfl,hb1⟩;obtain ⟨a0,a1,a2,a3,a4,a5⟩:=z01 ((hb1.block w.heap.size (by simp)).trans HBX.out);have HB1:=hid (HB0.out.trans (hb1.mono HB0.out.size));clear hb1;go_wp2;go_ret;exact ⟨true,ws,rfl,Keeps.of_below HB1.out,(HB1.out.block _ hblt).trans HR.out,hw0,by omega,fun _=>⟨HX.out.1,by rw[HX.out.2]; omega,hw1⟩,fun h=>(by cases h)⟩
 have hkb:(n.kind==0)=false:=by simpa using hk
 have HK:=hid hk;have HOW:=hid (fun (W:World) (hb:Below w.heap.size w W)=>z30 m n ⟨qA,qa,qB,qb⟩ W S (HN.out.below hb) HF.out HT.out)
 dsimp only at HOW
 have hob:ownN n≤3000000:=z9g HN.out HT.out;generalize hon:ownN n=on at HOW hob;have HON:=hid hon;clear hk hon
 have hwrap:IntKind.i64.wrap (ws+(on:Int))=ws+(on:Int):=by
  rw[IntKind.wrap_i64];omega
 obtain ⟨D,hD⟩:∃D:Int,D=9-(d:Int):=⟨_,rfl⟩
 have hD8:1≤D∧D≤9:=by omega
 rw[← hD];have HD:=hid hD;clear hD;go_enter Tryz.func69,Tryz.ntmps69
 go_wp2_with fail
 refine (HP.out _ HB0.out).mono ?_;rintro e w1 ⟨rfl,hb1⟩;have hk1:=(hb1.block w.heap.size (by simp)).trans HBX.out;have HBX1:=hid hk1;have hlt1:=z00 hk1;obtain ⟨a0,a1,a2,a3,a4,a5⟩:=z01 hk1;have HB1:=hid (HB0.out.trans (hb1.mono HB0.out.size));have HR1:=hid ((HB1.out.block _ hblt).trans HR.out);have hmc:=z9t HR1.out;have hmf:=z02 HR1.out 0;clear hb1 hk1
 go_wp2_with fail
 go_region_with (go_at_call 70; refine (HOW.out _ (by exact HB1.out.drew)).mono ?_; rintro e w2 ⟨rfl,hb2⟩; have hmc2:=z9t ((hb2.block _ (by have:=HB1.out.size; simp; omega)).trans HR1.out); have hmf2:=z02 ((hb2.block _ (by have:=HB1.out.size; simp; omega)).trans HR1.out) 0)
 all_goals
  have hrow2:=(hb2.block b (by have:=HB1.out.size; simp; omega)).trans HR1.out;have hbox2:=(hb2.block w.heap.size (by simpa using hlt1)).trans HBX1.out;have hB2:Below w.heap.size w w2:=HB1.out.drew.trans (hb2.mono (by simpa using HB1.out.size))
  try rw[hwrap]
  have kp3:Keeps w.heap.size b w (w2.setCell ⟨b,0,none⟩ (.int .i64 (ws+(on:Int)))):=(Keeps.of_below hB2).trans ((z0p w2.heap.size b w2 0 _).mono hB2.size);have row3:(w2.setCell ⟨b,0,none⟩ (.int .i64 (ws+(on:Int)))).heap[b]? =some (msr (ws+(on:Int))):=z08 hrow2 0 _;have box3:=(Below.heap_setCell w2 ⟨b,0,none⟩ (.int .i64 (ws+(on:Int))) w.heap.size (by simp; omega)).trans hbox2;have hlt3:=z00 box3;generalize w2.setCell ⟨b,0,none⟩ (.int .i64 (ws+(on:Int)))=W3 at *;have KP3:=hid kp3;have ROW3:=hid row3;have BOX3:=hid box3;clear hb2 hB2 hmc hmf hmc2 hmf2 a0 a1 a2 a3 a4 a5 hrow2 hbox2 kp3 row3 box3;have hmc3:=z9t ROW3.out
  by_cases hd0:d=0
  · have hD1:decide (8<D)=true:=decide_eq_true (by have:=HD.out; omega)
    have HX:Hid (okN d n=false):=hid (by subst hd0; simp[okN,HK.out]);go_wp2;go_ret;exact ⟨false,_,rfl,KP3.out,ROW3.out,by omega,by omega,fun h=>(by cases h),fun _=> .inl HX.out⟩
  · obtain ⟨j,rfl⟩:∃j,d=j+1:=⟨d-1,by omega⟩
    have HPO:Hid (∀W:World,Keeps w.heap.size b w W→Calls Tryz.prog 82 #[.agg #[.int .i64 n.kind,.string n.data,.slice qA n.ptrs.length qa,.int .i64 n.size,.int .i64 n.count,.slice qB n.items.length qb]] W fun e w'=>∃A c,e= .returned (.slice A (ptrsL n).length c)∧NdsAt w' Any m A (ptrsL n)∧Below W.heap.size W w'):=hid fun W hk=>zh7 m n ⟨qA,qa,qB,qb⟩ W S (HN.out.keeps HR.out hk) HT.out
    have HTT:Hid (totL m (ptrsL n)≤2000000):=hid (Nat.le_trans (zi8 HN.out) HT.out);have HLN:Hid ((ptrsL n).length≤2000000):=hid (Nat.le_trans (zht HN.out) HTT.out);have HWW:Hid (z03 (j+1) n=on+((ptrsL n).map (z03 j)).sum):=hid (by rw[z03,HON.out])
    have HBAD:Hid (∀p∈ptrsL n,okN j p=false→okN (j+1) n=false):=hid fun p hp h=>by
     have:(ptrsL n).all (okN j)=false:=by rw[List.all_eq_false]; exact ⟨p,hp,by rw[h]; decide⟩
     simp[okN,HF.out,HK.out,this]
    have HGOOD:Hid ((ptrsL n).all (okN j)=true→okN (j+1) n=true):=hid fun h=>by simp only[okN,HF.out,h,Bool.or_true,Bool.and_true]
    have hD1:decide (8<D)=false:=decide_eq_false (by have:=HD.out; omega)
    by_cases h200:200≤ws+(on:Int)
    · have HX:Hid (200≤ws+(z03 (j+1) n:Nat)):=hid (by have:=z3z (d:=j) (n:=n); rw[HON.out] at this; omega)
      have hd2:decide (200≤ws+(on:Int))=true:=decide_eq_true h200;go_wp2;go_ret;exact ⟨false,_,rfl,KP3.out,ROW3.out,by omega,by omega,fun h=>(by cases h),fun _=> .inr HX.out⟩
    · have hd2:decide (200≤ws+(on:Int))=false:=decide_eq_false h200
      obtain ⟨b0,b1,b2,b3,b4,b5⟩:=z01 BOX3.out
      go_wp2_with fail
      refine (HPO.out W3 KP3.out).mono ?_;rintro e w4 ⟨A4,c4,rfl,hn4,hb4⟩;have KP4:=hid (KP3.out.trans ((Keeps.of_below hb4).mono KP3.out.size));have ROW4:=hid ((hb4.block b (z00 ROW3.out)).trans ROW3.out);have HN4:=hid hn4
      have hz0:0≤ws+(on:Int):=by omega
      have hz1:ws+(on:Int)≤199:=by omega
      clear hn4 hb4 b0 b1 b2 b3 b4 b5 hmc3 h200 hd2 hwrap;have hlen:=HLN.out;have HIHJ:=hid (HIH.out j rfl);generalize ptrsL n=pl at *
      go_wp2_with fail
      go_loopw [36] (fun i wr=>∃k:Nat,i= .int .i64 k∧k≤pl.length∧Hid ((pl.take k).all (okN j)=true)∧Hid (∃z:Int,Keeps w.heap.size b w wr∧wr.heap[b]? =some (msr z)∧NdsAt wr Any m A4 pl∧0≤z∧z≤199∧z=ws+(on:Int)+(((pl.take k).map (z03 j)).sum:Nat))) (fun i _=>pl.length-(intOf i).toNat)
      case atStart=>exact ⟨0,rfl,by omega,hid rfl,hid ⟨_,KP4.out,ROW4.out,HN4.out,hz0,hz1,by simp⟩⟩
      case round =>
       obtain ⟨k,rfl,hk,HA,HZ⟩:=hrel;obtain ⟨z,kpr,rowr,hnr,z0,z1,hz⟩:=HZ.out
       by_cases hlt:k<pl.length
       · obtain ⟨m',rfl⟩:=hnr.pred hlt
         obtain ⟨x,hdp,rfl,hc,hp⟩:=hnr.at_ hlt;have HST:=hid (z0w pl (z03 j) k hlt);have HSL:=hid (z18 pl (z03 j) (k+1));have HTP:=hid (show totN m' pl[k]≤2000000 by have:=z1y (m:=m') hlt; have:=HTT.out; omega);have HMEM:=hid (List.getElem_mem hlt);have HTK:Hid (okN j pl[k]=true→(pl.take (k+1)).all (okN j)=true):=hid (fun h=>by rw[List.take_succ_eq_append_getElem hlt,List.all_append,HA.out]; simpa using h);generalize pl[k]=p at hc hp HST HTP HMEM HTK;have hbx:Below wr.heap.size wr (wr.alloc (.cells #[.int .i64 p.kind,.string p.data,.slice hdp.A p.ptrs.length hdp.a,.int .i64 p.size,.int .i64 p.count,.slice hdp.B p.items.length hdp.b] nodeT)):=(Below.refl _ _).alloc (Nat.le_refl _) _;have HCALL:=hid (HIHJ.out m' p hdp _ Any b z (hp.below hbx) HTP.out ((hbx.block b (z00 rowr)).trans rowr) z0 z1);unfold AlP at HCALL;rw[show (9:Int)-(j:Int)=D+1 by have:=HD.out; omega] at HCALL;have KPR:=hid kpr;have HNR:=hid hnr;have HZE:=hid hz;have HBXX:=hid hbx;have ROWR:=hid rowr;obtain ⟨d0,d1,d2,d3,d4,d5⟩:=hc;clear kpr hnr hz hbx hp rowr HZ
         go_wp2_with fail
         refine HCALL.out.mono ?_;rintro e w5 ⟨r,z',rfl,kp5,row5,z0',z1',ht5,hf5⟩;have KP5:=hid (KPR.out.trans (((Keeps.of_below HBXX.out).trans (kp5.mono (by simp))).mono KPR.out.size));have HN5:=hid ((HNR.out.keeps ROWR.out (Keeps.of_below HBXX.out)).keeps ((HBXX.out.block b (z00 ROWR.out)).trans ROWR.out) kp5);have ROW5:=hid row5;have HF5:=hid hf5;have HT5:=hid ht5;clear kp5 row5 hf5 ht5;cases r
         · go_wp2
           go_ret;refine ⟨false,z',rfl,KP5.out,ROW5.out,z0',z1',fun h=>(by cases h),fun _=>?_⟩
           rcases HF5.out (by first | trivial | rfl) with h | h
           · exact .inl (HBAD.out p HMEM.out h)
           · right
             have:=HWW.out;have:=HSL.out;have:=HST.out;have:=HZE.out;omega
         · obtain ⟨h1,h2,h3⟩:=HT5.out (by first | trivial | rfl)
           have HTR:=hid (HTK.out h1);have HZ5:Hid (∃z:Int,Keeps w.heap.size b w w5∧w5.heap[b]? =some (msr z)∧NdsAt w5 Any (m'+1) (some x) pl∧0≤z∧z≤199∧z=ws+(on:Int)+(((pl.take (k+1)).map (z03 j)).sum:Nat)):=hid ⟨z',KP5.out,ROW5.out,HN5.out,z0',h3,by rw[h2,HZE.out,HST.out]; omega⟩;clear h1 h2 h3;go_wp2
           go_roundw
           case rel=>exact ⟨k+1,by go_num,by omega,HTR,HZ5⟩
           case measure=>simp[intOf]; omega
       · obtain rfl:k=pl.length:=by omega
         rw[List.take_of_length_le (Nat.le_refl _)] at HA hz;have HALL:=hid (HGOOD.out HA.out);have KPR:=hid kpr;have HZE:=hid hz;have ROWR:=hid rowr;clear kpr hnr hz rowr HZ;go_wp2;go_ret;exact ⟨true,z,rfl,KPR.out,ROWR.out,z0,by omega,fun _=>⟨HALL.out,by rw[HZE.out,HWW.out]; omega,z1⟩,fun h=>(by cases h)⟩
theorem zbb:∀d,d≤8→AlD d
 | 0,h=>za9 0 h (fun j hj=>by omega)
 | d+1,h=>za9 (d+1) h (fun j hj=>by
   obtain rfl:d=j:=by omega
   exact zbb d (by omega))
def z0g (n:Nd):Bool:=okN 8 n&&decide (z03 8 n≤199)
def z2r (n:Nd):Nat:=if z0g n then z03 8 n else 0
theorem al_ok {n:Nd}{r:Bool}{z:Int}(ht:r=true→okN 8 n=true∧z=0+(z03 8 n:Nat)∧z≤199)(hf:r=false→okN 8 n=false∨200≤(0:Int)+(z03 8 n:Nat)):r=z0g n∧(r=true→z=(z2r n:Nat)):=by
 cases r with
 | true =>
  obtain ⟨h1,h2,h3⟩:=ht rfl
  have h4:z0g n=true:=by unfold z0g; rw[h1]; simp; omega
  refine ⟨h4.symm,fun _=>?_⟩;unfold z2r;rw[h4,if_pos rfl];omega
 | false =>
  refine ⟨?_,fun h=>by cases h⟩;unfold z0g
  rcases hf rfl with h | h
  · rw[h]; rfl
  · rw[show decide (z03 8 n≤199)=false by simp; omega,Bool.and_false]
theorem z1s (m:Nat)(n:Nd)(h:Hd)(w:World)(S:Nat→Prop)(hn:NdAt w S m n h)(ht:totN m n≤2000000) :
 Calls Tryz.prog 32 #[.agg #[.int .i64 n.kind,.string n.data,.slice h.A n.ptrs.length h.a,.int .i64 n.size,.int .i64 n.count,.slice h.B n.items.length h.b]] w fun e w'=>e= .returned (.bool (z0g n))∧Below w.heap.size w w':=by
 have hb0:Below w.heap.size w ((w.alloc (.cells #[.int .i64 n.kind,.string n.data,.slice h.A n.ptrs.length h.a,.int .i64 n.size,.int .i64 n.count,.slice h.B n.items.length h.b] nodeT)).alloc (.cells #[.int .i64 0] measT)):=((Below.refl _ w).alloc (Nat.le_refl _) _).alloc (by simp) _;have hr:=heap_alloc_new (w.alloc (.cells #[.int .i64 n.kind,.string n.data,.slice h.A n.ptrs.length h.a,.int .i64 n.size,.int .i64 n.count,.slice h.B n.items.length h.b] nodeT)) (.cells #[.int .i64 0] measT);rw[show (w.alloc (.cells #[.int .i64 n.kind,.string n.data,.slice h.A n.ptrs.length h.a,.int .i64 n.size,.int .i64 n.count,.slice h.B n.items.length h.b] nodeT)).heap.size=w.heap.size+1 by simp] at hr
 have hz:((w.alloc (.cells #[.int .i64 n.kind,.string n.data,.slice h.A n.ptrs.length h.a,.int .i64 n.size,.int .i64 n.count,.slice h.B n.items.length h.b] nodeT)).alloc (.cells #[.int .i64 0] measT)).heap.size=w.heap.size+2:=by simp
 have HC:=hid (zbb 8 (by decide) m n h _ S (w.heap.size+1) 0 (hn.below hb0) ht hr (by omega) (by omega));unfold AlP at HC;rw[show (9:Int)-((8:Nat):Int)=1 by decide,hz] at HC;have HB0:=hid hb0;clear hn ht hb0 hr hz;go_enter Tryz.func32,Tryz.ntmps32
 go_wp2_with fail
 refine HC.out.mono ?_;rintro e w2 ⟨r,z,rfl,kp,row,z0,z1,h1,h2⟩;have HE:=hid (al_ok h1 h2).1;have HB:=hid (HB0.out.trans (kp.below (B':=w.heap.size) (by omega) (by omega)));clear kp row h1 h2;go_wp2;go_ret;exact ⟨by rw[HE.out]; rfl,HB.out⟩
def lcZ (s c:Int)(v:Int):Int:=if s=0 then c else if s=7∧v=1 then 1+c else v
theorem z5f (s c v:Int)(w:World)(h0:0≤c)(h1:c≤12800) :
 Calls Tryz.prog 81 #[.int .i64 s,.int .i64 c,.int .i64 v] w fun e w'=>e= .returned (.int .i64 (lcZ s c v))∧w=w':=by
 have HX:Hid (lcZ s c v=if s=0 then c else if s=7∧v=1 then 1+c else v):=hid rfl;go_enter Tryz.func81,Tryz.ntmps81;go_wp2
 all_goals go_ret
 all_goals (refine ⟨z2n ?_,rfl⟩; rw[HX.out]; simp_all)
def lcN (n:Nd):Nat:=if n.kind=2 then (lcZ n.size n.count (ownN n:Nat)).toNat else ownN n
def costN:Nat→Nd→Nat
 | 0,_=>0
 | d+1,n=>lcN n+((ptrsL n).map (costN d)).sum
theorem z78 {n:Nd}(h:formN n=true):0≤n.count∧n.count≤12800:=by
 rcases z0d h with hc | hc | hc <;> omega
theorem zq5 {s c v:Int}(h0:0≤c)(h1:c≤12800)(h2:0≤v):0≤lcZ s c v∧lcZ s c v≤v+12801:=by
 unfold lcZ
 split
 · omega
 · split <;> omega
theorem zl2 {n:Nd}(h:formN n=true):((lcN n:Nat):Int)=if n.kind=2 then lcZ n.size n.count (ownN n:Nat) else (ownN n:Nat):=by
 obtain ⟨h1,h2⟩:=z78 h;have:=zq5 (s:=n.size) h1 h2 (show (0:Int)≤(ownN n:Nat) by omega);unfold lcN
 split <;> omega
theorem zt0 {n:Nd}(h:formN n=true):lcN n≤ownN n+12801:=by
 have h0:=zl2 h;obtain ⟨h1,h2⟩:=z78 h;have:=zq5 (s:=n.size) h1 h2 (show (0:Int)≤(ownN n:Nat) by omega)
 split at h0 <;> omega
theorem zl7 {l:List Nd}{f:Nd→Nat}{n:Nd}(h:n∈l):f n≤(l.map f).sum:=by
 induction l with
 | nil=>cases h
 | cons a t ih =>
  simp only[List.map_cons,List.sum_cons]
  rcases List.mem_cons.1 h with rfl | h
  · omega
  · have:=ih h; omega
theorem zc4 (n:Nd):(ptrsL n).length≤ownN n:=by
 have h1:n.ptrs.length≤ownB n:=by unfold ownB; omega
 have h2:(n.items.map fun y=>y.ptrs.length).sum≤(n.items.map ownB).sum:=z62 _ _ _ (fun y _=>by unfold ownB; omega);unfold ptrsL ownN;rw[List.length_append,zej];omega
theorem z1h {d:Nat}{n:Nd}(h:okN d n=true):formN n=true∧∀p∈ptrsL n,okN (d-1) p=true:=by
 cases d with
 | zero =>
  simp only[okN,Bool.and_eq_true,decide_eq_true_eq] at h
  refine ⟨h.1,fun p hp=>?_⟩
  have h1:ptrsL n= []:=by
   rcases z0d h.1 with hc | hc | hc
   · unfold ptrsL; rw[z06 hc.2.2.1,z06 hc.2.2.2.2.2]; rfl
   · omega
   · omega
  rw[h1] at hp; cases hp
 | succ d =>
  simp only[okN,Bool.and_eq_true,Bool.or_eq_true,decide_eq_true_eq,List.all_eq_true] at h
  refine ⟨h.1,fun p hp=>?_⟩
  rcases h.2 with hk | hk
  · have h1:ptrsL n= []:=by
     rcases z0d h.1 with hc | hc | hc
     · unfold ptrsL; rw[z06 hc.2.2.1,z06 hc.2.2.2.2.2]; rfl
     · omega
     · omega
    rw[h1] at hp; cases hp
  · exact hk p hp
theorem z1c {d:Nat}{n:Nd}(h:okN d n=true):z03 d n=ownN n+((ptrsL n).map (z03 (d-1))).sum:=by
 cases d with
 | zero =>
  simp only[okN,Bool.and_eq_true,decide_eq_true_eq] at h
  have:=z3h (d:=1) h.1 h.2;rw[z03] at this
  show 0=ownN n+_
  have h1:ptrsL n= []:=by
   rcases z0d h.1 with hc | hc | hc
   · unfold ptrsL; rw[z06 hc.2.2.1,z06 hc.2.2.2.2.2]; rfl
   · omega
   · omega
  rw[h1]; simp; omega
 | succ d=>rfl
theorem z8o {d:Nat}{n:Nd}(h:okN d n=true):costN d n=lcN n+((ptrsL n).map (costN (d-1))).sum:=by
 cases d with
 | zero =>
  have hw:=z1c h
  simp only[okN,Bool.and_eq_true,decide_eq_true_eq] at h
  have h1:ptrsL n= []:=by
   rcases z0d h.1 with hc | hc | hc
   · unfold ptrsL; rw[z06 hc.2.2.1,z06 hc.2.2.2.2.2]; rfl
   · omega
   · omega
  have h2:lcN n=0:=by
   unfold lcN;rw[if_neg (by omega)]
   simp only[z03] at hw
   omega
  rw[h1,h2]; rfl
 | succ d=>rfl
theorem zre:∀(d:Nat) (n:Nd),okN d n=true→costN d n≤13000+13001*z03 d n:=by
 intro d
 induction d with
 | zero=>intro n h; exact Nat.zero_le _
 | succ d ih =>
  intro n h
  obtain ⟨hf,hk⟩:=z1h h;have h1:=zt0 hf;have h2:((ptrsL n).map (costN d)).sum≤((ptrsL n).map fun p=>13000+13001*z03 d p).sum:=z62 _ _ _ (fun p hp=>ih p (hk p hp))
  have h3:∀l:List Nd,(l.map fun p=>13000+13001*z03 d p).sum=13000*l.length+13001*(l.map (z03 d)).sum:=by
   intro l
   induction l with
   | nil=>rfl
   | cons a t ih=>simp only[List.map_cons,List.sum_cons,List.length_cons,ih]; omega
  rw[h3] at h2;have h4:=zc4 n
  show lcN n+_≤13000+13001*(ownN n+_)
  omega
theorem z8p {d:Nat}{n p:Nd}(h:okN d n=true)(hp:p∈ptrsL n):z03 (d-1) p≤z03 d n:=by
 rw[z1c h];have:=zl7 (f:=z03 (d-1)) hp;omega
def CoD (d:Nat):Prop:=∀(m:Nat) (n:Nd) (h:Hd) (w:World) (S:Nat→Prop),NdAt w S m n h→totN m n≤2000000→okN d n=true→z03 d n≤199 →
 Calls Tryz.prog 41 #[.agg #[.int .i64 n.kind,.string n.data,.slice h.A n.ptrs.length h.a,.int .i64 n.size,.int .i64 n.count,.slice h.B n.items.length h.b]] w fun e w'=>e= .returned (.int .i64 (costN d n:Nat))∧Below w.heap.size w w'
theorem zem (d:Nat)(ih:∀j,d=j+1→CoD j):CoD d:=by
 intro m n h w S hn ht hok hwd
 obtain ⟨qA,qa,qB,qb⟩:=h
 dsimp only at hn ⊢
 obtain ⟨hf,hkids⟩:=z1h hok;have HCE:=hid (z8o hok);have hcl:=zre d n hok
 have hct:costN d n≤2700000:=by omega
 have HCT:=hid hct;have hob:=z9g hn ht;have HLC:=hid (zl2 hf);obtain ⟨hc0,hc1⟩:=z78 hf
 have HKID:Hid (∀p∈ptrsL n,∃j,d=j+1∧okN j p=true∧z03 j p≤199∧costN (d-1) p=costN j p):=hid fun p hp=>by
  cases d with
  | zero =>
   have:=hkids p hp;have hl:=z1c hok;have h3:=zc4 n
   have h4:(ptrsL n).length≠0:=by intro h; rw[z06 h] at hp; cases hp
   simp only[z03] at hl
   omega
  | succ j=>exact ⟨j,rfl,hkids p hp,by have:=z8p hok hp; simp only[Nat.add_sub_cancel] at this; omega,rfl⟩
 have HOW:=hid (fun (W:World) (hb:Below w.heap.size w W)=>z30 m n ⟨qA,qa,qB,qb⟩ W S (hn.below hb) hf ht);have HPO:=hid (fun (W:World) (hb:Below w.heap.size w W)=>zh7 m n ⟨qA,qa,qB,qb⟩ W S (hn.below hb) ht);have HTT:=hid (Nat.le_trans (zi8 hn) ht);have hln:=Nat.le_trans (zht hn) HTT.out;have HIH:=hid ih
 dsimp only at HOW HPO
 have HB0:=hid ((Below.refl w.heap.size w).alloc (Nat.le_refl _) (.cells #[.int .i64 n.kind,.string n.data,.slice qA n.ptrs.length qa,.int .i64 n.size,.int .i64 n.count,.slice qB n.items.length qb] nodeT));have HBX:=hid (heap_alloc_new w (.cells #[.int .i64 n.kind,.string n.data,.slice qA n.ptrs.length qa,.int .i64 n.size,.int .i64 n.count,.slice qB n.items.length qb] nodeT));clear ih hn ht hok hwd hf hkids hcl;generalize ownN n=on at *;generalize ptrsL n=pl at *;generalize costN d n=cst at *
 by_cases hk:n.kind=2
 all_goals
  first | (rw[if_pos hk] at HLC; have hkb:(n.kind==2)=true:=by rw[hk]; rfl) | (rw[if_neg hk] at HLC; have hkb:(n.kind==2)=false:=by simpa using hk)
  clear hk;go_enter Tryz.func41,Tryz.ntmps41
  go_wp2_with fail
  refine (HOW.out _ HB0.out).mono ?_;rintro e w1 ⟨rfl,hb1⟩;have hk1:=(hb1.block w.heap.size (by simp)).trans HBX.out;obtain ⟨a0,a1,a2,a3,a4,a5⟩:=z01 hk1;have HB1:=hid (HB0.out.trans (hb1.mono HB0.out.size));clear hb1 hk1
  go_wp2_with (go_at_call 81; go_must (refine (z5f _ _ _ _ hc0 hc1).mono ?_); rintro e w2 ⟨rfl,rfl⟩; rw[← HLC.out])
  try rw[← HLC.out]
  refine (HPO.out _ HB1.out).mono ?_;rintro e w3 ⟨A3,c3,rfl,hn3,hb3⟩;have HB3:=hid (HB1.out.trans (hb3.mono HB1.out.size));have HN3:=hid hn3
  have hlcb:lcN n≤2700000:=by have:=HCE.out; omega
  clear hb3 hn3 a0 a1 a2 a3 a4 a5 HLC;generalize lcN n=lc at *
  go_wp2_with fail
  go_loopw [3,20] (fun q i wr=>∃(k:Nat) (z:Int),q= .int .i64 z∧i= .int .i64 k∧k≤pl.length∧0≤z∧z≤2700000∧Hid (z=((lc+((pl.take k).map (costN (d-1))).sum:Nat):Int))∧Hid (Below w.heap.size w wr∧NdsAt wr Any m A3 pl)) (fun _ i _=>pl.length-(intOf i).toNat)
  case atStart=>exact ⟨0,_,rfl,rfl,by omega,by omega,by omega,hid (by simp),hid ⟨HB3.out,HN3.out⟩⟩
  case round =>
   obtain ⟨k,z,rfl,rfl,hk,hz0,hz1,HZ,HB⟩:=hrel;obtain ⟨hbr,hnr⟩:=HB.out
   by_cases hlt:k<pl.length
   · obtain ⟨m',rfl⟩:=hnr.pred hlt
     obtain ⟨x,hdp,rfl,hc,hp⟩:=hnr.at_ hlt;have HST:=hid (z0w pl (costN (d-1)) k hlt);have HSL:=hid (z18 pl (costN (d-1)) (k+1))
     have htp:totN m' pl[k]≤2000000:=by have:=z1y (m:=m') hlt; have:=HTT.out; omega
     obtain ⟨j,rfl,hoj,hwj,hcj⟩:=HKID.out _ (List.getElem_mem hlt)
     simp only[Nat.add_sub_cancel] at HST HSL HZ HCE
     generalize pl[k]=p at hc hp HST htp hoj hwj;have hbx:Below wr.heap.size wr (wr.alloc (.cells #[.int .i64 p.kind,.string p.data,.slice hdp.A p.ptrs.length hdp.a,.int .i64 p.size,.int .i64 p.count,.slice hdp.B p.items.length hdp.b] nodeT)):=(Below.refl _ _).alloc (Nat.le_refl _) _;have HCALL:=hid (HIH.out j rfl m' p hdp _ Any (hp.below hbx) htp hoj hwj)
     have hpc:z+(costN j p:Int)≤2700000:=by have:=HZ.out; have:=HST.out; have:=HSL.out; have:=HCE.out; have:=HCT.out; omega
     have HBR:=hid hbr;have HNR:=hid hnr;have HBXX:=hid hbx;have HNX:=hid (hnr.below hbx);obtain ⟨d0,d1,d2,d3,d4,d5⟩:=hc;clear hbr hnr hbx hp htp hoj hwj hcj HB;generalize costN j p=cp at *
     go_wp2_with fail
     refine HCALL.out.mono ?_;rintro e w5 ⟨rfl,hb5⟩;have HB5:=hid (And.intro (HBR.out.trans ((HBXX.out.trans (hb5.mono (by simp))).mono HBR.out.size)) (HNX.out.below hb5));clear hb5;go_wp2
     go_roundw
     case rel=>exact ⟨k+1,_,rfl,by go_num,by omega,by omega,hpc,hid (by rw[HZ.out]; simp only[Nat.add_sub_cancel]; rw[HST.out]; omega),HB5⟩
     case measure=>simp[intOf]; omega
   · obtain rfl:k=pl.length:=by omega
     rw[List.take_of_length_le (Nat.le_refl _)] at HZ;have HBR:=hid hbr;clear hbr hnr HB;go_wp2;go_ret;exact ⟨by rw[HCE.out,HZ.out]; rfl,HBR.out⟩
theorem zi1:∀d,CoD d
 | 0=>zem 0 (fun j hj=>by omega)
 | d+1=>zem (d+1) (fun j hj=>by
   obtain rfl:d=j:=by omega
   exact zi1 d)
def z3b (n:Nd):Nat:=if z0g n then costN 8 n else 0
theorem zao (m:Nat)(n:Nd)(h:Hd)(w:World)(S:Nat→Prop)(hn:NdAt w S m n h)(ht:totN m n≤2000000) :
 Calls Tryz.prog 12 #[.agg #[.int .i64 n.kind,.string n.data,.slice h.A n.ptrs.length h.a,.int .i64 n.size,.int .i64 n.count,.slice h.B n.items.length h.b]] w fun e w'=>e= .returned (.int .i64 (z3b n:Nat))∧Below w.heap.size w w':=by
 have hb0:=(Below.refl w.heap.size w).alloc (Nat.le_refl _) (.cells #[.int .i64 n.kind,.string n.data,.slice h.A n.ptrs.length h.a,.int .i64 n.size,.int .i64 n.count,.slice h.B n.items.length h.b] nodeT);have HB0:=hid hb0;have HBX:=hid (heap_alloc_new w (.cells #[.int .i64 n.kind,.string n.data,.slice h.A n.ptrs.length h.a,.int .i64 n.size,.int .i64 n.count,.slice h.B n.items.length h.b] nodeT));have HN:=hid hn;have HO:=hid (z1s m n h _ S (hn.below hb0) ht)
 have HCO:Hid (z0g n=true→∀W:World,Below w.heap.size w W→Calls Tryz.prog 41 #[.agg #[.int .i64 n.kind,.string n.data,.slice h.A n.ptrs.length h.a,.int .i64 n.size,.int .i64 n.count,.slice h.B n.items.length h.b]] W fun e w'=>e= .returned (.int .i64 (costN 8 n:Nat))∧Below W.heap.size W w'):=hid fun hok W hb=>by
  unfold z0g at hok
  simp only[Bool.and_eq_true,decide_eq_true_eq] at hok
  exact zi1 8 m n h W S (hn.below hb) ht hok.1 hok.2
 clear hn ht hb0;cases hok:z0g n
 · have HX:Hid (z3b n=0):=hid (by unfold z3b; rw[hok]; rfl)
   rw[hok] at HO;go_enter Tryz.func12,Tryz.ntmps12
   go_wp2_with fail
   refine HO.out.mono ?_;rintro e w2 ⟨rfl,hb2⟩;have HB2:=hid (HB0.out.trans (hb2.mono HB0.out.size));clear hb2;go_wp2;go_ret;exact ⟨by rw[HX.out]; rfl,HB2.out⟩
 · have HX:Hid (z3b n=costN 8 n):=hid (by unfold z3b; rw[hok]; rfl)
   have HC:=hid (HCO.out hok);rw[hok] at HO;clear HCO hok;generalize costN 8 n=cst at *;go_enter Tryz.func12,Tryz.ntmps12
   go_wp2_with fail
   refine HO.out.mono ?_;rintro e w2 ⟨rfl,hb2⟩;obtain ⟨a0,a1,a2,a3,a4,a5⟩:=z01 ((hb2.block w.heap.size (by simp)).trans HBX.out);have HB2:=hid (HB0.out.trans (hb2.mono HB0.out.size));clear hb2
   go_wp2_with fail
   refine (HC.out _ HB2.out).mono ?_;rintro e w3 ⟨rfl,hb3⟩;have HB3:=hid (HB2.out.trans (hb3.mono HB2.out.size));clear hb3;go_wp2;go_ret;exact ⟨by rw[HX.out]; rfl,HB3.out⟩
theorem ok_up:∀(d:Nat) (n:Nd),okN d n=true→okN (d+1) n=true
 | 0,n,h=>by
   have hf:=(z1h h).1
   simp only[okN,Bool.and_eq_true,decide_eq_true_eq] at h
   exact (z3h (d:=1) hf h.2).1
 | d+1,n,h=>by
   have hk:=z1h h;have h':=h
   simp only[okN,Bool.and_eq_true,Bool.or_eq_true,decide_eq_true_eq,List.all_eq_true] at h'
   show (formN n&&(decide (n.kind=0)||(ptrsL n).all (okN (d+1))))=true
   simp only[Bool.and_eq_true,Bool.or_eq_true,decide_eq_true_eq,List.all_eq_true]
   exact ⟨h'.1,.inr fun p hp=>ok_up d p (hk.2 p hp)⟩
theorem zce {l:List Nd}{f g:Nd→Nat}(h:∀p∈l,f p=g p):(l.map f).sum=(l.map g).sum:=by rw[List.map_congr_left h]
theorem zgq:∀(d:Nat) (n:Nd),okN d n=true→z03 (d+1) n=z03 d n
 | 0,n,h=>by
   have hf:=(z1h h).1
   simp only[okN,Bool.and_eq_true,decide_eq_true_eq] at h
   rw[(z3h (d:=1) hf h.2).2]; rfl
 | d+1,n,h=>by
   have hk:=(z1h h).2;rw[z1c (ok_up _ _ h),z1c h];exact congrArg (ownN n+ ·) (zce fun p hp=>zgq d p (hk p hp))
theorem z21 {n:Nd}(h:z0g n=true):okN 8 n=true∧z03 8 n≤199:=by
 unfold z0g at h;rw[Bool.and_eq_true,decide_eq_true_eq] at h;exact h
theorem zcj {n:Nd}(h:okN 8 n=true)(hw:z03 8 n≤199):z0g n=true:=by
 unfold z0g
 rw[h,decide_eq_true hw]; rfl
theorem zs0 {n:Nd}(h:z0g n=true):∀p∈ptrsL n,z0g p=true:=by
 obtain ⟨h1,h2⟩:=z21 h
 intro p hp
 have hk:=(z1h h1).2 p hp;refine zcj (ok_up 7 p hk) ?_;rw[zgq 7 p hk];exact Nat.le_trans (z8p h1 hp) h2
theorem ztg {n:Nd}(h:z0g n=true):∀p∈n.ptrs,z0g p=true:=fun p hp=>zs0 h p (List.mem_append_left _ hp)
theorem z8k {n:Nd}(h:formN n=true):∀y∈n.items,formN y=true∧y.kind=1∧y.items= []:=by
 intro y hy
 have hi:z0c n.items=true:=by
  rcases z0d h with hc | hc | hc
  · rw[z06 hc.2.2.2.2.2] at hy; cases hy
  · rw[z06 hc.2.2.2.2] at hy; cases hy
  · rcases hc.2.2 with hc | hc | hc
    · rw[z06 hc.2.2.2.2] at hy; cases hy
    · rw[z06 hc.2.2.2] at hy; cases hy
    · exact hc.2.2.2.2
 have h1:=(List.all_eq_true.1 hi) y hy;unfold itemB at h1;rw[Bool.and_eq_true] at h1;have h2:=h1.1;refine ⟨?_,?_,?_⟩
 · unfold formN strN
   rw[h2]; simp
 · unfold z1z at h2; simp only[decide_eq_true_eq] at h2; exact h2.1
 · unfold z1z at h2; simp only[decide_eq_true_eq] at h2; exact z06 (by omega)
theorem znx {n y:Nd}(hy:y∈n.items)(hk:y.kind=1)(hi:y.items= []):ownN y≤ownN n:=by
 have h1:ownB y≤(n.items.map ownB).sum:=zl7 hy
 have h2:ownN y=ownB y:=by unfold ownN; rw[hi,if_neg (by omega)]; simp
 rw[h2];unfold ownN;omega
theorem zgt {n y:Nd}(hy:y∈n.items)(f:Nd→Nat):(y.ptrs.map f).sum≤((ptrsL n).map f).sum:=by
 have h1:(y.ptrs.map f).sum≤((n.items.flatMap Nd.ptrs).map f).sum:=by
  generalize n.items=l at hy
  induction l with
  | nil=>cases hy
  | cons a t ih =>
   rw[List.flatMap_cons,List.map_append,List.sum_append]
   rcases List.mem_cons.1 hy with rfl | h
   · omega
   · have:=ih h; omega
 unfold ptrsL;rw[List.map_append,List.sum_append];omega
theorem zm2 {n:Nd}(h:z0g n=true):∀y∈n.items,z0g y=true:=by
 obtain ⟨h1,h2⟩:=z21 h
 intro y hy
 obtain ⟨hf,hk⟩:=z1h h1;obtain ⟨hfy,hky,hiy⟩:=z8k hf y hy
 have hp:ptrsL y=y.ptrs:=by unfold ptrsL; rw[hiy]; simp
 have hok:okN 8 y=true:=by
  show (formN y&&(decide (y.kind=0)||(ptrsL y).all (okN 7)))=true
  rw[hfy,Bool.true_and,hp]
  have:y.ptrs.all (okN 7)=true:=List.all_eq_true.2 fun p hpp=>hk p (List.mem_append_right _ (List.mem_flatMap.2 ⟨y,hy,hpp⟩))
  rw[this,Bool.or_true]
 refine zcj hok (Nat.le_trans ?_ h2);rw[z1c hok,z1c h1,hp];have e1:=znx hy hky hiy;have e2:=zgt hy (z03 7)
 show ownN y+(y.ptrs.map (z03 7)).sum≤ownN n+((ptrsL n).map (z03 7)).sum
 omega
theorem z2f (l m:List UInt8):∀(k a b:Nat),(∀i,i<k→l[a+i]? =m[b+i]?)→leN l a k=leN m b k
 | 0,_,_,_=>rfl
 | k+1,a,b,h=>by
   have h0:=h 0 (by omega)
   simp only[Nat.add_zero] at h0
   have h1:=z2f l m k (a+1) (b+1) (fun i hi=>by
    have:=h (i+1) (by omega)
    rwa [show a+(i+1)=a+1+i by omega,show b+(i+1)=b+1+i by omega] at this)
   rw[leN,leN,h0,h1]
theorem zob (n m:Int):n%(256*m)=n%256+256*(n/256%m):=by
 rw[Int.emod_def n (256*m),Int.emod_def (n/256) m,← Int.ediv_ediv_of_nonneg (by decide),Int.mul_assoc];omega
theorem zcv:∀(k:Nat) (n:Int),((leN (leB n k) 0 k:Nat):Int)=n%256^k
 | 0,n=>by simp[leN,Int.emod_one]
 | k+1,n=>by
   have ih:=zcv k (n/256);have e:leN (leB n (k+1)) 1 k=leN (leB (n/256) k) 0 k:=z2f _ _ k 1 0 (fun i _=>by rw[leB,Nat.add_comm,List.getElem?_cons_succ,Nat.zero_add]);rw[leN,Nat.zero_add,e,leB,List.getElem?_cons_zero]
   simp only[Option.getD_some]
   rw[Int.natCast_add,Int.natCast_mul,ih,z45,Int.pow_succ,Int.mul_comm (256^k) 256,zob]
   rfl
theorem zco (a n:Nat):a &&& (2^n-1)=a%2^n:=Nat.and_two_pow_sub_one_eq_mod a n
theorem zpi (a:Nat):a &&& 4=4*(a/4%2):=by
 have h:a &&& 4=(a%8) &&& 4:=by
  rw[show a%8=a &&& 7 from (zco a 3).symm,Nat.and_assoc]
  rfl
 have h8:∀r:Nat,r<8→r &&& 4=4*(r/4%2):=by decide
 rw[h,h8 _ (Nat.mod_lt _ (by decide))];omega
theorem zh9 (a:Nat)(ha:a<4294967296):(BitVec.ofInt 32 (a:Int)).toNat=a:=by
 rw[BitVec.toNat_ofInt];omega
theorem zc7 (a b:Nat)(ha:a<4294967296)(hb:b<4294967296):bits .and .u32 (a:Int) (b:Int)=((a &&& b:Nat):Int):=by
 have hx:a &&& b<2^32:=Nat.and_lt_two_pow _ (by omega)
 show IntKind.u32.wrap ((BitVec.ofInt 32 (a:Int) &&& BitVec.ofInt 32 (b:Int)).toNat:Int)=_
 rw[BitVec.toNat_and,zh9 a ha,zh9 b hb,IntKind.wrap_u32];omega
theorem zs1 (a:Nat)(h:a<4294967296):bits .and .u32 (a:Int) 3=((a%4:Nat):Int):=by
 rw[show (3:Int)=((3:Nat):Int) from rfl,zc7 _ _ (by omega) (by omega),zco a 2]
theorem zr4 (a:Nat)(h:a<4294967296):bits .and .u32 (a:Int) 7=((a%8:Nat):Int):=by
 rw[show (7:Int)=((7:Nat):Int) from rfl,zc7 _ _ (by omega) (by omega),zco a 3]
theorem zjt (a:Nat)(h:a<4294967296):bits .and .u32 (a:Int) 65535=((a%65536:Nat):Int):=by
 rw[show (65535:Int)=((65535:Nat):Int) from rfl,zc7 _ _ (by omega) (by omega),zco a 16]
theorem zrp (a:Nat)(h:a<4294967296):bits .and .u32 (a:Int) 4=((4*(a/4%2):Nat):Int):=by
 rw[show (4:Int)=((4:Nat):Int) from rfl,zc7 _ _ (by omega) (by omega),zpi]
def sgn (lo:Nat):Int:=if lo<2147483648 then ((lo/4:Nat):Int) else ((lo/4:Nat):Int)-1073741824
def getP (lo hi:Nat):Int×Int×Int×Int×Int×Int×Int×Bool :=
 if lo=0∧hi=0 then (0,0,0,0,0,0,0,false) else if lo%4=0 then (1,sgn lo,((hi%65536:Nat):Int),((hi/65536:Nat):Int),0,0,0,false)
 else if lo%4=1 then (2,sgn lo,0,0,((hi%8:Nat):Int),((hi/8:Nat):Int),0,false) else if lo%4=2 then (3,((lo/8:Nat):Int),0,0,0,0,(hi:Int),decide (lo/4%2=1)) else (4,0,0,0,0,0,0,false)
theorem zcp (n:Int):∀(a b:Nat),leB n (a+b)=leB n a++leB (n/256^a) b
 | 0,b=>by simp[leB]
 | a+1,b=>by
   rw[show a+1+b=(a+b)+1 by omega,leB,leB,zcp (n/256) a b,List.cons_append,Int.pow_succ,Int.mul_comm (256^a) 256,Int.ediv_ediv_of_nonneg (by decide)]
theorem zl4 (n m:Int):∀(k:Nat) (c:Int),n=m+c*256^k→leB n k=leB m k
 | 0,_,_=>rfl
 | k+1,c,h=>by
   have e:n=m+256*(c*256^k):=by rw[h,Int.pow_succ,Int.mul_comm (256^k) 256,← Int.mul_assoc,Int.mul_comm c 256,Int.mul_assoc]
   rw[leB,leB,zl4 (n/256) (m/256) k c (by omega),show n%256=m%256 by omega]
theorem zff (lo hi:Int)(h0:0≤lo)(h1:lo<4294967296):leB (lo+4294967296*hi) 8=leB lo 4++leB hi 4:=by
 have h:=zcp (lo+4294967296*hi) 4 4;have e:(256:Int)^4=4294967296:=rfl;rw[e,show (lo+4294967296*hi)/4294967296=hi by omega] at h;rw[h,zl4 (lo+4294967296*hi) lo 4 hi (by rw[e]; omega)]
theorem znp (d p:Int)(h0:0≤d)(h1:d<65536):leB (d+65536*p) 4=leB d 2++leB p 2:=by
 have h:=zcp (d+65536*p) 2 2;have e:(256:Int)^2=65536:=rfl;rw[e,show (d+65536*p)/65536=p by omega] at h;rw[h,zl4 (d+65536*p) d 2 p (by rw[e]; omega)]
def offN (o:Int):Int:=o%1073741824*4
theorem z2a (o:Int):0≤offN o∧offN o≤4294967292:=by unfold offN; omega
theorem zfj (o:Int)(lo:Nat)(hl:(lo:Int)=offN o∨(lo:Int)=offN o+1)(h0: -536870912≤o)(h1:o≤536870911):sgn lo=o:=by
 unfold offN at hl;unfold sgn
 split <;> omega
theorem zmf (lo hi:Int)(h0:0≤lo)(h1:lo<4294967296)(g0:0≤hi)(g1:hi<4294967296) :
 ((leN (leB lo 4++leB hi 4) 0 4:Nat):Int)=lo∧((leN (leB lo 4++leB hi 4) 4 4:Nat):Int)=hi:=by
 have e:(256:Int)^4=4294967296:=rfl
 constructor
 · rw[z2f (leB lo 4++leB hi 4) (leB lo 4) 4 0 0 (fun i hi=>by rw[List.getElem?_append_left (by rw[z07]; omega)]),zcv,e]; omega
 · rw[z2f (leB lo 4++leB hi 4) (leB hi 4) 4 4 0 (fun i hi=>by rw[List.getElem?_append_right (by rw[z07]; omega),z07]; congr 1; omega),zcv,e]; omega
abbrev Segs:=List (List UInt8)
def sgS (ss:Segs)(i:Nat):List UInt8:=ss[i]?.getD []
def wn (s:List UInt8):Nat:=s.length/8
def totS (ss:Segs):Nat:=(ss.map wn).sum
def zer (k:Nat):List UInt8:=List.replicate (8*k) 0
def spl (s:List UInt8)(p:Nat)(t:List UInt8):List UInt8:=s.take p++t++s.drop (p+t.length)
def growB (ss:Segs)(i k:Nat):Segs:=ss.set i (sgS ss i++zer k)
def putS (ss:Segs)(i a:Nat)(t:List UInt8):Segs:=ss.set i (spl (sgS ss i) (8*a) t)
def w8 (lo hi:Int):List UInt8:=leB lo 4++leB hi 4
def ptrW (n:Nd)(off:Int):List UInt8 :=
 if n.kind=1 then w8 (offN off) ((n.data.size/8:Nat)+65536*(n.ptrs.length:Int))
 else if n.size=7 then w8 (offN off+1) (((ownN n:Int)-1)*8+7) else w8 (offN off+1) (n.count*8+n.size)
def farW (off seg:Nat):List UInt8:=w8 ((off:Int)*8+2) seg
def itD (n:Nd):Nat:=(n.items.headD default).data.size/8
def itP (n:Nd):Nat:=(n.items.headD default).ptrs.length
def tagW (n:Nd):List UInt8:=w8 (offN n.count) ((itD n:Nat)+65536*(itP n:Int))
def z2e (size:Nat)(ss:Segs)(k:Nat):Option (Segs×Nat) :=
 if wn (sgS ss (ss.length-1))+k≤size then some (ss,ss.length-1) else if ss.length<6 then some (ss++ [[]],ss.length) else none
def roomP (L size:Nat)(n:Nd)(ss:Segs)(i a:Nat):Option (Segs×Nat×Nat) :=
 if wn (sgS ss i)+ownN n≤size then
  (if totS ss+ownN n≤L then some (putS (growB ss i (ownN n)) i a (ptrW n ((wn (sgS ss i):Int)-a-1)),i,wn (sgS ss i)) else none)
 else match z2e size ss (1+ownN n) with
  | none=>none
  | some (s1,j)=>if totS s1+(1+ownN n)≤L then some (putS (putS (growB s1 j (1+ownN n)) i a (farW (wn (sgS s1 j)) j)) j (wn (sgS s1 j)) (ptrW n 0),j,wn (sgS s1 j)+1) else none
abbrev Wr:=Nd→Segs→Nat→Nat→Option Segs
def ptrsP (wr:Wr):List Nd→Segs→Nat→Nat→Option Segs
 | [],ss,_,_=>some ss
 | p :: t,ss,i,a=>(wr p ss i a).bind fun s1=>ptrsP wr t s1 i (a+1)
def bodyP (wr:Wr)(n:Nd)(ss:Segs)(i a:Nat):Option Segs:=ptrsP wr n.ptrs (putS ss i a n.data.data.toList) i (a+(n.data.size+7)/8)
def z16 (wr:Wr)(each:Nat):List Nd→Segs→Nat→Nat→Option Segs
 | [],ss,_,_=>some ss
 | y :: t,ss,i,a=>(bodyP wr y ss i a).bind fun s1=>z16 wr each t s1 i (a+each)
def fillP (wr:Wr)(n:Nd)(ss:Segs)(i a:Nat):Option Segs :=
 if n.kind=2∧n.size=7 then z16 wr (itD n+itP n) n.items (putS ss i a (tagW n)) i (a+1) else bodyP wr n ss i a
def wrP (L size:Nat):Nat→Wr
 | 0,_,ss,_,_=>some ss
 | d+1,n,ss,i,a =>
  if n.kind=0 then some ss
  else if ownN n=0 then some (putS ss i a (ptrW n (if n.kind=1 then -1 else 0)))
  else (roomP L size n ss i a).bind fun r=>fillP (wrP L size d) n r.1 r.2.1 r.2.2
def z36 (L size:Nat)(n:Nd):Option Segs:=wrP L size 8 n [zer 1] 0 0
theorem zav (wr:Wr):∀(l:List Nd) (p:Nd) (ss:Segs) (i a:Nat),ptrsP wr (l++ [p]) ss i a=(ptrsP wr l ss i a).bind fun s1=>wr p s1 i (a+l.length)
 | [],p,ss,i,a=>by simp[ptrsP]
 | q :: t,p,ss,i,a=>by
   simp only[List.cons_append,ptrsP,Option.bind_assoc,List.length_cons]
   congr 1
   funext s1
   rw[zav wr t p s1 i (a+1),show a+1+t.length=a+(t.length+1) by omega]
theorem z8w (wr:Wr)(each:Nat):∀(l:List Nd) (p:Nd) (ss:Segs) (i a:Nat),z16 wr each (l++ [p]) ss i a=(z16 wr each l ss i a).bind fun s1=>bodyP wr p s1 i (a+l.length*each)
 | [],p,ss,i,a=>by simp[z16]
 | q :: t,p,ss,i,a=>by
   simp only[List.cons_append,z16,Option.bind_assoc,List.length_cons]
   congr 1
   funext s1
   rw[z8w wr each t p s1 i (a+each),show a+each+t.length*each=a+(t.length+1)*each by rw[Nat.add_mul]; omega]
theorem zat (wr:Wr):∀(l m:List Nd) (ss:Segs) (i a:Nat),ptrsP wr l ss i a=none→ptrsP wr (l++m) ss i a=none
 | [],m,ss,i,a,h=>by cases h
 | q :: t,m,ss,i,a,h=>by
   simp only[List.cons_append,ptrsP] at h ⊢
   cases hq:wr q ss i a with
   | none=>rfl
   | some s1=>rw[hq] at h; exact zat wr t m s1 i (a+1) h
theorem z9m (wr:Wr)(each:Nat):∀(l m:List Nd) (ss:Segs) (i a:Nat),z16 wr each l ss i a=none→z16 wr each (l++m) ss i a=none
 | [],m,ss,i,a,h=>by cases h
 | q :: t,m,ss,i,a,h=>by
   simp only[List.cons_append,z16] at h ⊢
   cases hq:bodyP wr q ss i a with
   | none=>rfl
   | some s1=>rw[hq] at h; exact z9m wr each t m s1 i (a+each) h
theorem z7k (wr:Wr)(l:List Nd)(k:Nat)(hk:k<l.length)(ss:Segs)(i a:Nat):ptrsP wr (l.take (k+1)) ss i a=(ptrsP wr (l.take k) ss i a).bind fun s1=>wr l[k] s1 i (a+k):=by
 rw[List.take_succ_eq_append_getElem hk,zav,List.length_take,Nat.min_eq_left (by omega)]
theorem z9a (wr:Wr)(each:Nat)(l:List Nd)(k:Nat)(hk:k<l.length)(ss:Segs)(i a:Nat):z16 wr each (l.take (k+1)) ss i a=(z16 wr each (l.take k) ss i a).bind fun s1=>bodyP wr l[k] s1 i (a+k*each):=by
 rw[List.take_succ_eq_append_getElem hk,z8w,List.length_take,Nat.min_eq_left (by omega)]
theorem z9c (wr:Wr)(l:List Nd)(k:Nat)(ss:Segs)(i a:Nat)(h:ptrsP wr (l.take k) ss i a=none):ptrsP wr l ss i a=none:=by
 have:=zat wr (l.take k) (l.drop k) ss i a h
 rwa [List.take_append_drop] at this
theorem zbq (wr:Wr)(each:Nat)(l:List Nd)(k:Nat)(ss:Segs)(i a:Nat)(h:z16 wr each (l.take k) ss i a=none):z16 wr each l ss i a=none:=by
 have:=z9m wr each (l.take k) (l.drop k) ss i a h
 rwa [List.take_append_drop] at this
theorem z69 {ss:Segs}{i:Nat}{x:List UInt8}(h:i<ss.length)(j:Nat):sgS (ss.set i x) j=if j=i then x else sgS ss j:=by
 unfold sgS;rw[List.getElem?_set]
 by_cases e:i=j
 · subst e; simp[h]
 · rw[if_neg e,if_neg (fun x=>e x.symm)]
theorem z7g {ss:Segs}{x:List UInt8}(j:Nat):sgS (ss++ [x]) j=if j=ss.length then x else sgS ss j:=by
 unfold sgS
 by_cases e:j<ss.length
 · rw[List.getElem?_append_left e,if_neg (by omega)]
 · rw[List.getElem?_append_right (by omega)]
   by_cases e2:j=ss.length
   · subst e2; simp
   · rw[if_neg e2,List.getElem?_eq_none (by simp; omega),List.getElem?_eq_none (by omega)]
theorem z97 {ss:Segs}{i:Nat}(h:ss.length≤i):sgS ss i= []:=by unfold sgS; rw[List.getElem?_eq_none h]; rfl
theorem z2u {s t:List UInt8}{p:Nat}(h:p+t.length≤s.length):(spl s p t).length=s.length:=by
 unfold spl; simp only[List.length_append,List.length_take,List.length_drop]; omega
theorem z0a (ss:Segs)(i a:Nat)(t:List UInt8):(putS ss i a t).length=ss.length:=by unfold putS; simp
theorem z0b (ss:Segs)(i k:Nat):(growB ss i k).length=ss.length:=by unfold growB; simp
theorem z0t (k:Nat):(zer k).length=8*k:=by simp[zer]
theorem z1l (a b:Int):(w8 a b).length=8:=by unfold w8; rw[List.length_append,z07,z07]
theorem z0f (n:Nd)(o:Int):(ptrW n o).length=8:=by
 unfold ptrW
 split
 · exact z1l _ _
 · split <;> exact z1l _ _
theorem z1e (a b:Nat):(farW a b).length=8:=z1l _ _
theorem z0x (n:Nd):(tagW n).length=8:=z1l _ _
def WdS (ss:Segs):Prop:=∀i,(sgS ss i).length%8=0
def Alen (ss s1:Segs):Prop:=ss.length=s1.length∧∀i,(sgS ss i).length=(sgS s1 i).length
def Grew (ss s1:Segs):Prop:=ss.length≤s1.length∧∀i,(sgS ss i).length≤(sgS s1 i).length
theorem Alen.grew {ss s1:Segs}(h:Alen ss s1):Grew ss s1:=⟨Nat.le_of_eq h.1,fun i=>Nat.le_of_eq (h.2 i)⟩
theorem Grew.refl (ss:Segs):Grew ss ss:=⟨Nat.le_refl _,fun _=>Nat.le_refl _⟩
theorem Grew.trans {a b c:Segs}(h:Grew a b)(g:Grew b c):Grew a c:=⟨Nat.le_trans h.1 g.1,fun i=>Nat.le_trans (h.2 i) (g.2 i)⟩
theorem Grew.wn {a b:Segs}(h:Grew a b)(i:Nat):wn (sgS a i)≤wn (sgS b i):=Nat.div_le_div_right (h.2 i)
theorem Alen.wds {a b:Segs}(h:Alen a b)(hw:WdS a):WdS b:=fun i=>by rw[← h.2 i]; exact hw i
theorem zhk {ss:Segs} :∀ {i:Nat} (x:List UInt8),i<ss.length→totS (ss.set i x)+wn (sgS ss i)=totS ss+wn x:=by
 induction ss with
 | nil=>intro i x h; cases h
 | cons s t ih =>
  intro i x h
  cases i with
  | zero=>simp[totS,sgS]; omega
  | succ i =>
   have:=ih (i:=i) x (by simpa using h)
   simp only[totS,sgS,List.set_cons_succ,List.map_cons,List.sum_cons,List.getElem?_cons_succ] at this ⊢
   omega
theorem z6p (ss:Segs)(x:List UInt8):totS (ss++ [x])=totS ss+wn x:=by simp[totS]
theorem z09 (ss:Segs)(i:Nat):wn (sgS ss i)≤totS ss:=by
 by_cases h:i<ss.length
 · have:=zhk (ss:=ss) (i:=i) [] h
   have:wn []=0:=rfl;omega
 · rw[z97 (by omega)]; exact Nat.zero_le _
theorem zod {ss:Segs}{i o:Nat}{t:List UInt8}(h:i<ss.length)(ha:o+t.length≤(sgS ss i).length):Alen ss (ss.set i (spl (sgS ss i) o t)):=by
 refine ⟨by simp,fun j=>?_⟩;rw[z69 h]
 split
 · rename_i e; subst e; exact (z2u ha).symm
 · rfl
theorem z0s {ss:Segs}{i a:Nat}{t:List UInt8}(h:i<ss.length)(ha:8*a+t.length≤(sgS ss i).length):Alen ss (putS ss i a t):=by
 refine ⟨(z0a _ _ _ _).symm,fun j=>?_⟩;unfold putS;rw[z69 h]
 split
 · rename_i e; subst e; exact (z2u ha).symm
 · rfl
theorem z9q:∀ {a b:Segs},Alen a b→totS a=totS b
 | [],[],_=>rfl
 | [],_ :: _,h=>by cases h.1
 | _ :: _,[],h=>by cases h.1
 | x :: a,y :: b,h=>by
   have h1:wn x=wn y:=by have:=h.2 0; simp[sgS] at this; unfold wn; rw[this]
   have h2:totS a=totS b:=z9q ⟨by have:=h.1; simpa using this,fun i=>by have:=h.2 (i+1); simpa [sgS] using this⟩
   simp only[totS,List.map_cons,List.sum_cons] at h2 ⊢
   omega
theorem z1j {ss:Segs}{i a:Nat}{t:List UInt8}(h:i<ss.length)(ha:8*a+t.length≤(sgS ss i).length):totS (putS ss i a t)=totS ss:=(z9q (z0s h ha)).symm
theorem z4t {ss:Segs}{i k:Nat}(h:i<ss.length)(j:Nat):sgS (growB ss i k) j=if j=i then sgS ss i++zer k else sgS ss j:=z69 h j
theorem z2q {ss:Segs}{i k:Nat}(h:i<ss.length):wn (sgS (growB ss i k) i)=wn (sgS ss i)+k:=by
 rw[z4t h,if_pos rfl]; unfold wn; rw[List.length_append,z0t]; omega
theorem z2p {ss:Segs}{i k:Nat}(h:i<ss.length):Grew ss (growB ss i k):=by
 refine ⟨Nat.le_of_eq (z0b _ _ _).symm,fun j=>?_⟩
 rw[z4t h]; split
 · rename_i e; subst e; simp
 · exact Nat.le_refl _
theorem z5s {ss:Segs}{i k:Nat}(h:i<ss.length)(hw:WdS ss):WdS (growB ss i k):=by
 intro j
 rw[z4t h]; split
 · rename_i e; subst e; rw[List.length_append,z0t]; have:=hw j; omega
 · exact hw j
theorem z2t {ss:Segs}{i k:Nat}(h:i<ss.length):totS (growB ss i k)=totS ss+k:=by
 have:=zhk (ss:=ss) (i:=i) (sgS ss i++zer k) h;unfold growB
 have h2:wn (sgS ss i++zer k)=wn (sgS ss i)+k:=by unfold wn; rw[List.length_append,z0t]; omega
 omega
theorem znm (ss:Segs):Grew ss (ss++ [[]]):=by
 refine ⟨by simp,fun j=>?_⟩
 rw[z7g]; split
 · rename_i e; subst e; rw[z97 (Nat.le_refl _)]; exact Nat.le_refl _
 · exact Nat.le_refl _
theorem zk5 {ss:Segs}(hw:WdS ss):WdS (ss++ [[]]):=by
 intro j; rw[z7g]; split
 · rfl
 · exact hw j
theorem z10 {ss:Segs}(h:WdS ss)(i:Nat):(sgS ss i).length=8*wn (sgS ss i):=by unfold wn; have:=h i; omega
theorem zom (s t:List UInt8)(p k:Nat)(hk:k<t.length)(h:p+t.length≤s.length):spl (spl s p (t.take k)) (p+k) [t[k]]=spl s p (t.take (k+1)):=by
 have hl:(t.take k).length=k:=by rw[List.length_take]; omega
 have hl1:(t.take (k+1)).length=k+1:=by rw[List.length_take]; omega
 have e0:(s.take p).length=p:=by rw[List.length_take]; omega
 unfold spl;rw[hl,hl1,List.length_singleton];have e1:(s.take p++t.take k++s.drop (p+k)).take (p+k)=s.take p++t.take k:=List.take_left' (by rw[List.length_append,e0,hl])
 have e2:(s.take p++t.take k++s.drop (p+k)).drop (p+k+1)=s.drop (p+(k+1)):=by
  rw[← List.drop_drop,List.drop_left' (by rw[List.length_append,e0,hl]),List.drop_drop]
  congr 1
 rw[e1,e2,List.take_succ_eq_append_getElem hk]
 simp
theorem zrq (s:List UInt8)(p:Nat):spl s p []=s:=by unfold spl; simp
theorem zsk (ss:Segs)(i:Nat):ss.set i (sgS ss i)=ss:=by
 apply List.ext_getElem?
 intro j
 rw[List.getElem?_set]
 split
 · rename_i e
   subst e
   split
   · rename_i h; unfold sgS; rw[List.getElem?_eq_getElem h]; rfl
   · rename_i h; rw[List.getElem?_eq_none (by omega)]
 · rfl
theorem zhz (ss:Segs)(i a:Nat):putS ss i a []=ss:=by unfold putS; rw[zrq,zsk]
theorem zkj (ss:Segs)(i a k:Nat)(t:List UInt8)(hi:i<ss.length)(hk:k<t.length)(h:8*a+t.length≤(sgS ss i).length) :
 (putS ss i a (t.take k)).set i (spl (sgS (putS ss i a (t.take k)) i) (8*a+k) [t[k]])=putS ss i a (t.take (k+1)):=by
 have e:sgS (putS ss i a (t.take k)) i=spl (sgS ss i) (8*a) (t.take k):=by unfold putS; rw[z69 hi,if_pos rfl]
 rw[e,zom _ _ _ _ hk h];unfold putS;rw[List.set_set]
def zerB (l:List UInt8):Bool:=l.all (· ==0)
theorem zbw (s:ByteArray)(w:World)(hs:s.size≤maxLen) :
 Calls Tryz.prog 101 #[.string s] w fun e w'=>e= .returned (.bool (zerB s.data.toList))∧w=w':=by
 unfold maxLen at hs
 have hl:s.data.toList.length=s.size:=by simp
 have HL:=hid hl;clear hl;go_enter Tryz.func101,Tryz.ntmps101;go_wp2
 go_loop [3] (fun i=>∃k:Nat,k≤s.size∧i= .int .i64 (k:Int)∧∀j,j<k→s.data.toList[j]?.getD 0=0) (fun i=>(s.size-intOf i).toNat)
 case atStart=>exact ⟨0,by omega,by simp,fun j hj=>by omega⟩
 case round =>
  obtain ⟨k,hk,rfl,hz⟩:=hrel;have HZ:=hid hz;clear hz
  by_cases hlt:k<s.size
  · have hg:=z6k s k hlt
    have HG:=hid hg;clear hg
    by_cases hb:s[k]=0
    · have hb':(((s[k]).toNat:Int)==0)=true:=by simp[hb]
      have HB:=hid hb;clear hb;go_wp2
      go_round
      case rel =>
       refine ⟨k+1,by omega,by go_num,fun j hj=>?_⟩
       by_cases hjk:j<k
       · exact HZ.out j hjk
       · obtain rfl:j=k:=by omega
         rw[HG.out,HB.out]
      case measure=>simp[intOf]; omega
    · have hb':(((s[k]).toNat:Int)==0)=false:=by
       rw[beq_eq_false_iff_ne]
       intro h
       exact hb (UInt8.toNat_inj.1 (by simpa using h))
      have HB:=hid hb;clear hb;go_wp2;go_ret;refine ⟨z0j ?_,rfl⟩;rw[eq_comm,zerB,List.all_eq_false];refine ⟨s[k],?_,by simpa using HB.out⟩;rw[← HG.out,List.getElem?_eq_getElem (by rw[HL.out]; exact hlt)];exact List.getElem_mem _
  · go_wp2
    go_ret;refine ⟨z0j ?_,rfl⟩;rw[eq_comm,zerB,List.all_eq_true]
    intro x hx
    obtain ⟨j,hj,rfl⟩:=List.mem_iff_getElem.1 hx;have:=HZ.out j (by rw[HL.out] at hj; omega);rw[List.getElem?_eq_getElem hj] at this
    simpa using this
def trimN (l:List UInt8):Nat→Nat
 | 0=>0
 | k+1=>if zerB ((l.drop (8*k)).take 8) then trimN l k else k+1
theorem zhj (l:List UInt8):∀k,trimN l k≤k
 | 0=>Nat.le_refl _
 | k+1=>by
   unfold trimN
   split
   · have:=zhj l k; omega
   · omega
end Go.Proofs.YtlbfffokkhccaaaGreatDoor
