/- Texts of the proof of the law FnRecordCanon, side by side: part 45. -/
import Derived.LaidEqlPtr
import Derived.Laws.StructEq
import Derived.MapKept
import Derived.Deep.LoopGhost
import Derived.Carry
import Derived.Test.YtblcibgphccfkaaGreatDoorMRecordCanon44
set_option maxHeartbeats 8000000
set_option maxRecDepth 100000
open Go.Lib (hid)
namespace Go.Proofs.YtblcibgphccfkaaGreatDoor
open Go.RowKit Go.Deep
abbrev prT:TypeId:=129
abbrev prsT:TypeId:=130
theorem znm:(Tryz.prog.info? prT).map (fun i=>(i.zero,i.size,i.bytes))=some (some (.agg #[.pointer none,.pointer none]),2,16):=by kernel_rfl
def rowP:List PT→List Value
 | []=> []
 | t :: r=> .pointer (some t.1.1) :: .pointer (some t.1.2) :: rowP r
theorem z2l:∀G,(rowP G).length=G.length*2
 | []=>rfl
 | t :: r=>by simp only[rowP,List.length_cons,z2l r]; omega
theorem z4x:∀(G H:List PT),rowP (G++H)=rowP G++rowP H
 | [],_=>rfl
 | t :: r,H=>by rw[List.cons_append,rowP,z4x r H]; rfl
theorem zem:∀(G:List PT),∀u∈rowP G,u.oneCell'=true
 | [],_,h=>by cases h
 | t :: r,u,h=>by
   rcases List.mem_cons.1 h with rfl | h
   · rfl
   rcases List.mem_cons.1 h with rfl | h
   · rfl
   exact zem r u h
theorem zhn (G:List PT)(t:PT):(rowP (G++ [t]))[G.length*2]? =some (.pointer (some t.1.1))∧(rowP (G++ [t]))[G.length*2+1]? =some (.pointer (some t.1.2)):=by
 rw[z4x];have h:=z2l G
 constructor
 · rw[List.getElem?_append_right (by omega),h,Nat.sub_self]; rfl
 · rw[List.getElem?_append_right (by omega),h,show G.length*2+1-G.length*2=1 by omega]; rfl
theorem z59 (base base2:Nat)(ty:TypeId)(w:World)(v v2:Value)(n:Nat)(xs:List Value)(G:List PT)(hown:w.ownsRow base prT 2 v n xs)(h2:w.ownsRow base2 prT 2 v2 G.length (rowP G))(hb:n+G.length≤4000002)(hbase:base≤w.heap.size) :
 ∃v' w',(Builtin.append_ #[prsT,prsT] ty #[v,v2]).run Tryz.prog w= .ok v' w'∧w'.ownsRow base prT 2 v' (n+G.length) (xs++rowP G)∧w.grownBy w' v.ownBlock:=by
 obtain ⟨i0,hi,hz0,hz1,hz2⟩:=info_parts znm;have hlen:=z2l G
 rcases h2.2 with ⟨rfl,h0⟩ | ⟨g,cap,cur,rfl,_,_⟩
 · obtain rfl:=List.eq_nil_of_length_eq_zero h0
   exact ⟨v,w,run_append_owned_none (P:=Tryz.prog) w base prsT ty prT i0 2 Tryz.underlying130 hi v n xs hown,by simpa [rowP] using hown,⟨rfl,rfl,rfl,Nat.le_refl _,fun _ _ _=>rfl⟩⟩
 · obtain ⟨v',w',h1,h3,h4,_⟩:=run_append_own (P:=Tryz.prog) w base prsT ty prT i0 _ 2 16 Tryz.underlying130 hi hz0 hz1 hz2 rfl (by decide) v n xs hown ⟨g,0,none⟩ G.length cap (rowP G) hlen (fun j u hj=>h2.cells (g:=g) rfl j u hj) (zem G) (by unfold maxLen; omega) (by omega) hbase
   exact ⟨v',w',h1,h3,h4⟩
theorem z4i {ops:Array Oper}{o:Oper}{a:Act}{w:World}{K:Act→World→Prop}{Q:Exit→Act→World→Prop}{E:Prop}(hgd:o.guard=none)(s x:Operand)
 (ho:o.op= .call { callee:= .builtin .append,args:= #[s,x],argTypes:= #[prsT,prsT] })
 (base base2:Nat) (v v2:Value) (n:Nat) (xs:List Value) (G:List PT) (hs:a.eval s=v) (hx:a.eval x=v2) (hown:w.ownsRow base prT 2 v n xs) (h2:w.ownsRow base2 prT 2 v2 G.length (rowP G)) (hb:n+G.length≤4000002) (hbase:base≤w.heap.size)
 (h:∀A' c' w',Hid (w'.ownsRow base prT 2 (.slice A' (n+G.length) c') (n+G.length) (xs++rowP G))→Hid (w.grownBy w' v.ownBlock)→K (a.put o.dst (.slice A' (n+G.length) c')) w') :
 if Region.wanted o (yielded ops a.tmps)=true then Oper.wp Tryz.prog o a w K Q else E:=by
 have hw:Region.wanted o (yielded ops a.tmps)=true:=by simp[Region.wanted,hgd]
 rw[if_pos hw];obtain ⟨v',w',hr,h3,h4⟩:=z59 base base2 o.type w v v2 n xs G hown h2 hb hbase;obtain ⟨A',c',rfl⟩:=z2d h3;unfold Oper.wp execOp
 simp only[ho,resolve,invoke,builtin,Sem.run_bind,Sem.run_pure,Result.andThen_ok,List.map_toArray,List.map_cons,List.map_nil,hs,hx,hr]
 exact h A' c' w' h3 h4
theorem zh2 (w:World)(t:PT):(w.alloc (.cells #[.pointer (some t.1.1),.pointer (some t.1.2)] prT)).ownsRow w.heap.size prT 2 (.slice (some ⟨w.heap.size,0,none⟩) 1 1) ([t]:List PT).length (rowP [t]) :=
 World.ownsRow_lit w #[.pointer (some t.1.1),.pointer (some t.1.2)] 1 (Nat.le_refl _) (by decide) rfl
theorem z2c (w:World)(d:Nat):Below w.heap.size w (redrawn w d):=⟨rfl,rfl,rfl,Nat.le_refl _,fun _ _=>rfl⟩
def z6o (n n':Nd):Bool:=decide (n.kind=n'.kind)&&decide (n.data=n'.data)&&decide (n.size=n'.size)&&decide (n.count=n'.count)&&decide (n.ptrs.length=n'.ptrs.length)&&decide (n.items.length=n'.items.length)
theorem z54 (n n':Nd):z6o n n'=true↔z6i n n':=by
 unfold z6o z6i
 simp only[Bool.and_eq_true,decide_eq_true_eq]
 exact ⟨fun ⟨⟨⟨⟨⟨a,b⟩,c⟩,d⟩,e⟩,f⟩=>⟨a,b,c,d,e,f⟩,fun ⟨a,b,c,d,e,f⟩=>⟨⟨⟨⟨⟨a,b⟩,c⟩,d⟩,e⟩,f⟩⟩
theorem zcm (p p':Addr)(n n':Nd)(h h':Hd)(w:World)(c:NdCell w p n h)(c':NdCell w p' n' h')(_l1:n.ptrs.length≤maxLen)(_l2:n.items.length≤maxLen)(_l3:n'.ptrs.length≤maxLen)(_l4:n'.items.length≤maxLen) :
 Calls Tryz.prog 91 #[.pointer (some p),.pointer (some p')] w fun e w'=>e= .returned (.bool (z6o n n'))∧Below w.heap.size w w':=by
 obtain ⟨c0,c1,c2,c3,c4,c5⟩:=c;obtain ⟨d0,d1,d2,d3,d4,d5⟩:=c';unfold maxLen at _l1 _l2 _l3 _l4;have HQ:=hid (z54 n n');generalize z6o n n'=b at *
 by_cases hx:n.kind=n'.kind
 case neg =>
  have hxb:(n.kind==n'.kind)=false:=by simpa using hx
  obtain rfl:b=false:=z2p HQ.out (fun e=>hx e.1);clear hx;go_enter Tryz.func91,Tryz.ntmps91;go_wp2
  simp only[List.append_eq,List.cons_append,List.nil_append]
  go_big_quiet (fail)
  go_wp2;go_ret;exact ⟨rfl,z2c _ _⟩
 have t0:(n.kind==n'.kind)=true:=by simpa using hx
 have H0:=hid hx;clear hx
 by_cases hx:n.data=n'.data
 case neg =>
  have hxb:(n.data.toList==n'.data.toList)=false:=by rw[z4o]; exact decide_eq_false hx
  obtain rfl:b=false:=z2p HQ.out (fun e=>hx e.2.1);clear hx;go_enter Tryz.func91,Tryz.ntmps91;go_wp2
  simp only[List.append_eq,List.cons_append,List.nil_append]
  go_big_quiet (fail)
  go_wp2;go_ret;exact ⟨rfl,z2c _ _⟩
 have t1:(n.data.toList==n'.data.toList)=true:=by rw[z4o]; exact decide_eq_true hx
 have H1:=hid hx;clear hx
 by_cases hx:n.size=n'.size
 case neg =>
  have hxb:(n.size==n'.size)=false:=by simpa using hx
  obtain rfl:b=false:=z2p HQ.out (fun e=>hx e.2.2.1);clear hx;go_enter Tryz.func91,Tryz.ntmps91;go_wp2
  simp only[List.append_eq,List.cons_append,List.nil_append]
  go_big_quiet (fail)
  go_wp2;go_ret;exact ⟨rfl,z2c _ _⟩
 have t2:(n.size==n'.size)=true:=by simpa using hx
 have H2:=hid hx;clear hx
 by_cases hx:n.count=n'.count
 case neg =>
  have hxb:(n.count==n'.count)=false:=by simpa using hx
  obtain rfl:b=false:=z2p HQ.out (fun e=>hx e.2.2.2.1);clear hx;go_enter Tryz.func91,Tryz.ntmps91;go_wp2
  simp only[List.append_eq,List.cons_append,List.nil_append]
  go_big_quiet (fail)
  go_wp2;go_ret;exact ⟨rfl,z2c _ _⟩
 have t3:(n.count==n'.count)=true:=by simpa using hx
 have H3:=hid hx;clear hx
 by_cases hx:n.ptrs.length=n'.ptrs.length
 case neg =>
  have hxb:((n.ptrs.length:Int)==(n'.ptrs.length:Int))=false:=by simp; omega
  obtain rfl:b=false:=z2p HQ.out (fun e=>hx e.2.2.2.2.1);clear hx;go_enter Tryz.func91,Tryz.ntmps91;go_wp2
  simp only[List.append_eq,List.cons_append,List.nil_append]
  go_big_quiet (fail)
  go_wp2;go_ret;exact ⟨rfl,z2c _ _⟩
 have t4:((n.ptrs.length:Int)==(n'.ptrs.length:Int))=true:=by simp; omega
 have H4:=hid hx;clear hx
 by_cases hx:n.items.length=n'.items.length
 case neg =>
  have hxb:((n.items.length:Int)==(n'.items.length:Int))=false:=by simp; omega
  obtain rfl:b=false:=z2p HQ.out (fun e=>hx e.2.2.2.2.2);clear hx;go_enter Tryz.func91,Tryz.ntmps91;go_wp2
  simp only[List.append_eq,List.cons_append,List.nil_append]
  go_big_quiet (fail)
  go_wp2;go_ret;exact ⟨rfl,z2c _ _⟩
 have t5:((n.items.length:Int)==(n'.items.length:Int))=true:=by simp; omega
 have H5:=hid hx;clear hx;obtain rfl:b=true:=HQ.out.2 ⟨H0.out,H1.out,H2.out,H3.out,H4.out,H5.out⟩;go_enter Tryz.func91,Tryz.ntmps91;go_wp2;go_wp2
 try simp only[List.append_eq,List.cons_append,List.nil_append]
 go_big_quiet (fail)
 go_wp2;go_ret;exact ⟨rfl,z2c _ _⟩
def zen (A B:Option Addr)(l l':List Nd)(w:World)(e:Ending)(w':World):Prop :=
 ∃v,e= .returned v∧w'.ownsRow w.heap.size prT 2 v (pts (A.getD default) (B.getD default) 0 l l').length (rowP (pts (A.getD default) (B.getD default) 0 l l'))∧Below w.heap.size w w'
theorem zld (x y:Addr)(l l':List Nd)(hl:l.length=l'.length)(k:Nat)(n n':Nd)(h:l[k]? =some n)(h':l'[k]? =some n'):(pts x y 0 l l').take (k+1)=(pts x y 0 l l').take k++ [((x.add (k*6),y.add (k*6)),(n,n'))]:=by
 have hp:=z4t x y 0 l l' hl;have:=zec x y 0 l l' k _ _ h h';obtain ⟨hk,he⟩:=List.getElem?_eq_some_iff.1 this;rw[List.take_succ_eq_append_getElem hk,he,Nat.zero_add]
theorem zbx (A B:Option Addr)(c c':Nat)(l l':List Nd)(w:World)(hA:l= []∨∃x,A=some x)(hB:l'= []∨∃y,B=some y)(hl:l.length=l'.length)(hm:l.length≤2000000) :
 Calls Tryz.prog 92 #[.slice A l.length c,.slice B l'.length c'] w (zen A B l l' w):=by
 have hpl:=z4t (A.getD default) (B.getD default) 0 l l' hl
 have hts:∀k n n',l[k]? =some n→l'[k]? =some n'→(pts (A.getD default) (B.getD default) 0 l l').take (k+1)=(pts (A.getD default) (B.getD default) 0 l l').take k++ [(((A.getD default).add (k*6),(B.getD default).add (k*6)),(n,n'))]:=fun k n n' h h'=>zld _ _ l l' hl k n n' h h'
 rw[← hl];have HPL:=hid hpl;have HTS:=hid hts;unfold zen;generalize hG:pts (A.getD default) (B.getD default) 0 l l'=G at *;have HA:=hid hA;have HBB:=hid hB;have HL:=hid hl;clear hG hpl hts hA hB hl;go_enter Tryz.func92,Tryz.ntmps92
 go_wp2_with fail
 go_loopw [5,9] (fun v i wr=>∃k:Nat,i= .int .i64 k∧k≤l.length∧Hid (wr.ownsRow w.heap.size prT 2 v k (rowP (G.take k)))∧Hid (Below w.heap.size w wr)) (fun _ i _=>l.length-(intOf i).toNat)
 case atStart=>exact ⟨0,rfl,by omega,hid (World.ownsRow_nil _ _ _ _),hid (Below.refl _ _)⟩
 case round =>
  obtain ⟨k,rfl,hk,HO,HB⟩:=hrel
  by_cases hlt:k<l.length
  · have hlt':k<l'.length:=by have:=HL.out; omega
    obtain ⟨x,rfl⟩:∃x,A=some x:=by
     rcases HA.out with h | h
     · subst h; cases hlt
     · exact h
    obtain ⟨y,rfl⟩:∃y,B=some y:=by
     rcases HBB.out with h | h
     · subst h; cases hlt'
     · exact h
    obtain ⟨n,hn⟩:∃n,l[k]? =some n:=⟨_,List.getElem?_eq_getElem hlt⟩
    obtain ⟨n',hn'⟩:∃n,l'[k]? =some n:=⟨_,List.getElem?_eq_getElem hlt'⟩
    have htk:=HTS.out k n n' hn hn';have HRT:Hid (rowP (G.take (k+1))=rowP (G.take k)++rowP [(((x.add (k*6)),(y.add (k*6))),(n,n'))]):=hid (by rw[htk,z4x]; rfl);have hwr:=HB.out.size
    have hk2:(k:Int)<(l.length:Int):=by omega
    clear htk hn hn'
    go_wp2_with fail
    go_region_law (first | (refine z4i rfl (.tmp 12) (.tmp 20) rfl w.heap.size wr.heap.size _ (.slice (some ⟨wr.heap.size,0,none⟩) 1 1) k _ [(((x.add (k*6)),(y.add (k*6))),(n,n'))] rfl rfl (HO.out.alloc _) (zh2 wr (((x.add (k*6)),(y.add (k*6))),(n,n'))) (by simp; omega) (by simp; omega) ?_; intro A4 c4 w4 hown4 hgrow4))
    all_goals
     have HO4:Hid (w4.ownsRow w.heap.size prT 2 (.slice A4 (k+1) c4) (k+1) (rowP (G.take (k+1)))):=hid (by rw[HRT.out]; exact hown4.out);have HB4:=hid ((HB.out.alloc HB.out.size _).drew.grown hgrow4.out (by simp; omega) (fun k hk=>(HO.out.lt k hk).1));clear hown4 hgrow4;go_wp2
     go_roundw
     case rel=>exact ⟨k+1,by go_num,by omega,HO4,HB4⟩
     case measure=>simp[intOf]; omega
  · obtain rfl:k=l.length:=by omega
    have HO2:=hid HO.out;rw[show G.take l.length=G from List.take_of_length_le (by rw[HPL.out]; exact Nat.le_refl _)] at HO2;go_wp2;go_ret;exact ⟨_,rfl,by rw[HPL.out]; exact HO2.out,HB.out⟩
end Go.Proofs.YtblcibgphccfkaaGreatDoor
namespace Go.Proofs.YtblcibgphccfkaaGreatDoor
open Go.RowKit
abbrev mapT:TypeId:=159
abbrev ndpT:TypeId:=119
def kv (a:Addr×Addr):Value:= .agg #[.pointer (some a.1),.pointer (some a.2)]
theorem zm0 (w:World)(a b:Addr)(ha:Clean w a.block)(hb:Clean w b.block)(d:Nat):(Op.equalIn (d+1) ndpT (.pointer (some a)) (.pointer (some b))).run Tryz.prog w= .ok (decide (a=b)) w:=by
 obtain ⟨i0,hi,hz0,hz1,hz2⟩:=info_parts z5z
 by_cases h:a=b
 · subst h
   simp[Op.equalIn,run_underlying (P:=Tryz.prog) Tryz.underlying119,sizeOf,typeInfo,hi,run_sameAddr_same]
 · obtain ⟨ca,ta,ha⟩:=ha
   obtain ⟨cb,tb,hb⟩:=hb
   have hs:i0.size≠0:=by rw[hz1]; decide
   simp[Op.equalIn,run_underlying (P:=Tryz.prog) Tryz.underlying119,sizeOf,typeInfo,hi,hs,run_sameAddr_other w h ha hb,h]
theorem zks : (Tryz.prog.fieldsOf prT).toList.map (fun f => (f.name, f.type, f.offset)) = [("a", ndpT, 0), ("b", ndpT, 1)] := by kernel_rfl
theorem z3r (w:World)(xs:Array Value)(k:Nat)(v:Value)(h:xs[k]? =some v):(part ndpT xs k).run Tryz.prog w= .ok v w:=by simp[part,h]
theorem eq_pr (w:World)(a b:Addr×Addr)(h1:Clean w a.1.block)(h2:Clean w a.2.block)(h3:Clean w b.1.block)(h4:Clean w b.2.block):(Op.equal prT (kv a) (kv b)).run Tryz.prog w= .ok (decide (a=b)) w:=by
 unfold kv Op.equal Op.maxDepth;rw[run_equalIn_struct w 9999 prT _ _ (by kernel_rfl) (by kernel_rfl)];have hf:=zks;generalize (Tryz.prog.fieldsOf prT).toList=fs at hf;have hl:=congrArg List.length hf
 simp only[List.length_map,List.length_cons,List.length_nil] at hl
 obtain ⟨f,g,rfl⟩:∃f g,fs= [f,g]:=by
  match fs,hl with
  | [f,g],_=>exact ⟨f,g,rfl⟩
 simp only[List.map_cons,List.map_nil,List.cons.injEq,Prod.mk.injEq,and_true] at hf
 obtain ⟨⟨n1,t1,o1⟩,n2,t2,o2⟩:=hf;obtain ⟨a1,a2⟩:=a;obtain ⟨b1,b2⟩:=b
 dsimp only at h1 h2 h3 h4 ⊢
 have q1:(Op.equalIn 9999 ndpT (.pointer (some a1)) (.pointer (some b1))).run Tryz.prog w= .ok (decide (a1=b1)) w:=zm0 w a1 b1 h1 h3 9998;have q2:(Op.equalIn 9999 ndpT (.pointer (some a2)) (.pointer (some b2))).run Tryz.prog w= .ok (decide (a2=b2)) w:=zm0 w a2 b2 h2 h4 9998
 simp only[Op.eqFields,n1,n2,t1,t2,o1,o2]
 have p1:(part ndpT #[.pointer (some a1),.pointer (some a2)] 0).run Tryz.prog w= .ok (.pointer (some a1)) w:=z3r w _ 0 _ rfl;have p2:(part ndpT #[.pointer (some a1),.pointer (some a2)] 1).run Tryz.prog w= .ok (.pointer (some a2)) w:=z3r w _ 1 _ rfl;have p3:(part ndpT #[.pointer (some b1),.pointer (some b2)] 0).run Tryz.prog w= .ok (.pointer (some b1)) w:=z3r w _ 0 _ rfl;have p4:(part ndpT #[.pointer (some b1),.pointer (some b2)] 1).run Tryz.prog w= .ok (.pointer (some b2)) w:=z3r w _ 1 _ rfl
 simp only[Sem.run_ite,Sem.run_bind,Sem.run_pure,p1,p2,p3,p4,q1,q2,Result.andThen_ok]
 by_cases e1:a1=b1
 · by_cases e2:a2=b2
   · simp[e1,e2]
   · simp[e1,e2]
 · simp[e1]
def MapSt (w:World)(mb:Nat)(K:List (Addr×Addr)):Prop:=∃es clock,w.heap[mb]? =some (.map es clock)∧es.toList.map (fun e=>(e.key,e.val))=K.map (fun a=>(kv a,Value.bool true))
def z60 (w:World)(a:Addr×Addr):Prop:=Clean w a.1.block∧Clean w a.2.block
instance:DecidableEq (Addr×Addr):=instDecidableEqProd
theorem z57 (w:World)(a:Addr×Addr)(ha:z60 w a):∀(es:List MapEntry) (K:List (Addr×Addr)) (i:Nat),es.map (fun e=>(e.key,e.val))=K.map (fun a=>(kv a,Value.bool true))→(∀b∈K,z60 w b) →
 (a∈K∧∃j,(Instr.findAsking prT (kv a) es i).run Tryz.prog w= .ok (some (j,.bool true)) w)∨(a∉K∧(Instr.findAsking prT (kv a) es i).run Tryz.prog w= .ok none w)
 | [],K,i,h,_=>by
   obtain rfl:K= []:=by cases K; rfl; simp at h
   exact .inr ⟨by simp,by simp[Instr.findAsking]⟩
 | e :: es,[],i,h,_=>by simp at h
 | e :: es,b :: K,i,h,hc=>by
   simp only[List.map_cons,List.cons.injEq,Prod.mk.injEq] at h
   have hb:=hc b List.mem_cons_self;have he:=eq_pr w a b ha.1 ha.2 hb.1 hb.2
   by_cases hab:a=b
   · subst hab
     refine .inl ⟨List.mem_cons_self,i,?_⟩
     simp[Instr.findAsking,h.1.1,h.1.2,he]
   · rcases z57 w a ha es K (i+1) h.2 (fun x hx=>hc x (List.mem_cons_of_mem _ hx)) with ⟨h1,j,h2⟩ | ⟨h1,h2⟩
     · exact .inl ⟨List.mem_cons_of_mem _ h1,j,by simp[Instr.findAsking,h.1.1,he,hab,h2]⟩
     · exact .inr ⟨by simp[hab,h1],by simp[Instr.findAsking,h.1.1,he,hab,h2]⟩
theorem z3k (e:Bool)(a:Addr×Addr)(w:World):(Instr.checkKey e 10000 prT (kv a)).run Tryz.prog w= .ok () w:=by
 have hq:∀(n:Nat) (p:Addr),(Instr.checkKey e (n+1) ndpT (.pointer (some p))).run Tryz.prog w= .ok () w:=fun n p=>by
  simp[Instr.checkKey,run_underlying (P:=Tryz.prog) Tryz.underlying119]
 have hp:∀(p:Addr),(Instr.checkKey e 9999 ndpT (.pointer (some p))).run Tryz.prog w= .ok () w:=hq 9998;unfold kv;unfold Instr.checkKey
 simp[run_underlying (P:=Tryz.prog) Tryz.underlying129,hp,z3r w #[.pointer (some a.1),.pointer (some a.2)] 0 _ rfl,z3r w #[.pointer (some a.1),.pointer (some a.2)] 1 _ rfl]
theorem zh9:Tryz.prog.underlying mapT=some (.map prT 4):=Tryz.underlying159
theorem z58 (w:World)(a:Addr×Addr)(ha:z60 w a)(es:List MapEntry)(K:List (Addr×Addr))(h:es.map (fun e=>(e.key,e.val))=K.map (fun a=>(kv a,Value.bool true)))(hK:∀b∈K,z60 w b) :
 (a∈K∧∃j,(Instr.findKey prT (kv a) es).run Tryz.prog w= .ok (some (j,.bool true)) w)∨(a∉K∧(Instr.findKey prT (kv a) es).run Tryz.prog w= .ok none w):=by
 cases es with
 | nil =>
  obtain rfl:K= []:=by cases K; rfl; simp at h
  refine .inr ⟨by simp,?_⟩
  simp[Instr.findKey,run_underlying (P:=Tryz.prog) Tryz.underlying129,Instr.findNow]
 | cons e es =>
  have hk:e.key=kv (K.headD default):=by
   cases K with
   | nil=>simp at h
   | cons b K=>simp at h; exact h.1.1
  have h1:(Instr.findKey prT (kv a) (e :: es)).run Tryz.prog w=(Instr.findAsking prT (kv a) (e :: es) 0).run Tryz.prog w:=by
   simp[Instr.findKey,run_underlying (P:=Tryz.prog) Tryz.underlying129,Instr.findNow,hk,kv,Instr.sameNow]
  rw[h1];exact z57 w a ha (e :: es) K 0 h hK
theorem zbd (w:World)(mb:Nat)(a:Addr×Addr)(K:List (Addr×Addr))(hm:MapSt w mb K)(ha:z60 w a)(hK:∀b∈K,z60 w b)(b:Bool)(hb:b=true↔a∈K) :
 (Instr.lookup mapT (.map (some mb)) (kv a) false).run Tryz.prog w= .ok (.bool b) w:=by
 obtain ⟨es,clock,hw,he⟩:=hm
 rcases z58 w a ha es.toList K he hK with ⟨h1,j,h2⟩ | ⟨h1,h2⟩
 · obtain rfl:b=true:=hb.2 h1
   simp[Instr.lookup,run_underlying (P:=Tryz.prog) zh9,MapKept.run_getObj_map hw,z3k,h2]
 · obtain rfl:b=false:=z2p hb h1
   simp[Instr.lookup,run_underlying (P:=Tryz.prog) zh9,MapKept.run_getObj_map hw,z3k,h2]
theorem zj4 (w:World)(mb:Nat)(a:Addr×Addr)(K:List (Addr×Addr))(hm:MapSt w mb K)(ha:z60 w a)(hK:∀b∈K,z60 w b)(hb:a∉K) :
 ∃w',(Instr.mapUpdate mapT (.map (some mb)) (kv a) (.bool true)).run Tryz.prog w= .ok () w'∧MapSt w' mb (K++ [a])∧w'.os=w.os∧w'.tape=w.tape∧w'.output=w.output∧w'.heap.size=w.heap.size∧∀k,k≠mb→w'.heap[k]? =w.heap[k]? :=by
 obtain ⟨es,clock,hw,he⟩:=hm
 rcases z58 w a ha es.toList K he hK with ⟨h1,_⟩ | ⟨_,h2⟩
 · exact absurd h1 hb
 · refine ⟨{ w with heap:=w.heap.setIfInBounds mb (.map (es.push { key:=kv a,val:= .bool true,born:=clock }) (clock+1)) },?_,⟨_,_,(MapKept.heap_set hw).1,?_⟩,rfl,rfl,rfl,by simp,(MapKept.heap_set hw).2⟩
   · simp[Instr.mapUpdate,run_underlying (P:=Tryz.prog) zh9,MapKept.run_getObj_map hw,z3k,h2,MapKept.run_setObj_map _ hw]
   · simp[he]
open Go.RowKit Go.Deep
theorem kb {w w':World}{B b o:Nat}{v:Value}(hb:Below B w w')(hl:b<B)(h:w.cell? ⟨b,o,none⟩=some v):w'.cell? ⟨b,o,none⟩=some v:=(hb.cell hl).trans h
theorem z4l {w:World}{B B' e z n:Nat}{v:Value}{xs:List Value}(h:w.ownsRow B e z v n xs)(hb:B'≤B):w.ownsRow B' e z v n xs:=by
 refine ⟨h.1,h.2.imp id ?_⟩;rintro ⟨g,cap,cur,e,hB,hr⟩;exact ⟨g,cap,cur,e,Nat.le_trans hb hB,hr⟩
theorem z9j {n n':Nd}(h:z6i n n'):n.ptrs.length=n'.ptrs.length∧n.items.length=n'.items.length:=⟨h.2.2.2.2.1,h.2.2.2.2.2⟩
theorem zg6 {n n':Nd}(h:n=n'):z6i n n':=by subst h; exact ⟨rfl,rfl,rfl,rfl,rfl,rfl⟩
theorem z45 {w w':World}{k:Nat}(h:Clean w k)(hb:Below w.heap.size w w'):Clean w' k:=by
 obtain ⟨c,t,hk⟩:=h;exact ⟨c,t,(hb.block k (z00 hk)).trans hk⟩
theorem z7b {w:World}{S:Nat→Prop}{m:Nat}{A:Option Addr}{l:List Nd}(h:NdsAt w S m A l):l= []∨∃x,A=some x:=by
 rcases Nat.eq_zero_or_pos l.length with h0 | h0
 · exact .inl (List.eq_nil_of_length_eq_zero h0)
 · obtain ⟨j,rfl⟩:=h.pred h0
   obtain ⟨x,_,hA,_⟩:=h.at_ h0;exact .inr ⟨x,hA⟩
theorem ziw {α:Type}(l:List α)(h:0<l.length):∃l' x,l=l'++ [x]:=by
 rcases List.eq_nil_or_concat l with e | ⟨l',x,e⟩
 · subst e; cases h
 · exact ⟨l',x,by rw[e,List.concat_eq_append]⟩
theorem zjx {w:World}{B n cap:Nat}{A:Option Addr}{xs:List Value}(h:w.ownsRow B prT 2 (.slice A (n+1) cap) (n+1) xs):∃g,A=some ⟨g,0,none⟩∧B≤g∧n+1≤cap∧g<w.heap.size∧∀j u,xs[j]? =some u→w.cell? ⟨g,j,none⟩=some u:=by
 rcases h.2 with ⟨e,_⟩ | ⟨g,cap',cur,e,hB,hg,hc,_⟩
 · simp at e
 · simp only[Value.slice.injEq,true_and] at e
   obtain ⟨rfl,rfl⟩:=e;refine ⟨g,rfl,hB,hc,z00 hg,fun j u hj=>?_⟩;have:=h.cells (g:=g) rfl j u hj
   rwa [z2h] at this
theorem zav {w w':World}{B e z n:Nat}{v:Value}{xs:List Value}(h:w.ownsRow B e z v n xs)(hk:∀k,B≤k→k<w.heap.size→w'.heap[k]? =w.heap[k]?):w'.ownsRow B e z v n xs:=by
 refine ⟨h.1,h.2.imp id ?_⟩;rintro ⟨g,cap,cur,e,hB,hg,hr⟩;exact ⟨g,cap,cur,e,hB,(hk g hB (z00 hg)).trans hg,hr⟩
theorem znf {w:World}{B cap:Nat}{A:Option Addr}{G:List PT}{t:PT}(h:w.ownsRow B prT 2 (.slice A (G.length+1) cap) (G.length+1) (rowP (G++ [t]))):w.ownsRow B prT 2 (.slice A G.length cap) G.length (rowP G):=by
 refine ⟨z2l G,?_⟩
 rcases h.2 with ⟨e,_⟩ | ⟨g,cap',cur,e,hB,hg,hc,hm,hs,ht⟩
 · simp at e
 · simp only[Value.slice.injEq,true_and] at e
   obtain ⟨rfl,rfl⟩:=e;refine .inr ⟨g,cap,cur,rfl,hB,hg,by omega,hm,hs,?_⟩;rw[z4x] at ht;have h1:=congrArg (List.take (G.length*2)) ht;rw[List.take_take,Nat.min_eq_left (by omega),List.take_append_of_le_length (Nat.le_of_eq (z2l G).symm)] at h1;rw[h1];exact List.take_of_length_le (by rw[z2l]; exact Nat.le_refl _)
def hd1 (t:PT)(hx hy:Hd):List PT:=pts (hx.A.getD default) (hy.A.getD default) 0 t.2.1.ptrs t.2.2.ptrs
def hd2 (t:PT)(hx hy:Hd):List PT:=pts (hx.B.getD default) (hy.B.getD default) 0 t.2.1.items t.2.2.items
def LookP (t:PT)(hx hy:Hd)(W:World)(e:Ending)(w':World):Prop:=∃(A:Option Addr) (l c:Nat),e= .returned (.tuple #[.bool (z6o t.2.1 t.2.2),.slice A l c])∧(z6o t.2.1 t.2.2=true→l=(hd1 t hx hy).length+(hd2 t hx hy).length∧w'.ownsRow W.heap.size prT 2 (.slice A l c) l (rowP (hd1 t hx hy)++rowP (hd2 t hx hy)))∧Below W.heap.size W w'
theorem zo4 (t:PT)(hx hy:Hd)(m m':Nat)(S S':Nat→Prop)(w:World)(nx:NdCell w t.1.1 t.2.1 hx)(ny:NdCell w t.1.2 t.2.2 hy)(ax:NdAt w S m t.2.1 hx)(ay:NdAt w S' m' t.2.2 hy)(ht:totN m t.2.1≤2000000) :
 Calls Tryz.prog 90 #[.agg #[.pointer (some t.1.1),.pointer (some t.1.2)]] w (LookP t hx hy w):=by
 have hba:=(Below.refl w.heap.size w).alloc (Nat.le_refl _) (.cells #[.pointer (some t.1.1),.pointer (some t.1.2)] prT);have HP:=hid (heap_alloc_new w (.cells #[.pointer (some t.1.1),.pointer (some t.1.2)] prT));have HBA:=hid hba
 have hsz:(w.alloc (.cells #[.pointer (some t.1.1),.pointer (some t.1.2)] prT)).heap.size=w.heap.size+1:=by simp
 have HCX:Hid (∀V:World,Below w.heap.size w V→NdCell V t.1.1 t.2.1 hx∧NdCell V t.1.2 t.2.2 hy):=hid fun V hV=>⟨z13 hV _ _ _ nx,z13 hV _ _ _ ny⟩
 have HSP:=hid (zcm t.1.1 t.1.2 t.2.1 t.2.2 hx hy _ (HCX.out _ hba).1 (HCX.out _ hba).2 ax.2.1.len ax.2.2.len ay.2.1.len ay.2.2.len);have HAX:=hid (And.intro ax ay);have HT:=hid ht
 obtain ⟨p0,p1⟩:(w.alloc (.cells #[.pointer (some t.1.1),.pointer (some t.1.2)] prT)).cell? ⟨w.heap.size,0,none⟩=some (.pointer (some t.1.1))∧(w.alloc (.cells #[.pointer (some t.1.1),.pointer (some t.1.2)] prT)).cell? ⟨w.heap.size,1,none⟩=some (.pointer (some t.1.2)):=⟨by rw[cell_of_row _ _ _ _ _ _ HP.out]; rfl,by rw[cell_of_row _ _ _ _ _ _ HP.out]; rfl⟩
 unfold LookP
 obtain ⟨Q1,hQ1⟩:∃Q1,Q1=hd1 t hx hy:=⟨_,rfl⟩
 obtain ⟨Q2,hQ2⟩:∃Q2,Q2=hd2 t hx hy:=⟨_,rfl⟩
 rw[← hQ1,← hQ2];have HQ1:=hid hQ1;have HQ2:=hid hQ2;clear nx ny ax ay ht hba hQ1 hQ2;go_enter Tryz.func90,Tryz.ntmps90
 go_wp2_with fail
 generalize w.alloc (.cells #[.pointer (some t.1.1),.pointer (some t.1.2)] prT)=W at *;refine HSP.out.mono ?_;rintro e w5 ⟨rfl,hb5⟩;have HP5:=hid ((hb5.block _ (z00 HP.out)).trans HP.out);have HB5:=hid (HBA.out.trans (hb5.mono HBA.out.size));have hs5:=hb5.size;clear hb5 p0 p1 HSP HP HBA;cases hpp:z6o t.2.1 t.2.2
 · go_wp2
   go_ret2
   rw[hpp];exact ⟨none,0,0,rfl,(fun e=>by cases e),HB5.out⟩
 · have HPP:=hid hpp
   have hpe:=(z54 _ _).1 hpp;obtain ⟨l1,l2⟩:=z9j hpe;have htl:totN m t.2.1≤2000000:=HT.out;have hpl:=z16 HAX.out.1.2.1 (by unfold totN at htl; omega);have hil:=z16 HAX.out.1.2.2 (by unfold totN at htl; omega)
   have hw1:wt m Q1≤totL m t.2.1.ptrs:=by rw[HQ1.out]; exact zer _ _ _ HAX.out.1.2.1
   have hw2:wt m Q2≤totL m t.2.1.items:=by rw[HQ2.out]; exact zer _ _ _ HAX.out.1.2.2
   have hlen3:Q1.length+Q2.length≤2000001:=by
    have q1:=zbp m Q1;have q2:=zbp m Q2;have:totN m t.2.1=t.2.1.data.size+totL m t.2.1.ptrs+totL m t.2.1.items:=rfl;omega
   have HPR1:Hid (∀V:World,Calls Tryz.prog 92 #[.slice hx.A t.2.1.ptrs.length hx.a,.slice hy.A t.2.2.ptrs.length hy.a] V fun e w'=>∃v,e= .returned v∧w'.ownsRow V.heap.size prT 2 v Q1.length (rowP Q1)∧Below V.heap.size V w'):=hid fun V=>by
    have:=zbx hx.A hy.A hx.a hy.a t.2.1.ptrs t.2.2.ptrs V (z7b HAX.out.1.2.1) (z7b HAX.out.2.2.1) l1 hpl;unfold zen at this;rw[HQ1.out];exact this
   have HPR2:Hid (∀V:World,Calls Tryz.prog 92 #[.slice hx.B t.2.1.items.length hx.b,.slice hy.B t.2.2.items.length hy.b] V fun e w'=>∃v,e= .returned v∧w'.ownsRow V.heap.size prT 2 v Q2.length (rowP Q2)∧Below V.heap.size V w'):=hid fun V=>by
    have:=zbx hx.B hy.B hx.b hy.b t.2.1.items t.2.2.items V (z7b HAX.out.1.2.2) (z7b HAX.out.2.2.2) l2 hil;unfold zen at this;rw[HQ2.out];exact this
   have hPlt:=z00 HP5.out;obtain ⟨c0,c1,c2,c3,c4,c5⟩:=(HCX.out w5 HB5.out).1;obtain ⟨d0,d1,d2,d3,d4,d5⟩:=(HCX.out w5 HB5.out).2
   have p0:w5.cell? ⟨w.heap.size,0,none⟩=some (.pointer (some t.1.1)):=by rw[cell_of_row _ _ _ _ _ _ HP5.out]; rfl
   have p1:w5.cell? ⟨w.heap.size,1,none⟩=some (.pointer (some t.1.2)):=by rw[cell_of_row _ _ _ _ _ _ HP5.out]; rfl
   clear hw1 hw2 htl hpl hil l1 l2 hpe hpp
   go_wp2_with fail
   have hlp:w.heap.size<w5.heap.size:=hPlt;have hlx:t.1.1.block<w5.heap.size:=(HCX.out w5 HB5.out).1.lt;have hly:t.1.2.block<w5.heap.size:=(HCX.out w5 HB5.out).2.lt;have HSB:Hid (Below w5.heap.size w5 w5):=hid (Below.refl _ _);clear c0 c1 c3 c4 d0 d1 d3 d4
   go_region_held3 (fun V=>(V.cell? ⟨w.heap.size,0,none⟩=some (.pointer (some t.1.1))∧V.cell? ⟨w.heap.size,1,none⟩=some (.pointer (some t.1.2)))∧(V.cell? ⟨t.1.1.block,t.1.1.off+2,none⟩=some (.slice hx.A t.2.1.ptrs.length hx.a)∧V.cell? ⟨t.1.1.block,t.1.1.off+5,none⟩=some (.slice hx.B t.2.1.items.length hx.b)∧V.cell? ⟨t.1.2.block,t.1.2.off+2,none⟩=some (.slice hy.A t.2.2.ptrs.length hy.a)∧V.cell? ⟨t.1.2.block,t.1.2.off+5,none⟩=some (.slice hy.B t.2.2.items.length hy.b))∧Below w5.heap.size w5 V)
    ((first | exact ⟨⟨p0,p1⟩,⟨c2,c5,d2,d5⟩,HSB.out.drew⟩ | (obtain ⟨⟨s0,s1⟩,⟨s2,s5,u2,u5⟩,sb⟩:= ‹(_∧_)∧(_∧_)∧Below w5.heap.size w5 _›; exact ⟨⟨kb hbq hlp s0,kb hbq hlp s1⟩,⟨kb hbq hlx s2,kb hbq hlx s5,kb hbq hly u2,kb hbq hly u5⟩,sb.trans hbq⟩)))
    (first | (refine z4i rfl (.tmp 20) (.tmp 31) rfl w5.heap.size w5.heap.size _ v3 Q1.length (rowP Q1) Q2 rfl rfl HO8.out HV3.out (by omega) (by omega) ?_; intro A7 c7 w7 hown7 hgrow7; have hbq:Below w5.heap.size w8 w7:=(Below.refl w5.heap.size w8).grown hgrow7.out (by omega) (fun k hk=>(HO8.out.lt k hk).1)) | (go_at_call 92; first | ((with_reducible refine (HPR1.out _).mono ?_); rintro e w6 ⟨v2,rfl,hown2,hb6⟩; have hsv:=(‹(_∧_)∧(_∧_)∧Below w5.heap.size w5 _›).2.2.size; have hs6:w5.heap.size≤w6.heap.size:=Nat.le_trans hsv hb6.size; have HV2:Hid (w6.ownsRow w5.heap.size prT 2 v2 Q1.length (rowP Q1)):=hid (z4l hown2 hsv); have hbq:=hb6.mono hsv; clear hb6 hown2) | ((with_reducible refine (HPR2.out _).mono ?_); rintro e w8 ⟨v3,rfl,hown3,hb8⟩; have hsv:=(‹(_∧_)∧(_∧_)∧Below w5.heap.size w5 _›).2.2.size; have hs8:w5.heap.size≤w8.heap.size:=Nat.le_trans hsv hb8.size; have HV3:Hid (w8.ownsRow w5.heap.size prT 2 v3 Q2.length (rowP Q2)):=hid (z4l hown3 hsv); have HO8:Hid (w8.ownsRow w5.heap.size prT 2 v2 Q1.length (rowP Q1)):=hid (zav (w:=w6) HV2.out (fun k _ hk=>hb8.block k hk)); have hbq:=hb8.mono hsv; clear hb8 hown3)))
   all_goals
    have hS:= ‹(_∧_)∧(_∧_)∧Below w5.heap.size w5 _›;have hb7:Below w.heap.size w w7:=HB5.out.trans (hS.2.2.mono HB5.out.size);have hbase:w.heap.size≤w5.heap.size:=HB5.out.size;have HOWN7:=hid (z4l hown7.out hbase);have HB7:=hid hb7;clear hb7 hown7 hgrow7 hS c2 c5 d2 d5 p0 p1;go_wp2
    go_ret2
    rw[HPP.out];exact ⟨A7,_,c7,rfl,fun _=>⟨rfl,HOWN7.out⟩,HB7.out⟩
end Go.Proofs.YtblcibgphccfkaaGreatDoor
