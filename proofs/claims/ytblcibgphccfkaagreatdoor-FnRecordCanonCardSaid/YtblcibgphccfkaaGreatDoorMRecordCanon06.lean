/- Texts of the proof of the law FnRecordCanon, side by side: part 6. -/
import Derived.Test.YtblcibgphccfkaaGreatDoorMRecordCanon05
set_option maxHeartbeats 8000000
set_option maxRecDepth 100000
open Go.Lib (hid)
namespace Go.Proofs.YtblcibgphccfkaaGreatDoor
open Go.RowKit
theorem NdsAt.map' {w w':World}{S S':Nat→Prop}(hS:∀k,k<w.heap.size→S k→S' k)(hf:∀p n h,S p.block→NdCell w p n h→NdCell w' p n h):∀m A l,NdsAt w S m A l→NdsAt w' S' m A l
 | 0,_,_,h=>h
 | m+1,A,l,⟨hl,q,hq,hc,hr⟩=>by
   refine ⟨hl,q,hq,?_,fun r h=>⟨(hr r h).1,NdsAt.map' hS hf m _ _ (hr r h).2.1,NdsAt.map' hS hf m _ _ (hr r h).2.2⟩⟩
   rcases hc with hc | ⟨x,hx,hs,hk⟩
   · exact .inl hc
   · cases q with
     | nil=>exact .inl rfl
     | cons r t =>
      have hlt:=(hk 0 r rfl).lt;rw[z05] at hlt;exact .inr ⟨x,hx,hS _ hlt hs,fun k r' h=>hf _ _ _ (by rw[z05]; exact hs) (hk k r' h)⟩
theorem NdAt.map' {w w':World}{S S':Nat→Prop}{m:Nat}{n:Nd}{h:Hd}(hS:∀k,k<w.heap.size→S k→S' k)(hf:∀p n h,S p.block→NdCell w p n h→NdCell w' p n h)(hn:NdAt w S m n h):NdAt w' S' m n h:=⟨hn.1,NdsAt.map' hS hf _ _ _ hn.2.1,NdsAt.map' hS hf _ _ _ hn.2.2⟩
theorem z8l {w w':World}{R n base m z:Nat}{e:TypeId}{v:Value}{xs:List Value}(h:w.ownsRow base e z v m xs)(hp:z0e w R n w')(hR:R<base):w'.ownsRow base e z v m xs:=by
 refine h.kept (row:=some R) ⟨hp.2.os,hp.2.tape,hp.2.output,hp.2.size,fun k hk hne=>hp.2.block k hk (fun e=>hne (by rw[e]))⟩ ?_
 by_cases hv:v.ownBlock=none
 · exact .inl hv
 · refine .inr (fun e=>?_)
   have:=(h.lt R (by rw[e])).1;omega
theorem z3p {ops:Array Oper}{o:Oper}{a:Act}{w:World}{K:Act→World→Prop}{Q:Exit→Act→World→Prop}{E:Prop}(hgd:o.guard=none)(s x:Operand)
 (ho:o.op= .call { callee:= .builtin .append,args:= #[s,x],argTypes:= #[z28,z28] })
 (base:Nat) (v:Value) (n:Nat) (xs:List Value) (hs:a.eval s=v) (hown:w.ownsRow base nodeT 6 v n xs)
 (ad:Addr) (c:Nat) (r:Nd×Hd) (hx:a.eval x= .slice (some ad) 1 c) (hnews:∀j u,(rowOf [r])[j]? =some u→w.cell? (ad.add j)=some u) (hn:n≤1000) (hbase:base≤w.heap.size)
 (h:∀A' c' w',Hid (w'.ownsRow base nodeT 6 (.slice A' (n+1) c') (n+1) (xs++rowOf [r]))→Hid (w.grownBy w' v.ownBlock)→Hid ((Value.slice A' (n+1) c').ownBlock=v.ownBlock∨(Value.slice A' (n+1) c').ownBlock=some w.heap.size)→K (a.put o.dst (.slice A' (n+1) c')) w') :
 if Region.wanted o (yielded ops a.tmps)=true then Oper.wp Tryz.prog o a w K Q else E:=by
 have hw:Region.wanted o (yielded ops a.tmps)=true:=by simp[Region.wanted,hgd]
 rw[if_pos hw];obtain ⟨i0,hi,hz0,hz1,hz2⟩:=info_parts z5z;obtain ⟨v',w',hr,h2,h3,_,h5⟩:=run_append_own_at (P:=Tryz.prog) w base z28 o.type nodeT i0 _ 6 88 Tryz.underlying24 hi hz0 hz1 hz2 rfl (by decide) v n xs hown ad 1 c (rowOf [r]) rfl hnews (z3v _) (by unfold maxLen; omega) (by omega) hbase;obtain ⟨A',c',rfl⟩:=z2d h2;unfold Oper.wp execOp
 simp only[ho,resolve,invoke,builtin,Sem.run_bind,Sem.run_pure,Result.andThen_ok,List.map_toArray,List.map_cons,List.map_nil,hs,hx,hr]
 exact h A' c' w' h2 h3 h5
theorem z1c (w:World)(r:Nd×Hd)(t:TypeId):∀j u,(rowOf [r])[j]? =some u→(w.alloc (.cells #[.int .i64 r.1.kind,.string r.1.data,.slice r.2.A r.1.ptrs.length r.2.a,.int .i64 r.1.size,.int .i64 r.1.count,.slice r.2.B r.1.items.length r.2.b] t)).cell? ((⟨w.heap.size,0,none⟩:Addr).add j)=some u:=by
 intro j u hj
 rw[z2h,cell_of_row _ _ _ _ _ (0,0) (heap_alloc_new w _)]
 simp only[rowOf] at hj
 match j,hj with
 | 0,hj=>simpa using hj
 | 1,hj=>simpa using hj
 | 2,hj=>simpa using hj
 | 3,hj=>simpa using hj
 | 4,hj=>simpa using hj
 | 5,hj=>simpa using hj
abbrev measT:TypeId:=95
def okN:Nat→Nd→Bool
 | 0,n=>formN n&&decide (n.kind=0)
 | d+1,n=>formN n&&(decide (n.kind=0)||(ptrsL n).all (okN d))
def z0b:Nat→Nd→Nat
 | 0,_=>0
 | d+1,n=>ownN n+((ptrsL n).map (z0b d)).sum
theorem zap {d:Nat}{n:Nd}(h:formN n=false):okN d n=false:=by
 cases d <;> simp[okN,h]
theorem z0c {α:Type}{l:List α}(h:l.length=0):l= []:=List.eq_nil_of_length_eq_zero h
theorem z4s {d:Nat}{n:Nd}(h:formN n=true)(hk:n.kind=0):okN d n=true∧z0b d n=0:=by
 rcases z0y h with hc | hc | hc
 · obtain ⟨_,h1,h2,_,_,h5⟩:=hc
   have e1:ptrsL n= []:=by unfold ptrsL; rw[z0c h2,z0c h5]; rfl
   have e2:ownN n=0:=by unfold ownN ownB; rw[h1,h2,z0c h5,hk]; rfl
   cases d
   · exact ⟨by simp[okN,h,hk],rfl⟩
   · exact ⟨by simp[okN,h,hk],by simp[z0b,e1,e2]⟩
 · omega
 · omega
theorem zdi {w:World}{b:Nat}{v:Value}{T:TypeId}{p:Addr}{n:Nd}{h:Hd}(hb:w.heap[b]? =some (.cells #[v] T (0,0)))(hc:NdCell w p n h):p.block≠b:=by
 intro e
 have h1:=hc.c1;rw[e,cell_of_row _ _ _ _ _ _ hb] at h1
 simp at h1
theorem NdsAt.keeps {w w':World}{S:Nat→Prop}{m b:Nat}{A:Option Addr}{l:List Nd}{v:Value}{T:TypeId}(h:NdsAt w S m A l)(hb:w.heap[b]? =some (.cells #[v] T (0,0)))(hk:Keeps w.heap.size b w w'):NdsAt w' S m A l :=
 NdsAt.map (fun _ h=>h) (fun _p _ _ _ hc=>hc.block (hk.block _ hc.lt (zdi hb hc))) _ _ _ h
theorem NdAt.keeps {w w':World}{S:Nat→Prop}{m b:Nat}{n:Nd}{h:Hd}{v:Value}{T:TypeId}(hn:NdAt w S m n h)(hb:w.heap[b]? =some (.cells #[v] T (0,0)))(hk:Keeps w.heap.size b w w'):NdAt w' S m n h :=
 ⟨hn.1,hn.2.1.keeps hb hk,hn.2.2.keeps hb hk⟩
theorem z69 {w:World}{S:Nat→Prop} :∀(m:Nat) (A:Option Addr) (l:List Nd),NdsAt w S m A l→totL (m+1) l=totL m l
 | 0,A,l,h=>by rw[h.zero]; rfl
 | m+1,A,l,h=>by
   rw[z0v (m+1),z0v m]
   congr 1
   apply List.map_congr_left
   intro n hn
   obtain ⟨hd,h1⟩:=h.mem n hn;unfold totN;rw[z69 m _ _ h1.2.1,z69 m _ _ h1.2.2]
theorem ze1 (l:List Nd)(m:Nat):totL (m+1) (l.flatMap Nd.ptrs)=(l.map fun y=>totL (m+1) y.ptrs).sum:=by
 induction l with
 | nil=>rfl
 | cons a t ih=>rw[List.flatMap_cons,z0v,List.map_append,List.sum_append,← z0v,← z0v,ih]; rfl
theorem zee {w:World}{S:Nat→Prop}{m:Nat}{n:Nd}{h:Hd}(hn:NdAt w S m n h):totL m (ptrsL n)≤totN m n:=by
 cases m with
 | zero=>exact Nat.zero_le _
 | succ m =>
  have h1:totL (m+1) (ptrsL n)=totL (m+1) n.ptrs+(n.items.map fun y=>totL (m+1) y.ptrs).sum:=by
   unfold ptrsL;rw[z0v,List.map_append,List.sum_append,← z0v,← z0v,ze1]
  have h2:(n.items.map fun y=>totL (m+1) y.ptrs).sum≤totL (m+1) n.items:=by
   rw[z0v]
   refine z5r _ _ _ fun y hy=>?_
   obtain ⟨hd,h3⟩:=hn.2.2.mem y hy;rw[z69 m _ _ h3.2.1];unfold totN;omega
  rw[h1];unfold totN;omega
theorem zel {w:World}{S:Nat→Prop}{m:Nat}{n:Nd}{h:Hd}(hn:NdAt w S m n h):(ptrsL n).length≤totL m (ptrsL n):=by
 cases m with
 | zero =>
  unfold ptrsL;rw[hn.2.1.zero,hn.2.2.zero]
  simp
 | succ m=>exact zak m _
theorem zc0 {w:World}{S:Nat→Prop}{m:Nat}{n:Nd}{h:Hd}(hn:NdAt w S m n h)(ht:totN m n≤2000000):ownN n≤3000000:=by
 have h1:ownB n≤n.data.size+n.ptrs.length:=by unfold ownB; omega
 have h2:=zcy hn.2.2;have h3:=z8u hn.2.1;unfold ownN;unfold totN at ht
 split <;> omega
abbrev msr (ws:Int):Obj:= .cells #[.int .i64 ws] measT (0,0)
def AlP (d:Nat)(n:Nd)(b:Nat)(ws:Int)(w:World)(e:Ending)(w':World):Prop :=
 ∃(r:Bool) (z:Int),e= .returned (.bool r)∧Keeps w.heap.size b w w'∧w'.heap[b]? =some (msr z)∧0≤z∧z≤4000000∧(r=true→okN d n=true∧z=ws+(z0b d n:Nat)∧z≤199)∧(r=false→okN d n=false∨200≤ws+(z0b d n:Nat))
def AlD (d:Nat):Prop:=∀(m:Nat) (n:Nd) (h:Hd) (w:World) (S:Nat→Prop) (b:Nat) (ws:Int),NdAt w S m n h→totN m n≤2000000→w.heap[b]? =some (msr ws)→0≤ws→ws≤199 →
 Calls Tryz.prog 55 #[.pointer (some ⟨b,0,none⟩),.agg #[.int .i64 n.kind,.string n.data,.slice h.A n.ptrs.length h.a,.int .i64 n.size,.int .i64 n.count,.slice h.B n.items.length h.b],.int .i64 (9-(d:Int))] w (AlP d n b ws w)
theorem z6v {d:Nat}{n:Nd} :ownN n≤z0b (d+1) n:=by simp[z0b]
theorem z8o {w:World}{b:Nat}{z:Int}(h:w.heap[b]? =some (msr z)):w.cell? ⟨b,0,none⟩=some (.int .i64 z):=by rw[cell_of_row _ _ _ _ _ _ h]; rfl
theorem z7m (d:Nat)(hd:d≤8)(ih:∀j,d=j+1→AlD j):AlD d:=by
 intro m n h w S b ws hn ht hrow hw0 hw1
 obtain ⟨qA,qa,qB,qb⟩:=h
 dsimp only at hn ⊢
 have hpl:n.ptrs.length≤2000000:=z16 hn.2.1 (by unfold totN at ht; omega);have hil:n.items.length≤2000000:=z16 hn.2.2 (by unfold totN at ht; omega);have hblt:=z00 hrow;have HP:=hid (fun (W:World) (hb:Below w.heap.size w W)=>zfu m n ⟨qA,qa,qB,qb⟩ W S (hn.below hb) hil hpl)
 dsimp only at HP
 have HIH:=hid ih;have HN:=hid hn;have HT:=hid ht;have HR:=hid hrow;have HB0:=hid ((Below.refl w.heap.size w).alloc (Nat.le_refl _) (.cells #[.int .i64 n.kind,.string n.data,.slice qA n.ptrs.length qa,.int .i64 n.size,.int .i64 n.count,.slice qB n.items.length qb] nodeT));have HBX:=hid (heap_alloc_new w (.cells #[.int .i64 n.kind,.string n.data,.slice qA n.ptrs.length qa,.int .i64 n.size,.int .i64 n.count,.slice qB n.items.length qb] nodeT));clear ih hn ht hrow;cases hf:formN n
 · have HX:=hid (zap (d:=d) hf)
   rw[hf] at HP;go_enter Tryz.func55,Tryz.ntmps55
   go_wp2_with fail
   refine (HP.out _ HB0.out).mono ?_;rintro e w1 ⟨rfl,hb1⟩;have HB1:=hid (HB0.out.trans (hb1.mono HB0.out.size));clear hb1;go_wp2;go_ret;exact ⟨false,ws,rfl,Keeps.of_below HB1.out,(HB1.out.block _ hblt).trans HR.out,hw0,by omega,fun h=>(by cases h),fun _=> .inl HX.out⟩
 rw[hf] at HP;have HF:=hid hf;clear hf
 by_cases hk:n.kind=0
 · have HX:=hid (z4s (d:=d) HF.out hk)
   have hkb:(n.kind==0)=true:=by rw[hk]; rfl
   clear hk;go_enter Tryz.func55,Tryz.ntmps55
   go_wp2_with fail
   refine (HP.out _ HB0.out).mono ?_;rintro e w1 ⟨rfl,hb1⟩;obtain ⟨a0,a1,a2,a3,a4,a5⟩:=z04 ((hb1.block w.heap.size (by simp)).trans HBX.out);have HB1:=hid (HB0.out.trans (hb1.mono HB0.out.size));clear hb1;go_wp2;go_ret;exact ⟨true,ws,rfl,Keeps.of_below HB1.out,(HB1.out.block _ hblt).trans HR.out,hw0,by omega,fun _=>⟨HX.out.1,by rw[HX.out.2]; omega,hw1⟩,fun h=>(by cases h)⟩
 have hkb:(n.kind==0)=false:=by simpa using hk
 have HK:=hid hk;have HOW:=hid (fun (W:World) (hb:Below w.heap.size w W)=>zfq m n ⟨qA,qa,qB,qb⟩ W S (HN.out.below hb) HF.out HT.out)
 dsimp only at HOW
 have hob:ownN n≤3000000:=zc0 HN.out HT.out;generalize hon:ownN n=on at HOW hob;have HON:=hid hon;clear hk hon
 have hwrap:IntKind.i64.wrap (ws+(on:Int))=ws+(on:Int):=by
  rw[IntKind.wrap_i64];omega
 obtain ⟨D,hD⟩:∃D:Int,D=9-(d:Int):=⟨_,rfl⟩
 have hD8:1≤D∧D≤9:=by omega
 rw[← hD];have HD:=hid hD;clear hD;go_enter Tryz.func55,Tryz.ntmps55
 go_wp2_with fail
 refine (HP.out _ HB0.out).mono ?_;rintro e w1 ⟨rfl,hb1⟩;have hk1:=(hb1.block w.heap.size (by simp)).trans HBX.out;have HBX1:=hid hk1;have hlt1:=z00 hk1;obtain ⟨a0,a1,a2,a3,a4,a5⟩:=z04 hk1;have HB1:=hid (HB0.out.trans (hb1.mono HB0.out.size));have HR1:=hid ((HB1.out.block _ hblt).trans HR.out);have hmc:=z8o HR1.out;have hmf:=z03 HR1.out 0;clear hb1 hk1
 go_wp2_with fail
 go_region_with (go_at_call 84; refine (HOW.out _ (by exact HB1.out.drew)).mono ?_; rintro e w2 ⟨rfl,hb2⟩; have hmc2:=z8o ((hb2.block _ (by have:=HB1.out.size; simp; omega)).trans HR1.out); have hmf2:=z03 ((hb2.block _ (by have:=HB1.out.size; simp; omega)).trans HR1.out) 0)
 all_goals
  have hrow2:=(hb2.block b (by have:=HB1.out.size; simp; omega)).trans HR1.out;have hbox2:=(hb2.block w.heap.size (by simpa using hlt1)).trans HBX1.out;have hB2:Below w.heap.size w w2:=HB1.out.drew.trans (hb2.mono (by simpa using HB1.out.size))
  try rw[hwrap]
  have kp3:Keeps w.heap.size b w (w2.setCell ⟨b,0,none⟩ (.int .i64 (ws+(on:Int)))):=(Keeps.of_below hB2).trans ((z5y w2.heap.size b w2 0 _).mono hB2.size);have row3:(w2.setCell ⟨b,0,none⟩ (.int .i64 (ws+(on:Int)))).heap[b]? =some (msr (ws+(on:Int))):=z06 hrow2 0 _;have box3:=(Below.heap_setCell w2 ⟨b,0,none⟩ (.int .i64 (ws+(on:Int))) w.heap.size (by simp; omega)).trans hbox2;have hlt3:=z00 box3;generalize w2.setCell ⟨b,0,none⟩ (.int .i64 (ws+(on:Int)))=W3 at *;have KP3:=hid kp3;have ROW3:=hid row3;have BOX3:=hid box3;clear hb2 hB2 hmc hmf hmc2 hmf2 a0 a1 a2 a3 a4 a5 hrow2 hbox2 kp3 row3 box3;have hmc3:=z8o ROW3.out
  by_cases hd0:d=0
  · have hD1:decide (8<D)=true:=decide_eq_true (by have:=HD.out; omega)
    have HX:Hid (okN d n=false):=hid (by subst hd0; simp[okN,HK.out]);go_wp2;go_ret;exact ⟨false,_,rfl,KP3.out,ROW3.out,by omega,by omega,fun h=>(by cases h),fun _=> .inl HX.out⟩
  · obtain ⟨j,rfl⟩:∃j,d=j+1:=⟨d-1,by omega⟩
    have HPO:Hid (∀W:World,Keeps w.heap.size b w W→Calls Tryz.prog 85 #[.agg #[.int .i64 n.kind,.string n.data,.slice qA n.ptrs.length qa,.int .i64 n.size,.int .i64 n.count,.slice qB n.items.length qb]] W fun e w'=>∃A c,e= .returned (.slice A (ptrsL n).length c)∧NdsAt w' Any m A (ptrsL n)∧Below W.heap.size W w'):=hid fun W hk=>zkl m n ⟨qA,qa,qB,qb⟩ W S (HN.out.keeps HR.out hk) HT.out
    have HTT:Hid (totL m (ptrsL n)≤2000000):=hid (Nat.le_trans (zee HN.out) HT.out);have HLN:Hid ((ptrsL n).length≤2000000):=hid (Nat.le_trans (zel HN.out) HTT.out);have HWW:Hid (z0b (j+1) n=on+((ptrsL n).map (z0b j)).sum):=hid (by rw[z0b,HON.out])
    have HBAD:Hid (∀p∈ptrsL n,okN j p=false→okN (j+1) n=false):=hid fun p hp h=>by
     have:(ptrsL n).all (okN j)=false:=by rw[List.all_eq_false]; exact ⟨p,hp,by rw[h]; decide⟩
     simp[okN,HF.out,HK.out,this]
    have HGOOD:Hid ((ptrsL n).all (okN j)=true→okN (j+1) n=true):=hid fun h=>by simp only[okN,HF.out,h,Bool.or_true,Bool.and_true]
    have hD1:decide (8<D)=false:=decide_eq_false (by have:=HD.out; omega)
    by_cases h200:200≤ws+(on:Int)
    · have HX:Hid (200≤ws+(z0b (j+1) n:Nat)):=hid (by have:=z6v (d:=j) (n:=n); rw[HON.out] at this; omega)
      have hd2:decide (200≤ws+(on:Int))=true:=decide_eq_true h200;go_wp2;go_ret;exact ⟨false,_,rfl,KP3.out,ROW3.out,by omega,by omega,fun h=>(by cases h),fun _=> .inr HX.out⟩
    · have hd2:decide (200≤ws+(on:Int))=false:=decide_eq_false h200
      obtain ⟨b0,b1,b2,b3,b4,b5⟩:=z04 BOX3.out
      go_wp2_with fail
      refine (HPO.out W3 KP3.out).mono ?_;rintro e w4 ⟨A4,c4,rfl,hn4,hb4⟩;have KP4:=hid (KP3.out.trans ((Keeps.of_below hb4).mono KP3.out.size));have ROW4:=hid ((hb4.block b (z00 ROW3.out)).trans ROW3.out);have HN4:=hid hn4
      have hz0:0≤ws+(on:Int):=by omega
      have hz1:ws+(on:Int)≤199:=by omega
      clear hn4 hb4 b0 b1 b2 b3 b4 b5 hmc3 h200 hd2 hwrap;have hlen:=HLN.out;have HIHJ:=hid (HIH.out j rfl);generalize ptrsL n=pl at *
      go_wp2_with fail
      go_loopw [36] (fun i wr=>∃k:Nat,i= .int .i64 k∧k≤pl.length∧Hid ((pl.take k).all (okN j)=true)∧Hid (∃z:Int,Keeps w.heap.size b w wr∧wr.heap[b]? =some (msr z)∧NdsAt wr Any m A4 pl∧0≤z∧z≤199∧z=ws+(on:Int)+(((pl.take k).map (z0b j)).sum:Nat))) (fun i _=>pl.length-(intOf i).toNat)
      case atStart=>exact ⟨0,rfl,by omega,hid rfl,hid ⟨_,KP4.out,ROW4.out,HN4.out,hz0,hz1,by simp⟩⟩
      case round =>
       obtain ⟨k,rfl,hk,HA,HZ⟩:=hrel;obtain ⟨z,kpr,rowr,hnr,z0,z1,hz⟩:=HZ.out
       by_cases hlt:k<pl.length
       · obtain ⟨m',rfl⟩:=hnr.pred hlt
         obtain ⟨x,hdp,rfl,hc,hp⟩:=hnr.at_ hlt;have HST:=hid (z27 pl (z0b j) k hlt);have HSL:=hid (z1i pl (z0b j) (k+1));have HTP:=hid (show totN m' pl[k]≤2000000 by have:=z2q (m:=m') hlt; have:=HTT.out; omega);have HMEM:=hid (List.getElem_mem hlt);have HTK:Hid (okN j pl[k]=true→(pl.take (k+1)).all (okN j)=true):=hid (fun h=>by rw[List.take_succ_eq_append_getElem hlt,List.all_append,HA.out]; simpa using h);generalize pl[k]=p at hc hp HST HTP HMEM HTK;have hbx:Below wr.heap.size wr (wr.alloc (.cells #[.int .i64 p.kind,.string p.data,.slice hdp.A p.ptrs.length hdp.a,.int .i64 p.size,.int .i64 p.count,.slice hdp.B p.items.length hdp.b] nodeT)):=(Below.refl _ _).alloc (Nat.le_refl _) _;have HCALL:=hid (HIHJ.out m' p hdp _ Any b z (hp.below hbx) HTP.out ((hbx.block b (z00 rowr)).trans rowr) z0 z1);unfold AlP at HCALL;rw[show (9:Int)-(j:Int)=D+1 by have:=HD.out; omega] at HCALL;have KPR:=hid kpr;have HNR:=hid hnr;have HZE:=hid hz;have HBXX:=hid hbx;have ROWR:=hid rowr;obtain ⟨d0,d1,d2,d3,d4,d5⟩:=hc;clear kpr hnr hz hbx hp rowr HZ
         go_wp2_with fail
         refine HCALL.out.mono ?_;rintro e w5 ⟨r,z',rfl,kp5,row5,z0',z1',ht5,hf5⟩;have KP5:=hid (KPR.out.trans (((Keeps.of_below HBXX.out).trans (kp5.mono (by simp))).mono KPR.out.size));have HN5:=hid ((HNR.out.keeps ROWR.out (Keeps.of_below HBXX.out)).keeps ((HBXX.out.block b (z00 ROWR.out)).trans ROWR.out) kp5);have ROW5:=hid row5;have HF5:=hid hf5;have HT5:=hid ht5;clear kp5 row5 hf5 ht5;cases r
         · go_wp2
           go_ret;refine ⟨false,z',rfl,KP5.out,ROW5.out,z0',z1',fun h=>(by cases h),fun _=>?_⟩
           rcases HF5.out (by first | trivial | rfl) with h | h
           · exact .inl (HBAD.out p HMEM.out h)
           · right
             have:=HWW.out;have:=HSL.out;have:=HST.out;have:=HZE.out;omega
         · obtain ⟨h1,h2,h3⟩:=HT5.out (by first | trivial | rfl)
           have HTR:=hid (HTK.out h1);have HZ5:Hid (∃z:Int,Keeps w.heap.size b w w5∧w5.heap[b]? =some (msr z)∧NdsAt w5 Any (m'+1) (some x) pl∧0≤z∧z≤199∧z=ws+(on:Int)+(((pl.take (k+1)).map (z0b j)).sum:Nat)):=hid ⟨z',KP5.out,ROW5.out,HN5.out,z0',h3,by rw[h2,HZE.out,HST.out]; omega⟩;clear h1 h2 h3;go_wp2
           go_roundw
           case rel=>exact ⟨k+1,by go_num,by omega,HTR,HZ5⟩
           case measure=>simp[intOf]; omega
       · obtain rfl:k=pl.length:=by omega
         rw[List.take_of_length_le (Nat.le_refl _)] at HA hz;have HALL:=hid (HGOOD.out HA.out);have KPR:=hid kpr;have HZE:=hid hz;have ROWR:=hid rowr;clear kpr hnr hz rowr HZ;go_wp2;go_ret;exact ⟨true,z,rfl,KPR.out,ROWR.out,z0,by omega,fun _=>⟨HALL.out,by rw[HZE.out,HWW.out]; omega,z1⟩,fun h=>(by cases h)⟩
theorem z9z:∀d,d≤8→AlD d
 | 0,h=>z7m 0 h (fun j hj=>by omega)
 | d+1,h=>z7m (d+1) h (fun j hj=>by
   obtain rfl:d=j:=by omega
   exact z9z d (by omega))
def z0l (n:Nd):Bool:=okN 8 n&&decide (z0b 8 n≤199)
def zby (n:Nd):Nat:=if z0l n then z0b 8 n else 0
theorem al_ok {n:Nd}{r:Bool}{z:Int}(ht:r=true→okN 8 n=true∧z=0+(z0b 8 n:Nat)∧z≤199)(hf:r=false→okN 8 n=false∨200≤(0:Int)+(z0b 8 n:Nat)):r=z0l n∧(r=true→z=(zby n:Nat)):=by
 cases r with
 | true =>
  obtain ⟨h1,h2,h3⟩:=ht rfl
  have h4:z0l n=true:=by unfold z0l; rw[h1]; simp; omega
  refine ⟨h4.symm,fun _=>?_⟩;unfold zby;rw[h4,if_pos rfl];omega
 | false =>
  refine ⟨?_,fun h=>by cases h⟩;unfold z0l
  rcases hf rfl with h | h
  · rw[h]; rfl
  · rw[show decide (z0b 8 n≤199)=false by simp; omega,Bool.and_false]
theorem z3n (m:Nat)(n:Nd)(h:Hd)(w:World)(S:Nat→Prop)(hn:NdAt w S m n h)(ht:totN m n≤2000000) :
 Calls Tryz.prog 17 #[.agg #[.int .i64 n.kind,.string n.data,.slice h.A n.ptrs.length h.a,.int .i64 n.size,.int .i64 n.count,.slice h.B n.items.length h.b]] w fun e w'=>e= .returned (.bool (z0l n))∧Below w.heap.size w w':=by
 have hb0:Below w.heap.size w ((w.alloc (.cells #[.int .i64 n.kind,.string n.data,.slice h.A n.ptrs.length h.a,.int .i64 n.size,.int .i64 n.count,.slice h.B n.items.length h.b] nodeT)).alloc (.cells #[.int .i64 0] measT)):=((Below.refl _ w).alloc (Nat.le_refl _) _).alloc (by simp) _;have hr:=heap_alloc_new (w.alloc (.cells #[.int .i64 n.kind,.string n.data,.slice h.A n.ptrs.length h.a,.int .i64 n.size,.int .i64 n.count,.slice h.B n.items.length h.b] nodeT)) (.cells #[.int .i64 0] measT);rw[show (w.alloc (.cells #[.int .i64 n.kind,.string n.data,.slice h.A n.ptrs.length h.a,.int .i64 n.size,.int .i64 n.count,.slice h.B n.items.length h.b] nodeT)).heap.size=w.heap.size+1 by simp] at hr
 have hz:((w.alloc (.cells #[.int .i64 n.kind,.string n.data,.slice h.A n.ptrs.length h.a,.int .i64 n.size,.int .i64 n.count,.slice h.B n.items.length h.b] nodeT)).alloc (.cells #[.int .i64 0] measT)).heap.size=w.heap.size+2:=by simp
 have HC:=hid (z9z 8 (by decide) m n h _ S (w.heap.size+1) 0 (hn.below hb0) ht hr (by omega) (by omega));unfold AlP at HC;rw[show (9:Int)-((8:Nat):Int)=1 by decide,hz] at HC;have HB0:=hid hb0;clear hn ht hb0 hr hz;go_enter Tryz.func17,Tryz.ntmps17
 go_wp2_with fail
 refine HC.out.mono ?_;rintro e w2 ⟨r,z,rfl,kp,row,z0,z1,h1,h2⟩;have HE:=hid (al_ok h1 h2).1;have HB:=hid (HB0.out.trans (kp.below (B':=w.heap.size) (by omega) (by omega)));clear kp row h1 h2;go_wp2;go_ret;exact ⟨by rw[HE.out]; rfl,HB.out⟩
theorem zgj {l:List Nd}{f:Nd→Nat}{n:Nd}(h:n∈l):f n≤(l.map f).sum:=by
 induction l with
 | nil=>cases h
 | cons a t ih =>
  simp only[List.map_cons,List.sum_cons]
  rcases List.mem_cons.1 h with rfl | h
  · omega
  · have:=ih h; omega
theorem zk0 (n:Nd):(ptrsL n).length≤ownN n:=by
 have h1:n.ptrs.length≤ownB n:=by unfold ownB; omega
 have h2:(n.items.map fun y=>y.ptrs.length).sum≤(n.items.map ownB).sum:=z5r _ _ _ (fun y _=>by unfold ownB; omega);unfold ptrsL ownN;rw[List.length_append,zbc];omega
theorem z1o {d:Nat}{n:Nd}(h:okN d n=true):formN n=true∧∀p∈ptrsL n,okN (d-1) p=true:=by
 cases d with
 | zero =>
  simp only[okN,Bool.and_eq_true,decide_eq_true_eq] at h
  refine ⟨h.1,fun p hp=>?_⟩
  have h1:ptrsL n= []:=by
   rcases z0y h.1 with hc | hc | hc
   · unfold ptrsL; rw[z0c hc.2.2.1,z0c hc.2.2.2.2.2]; rfl
   · omega
   · omega
  rw[h1] at hp; cases hp
 | succ d =>
  simp only[okN,Bool.and_eq_true,Bool.or_eq_true,decide_eq_true_eq,List.all_eq_true] at h
  refine ⟨h.1,fun p hp=>?_⟩
  rcases h.2 with hk | hk
  · have h1:ptrsL n= []:=by
     rcases z0y h.1 with hc | hc | hc
     · unfold ptrsL; rw[z0c hc.2.2.1,z0c hc.2.2.2.2.2]; rfl
     · omega
     · omega
    rw[h1] at hp; cases hp
  · exact hk p hp
theorem z26 {d:Nat}{n:Nd}(h:okN d n=true):z0b d n=ownN n+((ptrsL n).map (z0b (d-1))).sum:=by
 cases d with
 | zero =>
  simp only[okN,Bool.and_eq_true,decide_eq_true_eq] at h
  have:=z4s (d:=1) h.1 h.2;rw[z0b] at this
  show 0=ownN n+_
  have h1:ptrsL n= []:=by
   rcases z0y h.1 with hc | hc | hc
   · unfold ptrsL; rw[z0c hc.2.2.1,z0c hc.2.2.2.2.2]; rfl
   · omega
   · omega
  rw[h1]; simp; omega
 | succ d=>rfl
theorem zgr {d:Nat}{n p:Nd}(h:okN d n=true)(hp:p∈ptrsL n):z0b (d-1) p≤z0b d n:=by
 rw[z26 h];have:=zgj (f:=z0b (d-1)) hp;omega
theorem ok_up:∀(d:Nat) (n:Nd),okN d n=true→okN (d+1) n=true
 | 0,n,h=>by
   have hf:=(z1o h).1
   simp only[okN,Bool.and_eq_true,decide_eq_true_eq] at h
   exact (z4s (d:=1) hf h.2).1
 | d+1,n,h=>by
   have hk:=z1o h;have h':=h
   simp only[okN,Bool.and_eq_true,Bool.or_eq_true,decide_eq_true_eq,List.all_eq_true] at h'
   show (formN n&&(decide (n.kind=0)||(ptrsL n).all (okN (d+1))))=true
   simp only[Bool.and_eq_true,Bool.or_eq_true,decide_eq_true_eq,List.all_eq_true]
   exact ⟨h'.1,.inr fun p hp=>ok_up d p (hk.2 p hp)⟩
theorem za3 {l:List Nd}{f g:Nd→Nat}(h:∀p∈l,f p=g p):(l.map f).sum=(l.map g).sum:=by rw[List.map_congr_left h]
theorem zeb:∀(d:Nat) (n:Nd),okN d n=true→z0b (d+1) n=z0b d n
 | 0,n,h=>by
   have hf:=(z1o h).1
   simp only[okN,Bool.and_eq_true,decide_eq_true_eq] at h
   rw[(z4s (d:=1) hf h.2).2]; rfl
 | d+1,n,h=>by
   have hk:=(z1o h).2;rw[z26 (ok_up _ _ h),z26 h];exact congrArg (ownN n+ ·) (za3 fun p hp=>zeb d p (hk p hp))
theorem z3q {n:Nd}(h:z0l n=true):okN 8 n=true∧z0b 8 n≤199:=by
 unfold z0l at h;rw[Bool.and_eq_true,decide_eq_true_eq] at h;exact h
theorem zdm {n:Nd}(h:okN 8 n=true)(hw:z0b 8 n≤199):z0l n=true:=by
 unfold z0l
 rw[h,decide_eq_true hw]; rfl
theorem zm2 {n:Nd}(h:z0l n=true):∀p∈ptrsL n,z0l p=true:=by
 obtain ⟨h1,h2⟩:=z3q h
 intro p hp
 have hk:=(z1o h1).2 p hp;refine zdm (ok_up 7 p hk) ?_;rw[zeb 7 p hk];exact Nat.le_trans (zgr h1 hp) h2
theorem zh5 {n:Nd}(h:z0l n=true):∀p∈n.ptrs,z0l p=true:=fun p hp=>zm2 h p (List.mem_append_left _ hp)
theorem z8e {n:Nd}(h:formN n=true):∀y∈n.items,formN y=true∧y.kind=1∧y.items= []:=by
 intro y hy
 have hi:z0i n.items=true:=by
  rcases z0y h with hc | hc | hc
  · rw[z0c hc.2.2.2.2.2] at hy; cases hy
  · rw[z0c hc.2.2.2.2] at hy; cases hy
  · rcases hc.2.2 with hc | hc | hc
    · rw[z0c hc.2.2.2.2] at hy; cases hy
    · rw[z0c hc.2.2.2] at hy; cases hy
    · exact hc.2.2.2.2
 have h1:=(List.all_eq_true.1 hi) y hy;unfold itemB at h1;rw[Bool.and_eq_true] at h1;have h2:=h1.1;refine ⟨?_,?_,?_⟩
 · unfold formN strN
   rw[h2]; simp
 · unfold z1y at h2; simp only[decide_eq_true_eq] at h2; exact h2.1
 · unfold z1y at h2; simp only[decide_eq_true_eq] at h2; exact z0c (by omega)
theorem zlg {n y:Nd}(hy:y∈n.items)(hk:y.kind=1)(hi:y.items= []):ownN y≤ownN n:=by
 have h1:ownB y≤(n.items.map ownB).sum:=zgj hy
 have h2:ownN y=ownB y:=by unfold ownN; rw[hi,if_neg (by omega)]; simp
 rw[h2];unfold ownN;omega
theorem zl5 {n y:Nd}(hy:y∈n.items)(f:Nd→Nat):(y.ptrs.map f).sum≤((ptrsL n).map f).sum:=by
 have h1:(y.ptrs.map f).sum≤((n.items.flatMap Nd.ptrs).map f).sum:=by
  generalize n.items=l at hy
  induction l with
  | nil=>cases hy
  | cons a t ih =>
   rw[List.flatMap_cons,List.map_append,List.sum_append]
   rcases List.mem_cons.1 hy with rfl | h
   · omega
   · have:=ih h; omega
 unfold ptrsL;rw[List.map_append,List.sum_append];omega
theorem zj8 {n:Nd}(h:z0l n=true):∀y∈n.items,z0l y=true:=by
 obtain ⟨h1,h2⟩:=z3q h
 intro y hy
 obtain ⟨hf,hk⟩:=z1o h1;obtain ⟨hfy,hky,hiy⟩:=z8e hf y hy
 have hp:ptrsL y=y.ptrs:=by unfold ptrsL; rw[hiy]; simp
 have hok:okN 8 y=true:=by
  show (formN y&&(decide (y.kind=0)||(ptrsL y).all (okN 7)))=true
  rw[hfy,Bool.true_and,hp]
  have:y.ptrs.all (okN 7)=true:=List.all_eq_true.2 fun p hpp=>hk p (List.mem_append_right _ (List.mem_flatMap.2 ⟨y,hy,hpp⟩))
  rw[this,Bool.or_true]
 refine zdm hok (Nat.le_trans ?_ h2);rw[z26 hok,z26 h1,hp];have e1:=zlg hy hky hiy;have e2:=zl5 hy (z0b 7)
 show ownN y+(y.ptrs.map (z0b 7)).sum≤ownN n+((ptrsL n).map (z0b 7)).sum
 omega
def zerB (l:List UInt8):Bool:=l.all (· ==0)
def trimN (l:List UInt8):Nat→Nat
 | 0=>0
 | k+1=>if zerB ((l.drop (8*k)).take 8) then trimN l k else k+1
theorem zek (l:List UInt8):∀k,trimN l k≤k
 | 0=>Nat.le_refl _
 | k+1=>by
   unfold trimN
   split
   · have:=zek l k; omega
   · omega
theorem z9g (l:List UInt8):∀k,trimN l (trimN l k)=trimN l k
 | 0=>rfl
 | k+1=>by
   rw[trimN]
   split
   · exact z9g l k
   · rename_i h; rw[trimN,if_neg h]
theorem z9x (l:List UInt8):∀(k q:Nat),trimN l k≤q→q<k→zerB ((l.drop (8*q)).take 8)=true
 | 0,_,_,h=>absurd h (by omega)
 | k+1,q,h1,h2=>by
   rw[trimN] at h1
   split at h1
   · rename_i hz
     by_cases he:q=k
     · rw[he]; exact hz
     · exact z9x l k q h1 (by omega)
   · omega
theorem z7n (l m:List UInt8):∀k,(∀q,q<k→(l.drop (8*q)).take 8=(m.drop (8*q)).take 8)→trimN l k=trimN m k
 | 0,_=>rfl
 | k+1,h=>by rw[trimN,trimN,h k (by omega),z7n l m k (fun q hq=>h q (by omega))]
theorem z9i (l:List UInt8)(t:Nat):∀k,(∀q,t≤q→q<t+k→zerB ((l.drop (8*q)).take 8)=true)→trimN l (t+k)=trimN l t
 | 0,_=>rfl
 | k+1,h=>by rw[← Nat.add_assoc,trimN,if_pos (h (t+k) (by omega) (by omega)),z9i l t k (fun q h1 h2=>h q h1 (by omega))]
def tw (l:List UInt8):Nat:=trimN l (l.length/8)
def trimL (l:List UInt8):List UInt8:=l.take (8*tw l)
theorem tw_le (l:List UInt8):tw l≤l.length/8:=zek l _
theorem z6z (l:List UInt8):(trimL l).length=8*tw l:=by
 have:=tw_le l;unfold trimL;rw[List.length_take];omega
theorem zfm {l:List UInt8}(h:∀x∈l,x=0):zerB l=true:=by
 unfold zerB;rw[List.all_eq_true]
 intro x hx
 rw[h x hx]; rfl
theorem zn4 {l:List UInt8}(h:zerB l=true):∀x∈l,x=0:=by
 unfold zerB at h;rw[List.all_eq_true] at h
 intro x hx
 simpa using h x hx
theorem zbz {l:List UInt8}{j:Nat}(h8:l.length%8=0)(h1:tw l≤j)(h2:8*j≤l.length):l.take (8*j)=trimL l++List.replicate (8*(j-tw l)) 0:=by
 have hs:l.take (8*j)=l.take (8*tw l)++(l.drop (8*tw l)).take (8*(j-tw l)):=by
  rw[show 8*j=8*tw l+8*(j-tw l) by omega,List.take_add]
 rw[hs];unfold trimL
 congr 1
 apply List.eq_replicate_iff.2
 refine ⟨by simp; omega,?_⟩
 intro x hx
 obtain ⟨i,hi,rfl⟩:=List.mem_iff_getElem.1 hx
 have hil:i<8*(j-tw l):=by simp at hi; omega
 have hq:=z9x l (l.length/8) (tw l+i/8) (by unfold tw; omega) (by omega);refine zn4 hq _ ?_;rw[List.getElem_take,List.getElem_drop];refine List.mem_iff_getElem?.2 ⟨i%8,?_⟩;rw[List.getElem?_take_of_lt (Nat.mod_lt _ (by decide)),List.getElem?_drop];rw[show 8*(tw l+i/8)+i%8=8*tw l+i by omega];exact List.getElem?_eq_getElem _
theorem zb1 (l:List UInt8)(k:Nat):trimL (trimL l++List.replicate (8*k) 0)=trimL l:=by
 have hl:=z6z l
 have hlen:(trimL l++List.replicate (8*k) (0:UInt8)).length/8=tw l+k:=by rw[List.length_append,hl,List.length_replicate]; omega
 have h1:tw (trimL l++List.replicate (8*k) 0)=tw l:=by
  unfold tw at hlen ⊢;rw[hlen];rw[z9i _ (trimN l (l.length/8)) k]
  · rw[z7n _ l]
    · exact z9g l _
    · intro q hq
      have hq8:8*q+8≤(trimL l).length:=by rw[hl]; unfold tw; omega
      rw[List.drop_append_of_le_length (by omega),List.take_append_of_le_length (by rw[List.length_drop]; omega)];unfold trimL tw;rw[List.drop_take,List.take_take,Nat.min_eq_left (by omega)]
  · intro q h1 h2
    apply zfm
    intro x hx
    have hx2:=List.mem_of_mem_take hx;rw[List.drop_append,List.drop_of_length_le (by rw[hl]; unfold tw; omega),List.nil_append] at hx2;exact (List.mem_replicate.1 (List.mem_of_mem_drop hx2)).2
 have h2:trimL (trimL l++List.replicate (8*k) 0)=(trimL l++List.replicate (8*k) 0).take (8*tw l):=by rw[← h1]; rfl
 rw[h2,List.take_append_of_le_length (by rw[hl]; exact Nat.le_refl _),List.take_of_length_le (by rw[hl]; exact Nat.le_refl _)]
theorem zfn (l:List UInt8):trimL (trimL l)=trimL l:=by
 have:=zb1 l 0
 simpa using this
def trimD (d:ByteArray):ByteArray:=⟨(trimL d.data.toList).toArray⟩
def zeroD (n:Nat):ByteArray:=⟨(List.replicate n 0).toArray⟩
theorem z2e (d:ByteArray):(trimD d).data.toList=trimL d.data.toList:=by simp[trimD]
theorem z2f (d:ByteArray):(trimD d).size=8*tw d.data.toList:=by
 have:=z6z d.data.toList
 show (trimL d.data.toList).toArray.size=_
 simpa using this
theorem ext_d {a b:ByteArray}(h:a.data.toList=b.data.toList):a=b:=by
 cases a; cases b; simp_all
theorem z66 (n:Nat):(zeroD n).size=n:=by show (List.replicate n (0:UInt8)).toArray.size=n; simp
theorem zj9 (d:ByteArray)(k:Nat):trimD (trimD d++zeroD (8*k))=trimD d:=by
 apply ext_d
 rw[z2e,z2e,ByteArray.data_append,Array.toList_append,z2e]
 show trimL (trimL d.data.toList++List.replicate (8*k) 0)=_
 exact zb1 _ _
theorem zg8 (d:ByteArray):trimD (trimD d)=trimD d:=by
 apply ext_d
 rw[z2e,z2e,zfn]
theorem ziu {d:ByteArray}{j:Nat}(h8:d.size%8=0)(h1:tw d.data.toList≤j)(h2:8*j≤d.size):d.extract 0 (8*j)=trimD d++zeroD (8*(j-tw d.data.toList)):=by
 have hl:d.data.toList.length=d.size:=by simp
 apply ext_d
 rw[ByteArray.data_append,Array.toList_append,z2e]
 show _=trimL d.data.toList++List.replicate _ 0
 rw[← zbz (by rw[hl]; exact h8) h1 (by rw[hl]; exact h2)]
 simp[ByteArray.data_extract]
end Go.Proofs.YtblcibgphccfkaaGreatDoor
