/- Texts of the proof of the law FnRecordCanon, side by side: part 0. -/
import Derived.Shelf.Strings.Builder1
import Derived.Shelf.Strings.Builder2
import Derived.Shelf.Strings.BuilderF
import Derived.Shelf.Strings.Prefix
import Derived.Shelf.Bits.Mul64
import Derived.Shelf.Strings.Repeat
import Derived.Test.YtblcibgphccfkaaGreatDoorProg
import Derived.WalkKit
import Derived.WalkSpells
import Derived.WalkLawsBesides
import Derived.Lib.Hide
import Derived.OwnWalk
import Derived.Deep.QuietTactic
import Derived.BigQuiet
import Derived.Laws.OwnMore
import Derived.Deep.Slices
import Derived.Deep.Fields
import Derived.ChangeArms
import Derived.ChangeSame
import Derived.Deep.RegionWith
import Derived.Deep.OwnRows
set_option maxHeartbeats 8000000
set_option maxRecDepth 100000
open Go.Lib (hid)
namespace Go.Proofs
open Go.Shelf
def Tryz.lays105_ren:Go.Shelf.Ren:=⟨fun | 105=>76 | 212=>110 | 99=>111 | 165=>112 | 166=>113 | 170=>114 | 169=>115 | 263=>134 | 264=>135 | 206=>136 | 240=>137 | 241=>138 | 276=>156 | 277=>157 | n=>n,fun | 9=>9 | 3=>3 | 4=>4 | 20=>20 | 0=>0 | 46=>138 | 109=>145 | 5=>5 | 72=>150 | 76=>154 | 51=>166 | 146=>169 | 53=>168 | 148=>171 | 70=>148 | 37=>22 | 75=>153 | 127=>173 | 164=>190 | 80=>156 | n=>n,fun | n=>n⟩
theorem Tryz.lays105:Go.Proofs.Lays.n105 Tryz.prog Tryz.lays105_ren:= {
 mixed:=by kernel_rfl
 f99:=Tryz.func111.trans (congrArg some (by kernel_rfl))
 f105:=Tryz.func76.trans (congrArg some (by kernel_rfl))
 f165:=Tryz.func112.trans (congrArg some (by kernel_rfl))
 f166:=Tryz.func113.trans (congrArg some (by kernel_rfl))
 f169:=Tryz.func115.trans (congrArg some (by kernel_rfl))
 f170:=Tryz.func114.trans (congrArg some (by kernel_rfl))
 f206:=Tryz.func136.trans (congrArg some (by kernel_rfl))
 f212:=Tryz.func110.trans (congrArg some (by kernel_rfl))
 f240:=Tryz.func137.trans (congrArg some (by kernel_rfl))
 f241:=Tryz.func138.trans (congrArg some (by kernel_rfl))
 f263:=Tryz.func134.trans (congrArg some (by kernel_rfl))
 f264:=Tryz.func135.trans (congrArg some (by kernel_rfl))
 f276:=Tryz.func156.trans (congrArg some (by kernel_rfl))
 f277:=Tryz.func157.trans (congrArg some (by kernel_rfl))
 t0:=Tryz.underlying0
 a0:=Tryz.isAgg0
 z0:=Tryz.sizeOf0
 v0:=Tryz.zeroValue0
 t3:=Tryz.underlying3
 a3:=Tryz.isAgg3
 z3:=Tryz.sizeOf3
 v3:=Tryz.zeroValue3
 t4:=Tryz.underlying4
 a4:=Tryz.isAgg4
 z4:=Tryz.sizeOf4
 v4:=Tryz.zeroValue4
 t5:=Tryz.underlying5
 a5:=Tryz.isAgg5
 z5:=Tryz.sizeOf5
 v5:=Tryz.zeroValue5
 t9:=Tryz.underlying9
 a9:=Tryz.isAgg9
 z9:=Tryz.sizeOf9
 v9:=Tryz.zeroValue9
 t20:=Tryz.underlying20
 a20:=Tryz.isAgg20
 z20:=Tryz.sizeOf20
 v20:=Tryz.zeroValue20
 t37:=Tryz.underlying22
 a37:=Tryz.isAgg22
 z37:=Tryz.sizeOf22
 v37:=Tryz.zeroValue22
 t46:=Tryz.underlying138
 a46:=Tryz.isAgg138
 z46:=Tryz.sizeOf138
 v46:=Tryz.zeroValue138
 t51:=Tryz.underlying166
 a51:=Tryz.isAgg166
 z51:=Tryz.sizeOf166
 v51:=Tryz.zeroValue166
 t53:=Tryz.underlying168
 a53:=Tryz.isAgg168
 z53:=Tryz.sizeOf168
 v53:=Tryz.zeroValue168
 t70:=Tryz.underlying148
 a70:=Tryz.isAgg148
 z70:=Tryz.sizeOf148
 v70:=Tryz.zeroValue148
 t72:=Tryz.underlying150
 a72:=Tryz.isAgg150
 z72:=Tryz.sizeOf150
 v72:=Tryz.zeroValue150
 t75:=Tryz.underlying153
 a75:=Tryz.isAgg153
 z75:=Tryz.sizeOf153
 v75:=Tryz.zeroValue153
 t76:=Tryz.underlying154
 a76:=Tryz.isAgg154
 z76:=Tryz.sizeOf154
 v76:=Tryz.zeroValue154
 t109:=Tryz.underlying145
 a109:=Tryz.isAgg145
 z109:=Tryz.sizeOf145
 v109:=Tryz.zeroValue145
 t127:=Tryz.underlying173
 a127:=Tryz.isAgg173
 z127:=Tryz.sizeOf173
 v127:=Tryz.zeroValue173
 t146:=Tryz.underlying169
 a146:=Tryz.isAgg169
 z146:=Tryz.sizeOf169
 v146:=Tryz.zeroValue169
 t148:=Tryz.underlying171
 a148:=Tryz.isAgg171
 z148:=Tryz.sizeOf171
 v148:=Tryz.zeroValue171
 t164:=Tryz.underlying190
 a164:=Tryz.isAgg190
 z164:=Tryz.sizeOf190
 v164:=Tryz.zeroValue190 }
theorem Tryz.Builder_Extra_105:Builder.Extra Tryz.prog Tryz.lays105_ren:= {
 sizeBuilder:=by kernel_rfl
 liesBuilder:=by kernel_rfl
 t5:=Tryz.underlying5
 a5:=Tryz.isAgg5
 z5:=Tryz.sizeOf5
 v5:=Tryz.zeroValue5
 infoByte:=by kernel_rfl
 cellsByte:=by kernel_rfl
 sizeByte:=by kernel_rfl
 neB5:=by decide }
open Go.RowKit Go.Lib in
theorem Tryz.strings_Repeat (s:ByteArray)(c:Nat)(w:World)(hc:c≤9223372036854775807)(hlen:s.size*c≤140737488355328) :
 Calls Tryz.prog 76 #[.string s,.int .i64 c] w fun e w'=>e= .returned (.string ⟨(Lib.repeatL s.data.toList c).toArray⟩)∧Below w.heap.size w w':=Any.strings_Repeat Tryz.lays105 Tryz.Builder_Extra_105 s c w hc hlen
end Go.Proofs
namespace Go.Proofs.YtblcibgphccfkaaGreatDoor
open Go.RowKit
theorem z0f {a b:Bool}(h:a=b):Ending.returned (.bool a)= .returned (.bool b):=by rw[h]
theorem z15 {k:IntKind}{a b:Int}(h:a=b):Ending.returned (.int k a)= .returned (.int k b):=by rw[h]
def inB (n a b:Int):Bool:=decide (a≤n∧n≤b)
theorem z0t (n a b:Int)(w:World) :
 Calls Tryz.prog 34 #[.int .i64 n,.int .i64 a,.int .i64 b] w fun e w'=>e= .returned (.bool (inB n a b))∧w=w':=by
 by_cases h1:a≤n
 all_goals
  go_enter Tryz.func34,Tryz.ntmps34;go_wp2
  all_goals go_ret
  all_goals refine ⟨z0f ?_,rfl⟩
  all_goals (simp[inB]; try omega)
structure Keeps (B b:Nat) (w w':World):Prop where
 os:w'.os=w.os
 tape:w'.tape=w.tape
 output:w'.output=w.output
 size:w.heap.size≤w'.heap.size
 block:∀k,k<B→k≠b→w'.heap[k]? =w.heap[k]?
theorem Keeps.refl (B b:Nat)(w:World):Keeps B b w w:=⟨rfl,rfl,rfl,Nat.le_refl _,fun _ _ _=>rfl⟩
theorem Keeps.trans {B b:Nat}{a c d:World}(h:Keeps B b a c)(k:Keeps B b c d):Keeps B b a d :=
 ⟨k.os.trans h.os,k.tape.trans h.tape,k.output.trans h.output,Nat.le_trans h.size k.size,fun x hx hn=>(k.block x hx hn).trans (h.block x hx hn)⟩
theorem Keeps.mono {B B' b:Nat}{w w':World}(h:Keeps B b w w')(h1:B'≤B):Keeps B' b w w' :=
 ⟨h.os,h.tape,h.output,h.size,fun k hk=>h.block k (Nat.lt_of_lt_of_le hk h1)⟩
theorem Keeps.below {B B' b:Nat}{w w':World}(h:Keeps B b w w')(h1:B'≤B)(h2:B'≤b):Below B' w w' :=
 ⟨h.os,h.tape,h.output,h.size,fun k hk=>h.block k (Nat.lt_of_lt_of_le hk h1) (by omega)⟩
theorem Keeps.of_below {B b:Nat}{w w':World}(h:Below B w w'):Keeps B b w w':=⟨h.os,h.tape,h.output,h.size,fun k hk _=>h.block k hk⟩
theorem Keeps.drewN {B b:Nat}{w w':World}(h:Keeps B b w w')(n:Nat):Keeps B b w (w'.drewN n):=⟨h.os,h.tape,h.output,h.size,h.block⟩
theorem Keeps.then {B b:Nat}{a c d:World}(h:Keeps B b a c)(hB:B≤c.heap.size)(k:Keeps c.heap.size b c d):Keeps B b a d:=h.trans (k.mono hB)
theorem z5y (B b:Nat)(w:World)(i:Nat)(u:Value):Keeps B b w (w.setCell ⟨b,i,none⟩ u) :=
 ⟨rfl,rfl,rfl,by simp[World.setCell],fun k _ hk=>Below.heap_setCell w ⟨b,i,none⟩ u k hk⟩
theorem zj2 {w:World}{b:Nat}{p v:Value}{T:TypeId}(h:w.heap[b]? =some (.cells #[p,v] T (0,0))):w.cell? ⟨b,0,none⟩=some p∧w.cell? ⟨b,1,none⟩=some v:=by
 constructor <;> (rw[cell_of_row _ _ _ _ _ _ h]; rfl)
theorem zi7 {w:World}{b:Nat}{p v q:Value}{T:TypeId}(h:w.heap[b]? =some (.cells #[p,v] T (0,0))):(w.setCell ⟨b,1,none⟩ q).heap[b]? =some (.cells #[p,q] T (0,0)):=by
 simp[World.setCell,Array.getElem?_modify,h]
theorem z03 {w:World}{g:Nat}{cs:Array Value}{t:TypeId}(h:w.heap[g]? =some (.cells cs t (0,0)))(i:Nat):w.frozen? ⟨g,i,none⟩=false:=by
 simp[World.frozen?,h]
theorem z00 {w:World}{g:Nat}{o:Obj}(h:w.heap[g]? =some o):g<w.heap.size:=by
 rcases Nat.lt_or_ge g w.heap.size with hlt | hge
 · exact hlt
 · rw[Array.getElem?_eq_none hge] at h; cases h
theorem z05 (a:Addr)(i:Nat):(a.add i).block=a.block:=by unfold Addr.add; split <;> rfl
theorem z6f {B b:Nat}{w w':World}(h:Keeps B b w w')(p:Addr)(h1:p.block<B)(h2:p.block≠b):w'.cell? p=w.cell? p:=by
 have hb:=h.block p.block h1 h2;unfold World.cell?;rw[hb]
end Go.Proofs.YtblcibgphccfkaaGreatDoor
namespace Go.Proofs.YtblcibgphccfkaaGreatDoor
open Go.RowKit Go.ChangeShapes Go.WideShapes Go.Deep
inductive Nd where
 | mk (kind:Int) (data:ByteArray) (ptrs:List Nd) (size count:Int) (items:List Nd)
namespace Nd
def kind:Nd→Int | .mk k _ _ _ _ _=>k
def data:Nd→ByteArray | .mk _ d _ _ _ _=>d
def ptrs:Nd→List Nd | .mk _ _ p _ _ _=>p
def size:Nd→Int | .mk _ _ _ s _ _=>s
def count:Nd→Int | .mk _ _ _ _ c _=>c
def items:Nd→List Nd | .mk _ _ _ _ _ i=>i
end Nd
instance:Inhabited Nd:=⟨.mk 0 ByteArray.empty [] 0 0 []⟩
structure Hd where
 A:Option Addr
 a:Nat
 B:Option Addr
 b:Nat
instance:Inhabited Hd:=⟨⟨none,0,none,0⟩⟩
structure NdCell (w:World) (p:Addr) (n:Nd) (h:Hd):Prop where
 c0:w.cell? p=some (.int .i64 n.kind)
 c1:w.cell? ⟨p.block,p.off+1,none⟩=some (.string n.data)
 c2:w.cell? ⟨p.block,p.off+2,none⟩=some (.slice h.A n.ptrs.length h.a)
 c3:w.cell? ⟨p.block,p.off+3,none⟩=some (.int .i64 n.size)
 c4:w.cell? ⟨p.block,p.off+4,none⟩=some (.int .i64 n.count)
 c5:w.cell? ⟨p.block,p.off+5,none⟩=some (.slice h.B n.items.length h.b)
theorem NdCell.map {w w':World}{p:Addr}{n:Nd}{h:Hd}(hc:NdCell w p n h)(hf:∀i v,w.cell? ⟨p.block,p.off+i,none⟩=some v→w'.cell? ⟨p.block,p.off+i,none⟩=some v)(h0:∀v,w.cell? p=some v→w'.cell? p=some v):NdCell w' p n h :=
 ⟨h0 _ hc.c0,hf _ _ hc.c1,hf _ _ hc.c2,hf _ _ hc.c3,hf _ _ hc.c4,hf _ _ hc.c5⟩
theorem NdCell.lt {w:World}{p:Addr}{n:Nd}{h:Hd}(hc:NdCell w p n h):p.block<w.heap.size:=World.block_lt_of_cell? w _ hc.c0
theorem NdCell.block {w w':World}{p:Addr}{n:Nd}{h:Hd}(hc:NdCell w p n h)(hb:w'.heap[p.block]? =w.heap[p.block]?):NdCell w' p n h :=
 hc.map (fun i _v h=>(World.cell?_of_block (w:=w) (w':=w') (a:=⟨p.block,p.off+i,none⟩) hb).trans h) (fun _v h=>(World.cell?_of_block (w:=w) (w':=w') (a:=p) hb).trans h)
def NdsAt (w:World)(S:Nat→Prop):Nat→Option Addr→List Nd→Prop
 | 0,_,l=>l= []
 | m+1,A,l=>l.length≤maxLen∧∃q:List (Nd×Hd),q.map (·.1)=l∧(q= []∨∃x:Addr,A=some x∧S x.block∧∀k r,q[k]? =some r→NdCell w (x.add (k*6)) r.1 r.2) ∧
    ∀r∈q,r.1.data.size≤maxLen∧NdsAt w S m r.2.A r.1.ptrs∧NdsAt w S m r.2.B r.1.items
def NdAt (w:World)(S:Nat→Prop)(m:Nat)(n:Nd)(h:Hd):Prop:=n.data.size≤maxLen∧NdsAt w S m h.A n.ptrs∧NdsAt w S m h.B n.items
abbrev Any:Nat→Prop:=fun _=>True
abbrev From (B:Nat):Nat→Prop:=fun k=>B≤k
theorem NdsAt.map {w w':World}{S S':Nat→Prop}(hS:∀k,S k→S' k)(hf:∀p n h,S p.block→NdCell w p n h→NdCell w' p n h):∀m A l,NdsAt w S m A l→NdsAt w' S' m A l
 | 0,_,_,h=>h
 | m+1,A,l,⟨hl,q,hq,hc,hr⟩=>⟨hl,q,hq,hc.imp id (fun ⟨x,hx,hs,hk⟩=>⟨x,hx,hS _ hs,fun k r h=>hf _ _ _ (by rw[z05]; exact hs) (hk k r h)⟩),fun r h=>⟨(hr r h).1,NdsAt.map hS hf m _ _ (hr r h).2.1,NdsAt.map hS hf m _ _ (hr r h).2.2⟩⟩
theorem NdAt.map {w w':World}{S S':Nat→Prop}{m:Nat}{n:Nd}{h:Hd}(hS:∀k,S k→S' k)(hf:∀p n h,S p.block→NdCell w p n h→NdCell w' p n h)(hn:NdAt w S m n h):NdAt w' S' m n h:=⟨hn.1,NdsAt.map hS hf _ _ _ hn.2.1,NdsAt.map hS hf _ _ _ hn.2.2⟩
theorem z13 {w w':World}(hb:Below w.heap.size w w'):∀p n h,NdCell w p n h→NdCell w' p n h:=fun p _ _ hc=>hc.block (hb.block p.block hc.lt)
theorem NdsAt.below {w w':World}{S:Nat→Prop}{m:Nat}{A:Option Addr}{l:List Nd}(h:NdsAt w S m A l)(hb:Below w.heap.size w w'):NdsAt w' S m A l:=NdsAt.map (fun _ h=>h) (fun p n h _ hc=>z13 hb p n h hc) _ _ _ h
theorem NdAt.below {w w':World}{S:Nat→Prop}{m:Nat}{n:Nd}{h:Hd}(hn:NdAt w S m n h)(hb:Below w.heap.size w w'):NdAt w' S m n h:=hn.map (fun _ h=>h) (fun p n h _ hc=>z13 hb p n h hc)
theorem NdsAt.weak {w:World}{S S':Nat→Prop}{m:Nat}{A:Option Addr}{l:List Nd}(h:NdsAt w S m A l)(hS:∀k,S k→S' k):NdsAt w S' m A l:=NdsAt.map hS (fun _ _ _ _ hc=>hc) _ _ _ h
theorem NdAt.weak {w:World}{S S':Nat→Prop}{m:Nat}{n:Nd}{h:Hd}(hn:NdAt w S m n h)(hS:∀k,S k→S' k):NdAt w S' m n h:=hn.map hS (fun _ _ _ _ hc=>hc)
theorem NdsAt.nil (w:World)(S:Nat→Prop)(m:Nat)(A:Option Addr):NdsAt w S m A []:=by
 cases m with
 | zero=>exact rfl
 | succ m=>exact ⟨by decide,[],rfl,.inl rfl,fun r h=>by cases h⟩
theorem NdsAt.succ {w:World}{S:Nat→Prop} :∀m A l,NdsAt w S m A l→NdsAt w S (m+1) A l
 | 0,A,l,h=>by
   obtain rfl:l= []:=h;exact NdsAt.nil _ _ _ _
 | m+1,A,l,⟨hl,q,hq,hc,hr⟩=>⟨hl,q,hq,hc,fun r h=>⟨(hr r h).1,NdsAt.succ m _ _ (hr r h).2.1,NdsAt.succ m _ _ (hr r h).2.2⟩⟩
theorem NdsAt.mono {w:World}{S:Nat→Prop}{m k:Nat}{A:Option Addr}{l:List Nd}(h:NdsAt w S m A l)(hk:m≤k):NdsAt w S k A l:=by
 induction hk with
 | refl=>exact h
 | step _ ih=>exact NdsAt.succ _ _ _ ih
theorem NdAt.mono {w:World}{S:Nat→Prop}{m k:Nat}{n:Nd}{h:Hd}(hn:NdAt w S m n h)(hk:m≤k):NdAt w S k n h:=⟨hn.1,hn.2.1.mono hk,hn.2.2.mono hk⟩
theorem NdsAt.len {w:World}{S:Nat→Prop}{m:Nat}{A:Option Addr}{l:List Nd}(h:NdsAt w S m A l):l.length≤maxLen:=by
 cases m with
 | zero =>
  obtain rfl:l= []:=h
  decide
 | succ m=>exact h.1
theorem NdsAt.at_ {w:World}{S:Nat→Prop}{m:Nat}{A:Option Addr}{l:List Nd}(h:NdsAt w S (m+1) A l){k:Nat}(hk:k<l.length) :
 ∃x hd,A=some x∧NdCell w (x.add (k*6)) l[k] hd∧NdAt w S m l[k] hd:=by
 obtain ⟨_,q,rfl,hc,hr⟩:=h;rw[List.length_map] at hk
 rcases hc with rfl | ⟨x,hx,_,hc⟩
 · cases hk
 · refine ⟨x,(q[k]).2,hx,?_,?_⟩
   · rw[List.getElem_map]; exact hc k _ (List.getElem?_eq_getElem hk)
   · rw[List.getElem_map]; exact hr _ (List.getElem_mem hk)
theorem NdsAt.zero {w:World}{S:Nat→Prop}{A:Option Addr}{l:List Nd}(h:NdsAt w S 0 A l):l= []:=h
theorem NdsAt.pred {w:World}{S:Nat→Prop}{m:Nat}{A:Option Addr}{l:List Nd}(h:NdsAt w S m A l){k:Nat}(hk:k<l.length):∃j,m=j+1:=by
 cases m with
 | zero=>rw[h.zero] at hk; cases hk
 | succ j=>exact ⟨j,rfl⟩
def rowOf:List (Nd×Hd)→List Value
 | []=> []
 | r :: t=> .int .i64 r.1.kind :: .string r.1.data :: .slice r.2.A r.1.ptrs.length r.2.a :: .int .i64 r.1.size :: .int .i64 r.1.count :: .slice r.2.B r.1.items.length r.2.b :: rowOf t
theorem z2y:∀q,(rowOf q).length=q.length*6
 | []=>rfl
 | r :: t=>by simp only[rowOf,List.length_cons,z2y t]; omega
theorem z4m:∀(q p:List (Nd×Hd)),rowOf (q++p)=rowOf q++rowOf p
 | [],_=>rfl
 | r :: t,p=>by rw[List.cons_append,rowOf,z4m t p]; rfl
theorem zal:∀(q:List (Nd×Hd)) (k:Nat) (r:Nd×Hd),q[k]? =some r →
 (rowOf q)[k*6]? =some (.int .i64 r.1.kind)∧(rowOf q)[k*6+1]? =some (.string r.1.data)∧(rowOf q)[k*6+2]? =some (.slice r.2.A r.1.ptrs.length r.2.a) ∧
 (rowOf q)[k*6+3]? =some (.int .i64 r.1.size)∧(rowOf q)[k*6+4]? =some (.int .i64 r.1.count)∧(rowOf q)[k*6+5]? =some (.slice r.2.B r.1.items.length r.2.b)
 | [],k,r,h=>by simp at h
 | p :: t,0,r,h=>by
   obtain rfl:p=r:=by simpa using h
   exact ⟨rfl,rfl,rfl,rfl,rfl,rfl⟩
 | p :: t,k+1,r,h=>by
   have:=zal t k r (by simpa using h);rw[show (k+1)*6=k*6+1+1+1+1+1+1 by omega];exact this
theorem z3v:∀(q:List (Nd×Hd)),∀u∈rowOf q,u.oneCell'=true
 | [],_,h=>by cases h
 | r :: t,u,h=>by
   rcases List.mem_cons.1 h with rfl | h
   · rfl
   rcases List.mem_cons.1 h with rfl | h
   · rfl
   rcases List.mem_cons.1 h with rfl | h
   · rfl
   rcases List.mem_cons.1 h with rfl | h
   · rfl
   rcases List.mem_cons.1 h with rfl | h
   · rfl
   rcases List.mem_cons.1 h with rfl | h
   · rfl
   exact z3v t u h
theorem z2u (x:Addr)(n m:Nat)(hm:0<m):(⟨(x.add n).block,(x.add n).off+m,none⟩:Addr)=x.add (n+m):=by
 by_cases h:n=0
 · subst h
   simp only[Addr.add,if_true,Nat.zero_add]
   rw[if_neg (by omega)]
 · simp only[Addr.add,h,if_false]
   rw[if_neg (by omega)]
   simp <;> omega
theorem zce {w:World}{x:Addr}{n:Nd}{h:Hd}{k:Nat}(h0:w.cell? (x.add (k*6))=some (.int .i64 n.kind))(h1:w.cell? (x.add (k*6+1))=some (.string n.data))(h2:w.cell? (x.add (k*6+2))=some (.slice h.A n.ptrs.length h.a))(h3:w.cell? (x.add (k*6+3))=some (.int .i64 n.size))(h4:w.cell? (x.add (k*6+4))=some (.int .i64 n.count))(h5:w.cell? (x.add (k*6+5))=some (.slice h.B n.items.length h.b)):NdCell w (x.add (k*6)) n h :=
 ⟨h0,by rw[z2u _ _ 1 (by decide)]; exact h1,by rw[z2u _ _ 2 (by decide)]; exact h2,by rw[z2u _ _ 3 (by decide)]; exact h3,by rw[z2u _ _ 4 (by decide)]; exact h4,by rw[z2u _ _ 5 (by decide)]; exact h5⟩
theorem zkc {w:World}{x:Addr}{q:List (Nd×Hd)}(h:∀k r,q[k]? =some r→NdCell w (x.add (k*6)) r.1 r.2):∀j u,(rowOf q)[j]? =some u→w.cell? (x.add j)=some u:=by
 intro j u hj
 have hlt:j<(rowOf q).length:=by
  rcases Nat.lt_or_ge j (rowOf q).length with h' | h'
  · exact h'
  · rw[List.getElem?_eq_none h'] at hj; cases hj
 rw[z2y] at hlt
 have hk:j/6<q.length:=by omega
 obtain ⟨a0,a1,a2,a3,a4,a5⟩:=zal q (j/6) q[j/6] (List.getElem?_eq_getElem hk);obtain ⟨b0,b1,b2,b3,b4,b5⟩:=h (j/6) q[j/6] (List.getElem?_eq_getElem hk);rw[z2u _ _ 1 (by decide)] at b1;rw[z2u _ _ 2 (by decide)] at b2;rw[z2u _ _ 3 (by decide)] at b3;rw[z2u _ _ 4 (by decide)] at b4;rw[z2u _ _ 5 (by decide)] at b5
 have hcase:j=j/6*6∨j=j/6*6+1∨j=j/6*6+2∨j=j/6*6+3∨j=j/6*6+4∨j=j/6*6+5:=by omega
 generalize j/6*6=z at *
 rcases hcase with e | e | e | e | e | e <;> subst e
 · rw[a0] at hj; cases hj; exact b0
 · rw[a1] at hj; cases hj; exact b1
 · rw[a2] at hj; cases hj; exact b2
 · rw[a3] at hj; cases hj; exact b3
 · rw[a4] at hj; cases hj; exact b4
 · rw[a5] at hj; cases hj; exact b5
theorem z7e {w:World}{x:Addr}{q:List (Nd×Hd)}(h:∀j u,(rowOf q)[j]? =some u→w.cell? (x.add j)=some u):∀k r,q[k]? =some r→NdCell w (x.add (k*6)) r.1 r.2:=by
 intro k r hk
 obtain ⟨a0,a1,a2,a3,a4,a5⟩:=zal q k r hk;exact zce (h _ _ a0) (h _ _ a1) (h _ _ a2) (h _ _ a3) (h _ _ a4) (h _ _ a5)
theorem zgd {w:World}{S:Nat→Prop}{R T m:Nat}{v:Value}{q:List (Nd×Hd)}(h:w.ownsRow R T 6 v q.length (rowOf q))(hS:∀k,R≤k→S k)(hq:q.length≤maxLen)(hr:∀r∈q,NdAt w S m r.1 r.2):∃A cap,v= .slice A q.length cap∧NdsAt w S (m+1) A (q.map (·.1)):=by
 rcases h.2 with ⟨rfl,h0⟩ | ⟨g,cap,cur,rfl,hR,hg,_⟩
 · obtain rfl:q= []:=List.eq_nil_of_length_eq_zero h0
   exact ⟨none,0,rfl,NdsAt.nil _ _ _ _⟩
 · exact ⟨_,cap,rfl,by simpa using hq,q,rfl,.inr ⟨_,rfl,hS _ hR,z7e (fun j u hj=>h.cells (g:=g) rfl j u hj)⟩,hr⟩
theorem zge {w:World}{S:Nat→Prop}{g T m:Nat}{arr:Array Value}{q:List (Nd×Hd)}(h:w.heap[g]? =some (.cells arr T (0,0)))(hS:S g)(hq:q.length≤maxLen)(ha:∀(j:Nat) (u:Value),(rowOf q)[j]? =some u→arr[j]? =some u)(hr:∀r∈q,NdAt w S m r.1 r.2):NdsAt w S (m+1) (some ⟨g,0,none⟩) (q.map (·.1)) :=
 ⟨by simpa using hq,q,rfl,.inr ⟨_,rfl,hS,z7e (fun j u hj=>by
  have:(⟨g,0,none⟩:Addr).add j=⟨g,j,none⟩:=by unfold Addr.add; split <;> simp_all
  rw[this,cell_of_row _ _ _ _ _ _ h]; exact ha j u hj)⟩,hr⟩
theorem NdsAt.pairs {w:World}{S:Nat→Prop}{m:Nat}{A:Option Addr}{l:List Nd}(h:NdsAt w S (m+1) A l):∃q:List (Nd×Hd),q.map (·.1)=l∧(∀r∈q,NdAt w S m r.1 r.2)∧(q= []∨∃x,A=some x∧∀j u,(rowOf q)[j]? =some u→w.cell? (x.add j)=some u):=by
 obtain ⟨_,q,hq,hc,hr⟩:=h;exact ⟨q,hq,hr,hc.imp id (fun ⟨x,hx,_,hk⟩=>⟨x,hx,zkc hk⟩)⟩
section
variable {H:Type} {enc:TypeId×Value→H} {w:World} {base:Nat} {spare:Nat→Bool} {held:Bool}
end
end Go.Proofs.YtblcibgphccfkaaGreatDoor
namespace Go.Proofs.YtblcibgphccfkaaGreatDoor
open Go.RowKit
theorem z04 {w:World}{g:Nat}{v0 v1 v2 v3 v4 v5:Value}{T:TypeId}(h:w.heap[g]? =some (.cells #[v0,v1,v2,v3,v4,v5] T (0,0))) :
 w.cell? ⟨g,0,none⟩=some v0∧w.cell? ⟨g,1,none⟩=some v1∧w.cell? ⟨g,2,none⟩=some v2∧w.cell? ⟨g,3,none⟩=some v3∧w.cell? ⟨g,4,none⟩=some v4∧w.cell? ⟨g,5,none⟩=some v5:=by
 refine ⟨?_,?_,?_,?_,?_,?_⟩ <;> (rw[cell_of_row _ _ _ _ _ _ h]; rfl)
def totL:Nat→List Nd→Nat
 | 0,_=>0
 | m+1,l=>(l.map fun n=>1+(n.data.size+totL m n.ptrs+totL m n.items)).sum
def totN (m:Nat)(n:Nd):Nat:=n.data.size+totL m n.ptrs+totL m n.items
theorem z0v (m:Nat)(l:List Nd):totL (m+1) l=(l.map fun n=>1+totN m n).sum:=rfl
theorem z27 (l:List Nd)(f:Nd→Nat)(k:Nat)(h:k<l.length):((l.take (k+1)).map f).sum=((l.take k).map f).sum+f l[k]:=by
 rw[List.take_succ_eq_append_getElem h,List.map_append,List.sum_append]; simp
theorem z1i (l:List Nd)(f:Nd→Nat)(k:Nat):((l.take k).map f).sum≤(l.map f).sum:=by
 conv=>rhs; rw[← List.take_append_drop k l,List.map_append,List.sum_append]
 omega
theorem zni (l:List Nd)(f:Nd→Nat):(l.map fun n=>1+f n).sum=l.length+(l.map f).sum:=by
 induction l with
 | nil=>rfl
 | cons a t ih=>simp only[List.map_cons,List.sum_cons,List.length_cons,ih]; omega
theorem z2q {m:Nat}{l:List Nd}{k:Nat}(h:k<l.length):1+totN m l[k]≤totL (m+1) l:=by
 have h1:=z27 l (fun n=>1+totN m n) k h;have h2:=z1i l (fun n=>1+totN m n) (k+1);rw[z0v];omega
theorem zak (m:Nat)(l:List Nd):l.length≤totL (m+1) l:=by
 rw[z0v,zni]; omega
abbrev nodeT:TypeId:=26
abbrev z28:TypeId:=24
theorem z5z:(Tryz.prog.info? nodeT).map (fun i=>(i.zero,i.size,i.bytes))=some (some (.agg #[.int .i64 0,.string ByteArray.empty,.slice none 0 0,.int .i64 0,.int .i64 0,.slice none 0 0]),6,88):=by kernel_rfl
theorem z06 {w:World}{g:Nat}{cs:Array Value}{T:TypeId}(h:w.heap[g]? =some (.cells cs T (0,0)))(i:Nat)(u:Value):(w.setCell ⟨g,i,none⟩ u).heap[g]? =some (.cells (cs.setIfInBounds i u) T (0,0)):=by
 simp[World.setCell,Array.getElem?_modify,h]
theorem z2h (g j:Nat):(⟨g,0,none⟩:Addr).add j=⟨g,j,none⟩:=by
 unfold Addr.add
 split
 · rename_i h; rw[h]
 · simp
structure Upon (B:Nat) (w w':World):Prop where
 size:w.heap.size≤w'.heap.size
 block:∀k,B≤k→k<w.heap.size→w'.heap[k]? =w.heap[k]?
theorem Upon.refl (B:Nat)(w:World):Upon B w w:=⟨Nat.le_refl _,fun _ _ _=>rfl⟩
theorem Upon.setCell {B:Nat}{a w:World}(h:Upon B a w){p:Addr}(hp:p.block<B)(u:Value):Upon B a (w.setCell p u) :=
 ⟨by simpa [World.setCell] using h.size,fun k hk hl=>(Below.heap_setCell w p u k (by omega)).trans (h.block k hk hl)⟩
theorem NdsAt.upon {w w':World}{B m:Nat}{A:Option Addr}{l:List Nd}(h:NdsAt w (From B) m A l)(hu:Upon B w w'):NdsAt w' (From B) m A l :=
 NdsAt.map (fun _ h=>h) (fun _p _ _ hs hc=>hc.block (hu.block _ hs hc.lt)) _ _ _ h
theorem NdAt.upon {w w':World}{B m:Nat}{n:Nd}{h:Hd}(hn:NdAt w (From B) m n h)(hu:Upon B w w'):NdAt w' (From B) m n h:=⟨hn.1,hn.2.1.upon hu,hn.2.2.upon hu⟩
theorem NdAt.from_ {w:World}{B B' m:Nat}{n:Nd}{h:Hd}(hn:NdAt w (From B) m n h)(hB:B'≤B):NdAt w (From B') m n h:=hn.weak (fun _ hk=>Nat.le_trans hB hk)
theorem z16 {w:World}{S:Nat→Prop}{m:Nat}{A:Option Addr}{l:List Nd}(h:NdsAt w S m A l)(ht:totL m l≤2000000):l.length≤2000000:=by
 cases m with
 | zero=>rw[h.zero]; decide
 | succ m=>exact Nat.le_trans (zak m l) ht
def noneB (d:ByteArray)(lp:Nat)(s c:Int)(li:Nat):Bool:=d.size==0&&lp==0&&s==0&&c==0&&li==0
theorem zdb (d:ByteArray)(i:Nat)(r:List UInt8):(ByteArray.toList.loop d i r).length=r.length+(d.size-i):=by
 fun_induction ByteArray.toList.loop d i r with
 | case1 i r h ih=>rw[ih]; simp only[List.length_cons]; omega
 | case2 i r h=>simp only[List.length_reverse]; omega
theorem z1t (d:ByteArray):d.toList.isEmpty=(d.size==0):=by
 have h:=zdb d 0 []
 simp only[List.length_nil] at h
 unfold ByteArray.toList;rw[Bool.eq_iff_iff,List.isEmpty_iff,← List.length_eq_zero_iff,h]
 simp
theorem z5o (k s c:Int)(d:ByteArray)(A B:Option Addr)(lp cp li ci:Nat)(w:World) :
 Calls Tryz.prog 109 #[.agg #[.int .i64 k,.string d,.slice A lp cp,.int .i64 s,.int .i64 c,.slice B li ci]] w fun e w'=>e= .returned (.bool (noneB d lp s c li))∧Below w.heap.size w w':=by
 have HE:=z1t d;have HD:Hid (noneB d lp s c li=decide (d.size=0∧lp=0∧s=0∧c=0∧li=0)):=hid (by rw[Bool.eq_iff_iff]; simp[noneB,and_assoc]);go_enter Tryz.func109,Tryz.ntmps109;go_wp2
 all_goals go_ret
 all_goals refine ⟨z0f ?_,(Below.refl _ _).alloc (Nat.le_refl _) _⟩
 all_goals (rw[HD.out,Bool.eq_iff_iff]; simp_all)
def z1y (k:Int)(d:ByteArray)(s c:Int)(li:Nat):Bool:=decide (k=1∧(d.size:Int)%8=0∧s=0∧c=0∧li=0)
theorem z6s (k s c:Int)(d:ByteArray)(A B:Option Addr)(lp cp li ci:Nat)(w:World) :
 Calls Tryz.prog 120 #[.agg #[.int .i64 k,.string d,.slice A lp cp,.int .i64 s,.int .i64 c,.slice B li ci]] w fun e w'=>e= .returned (.bool (z1y k d s c li))∧Below w.heap.size w w':=by
 have HD:Hid (noneB ByteArray.empty 0 s c li=decide (s=0∧c=0∧li=0)):=hid (by rw[Bool.eq_iff_iff]; simp[noneB,and_assoc]);have HS:Hid (z1y k d s c li=(decide (k=1)&&(decide ((d.size:Int)%8=0)&&noneB ByteArray.empty 0 s c li))):=hid (by rw[HD.out,Bool.eq_iff_iff]; simp[z1y]);clear HD
 by_cases hk:k=1
 all_goals
  by_cases h8:(d.size:Int)%8=0
  all_goals
   go_enter Tryz.func120,Tryz.ntmps120
   go_wp2_with (go_at_call 109; go_must (refine (z5o _ _ _ _ _ _ _ _ _ _ _).mono ?_); rintro e w2 ⟨rfl,hb2⟩)
   go_ret;refine ⟨z0f (by rw[HS.out]; simp[hk,h8] <;> rfl),?_⟩
   first
   | exact (((Below.refl _ w).alloc (Nat.le_refl _) _).alloc (by simp) _).trans (hb2.mono (by simp; omega))
   | exact ((Below.refl _ w).alloc (Nat.le_refl _) _).alloc (by simp) _
theorem z6x (k s c:Int)(d:ByteArray)(A B:Option Addr)(lp cp li ci:Nat)(w:World) :
 Calls Tryz.prog 117 #[.agg #[.int .i64 k,.string d,.slice A lp cp,.int .i64 s,.int .i64 c,.slice B li ci]] w fun e w'=>e= .returned (.bool (z1y k d s c li))∧Below w.heap.size w w':=by
 have HS:Hid (z1y k d s c li=decide (k=1∧(d.size:Int)%8=0∧s=0∧c=0∧li=0)):=hid rfl;go_enter Tryz.func117,Tryz.ntmps117;go_wp2
 all_goals go_ret
 all_goals refine ⟨z0f ?_,(Below.refl _ _).alloc (Nat.le_refl _) _⟩
 all_goals (rw[HS.out,Bool.eq_iff_iff]; simp_all)
end Go.Proofs.YtblcibgphccfkaaGreatDoor
