/- Texts of the proof of the law FnCanonSent, side by side: part 0. -/
import Derived.Shelf.Strings.Builder1
import Derived.Shelf.Strings.Builder2
import Derived.Shelf.Strings.Trim
import Derived.Shelf.Small.Utf8
import Derived.Shelf.Small.Bits
import Derived.Shelf.Small.Strs
import Derived.Shelf.Strings.BuilderF
import Derived.Shelf.Strings.Search1
import Derived.Shelf.Strings.Prefix
import Derived.Shelf.Strings.Runes
import Derived.Shelf.Strings.AsciiSet
import Derived.Shelf.Bits.Mul64
import Derived.Shelf.Strings.Repeat
import Derived.Shelf.Unicode.DecodeSlow
import Derived.Test.YtlbfffokkhccaaaGreatDoorProg
import Derived.WalkKit
import Derived.WalkSpells
import Derived.WalkLawsBesides
import Derived.Lib.Hide
import Derived.OwnWalk
import Derived.Deep.QuietTactic
import Derived.BigQuiet
import Derived.Laws.OwnMore
import Derived.Deep.Slices
import Derived.Deep.Fields
import Derived.ChangeArms
import Derived.ChangeSame
import Derived.Deep.RegionWith
import Derived.Deep.OwnRows
import Derived.Lib.BufferWrite
import Derived.Deep.RegionLaw
import Derived.Laws.BitsAllLaws
import Derived.StillTactics
import Derived.Lib.QuietBelow
set_option maxHeartbeats 8000000
set_option maxRecDepth 100000
open Go.Lib (hid)
namespace Go.Proofs
open Go.Shelf
def Tryz.lays135_ren:Go.Shelf.Ren:=⟨fun | 135=>144 | n=>n,fun | 5=>5 | 3=>3 | 9=>9 | n=>n,fun | n=>n⟩
theorem Tryz.lays135:Go.Proofs.Lays.n135 Tryz.prog Tryz.lays135_ren:= {
 mixed:=by kernel_rfl
 f135:=Tryz.func144.trans (congrArg some (by kernel_rfl))
 t3:=Tryz.underlying3
 a3:=Tryz.isAgg3
 z3:=Tryz.sizeOf3
 v3:=Tryz.zeroValue3
 t5:=Tryz.underlying5
 a5:=Tryz.isAgg5
 z5:=Tryz.sizeOf5
 v5:=Tryz.zeroValue5
 t9:=Tryz.underlying9
 a9:=Tryz.isAgg9
 z9:=Tryz.sizeOf9
 v9:=Tryz.zeroValue9 }
theorem Tryz.bits_OnesCount8 (x:Int)(w:World)(h0:0≤x)(h1:x≤255) :
 Calls Tryz.prog 144 #[.int .u8 x] w fun e w'=>e= .returned (.int .i64 (Lib.onesCount x.toNat))∧w'=w:=Any.bits_OnesCount8 Tryz.lays135 x w h0 h1
def Tryz.lays105_ren:Go.Shelf.Ren:=⟨fun | 105=>176 | 212=>188 | 99=>189 | 165=>190 | 166=>75 | 170=>93 | 169=>76 | 263=>196 | 264=>197 | 206=>198 | 240=>121 | 241=>199 | 276=>161 | 277=>203 | n=>n,fun | 9=>9 | 3=>3 | 4=>4 | 20=>20 | 0=>0 | 46=>176 | 109=>246 | 5=>5 | 72=>119 | 76=>120 | 51=>174 | 146=>254 | 53=>89 | 148=>256 | 70=>117 | 37=>22 | 75=>69 | 127=>188 | 164=>134 | 80=>94 | n=>n,fun | n=>n⟩
theorem Tryz.lays105:Go.Proofs.Lays.n105 Tryz.prog Tryz.lays105_ren:= {
 mixed:=by kernel_rfl
 f99:=Tryz.func189.trans (congrArg some (by kernel_rfl))
 f105:=Tryz.func176.trans (congrArg some (by kernel_rfl))
 f165:=Tryz.func190.trans (congrArg some (by kernel_rfl))
 f166:=Tryz.func75.trans (congrArg some (by kernel_rfl))
 f169:=Tryz.func76.trans (congrArg some (by kernel_rfl))
 f170:=Tryz.func93.trans (congrArg some (by kernel_rfl))
 f206:=Tryz.func198.trans (congrArg some (by kernel_rfl))
 f212:=Tryz.func188.trans (congrArg some (by kernel_rfl))
 f240:=Tryz.func121.trans (congrArg some (by kernel_rfl))
 f241:=Tryz.func199.trans (congrArg some (by kernel_rfl))
 f263:=Tryz.func196.trans (congrArg some (by kernel_rfl))
 f264:=Tryz.func197.trans (congrArg some (by kernel_rfl))
 f276:=Tryz.func161.trans (congrArg some (by kernel_rfl))
 f277:=Tryz.func203.trans (congrArg some (by kernel_rfl))
 t0:=Tryz.underlying0
 a0:=Tryz.isAgg0
 z0:=Tryz.sizeOf0
 v0:=Tryz.zeroValue0
 t3:=Tryz.underlying3
 a3:=Tryz.isAgg3
 z3:=Tryz.sizeOf3
 v3:=Tryz.zeroValue3
 t4:=Tryz.underlying4
 a4:=Tryz.isAgg4
 z4:=Tryz.sizeOf4
 v4:=Tryz.zeroValue4
 t5:=Tryz.underlying5
 a5:=Tryz.isAgg5
 z5:=Tryz.sizeOf5
 v5:=Tryz.zeroValue5
 t9:=Tryz.underlying9
 a9:=Tryz.isAgg9
 z9:=Tryz.sizeOf9
 v9:=Tryz.zeroValue9
 t20:=Tryz.underlying20
 a20:=Tryz.isAgg20
 z20:=Tryz.sizeOf20
 v20:=Tryz.zeroValue20
 t37:=Tryz.underlying22
 a37:=Tryz.isAgg22
 z37:=Tryz.sizeOf22
 v37:=Tryz.zeroValue22
 t46:=Tryz.underlying176
 a46:=Tryz.isAgg176
 z46:=Tryz.sizeOf176
 v46:=Tryz.zeroValue176
 t51:=Tryz.underlying174
 a51:=Tryz.isAgg174
 z51:=Tryz.sizeOf174
 v51:=Tryz.zeroValue174
 t53:=Tryz.underlying89
 a53:=Tryz.isAgg89
 z53:=Tryz.sizeOf89
 v53:=Tryz.zeroValue89
 t70:=Tryz.underlying117
 a70:=Tryz.isAgg117
 z70:=Tryz.sizeOf117
 v70:=Tryz.zeroValue117
 t72:=Tryz.underlying119
 a72:=Tryz.isAgg119
 z72:=Tryz.sizeOf119
 v72:=Tryz.zeroValue119
 t75:=Tryz.underlying69
 a75:=Tryz.isAgg69
 z75:=Tryz.sizeOf69
 v75:=Tryz.zeroValue69
 t76:=Tryz.underlying120
 a76:=Tryz.isAgg120
 z76:=Tryz.sizeOf120
 v76:=Tryz.zeroValue120
 t109:=Tryz.underlying246
 a109:=Tryz.isAgg246
 z109:=Tryz.sizeOf246
 v109:=Tryz.zeroValue246
 t127:=Tryz.underlying188
 a127:=Tryz.isAgg188
 z127:=Tryz.sizeOf188
 v127:=Tryz.zeroValue188
 t146:=Tryz.underlying254
 a146:=Tryz.isAgg254
 z146:=Tryz.sizeOf254
 v146:=Tryz.zeroValue254
 t148:=Tryz.underlying256
 a148:=Tryz.isAgg256
 z148:=Tryz.sizeOf256
 v148:=Tryz.zeroValue256
 t164:=Tryz.underlying134
 a164:=Tryz.isAgg134
 z164:=Tryz.sizeOf134
 v164:=Tryz.zeroValue134 }
theorem Tryz.Builder_Extra_105:Builder.Extra Tryz.prog Tryz.lays105_ren:= {
 sizeBuilder:=by kernel_rfl
 liesBuilder:=by kernel_rfl
 t5:=Tryz.underlying5
 a5:=Tryz.isAgg5
 z5:=Tryz.sizeOf5
 v5:=Tryz.zeroValue5
 infoByte:=by kernel_rfl
 cellsByte:=by kernel_rfl
 sizeByte:=by kernel_rfl
 neB5:=by decide }
open Go.RowKit Go.Lib in
theorem Tryz.strings_Repeat (s:ByteArray)(c:Nat)(w:World)(hc:c≤9223372036854775807)(hlen:s.size*c≤140737488355328) :
 Calls Tryz.prog 176 #[.string s,.int .i64 c] w fun e w'=>e= .returned (.string ⟨(Lib.repeatL s.data.toList c).toArray⟩)∧Below w.heap.size w w':=Any.strings_Repeat Tryz.lays105 Tryz.Builder_Extra_105 s c w hc hlen
end Go.Proofs
namespace Go.Proofs.YtlbfffokkhccaaaGreatDoor
open Go.RowKit
theorem z0j {a b:Bool}(h:a=b):Ending.returned (.bool a)= .returned (.bool b):=by rw[h]
theorem z2n {k:IntKind}{a b:Int}(h:a=b):Ending.returned (.int k a)= .returned (.int k b):=by rw[h]
def inB (n a b:Int):Bool:=decide (a≤n∧n≤b)
theorem z34 (n a b:Int)(w:World) :
 Calls Tryz.prog 39 #[.int .i64 n,.int .i64 a,.int .i64 b] w fun e w'=>e= .returned (.bool (inB n a b))∧w=w':=by
 by_cases h1:a≤n
 all_goals
  go_enter Tryz.func39,Tryz.ntmps39;go_wp2
  all_goals go_ret
  all_goals refine ⟨z0j ?_,rfl⟩
  all_goals (simp[inB]; try omega)
structure Keeps (B b:Nat) (w w':World):Prop where
 os:w'.os=w.os
 tape:w'.tape=w.tape
 output:w'.output=w.output
 size:w.heap.size≤w'.heap.size
 block:∀k,k<B→k≠b→w'.heap[k]? =w.heap[k]?
theorem Keeps.refl (B b:Nat)(w:World):Keeps B b w w:=⟨rfl,rfl,rfl,Nat.le_refl _,fun _ _ _=>rfl⟩
theorem Keeps.trans {B b:Nat}{a c d:World}(h:Keeps B b a c)(k:Keeps B b c d):Keeps B b a d :=
 ⟨k.os.trans h.os,k.tape.trans h.tape,k.output.trans h.output,Nat.le_trans h.size k.size,fun x hx hn=>(k.block x hx hn).trans (h.block x hx hn)⟩
theorem Keeps.mono {B B' b:Nat}{w w':World}(h:Keeps B b w w')(h1:B'≤B):Keeps B' b w w' :=
 ⟨h.os,h.tape,h.output,h.size,fun k hk=>h.block k (Nat.lt_of_lt_of_le hk h1)⟩
theorem Keeps.below {B B' b:Nat}{w w':World}(h:Keeps B b w w')(h1:B'≤B)(h2:B'≤b):Below B' w w' :=
 ⟨h.os,h.tape,h.output,h.size,fun k hk=>h.block k (Nat.lt_of_lt_of_le hk h1) (by omega)⟩
theorem Keeps.of_below {B b:Nat}{w w':World}(h:Below B w w'):Keeps B b w w':=⟨h.os,h.tape,h.output,h.size,fun k hk _=>h.block k hk⟩
theorem Keeps.drewN {B b:Nat}{w w':World}(h:Keeps B b w w')(n:Nat):Keeps B b w (w'.drewN n):=⟨h.os,h.tape,h.output,h.size,h.block⟩
theorem Keeps.drew {B b:Nat}{w w':World}(h:Keeps B b w w'):Keeps B b w w'.drew:=⟨h.os,h.tape,h.output,h.size,h.block⟩
theorem Keeps.then {B b:Nat}{a c d:World}(h:Keeps B b a c)(hB:B≤c.heap.size)(k:Keeps c.heap.size b c d):Keeps B b a d:=h.trans (k.mono hB)
theorem z0p (B b:Nat)(w:World)(i:Nat)(u:Value):Keeps B b w (w.setCell ⟨b,i,none⟩ u) :=
 ⟨rfl,rfl,rfl,by simp[World.setCell],fun k _ hk=>Below.heap_setCell w ⟨b,i,none⟩ u k hk⟩
theorem z04 {w:World}{b:Nat}{p v:Value}{T:TypeId}(h:w.heap[b]? =some (.cells #[p,v] T (0,0))):w.cell? ⟨b,0,none⟩=some p∧w.cell? ⟨b,1,none⟩=some v:=by
 constructor <;> (rw[cell_of_row _ _ _ _ _ _ h]; rfl)
theorem z9o {w:World}{b:Nat}{p v q:Value}{T:TypeId}(h:w.heap[b]? =some (.cells #[p,v] T (0,0))):(w.setCell ⟨b,1,none⟩ q).heap[b]? =some (.cells #[p,q] T (0,0)):=by
 simp[World.setCell,Array.getElem?_modify,h]
theorem z02 {w:World}{g:Nat}{cs:Array Value}{t:TypeId}(h:w.heap[g]? =some (.cells cs t (0,0)))(i:Nat):w.frozen? ⟨g,i,none⟩=false:=by
 simp[World.frozen?,h]
theorem z00 {w:World}{g:Nat}{o:Obj}(h:w.heap[g]? =some o):g<w.heap.size:=by
 rcases Nat.lt_or_ge g w.heap.size with hlt | hge
 · exact hlt
 · rw[Array.getElem?_eq_none hge] at h; cases h
theorem z0r (a:Addr)(i:Nat):(a.add i).block=a.block:=by unfold Addr.add; split <;> rfl
theorem z0y {B b:Nat}{w w':World}(h:Keeps B b w w')(p:Addr)(h1:p.block<B)(h2:p.block≠b):w'.cell? p=w.cell? p:=by
 have hb:=h.block p.block h1 h2;unfold World.cell?;rw[hb]
end Go.Proofs.YtlbfffokkhccaaaGreatDoor
namespace Go.Proofs.YtlbfffokkhccaaaGreatDoor
open Go.RowKit Go.ChangeShapes Go.WideShapes Go.Deep
inductive Nd where
 | mk (kind:Int) (data:ByteArray) (ptrs:List Nd) (size count:Int) (items:List Nd)
namespace Nd
def kind:Nd→Int | .mk k _ _ _ _ _=>k
def data:Nd→ByteArray | .mk _ d _ _ _ _=>d
def ptrs:Nd→List Nd | .mk _ _ p _ _ _=>p
def size:Nd→Int | .mk _ _ _ s _ _=>s
def count:Nd→Int | .mk _ _ _ _ c _=>c
def items:Nd→List Nd | .mk _ _ _ _ _ i=>i
end Nd
instance:Inhabited Nd:=⟨.mk 0 ByteArray.empty [] 0 0 []⟩
structure Hd where
 A:Option Addr
 a:Nat
 B:Option Addr
 b:Nat
instance:Inhabited Hd:=⟨⟨none,0,none,0⟩⟩
structure NdCell (w:World) (p:Addr) (n:Nd) (h:Hd):Prop where
 c0:w.cell? p=some (.int .i64 n.kind)
 c1:w.cell? ⟨p.block,p.off+1,none⟩=some (.string n.data)
 c2:w.cell? ⟨p.block,p.off+2,none⟩=some (.slice h.A n.ptrs.length h.a)
 c3:w.cell? ⟨p.block,p.off+3,none⟩=some (.int .i64 n.size)
 c4:w.cell? ⟨p.block,p.off+4,none⟩=some (.int .i64 n.count)
 c5:w.cell? ⟨p.block,p.off+5,none⟩=some (.slice h.B n.items.length h.b)
theorem NdCell.map {w w':World}{p:Addr}{n:Nd}{h:Hd}(hc:NdCell w p n h)(hf:∀i v,w.cell? ⟨p.block,p.off+i,none⟩=some v→w'.cell? ⟨p.block,p.off+i,none⟩=some v)(h0:∀v,w.cell? p=some v→w'.cell? p=some v):NdCell w' p n h :=
 ⟨h0 _ hc.c0,hf _ _ hc.c1,hf _ _ hc.c2,hf _ _ hc.c3,hf _ _ hc.c4,hf _ _ hc.c5⟩
theorem NdCell.lt {w:World}{p:Addr}{n:Nd}{h:Hd}(hc:NdCell w p n h):p.block<w.heap.size:=World.block_lt_of_cell? w _ hc.c0
theorem NdCell.block {w w':World}{p:Addr}{n:Nd}{h:Hd}(hc:NdCell w p n h)(hb:w'.heap[p.block]? =w.heap[p.block]?):NdCell w' p n h :=
 hc.map (fun i _v h=>(World.cell?_of_block (w:=w) (w':=w') (a:=⟨p.block,p.off+i,none⟩) hb).trans h) (fun _v h=>(World.cell?_of_block (w:=w) (w':=w') (a:=p) hb).trans h)
def NdsAt (w:World)(S:Nat→Prop):Nat→Option Addr→List Nd→Prop
 | 0,_,l=>l= []
 | m+1,A,l=>l.length≤maxLen∧∃q:List (Nd×Hd),q.map (·.1)=l∧(q= []∨∃x:Addr,A=some x∧S x.block∧∀k r,q[k]? =some r→NdCell w (x.add (k*6)) r.1 r.2) ∧
    ∀r∈q,r.1.data.size≤maxLen∧NdsAt w S m r.2.A r.1.ptrs∧NdsAt w S m r.2.B r.1.items
def NdAt (w:World)(S:Nat→Prop)(m:Nat)(n:Nd)(h:Hd):Prop:=n.data.size≤maxLen∧NdsAt w S m h.A n.ptrs∧NdsAt w S m h.B n.items
abbrev Any:Nat→Prop:=fun _=>True
abbrev From (B:Nat):Nat→Prop:=fun k=>B≤k
theorem NdsAt.map {w w':World}{S S':Nat→Prop}(hS:∀k,S k→S' k)(hf:∀p n h,S p.block→NdCell w p n h→NdCell w' p n h):∀m A l,NdsAt w S m A l→NdsAt w' S' m A l
 | 0,_,_,h=>h
 | m+1,A,l,⟨hl,q,hq,hc,hr⟩=>⟨hl,q,hq,hc.imp id (fun ⟨x,hx,hs,hk⟩=>⟨x,hx,hS _ hs,fun k r h=>hf _ _ _ (by rw[z0r]; exact hs) (hk k r h)⟩),fun r h=>⟨(hr r h).1,NdsAt.map hS hf m _ _ (hr r h).2.1,NdsAt.map hS hf m _ _ (hr r h).2.2⟩⟩
theorem NdAt.map {w w':World}{S S':Nat→Prop}{m:Nat}{n:Nd}{h:Hd}(hS:∀k,S k→S' k)(hf:∀p n h,S p.block→NdCell w p n h→NdCell w' p n h)(hn:NdAt w S m n h):NdAt w' S' m n h:=⟨hn.1,NdsAt.map hS hf _ _ _ hn.2.1,NdsAt.map hS hf _ _ _ hn.2.2⟩
theorem z0u {w w':World}(hb:Below w.heap.size w w'):∀p n h,NdCell w p n h→NdCell w' p n h:=fun p _ _ hc=>hc.block (hb.block p.block hc.lt)
theorem NdsAt.below {w w':World}{S:Nat→Prop}{m:Nat}{A:Option Addr}{l:List Nd}(h:NdsAt w S m A l)(hb:Below w.heap.size w w'):NdsAt w' S m A l:=NdsAt.map (fun _ h=>h) (fun p n h _ hc=>z0u hb p n h hc) _ _ _ h
theorem NdAt.below {w w':World}{S:Nat→Prop}{m:Nat}{n:Nd}{h:Hd}(hn:NdAt w S m n h)(hb:Below w.heap.size w w'):NdAt w' S m n h:=hn.map (fun _ h=>h) (fun p n h _ hc=>z0u hb p n h hc)
theorem NdsAt.weak {w:World}{S S':Nat→Prop}{m:Nat}{A:Option Addr}{l:List Nd}(h:NdsAt w S m A l)(hS:∀k,S k→S' k):NdsAt w S' m A l:=NdsAt.map hS (fun _ _ _ _ hc=>hc) _ _ _ h
theorem NdAt.weak {w:World}{S S':Nat→Prop}{m:Nat}{n:Nd}{h:Hd}(hn:NdAt w S m n h)(hS:∀k,S k→S' k):NdAt w S' m n h:=hn.map hS (fun _ _ _ _ hc=>hc)
theorem NdsAt.nil (w:World)(S:Nat→Prop)(m:Nat)(A:Option Addr):NdsAt w S m A []:=by
 cases m with
 | zero=>exact rfl
 | succ m=>exact ⟨by decide,[],rfl,.inl rfl,fun r h=>by cases h⟩
theorem NdsAt.succ {w:World}{S:Nat→Prop} :∀m A l,NdsAt w S m A l→NdsAt w S (m+1) A l
 | 0,A,l,h=>by
   obtain rfl:l= []:=h;exact NdsAt.nil _ _ _ _
 | m+1,A,l,⟨hl,q,hq,hc,hr⟩=>⟨hl,q,hq,hc,fun r h=>⟨(hr r h).1,NdsAt.succ m _ _ (hr r h).2.1,NdsAt.succ m _ _ (hr r h).2.2⟩⟩
theorem NdsAt.mono {w:World}{S:Nat→Prop}{m k:Nat}{A:Option Addr}{l:List Nd}(h:NdsAt w S m A l)(hk:m≤k):NdsAt w S k A l:=by
 induction hk with
 | refl=>exact h
 | step _ ih=>exact NdsAt.succ _ _ _ ih
theorem NdAt.mono {w:World}{S:Nat→Prop}{m k:Nat}{n:Nd}{h:Hd}(hn:NdAt w S m n h)(hk:m≤k):NdAt w S k n h:=⟨hn.1,hn.2.1.mono hk,hn.2.2.mono hk⟩
theorem NdsAt.len {w:World}{S:Nat→Prop}{m:Nat}{A:Option Addr}{l:List Nd}(h:NdsAt w S m A l):l.length≤maxLen:=by
 cases m with
 | zero =>
  obtain rfl:l= []:=h
  decide
 | succ m=>exact h.1
theorem NdsAt.at_ {w:World}{S:Nat→Prop}{m:Nat}{A:Option Addr}{l:List Nd}(h:NdsAt w S (m+1) A l){k:Nat}(hk:k<l.length) :
 ∃x hd,A=some x∧NdCell w (x.add (k*6)) l[k] hd∧NdAt w S m l[k] hd:=by
 obtain ⟨_,q,rfl,hc,hr⟩:=h;rw[List.length_map] at hk
 rcases hc with rfl | ⟨x,hx,_,hc⟩
 · cases hk
 · refine ⟨x,(q[k]).2,hx,?_,?_⟩
   · rw[List.getElem_map]; exact hc k _ (List.getElem?_eq_getElem hk)
   · rw[List.getElem_map]; exact hr _ (List.getElem_mem hk)
theorem NdsAt.zero {w:World}{S:Nat→Prop}{A:Option Addr}{l:List Nd}(h:NdsAt w S 0 A l):l= []:=h
theorem NdsAt.pred {w:World}{S:Nat→Prop}{m:Nat}{A:Option Addr}{l:List Nd}(h:NdsAt w S m A l){k:Nat}(hk:k<l.length):∃j,m=j+1:=by
 cases m with
 | zero=>rw[h.zero] at hk; cases hk
 | succ j=>exact ⟨j,rfl⟩
def rowOf:List (Nd×Hd)→List Value
 | []=> []
 | r :: t=> .int .i64 r.1.kind :: .string r.1.data :: .slice r.2.A r.1.ptrs.length r.2.a :: .int .i64 r.1.size :: .int .i64 r.1.count :: .slice r.2.B r.1.items.length r.2.b :: rowOf t
theorem z35:∀q,(rowOf q).length=q.length*6
 | []=>rfl
 | r :: t=>by simp only[rowOf,List.length_cons,z35 t]; omega
theorem z4g:∀(q p:List (Nd×Hd)),rowOf (q++p)=rowOf q++rowOf p
 | [],_=>rfl
 | r :: t,p=>by rw[List.cons_append,rowOf,z4g t p]; rfl
theorem zc6:∀(q:List (Nd×Hd)) (k:Nat) (r:Nd×Hd),q[k]? =some r →
 (rowOf q)[k*6]? =some (.int .i64 r.1.kind)∧(rowOf q)[k*6+1]? =some (.string r.1.data)∧(rowOf q)[k*6+2]? =some (.slice r.2.A r.1.ptrs.length r.2.a) ∧
 (rowOf q)[k*6+3]? =some (.int .i64 r.1.size)∧(rowOf q)[k*6+4]? =some (.int .i64 r.1.count)∧(rowOf q)[k*6+5]? =some (.slice r.2.B r.1.items.length r.2.b)
 | [],k,r,h=>by simp at h
 | p :: t,0,r,h=>by
   obtain rfl:p=r:=by simpa using h
   exact ⟨rfl,rfl,rfl,rfl,rfl,rfl⟩
 | p :: t,k+1,r,h=>by
   have:=zc6 t k r (by simpa using h);rw[show (k+1)*6=k*6+1+1+1+1+1+1 by omega];exact this
theorem z3v:∀(q:List (Nd×Hd)),∀u∈rowOf q,u.oneCell'=true
 | [],_,h=>by cases h
 | r :: t,u,h=>by
   rcases List.mem_cons.1 h with rfl | h
   · rfl
   rcases List.mem_cons.1 h with rfl | h
   · rfl
   rcases List.mem_cons.1 h with rfl | h
   · rfl
   rcases List.mem_cons.1 h with rfl | h
   · rfl
   rcases List.mem_cons.1 h with rfl | h
   · rfl
   rcases List.mem_cons.1 h with rfl | h
   · rfl
   exact z3v t u h
theorem z33 (x:Addr)(n m:Nat)(hm:0<m):(⟨(x.add n).block,(x.add n).off+m,none⟩:Addr)=x.add (n+m):=by
 by_cases h:n=0
 · subst h
   simp only[Addr.add,if_true,Nat.zero_add]
   rw[if_neg (by omega)]
 · simp only[Addr.add,h,if_false]
   rw[if_neg (by omega)]
   simp <;> omega
theorem zds {w:World}{x:Addr}{n:Nd}{h:Hd}{k:Nat}(h0:w.cell? (x.add (k*6))=some (.int .i64 n.kind))(h1:w.cell? (x.add (k*6+1))=some (.string n.data))(h2:w.cell? (x.add (k*6+2))=some (.slice h.A n.ptrs.length h.a))(h3:w.cell? (x.add (k*6+3))=some (.int .i64 n.size))(h4:w.cell? (x.add (k*6+4))=some (.int .i64 n.count))(h5:w.cell? (x.add (k*6+5))=some (.slice h.B n.items.length h.b)):NdCell w (x.add (k*6)) n h :=
 ⟨h0,by rw[z33 _ _ 1 (by decide)]; exact h1,by rw[z33 _ _ 2 (by decide)]; exact h2,by rw[z33 _ _ 3 (by decide)]; exact h3,by rw[z33 _ _ 4 (by decide)]; exact h4,by rw[z33 _ _ 5 (by decide)]; exact h5⟩
theorem zpo {w:World}{x:Addr}{q:List (Nd×Hd)}(h:∀k r,q[k]? =some r→NdCell w (x.add (k*6)) r.1 r.2):∀j u,(rowOf q)[j]? =some u→w.cell? (x.add j)=some u:=by
 intro j u hj
 have hlt:j<(rowOf q).length:=by
  rcases Nat.lt_or_ge j (rowOf q).length with h' | h'
  · exact h'
  · rw[List.getElem?_eq_none h'] at hj; cases hj
 rw[z35] at hlt
 have hk:j/6<q.length:=by omega
 obtain ⟨a0,a1,a2,a3,a4,a5⟩:=zc6 q (j/6) q[j/6] (List.getElem?_eq_getElem hk);obtain ⟨b0,b1,b2,b3,b4,b5⟩:=h (j/6) q[j/6] (List.getElem?_eq_getElem hk);rw[z33 _ _ 1 (by decide)] at b1;rw[z33 _ _ 2 (by decide)] at b2;rw[z33 _ _ 3 (by decide)] at b3;rw[z33 _ _ 4 (by decide)] at b4;rw[z33 _ _ 5 (by decide)] at b5
 have hcase:j=j/6*6∨j=j/6*6+1∨j=j/6*6+2∨j=j/6*6+3∨j=j/6*6+4∨j=j/6*6+5:=by omega
 generalize j/6*6=z at *
 rcases hcase with e | e | e | e | e | e <;> subst e
 · rw[a0] at hj; cases hj; exact b0
 · rw[a1] at hj; cases hj; exact b1
 · rw[a2] at hj; cases hj; exact b2
 · rw[a3] at hj; cases hj; exact b3
 · rw[a4] at hj; cases hj; exact b4
 · rw[a5] at hj; cases hj; exact b5
theorem z8i {w:World}{x:Addr}{q:List (Nd×Hd)}(h:∀j u,(rowOf q)[j]? =some u→w.cell? (x.add j)=some u):∀k r,q[k]? =some r→NdCell w (x.add (k*6)) r.1 r.2:=by
 intro k r hk
 obtain ⟨a0,a1,a2,a3,a4,a5⟩:=zc6 q k r hk;exact zds (h _ _ a0) (h _ _ a1) (h _ _ a2) (h _ _ a3) (h _ _ a4) (h _ _ a5)
theorem zbo {w:World}{S:Nat→Prop}{R T m:Nat}{v:Value}{q:List (Nd×Hd)}(h:w.ownsRow R T 6 v q.length (rowOf q))(hS:∀k,R≤k→S k)(hq:q.length≤maxLen)(hr:∀r∈q,NdAt w S m r.1 r.2):∃A cap,v= .slice A q.length cap∧NdsAt w S (m+1) A (q.map (·.1)):=by
 rcases h.2 with ⟨rfl,h0⟩ | ⟨g,cap,cur,rfl,hR,hg,_⟩
 · obtain rfl:q= []:=List.eq_nil_of_length_eq_zero h0
   exact ⟨none,0,rfl,NdsAt.nil _ _ _ _⟩
 · exact ⟨_,cap,rfl,by simpa using hq,q,rfl,.inr ⟨_,rfl,hS _ hR,z8i (fun j u hj=>h.cells (g:=g) rfl j u hj)⟩,hr⟩
theorem zj0 {w:World}{S:Nat→Prop}{g T m:Nat}{arr:Array Value}{q:List (Nd×Hd)}(h:w.heap[g]? =some (.cells arr T (0,0)))(hS:S g)(hq:q.length≤maxLen)(ha:∀(j:Nat) (u:Value),(rowOf q)[j]? =some u→arr[j]? =some u)(hr:∀r∈q,NdAt w S m r.1 r.2):NdsAt w S (m+1) (some ⟨g,0,none⟩) (q.map (·.1)) :=
 ⟨by simpa using hq,q,rfl,.inr ⟨_,rfl,hS,z8i (fun j u hj=>by
  have:(⟨g,0,none⟩:Addr).add j=⟨g,j,none⟩:=by unfold Addr.add; split <;> simp_all
  rw[this,cell_of_row _ _ _ _ _ _ h]; exact ha j u hj)⟩,hr⟩
theorem NdsAt.pairs {w:World}{S:Nat→Prop}{m:Nat}{A:Option Addr}{l:List Nd}(h:NdsAt w S (m+1) A l):∃q:List (Nd×Hd),q.map (·.1)=l∧(∀r∈q,NdAt w S m r.1 r.2)∧(q= []∨∃x,A=some x∧∀j u,(rowOf q)[j]? =some u→w.cell? (x.add j)=some u):=by
 obtain ⟨_,q,hq,hc,hr⟩:=h;exact ⟨q,hq,hr,hc.imp id (fun ⟨x,hx,_,hk⟩=>⟨x,hx,zpo hk⟩)⟩
section
variable {H:Type} {enc:TypeId×Value→H} {w:World} {base:Nat} {spare:Nat→Bool} {held:Bool}
end
end Go.Proofs.YtlbfffokkhccaaaGreatDoor
namespace Go.Proofs.YtlbfffokkhccaaaGreatDoor
open Go.RowKit
theorem z01 {w:World}{g:Nat}{v0 v1 v2 v3 v4 v5:Value}{T:TypeId}(h:w.heap[g]? =some (.cells #[v0,v1,v2,v3,v4,v5] T (0,0))) :
 w.cell? ⟨g,0,none⟩=some v0∧w.cell? ⟨g,1,none⟩=some v1∧w.cell? ⟨g,2,none⟩=some v2∧w.cell? ⟨g,3,none⟩=some v3∧w.cell? ⟨g,4,none⟩=some v4∧w.cell? ⟨g,5,none⟩=some v5:=by
 refine ⟨?_,?_,?_,?_,?_,?_⟩ <;> (rw[cell_of_row _ _ _ _ _ _ h]; rfl)
def totL:Nat→List Nd→Nat
 | 0,_=>0
 | m+1,l=>(l.map fun n=>1+(n.data.size+totL m n.ptrs+totL m n.items)).sum
def totN (m:Nat)(n:Nd):Nat:=n.data.size+totL m n.ptrs+totL m n.items
theorem z0q (m:Nat)(l:List Nd):totL (m+1) l=(l.map fun n=>1+totN m n).sum:=rfl
theorem z0w (l:List Nd)(f:Nd→Nat)(k:Nat)(h:k<l.length):((l.take (k+1)).map f).sum=((l.take k).map f).sum+f l[k]:=by
 rw[List.take_succ_eq_append_getElem h,List.map_append,List.sum_append]; simp
theorem z18 (l:List Nd)(f:Nd→Nat)(k:Nat):((l.take k).map f).sum≤(l.map f).sum:=by
 conv=>rhs; rw[← List.take_append_drop k l,List.map_append,List.sum_append]
 omega
theorem zrr (l:List Nd)(f:Nd→Nat):(l.map fun n=>1+f n).sum=l.length+(l.map f).sum:=by
 induction l with
 | nil=>rfl
 | cons a t ih=>simp only[List.map_cons,List.sum_cons,List.length_cons,ih]; omega
theorem z1y {m:Nat}{l:List Nd}{k:Nat}(h:k<l.length):1+totN m l[k]≤totL (m+1) l:=by
 have h1:=z0w l (fun n=>1+totN m n) k h;have h2:=z18 l (fun n=>1+totN m n) (k+1);rw[z0q];omega
theorem zd7 (m:Nat)(l:List Nd):l.length≤totL (m+1) l:=by
 rw[z0q,zrr]; omega
abbrev nodeT:TypeId:=25
abbrev z2d:TypeId:=23
theorem z63:(Tryz.prog.info? nodeT).map (fun i=>(i.zero,i.size,i.bytes))=some (some (.agg #[.int .i64 0,.string ByteArray.empty,.slice none 0 0,.int .i64 0,.int .i64 0,.slice none 0 0]),6,88):=by kernel_rfl
theorem z08 {w:World}{g:Nat}{cs:Array Value}{T:TypeId}(h:w.heap[g]? =some (.cells cs T (0,0)))(i:Nat)(u:Value):(w.setCell ⟨g,i,none⟩ u).heap[g]? =some (.cells (cs.setIfInBounds i u) T (0,0)):=by
 simp[World.setCell,Array.getElem?_modify,h]
theorem z1r (g j:Nat):(⟨g,0,none⟩:Addr).add j=⟨g,j,none⟩:=by
 unfold Addr.add
 split
 · rename_i h; rw[h]
 · simp
structure Upon (B:Nat) (w w':World):Prop where
 size:w.heap.size≤w'.heap.size
 block:∀k,B≤k→k<w.heap.size→w'.heap[k]? =w.heap[k]?
theorem Upon.refl (B:Nat)(w:World):Upon B w w:=⟨Nat.le_refl _,fun _ _ _=>rfl⟩
theorem Upon.setCell {B:Nat}{a w:World}(h:Upon B a w){p:Addr}(hp:p.block<B)(u:Value):Upon B a (w.setCell p u) :=
 ⟨by simpa [World.setCell] using h.size,fun k hk hl=>(Below.heap_setCell w p u k (by omega)).trans (h.block k hk hl)⟩
theorem NdsAt.upon {w w':World}{B m:Nat}{A:Option Addr}{l:List Nd}(h:NdsAt w (From B) m A l)(hu:Upon B w w'):NdsAt w' (From B) m A l :=
 NdsAt.map (fun _ h=>h) (fun _p _ _ hs hc=>hc.block (hu.block _ hs hc.lt)) _ _ _ h
theorem NdAt.upon {w w':World}{B m:Nat}{n:Nd}{h:Hd}(hn:NdAt w (From B) m n h)(hu:Upon B w w'):NdAt w' (From B) m n h:=⟨hn.1,hn.2.1.upon hu,hn.2.2.upon hu⟩
theorem NdAt.from_ {w:World}{B B' m:Nat}{n:Nd}{h:Hd}(hn:NdAt w (From B) m n h)(hB:B'≤B):NdAt w (From B') m n h:=hn.weak (fun _ hk=>Nat.le_trans hB hk)
theorem z12 {w:World}{S:Nat→Prop}{m:Nat}{A:Option Addr}{l:List Nd}(h:NdsAt w S m A l)(ht:totL m l≤2000000):l.length≤2000000:=by
 cases m with
 | zero=>rw[h.zero]; decide
 | succ m=>exact Nat.le_trans (zd7 m l) ht
def noneB (d:ByteArray)(lp:Nat)(s c:Int)(li:Nat):Bool:=d.size==0&&lp==0&&s==0&&c==0&&li==0
theorem zgf (d:ByteArray)(i:Nat)(r:List UInt8):(ByteArray.toList.loop d i r).length=r.length+(d.size-i):=by
 fun_induction ByteArray.toList.loop d i r with
 | case1 i r h ih=>rw[ih]; simp only[List.length_cons]; omega
 | case2 i r h=>simp only[List.length_reverse]; omega
theorem z1p (d:ByteArray):d.toList.isEmpty=(d.size==0):=by
 have h:=zgf d 0 []
 simp only[List.length_nil] at h
 unfold ByteArray.toList;rw[Bool.eq_iff_iff,List.isEmpty_iff,← List.length_eq_zero_iff,h]
 simp
theorem z6j (k s c:Int)(d:ByteArray)(A B:Option Addr)(lp cp li ci:Nat)(w:World) :
 Calls Tryz.prog 157 #[.agg #[.int .i64 k,.string d,.slice A lp cp,.int .i64 s,.int .i64 c,.slice B li ci]] w fun e w'=>e= .returned (.bool (noneB d lp s c li))∧Below w.heap.size w w':=by
 have HE:=z1p d;have HD:Hid (noneB d lp s c li=decide (d.size=0∧lp=0∧s=0∧c=0∧li=0)):=hid (by rw[Bool.eq_iff_iff]; simp[noneB,and_assoc]);go_enter Tryz.func157,Tryz.ntmps157;go_wp2
 all_goals go_ret
 all_goals refine ⟨z0j ?_,(Below.refl _ _).alloc (Nat.le_refl _) _⟩
 all_goals (rw[HD.out,Bool.eq_iff_iff]; simp_all)
def z1z (k:Int)(d:ByteArray)(s c:Int)(li:Nat):Bool:=decide (k=1∧(d.size:Int)%8=0∧s=0∧c=0∧li=0)
theorem z7x (k s c:Int)(d:ByteArray)(A B:Option Addr)(lp cp li ci:Nat)(w:World) :
 Calls Tryz.prog 158 #[.agg #[.int .i64 k,.string d,.slice A lp cp,.int .i64 s,.int .i64 c,.slice B li ci]] w fun e w'=>e= .returned (.bool (z1z k d s c li))∧Below w.heap.size w w':=by
 have HD:Hid (noneB ByteArray.empty 0 s c li=decide (s=0∧c=0∧li=0)):=hid (by rw[Bool.eq_iff_iff]; simp[noneB,and_assoc]);have HS:Hid (z1z k d s c li=(decide (k=1)&&(decide ((d.size:Int)%8=0)&&noneB ByteArray.empty 0 s c li))):=hid (by rw[HD.out,Bool.eq_iff_iff]; simp[z1z]);clear HD
 by_cases hk:k=1
 all_goals
  by_cases h8:(d.size:Int)%8=0
  all_goals
   go_enter Tryz.func158,Tryz.ntmps158
   go_wp2_with (go_at_call 157; go_must (refine (z6j _ _ _ _ _ _ _ _ _ _ _).mono ?_); rintro e w2 ⟨rfl,hb2⟩)
   go_ret;refine ⟨z0j (by rw[HS.out]; simp[hk,h8] <;> rfl),?_⟩
   first
   | exact (((Below.refl _ w).alloc (Nat.le_refl _) _).alloc (by simp) _).trans (hb2.mono (by simp; omega))
   | exact ((Below.refl _ w).alloc (Nat.le_refl _) _).alloc (by simp) _
theorem z7y (k s c:Int)(d:ByteArray)(A B:Option Addr)(lp cp li ci:Nat)(w:World) :
 Calls Tryz.prog 122 #[.agg #[.int .i64 k,.string d,.slice A lp cp,.int .i64 s,.int .i64 c,.slice B li ci]] w fun e w'=>e= .returned (.bool (z1z k d s c li))∧Below w.heap.size w w':=by
 have HS:Hid (z1z k d s c li=decide (k=1∧(d.size:Int)%8=0∧s=0∧c=0∧li=0)):=hid rfl;go_enter Tryz.func122,Tryz.ntmps122;go_wp2
 all_goals go_ret
 all_goals refine ⟨z0j ?_,(Below.refl _ _).alloc (Nat.le_refl _) _⟩
 all_goals (rw[HS.out,Bool.eq_iff_iff]; simp_all)
def wd (l:List UInt8):Array Value:=(Lib.byteCells l).toArray
theorem z44 (l:List UInt8):(wd l).size=l.length:=by simp[wd,Lib.byteCells_length]
theorem len8 {l:List UInt8}(h:l.length=8):∃a b c d e f g i,l= [a,b,c,d,e,f,g,i]:=by
 match l,h with
 | [a,b,c,d,e,f,g,i],_=>exact ⟨a,b,c,d,e,f,g,i,rfl⟩
theorem wd8 (a b c d e f g i:UInt8):wd [a,b,c,d,e,f,g,i]= #[.int .u8 a.toNat,.int .u8 b.toNat,.int .u8 c.toNat,.int .u8 d.toNat,.int .u8 e.toNat,.int .u8 f.toNat,.int .u8 g.toNat,.int .u8 i.toNat]:=rfl
theorem z74 {P:Program}(w:World)(dT sT ty elem:TypeId)(g dCap:Nat)(s:ByteArray)(cur:Array Value)(t:TypeId)
 (hu:P.underlying dT=some (.slice elem)) (hs:(P.info? elem).map (·.size)=some 1) (hg:w.heap[g]? =some (.cells cur t (0,0))) (hle:cur.size≤s.size) :
 (Builtin.copy_ #[dT,sT] ty #[.slice (some ⟨g,0,none⟩) cur.size dCap,.string s]).run P w =
  .ok (goInt cur.size) (w.setRow g (wd (s.data.toList.take cur.size))):=by
 have hlen:(Lib.byteCells (s.data.toList.take cur.size)).length=cur.size:=by
  rw[Lib.byteCells_length,List.length_take,← Lib.size_eq]; omega
 have hst:=run_storeCells_at P g 0 t (Lib.byteCells (s.data.toList.take cur.size)) 0 cur w hg (by rw[hlen]; simp) (Lib.byteCells_one _);have hmin:Nat.min s.size cur.size=cur.size:=Nat.min_eq_right hle
 have htk:List.take cur.size (List.map (fun b:UInt8=>Value.int IntKind.u8 (b.toNat:Int)) s.data.toList)=Lib.byteCells (s.data.toList.take cur.size):=by
  rw[Lib.byteCells,List.map_take]
 rw[hlen] at hst;have hd:List.drop cur.size cur.toList= []:=List.drop_of_length_le (by simp)
 simp only[Nat.add_zero,Nat.zero_add,List.take_zero,List.nil_append,hd,List.append_nil] at hst
 cases hq:P.info? elem with
 | none=>simp[hq] at hs
 | some i =>
  simp[Builtin.copy_,run_underlying hu,Builtin.lenOf,Builtin.firstCells,sizeOf,typeInfo,hq,hmin]
  simp only[← List.map_take] at hst ⊢
  rw[show List.map (fun b:UInt8=>Value.int IntKind.u8 (b.toNat:Int)) (List.take cur.size s.data.toList)=Lib.byteCells (s.data.toList.take cur.size) from rfl,hst]
  simp[Result.andThen,wd]
theorem z6b {P:Program}{ops:Array Oper}{o:Oper}{a:Act}{w:World}{K:Act→World→Prop}{Q:Exit→Act→World→Prop}{E:Prop}(hgd:o.guard=none)(d s:Operand)(dT sT:TypeId)
 (ho:o.op= .call { callee:= .builtin .copy,args:= #[d,s],argTypes:= #[dT,sT] }) (elem:TypeId) (hu:P.underlying dT=some (.slice elem)) (hsz:(P.info? elem).map (·.size)=some 1)
 (g dCap n:Nat) (S:ByteArray) (cur:Array Value) (t:TypeId) (hn:cur.size=n) (hd:a.eval d= .slice (some ⟨g,0,none⟩) n dCap) (hs:a.eval s= .string S)
 (hg:w.heap[g]? =some (.cells cur t (0,0))) (hle:n≤S.size)
 (h:∀w',Hid (w'.heap[g]? =some (.cells (wd (S.data.toList.take n)) t (0,0)))→Hid (w.grownBy w' (some g))→K (a.put o.dst (goInt n)) w') :
 if Region.wanted o (yielded ops a.tmps)=true then Oper.wp P o a w K Q else E:=by
 subst hn
 have hw:Region.wanted o (yielded ops a.tmps)=true:=by simp[Region.wanted,hgd]
 rw[if_pos hw];have hrun:=z74 (P:=P) w dT sT o.type elem g dCap S cur t hu hsz hg hle;unfold Oper.wp
 simp[execOp,ho,resolve,invoke,builtin,hd,hs,hrun,Result.andThen]
 exact h _ (setRow_heap w g _ _ t _ hg) ⟨rfl,rfl,rfl,by simp[World.setRow],fun k _ hk=>setRow_other w g k _ (fun e=>hk (by rw[e]))⟩
theorem zhi (l:List UInt8):(wd l).all (·.oneCell')=true:=by
 rw[Array.all_eq_true_iff_forall_mem]
 intro v hv
 exact Lib.byteCells_one l v (by simpa [wd] using hv)
theorem z3p {P:Program}{ops:Array Oper}{rest:List Oper}{o:Oper}{a:Act}{w:World}{Q:Exit→Act→World→Prop}(hgd:o.guard=none)(ty:TypeId)(x y:Operand)(ho:o.op= .store ty x y)
 (g:Nat) (l:List UInt8) (hx:a.eval x= .pointer (some ⟨g,0,none⟩)) (hy:a.eval y= .agg (wd l))
 (t:TypeId) (old:Array Value) (hg:w.heap[g]? =some (.cells old t (0,0))) (hi:(P.info? ty).map (·.size)=some l.length) (hold:old.size=l.length)
 (h:∀w',Hid (w'.heap[g]? =some (.cells (wd l) t (0,0)))→Hid (w.grownBy w' (some g))→wpList P ops Q rest (a.put o.dst undef) w'):wpList P ops Q (o :: rest) a w :=
 wpList_store_row hgd ty x y ho g (wd l) hx hy t old hg (by rw[z44]; exact hi) (by rw[z44]; exact hold) (zhi l)
  (h _ (setRow_heap w g _ _ t _ hg) ⟨rfl,rfl,rfl,by simp[World.setRow],fun k _ hk=>setRow_other w g k _ (fun e=>hk (by rw[e]))⟩)
theorem z1b {P:Program}{ops:Array Oper}{rest:List Oper}{o:Oper}{a:Act}{w:World}{Q:Exit→Act→World→Prop}(hgd:o.guard=none)(ty:TypeId)(x:Operand)(ho:o.op= .load ty x)
 (g:Nat) (hx:a.eval x= .pointer (some ⟨g,0,none⟩)) (t:TypeId) (l:List UInt8) (d:TypeDesc) (hg:w.heap[g]? =some (.cells (wd l) t (0,0)))
 (hu:P.underlying ty=some d) (hd:(match d with | .struct _ | .array _ _=>true | _=>false)=true) (hi:(P.info? ty).map (·.size)=some l.length)
 (h:wpList P ops Q rest (a.put o.dst (.agg (wd l))) w):wpList P ops Q (o :: rest) a w :=
 wpList_load_row hgd ty x ho g hx t (wd l) (0,0) d hg hu hd (by rw[z44]; exact hi) h
def leN (l:List UInt8):Nat→Nat→Nat
 | _,0=>0
 | a,k+1=>(l[a]?.getD 0).toNat+256*leN l (a+1) k
theorem zgh (l:List UInt8)(a:Nat):(l[a]?.getD 0).toNat<256:=(l[a]?.getD 0).toNat_lt
theorem zdb (l:List UInt8):∀(k a:Nat),leN l a k<256^k
 | 0,_=>by simp[leN]
 | k+1,a=>by
   have h:=zdb l k (a+1);have h2:=zgh l a
   simp only[leN,Nat.pow_succ]
   omega
theorem zsb (l:List UInt8)(k a:Nat)(h:k≤7):leN l a k<72057594037927936 :=
 Nat.lt_of_lt_of_le (zdb l k a) (Nat.le_trans (Nat.pow_le_pow_right (by decide) h) (by decide))
theorem zrk (n b:Nat)(hn:n<72057594037927936)(hb:b<256):bits .or .u64 (IntKind.u64.wrap ((n:Int)*256)) (b:Int)=((b+256*n:Nat):Int):=by
 have h:IntKind.u64.wrap ((n:Int)*256)=((n*256:Nat):Int):=by rw[IntKind.wrap_u64]; omega
 rw[h,u64_or_nat (n*256) b (by omega) (by omega),nat_join 8 (n*256) b (by omega) (by omega)];omega
theorem zmz (l:List UInt8)(a:Nat):IntKind.u64.wrap ((l[a]?.getD 0).toNat:Int)=((l[a]?.getD 0).toNat:Int):=by
 have:=zgh l a
 rw[IntKind.wrap_u64]; omega
theorem zfo (l:List UInt8)(a z k:Nat)(hk:k<z)(hz:z≤8) :
 bits .or .u64 (IntKind.u64.wrap ((leN l (a+z-k) k:Int)*256)) (IntKind.u64.wrap ((l[a+z-1-k]?.getD 0).toNat:Int))=((leN l (a+z-(k+1)) (k+1):Nat):Int):=by
 rw[zmz,zrk _ _ (zsb l k _ (by omega)) (zgh l _)]
 have e1:a+z-(k+1)=a+z-1-k:=by omega
 have e2:a+z-1-k+1=a+z-k:=by omega
 rw[e1,leN,e2]
theorem z6k (s:ByteArray)(i:Nat)(h:i<s.size):s.data.toList[i]?.getD 0=s[i]:=by
 rw[List.getElem?_eq_getElem (by simpa using h)]; rfl
theorem zqu (w:World)(l:List UInt8)(t:TypeId)(i:Nat)(h:i<l.length):(w.alloc (.cells (wd l) t)).cell? ⟨w.heap.size,i,none⟩=some (.int .u8 ((l[i]?.getD 0).toNat:Int)):=by
 rw[cell_of_row _ _ _ (wd l) t (0,0) (heap_alloc_new w _)]
 simp[wd,Lib.byteCells,h]
def leB (n:Int):Nat→List UInt8
 | 0=> []
 | k+1=>UInt8.ofNat (n%256).toNat :: leB (n/256) k
theorem z07 (n:Int)(k:Nat):(leB n k).length=k:=by
 induction k generalizing n with
 | zero=>rfl
 | succ k ih=>simp[leB,ih]
def shr8 (n:Int):Nat→Int
 | 0=>n
 | k+1=>shr8 n k/256
theorem ziv (n:Int)(k:Nat):shr8 (n/256) k=shr8 n k/256:=by
 induction k with
 | zero=>rfl
 | succ k ih=>simp[shr8,ih]
theorem zh5 (n:Int)(k:Nat):leB n (k+1)=leB n k++ [UInt8.ofNat (shr8 n k%256).toNat]:=by
 induction k generalizing n with
 | zero=>rfl
 | succ k ih=>rw[leB,ih,leB,List.cons_append,ziv,shr8]
theorem zrc (n:Int)(k:Nat)(h0:0≤n)(h1:n<18446744073709551616):0≤shr8 n k∧shr8 n k<18446744073709551616:=by
 induction k with
 | zero=>exact ⟨h0,h1⟩
 | succ k ih=>simp only[shr8]; omega
theorem z45 (m:Int):(((UInt8.ofNat (m%256).toNat).toNat:Nat):Int)=m%256:=by
 rw[UInt8.toNat_ofNat']; omega
def putL (l:List UInt8)(a:Nat)(xs:List UInt8):List UInt8:=l.take a++(xs++l.drop (a+xs.length))
theorem z96 (l:List UInt8)(a:Nat)(xs:List UInt8)(h:a+xs.length≤l.length):(putL l a xs).length=l.length:=by simp[putL]; omega
theorem zof (l:List UInt8)(a:Nat):putL l a []=l:=by simp[putL]
theorem zkz (l:List UInt8)(a:Nat)(xs:List UInt8)(b:UInt8)(h:a+xs.length<l.length):putL l a (xs++ [b])=(putL l a xs).set (a+xs.length) b:=by
 have e1:(l.take a).length=a:=by simp; omega
 rw[putL,putL,List.set_append,if_neg (by omega),e1,show a+xs.length-a=xs.length by omega,List.set_append,if_neg (by omega),Nat.sub_self,List.drop_eq_getElem_cons h]
 simp[Nat.add_assoc]
theorem zql (l:List UInt8)(i:Nat)(b:UInt8):(wd l).setIfInBounds i (.int .u8 (b.toNat:Int))=wd (l.set i b):=by
 simp[wd,Lib.byteCells,List.map_set]
theorem heap_set {w:World}{g i:Nat}{cs:Array Value}{t:TypeId}(u:Value)(h:w.heap[g]? =some (.cells cs t (0,0))):(w.setCell ⟨g,i,none⟩ u).heap[g]? =some (.cells (cs.setIfInBounds i u) t (0,0)):=by
 simp[World.setCell,Array.getElem?_modify,h]
theorem zbg {w:World}{g:Nat}{cs:Array Value}{t:TypeId}(h:w.heap[g]? =some (.cells cs t (0,0)))(i:Nat):w.frozen? ⟨g,i,none⟩=false:=by
 simp[World.frozen?,h]
theorem z8s {w:World}{g:Nat}{l:List UInt8}{t:TypeId}(h:w.heap[g]? =some (.cells (wd l) t (0,0)))(i:Nat)(hi:i<l.length):w.cell? ⟨g,i,none⟩=some (.int .u8 ((l[i]?.getD 0).toNat:Int)):=by
 rw[cell_of_row _ _ _ (wd l) t (0,0) h]
 simp[wd,Lib.byteCells,hi]
theorem ze7 {w:World}{g p i:Nat}{o:Obj}(u:Value)(hne:p≠g)(h:w.heap[p]? =some o):(w.setCell ⟨g,i,none⟩ u).heap[p]? =some o :=
 (Below.heap_setCell w ⟨g,i,none⟩ u p hne).trans h
theorem zp8 {wr:World}{g:Nat}{t:TypeId}(l:List UInt8)(a:Nat)(n:Int)(k:Nat)(hk:a+k<l.length)(h:wr.heap[g]? =some (.cells (wd (putL l a (leB n k))) t (0,0))) :
 (wr.setCell ⟨g,a+k,none⟩ (.int .u8 (shr8 n k%256))).heap[g]? =some (.cells (wd (putL l a (leB n (k+1)))) t (0,0)):=by
 rw[heap_set _ h,zh5,zkz _ _ _ _ (by rw[z07]; exact hk),z07,← zql,z45]
theorem zge {w:World}{g:Nat}{o:Obj}(h:w.heap[g]? =some o):g<w.heap.size:=by
 rcases Nat.lt_or_ge g w.heap.size with hlt | hge
 · exact hlt
 · rw[Array.getElem?_eq_none hge] at h; cases h
theorem z05 {w:World}{g:Nat}{o:Obj}(h:w.heap[g]? =some o)(x:Obj):(w.alloc x).heap[g]? =some o:=(Below.heap_alloc w x g (zge h)).trans h
theorem zo3 (g j:Nat):(⟨g,0,none⟩:Addr).add j=⟨g,j,none⟩:=by unfold Addr.add; split <;> simp_all
theorem z5k {P:Program}(w:World)(src dst e:TypeId)(g cap n:Nat)(l:List UInt8)(hn:l.length=n)(hs:P.underlying src=some (.slice e))(he:P.underlying e=some (.int .u8))(hd:P.underlying dst=some .string)
 {t:TypeId} {fr:Nat×Nat} {cs:Array Value} (hg:w.heap[g]? =some (.cells cs t fr)) (hc:cs.toList.take n=Lib.byteCells l) :
 (convert src dst (.slice (some ⟨g,0,none⟩) n cap)).run P w= .ok (.string ⟨l.toArray⟩) w:=by
 subst hn
 refine run_convert_bytes_back w src dst e ⟨g,0,none⟩ cap l hs he hd fun j hj=>?_
 rw[zo3,cell_of_row _ _ _ cs t fr hg];have h:=congrArg (fun x:List Value=>x[j]?) hc
 simp only[List.getElem?_take_of_lt hj,Array.getElem?_toList] at h
 rw[h]
 simp[Lib.byteCells,hj]
theorem zg4 {P:Program}(w:World)(src dst e:TypeId)(hs:P.underlying src=some (.slice e))(he:P.underlying e=some (.int .u8))(hd:P.underlying dst=some .string) :
 (convert src dst (.slice none 0 0)).run P w= .ok (.string ⟨#[]⟩) w:=by
 rw[run_convert_bytes_string w src dst e none 0 0 hs he hd]
 rfl
theorem zfp {P:Program}(w:World)(src dst e:TypeId)(base n:Nat)(l:List UInt8)(v:Value)(hn:l.length=n)(hs:P.underlying src=some (.slice e))(he:P.underlying e=some (.int .u8))(hd:P.underlying dst=some .string)
 (hown:w.ownsRow base e 1 v n (Lib.byteCells l)):(convert src dst v).run P w= .ok (.string ⟨l.toArray⟩) w:=by
 rcases hown.2 with ⟨rfl,rfl⟩ | ⟨g,cap,cur,rfl,_,hg,_,_,_,htk⟩
 · obtain rfl:l= []:=List.eq_nil_of_length_eq_zero hn
   exact zg4 w src dst e hs he hd
 · exact z5k w src dst e g cap n l hn hs he hd hg (by simpa using htk)
theorem z9k (l:List UInt8)(b:UInt8):Lib.byteCells l++ [Value.int .u8 (b.toNat:Int)]=Lib.byteCells (l++ [b]):=by simp[Lib.byteCells]
theorem z3y {B:Nat}{w0 w w1:World}{x:Obj}{e:TypeId}{size n:Nat}{v:Value}{xs:List Value}(hb:Below B w0 w)(hB:B≤w.heap.size)(hown:w.ownsRow B e size v n xs)(hg:(w.alloc x).grownBy w1 v.ownBlock):Below B w0 w1 :=
 (hb.alloc hB x).grown hg (by simp; omega) (fun k hk=>(hown.lt k hk).1)
theorem z5x (a:Nat)(ha:a<9223372036854775808):(BitVec.ofInt 64 (a:Int)).toNat=a:=ofInt_u64 a (by omega)
theorem zoy (b r:Nat):(b:Int)/2^r=((b/2^r:Nat):Int):=by
 rw[Int.natCast_ediv,Int.natCast_pow]; rfl
theorem z61 {a b:ByteArray}(h:a.data.toList=b.data.toList):a=b:=by
 cases a; cases b; simp at h; simp[h]
def wiB (n b:Int):Bool:=decide (0≤n∧n<b)
theorem z0v (n b:Int)(w:World) :
 Calls Tryz.prog 43 #[.int .i64 n,.int .i64 b] w fun e w'=>e= .returned (.bool (wiB n b))∧w=w':=by
 by_cases h1:0≤n
 all_goals
  go_enter Tryz.func43,Tryz.ntmps43;go_wp2
  all_goals go_ret
  all_goals refine ⟨z0j ?_,rfl⟩
  all_goals (simp[wiB]; try omega)
def bz (n:Int):Int:=if n=1 then 1 else if n=2 then 8 else if n=3 then 16 else if n=4 then 32 else if n=5 then 64 else if n=6 then 64 else 0
theorem bz_le (n:Int):0≤bz n∧bz n≤64:=by
 unfold bz
 repeat' split
 all_goals omega
theorem z32 (n:Int)(w:World)(h0:0≤n)(h1:n≤6) :
 Calls Tryz.prog 170 #[.int .i64 n] w fun e w'=>e= .returned (.int .i64 (bz n))∧w=w':=by
 have h:n=0∨n=1∨n=2∨n=3∨n=4∨n=5∨n=6:=by omega
 rcases h with rfl | rfl | rfl | rfl | rfl | rfl | rfl
 all_goals
  go_enter Tryz.func170,Tryz.ntmps170;go_wp2;go_ret;exact ⟨z2n (by decide),rfl⟩
theorem zov (n:Int)(w:World)(h0:0≤n)(h1:n≤6) :
 Calls Tryz.prog 195 #[.int .i64 n] w fun e w'=>e= .returned (.int .i64 (bz n))∧Below w.heap.size w w':=by
 have h:n=0∨n=1∨n=2∨n=3∨n=4∨n=5∨n=6:=by omega
 rcases h with rfl | rfl | rfl | rfl | rfl | rfl | rfl
 all_goals
  go_enter Tryz.func195,Tryz.ntmps195;go_wp2;go_ret;exact ⟨z2n (by decide),(Below.refl _ _).alloc (Nat.le_refl _) _⟩
def byteZ (s c:Int):Int:=(bz s*c+7)/8
theorem zdx (s c:Int)(w:World)(h0:0≤s)(h1:s≤6)(h2:0≤c)(h3:c≤12800) :
 Calls Tryz.prog 185 #[.int .i64 s,.int .i64 c] w fun e w'=>e= .returned (.int .i64 (byteZ s c))∧Below w.heap.size w w':=by
 have hb:=bz_le s;have HE:Hid (byteZ s c=(bz s*c+7)/8):=hid rfl
 have hm:0≤bz s*c∧bz s*c≤819200:=⟨Int.mul_nonneg hb.1 h2,by
  have:=Int.mul_le_mul hb.2 h3 h2 (by omega)
  omega⟩
 generalize hz:bz s=z at *;generalize hp:z*c=p at *;have HP:=hid hp;clear hp;go_enter Tryz.func185,Tryz.ntmps185
 go_wp2_with (go_at_call 195; go_must (refine (zov _ _ h0 h1).mono ?_); rintro e w1 ⟨rfl,hb1⟩; rw[hz]; have hpp:=HP.out)
 go_ret;exact ⟨by rw[HE.out]; rfl,hb1⟩
def lastN (d:ByteArray):Nat:=if h:d.size-1<d.size then (d[d.size-1]).toNat else 0
def cutD (d:ByteArray)(b:Int):ByteArray:=if b%8=0 then d else d.extract 0 (d.size-1)++⟨#[UInt8.ofNat (lastN d%2^(b%8).toNat)]⟩
def bitsB (d:ByteArray)(b:Int):Bool:=decide ((d.size:Int)=(b+7)/8)&&(decide (b%8=0)||decide (lastN d<2^(b%8).toNat))
theorem z40 (c:Nat)(hc:c<256)(W:World):(convert 22 9 (.slice (some ⟨W.heap.size,0,none⟩) 1 1)).run Tryz.prog (W.alloc (.cells #[.int .u8 (c:Int)] 5))= .ok (.string ⟨#[UInt8.ofNat c]⟩) (W.alloc (.cells #[.int .u8 (c:Int)] 5)):=by
 refine z5k _ _ _ 5 W.heap.size 1 1 [UInt8.ofNat c] rfl Tryz.underlying22 Tryz.underlying5 Tryz.underlying9 (heap_alloc_new W _) ?_
 have:(UInt8.ofNat c).toNat=c:=by rw[UInt8.toNat_ofNat']; omega
 simp[Lib.byteCells]; omega
theorem zck {d:ByteArray}{j:Nat}(h:d.size=j+1)(hj:j<d.size):lastN d=(d[j]).toNat:=by
 unfold lastN;rw[dif_pos (by omega)]
 congr 2
 omega
theorem zhl:∀x:Nat,x<256→bits BinOp.and IntKind.u8 (x:Int) 1=((x%2:Nat):Int):=by decide +kernel
theorem zh4:∀x:Nat,x<256→bits BinOp.and IntKind.u8 (x:Int) 3=((x%4:Nat):Int):=by decide +kernel
theorem zhm:∀x:Nat,x<256→bits BinOp.and IntKind.u8 (x:Int) 7=((x%8:Nat):Int):=by decide +kernel
theorem zhd:∀x:Nat,x<256→bits BinOp.and IntKind.u8 (x:Int) 15=((x%16:Nat):Int):=by decide +kernel
theorem zi7:∀x:Nat,x<256→bits BinOp.and IntKind.u8 (x:Int) 31=((x%32:Nat):Int):=by decide +kernel
theorem zhf:∀x:Nat,x<256→bits BinOp.and IntKind.u8 (x:Int) 63=((x%64:Nat):Int):=by decide +kernel
theorem zgr:∀x:Nat,x<256→bits BinOp.and IntKind.u8 (x:Int) 127=((x%128:Nat):Int):=by decide +kernel
theorem zev (d:ByteArray)(b:Int)(w:World)(h0:0≤b)(h1:b≤10000000)(_hd:d.size≤maxLen)(hs:(d.size:Int)=(b+7)/8) :
 Calls Tryz.prog 171 #[.string d,.int .i64 b] w fun e w'=>e= .returned (.string (cutD d b))∧Below w.heap.size w w':=by
 by_cases h8:b%8=0
 · have HE:Hid (cutD d b=d):=hid (by rw[cutD,if_pos h8])
   go_enter Tryz.func171,Tryz.ntmps171;go_wp2;go_ret;exact ⟨by rw[HE.out]; rfl,Below.refl _ _⟩
 · obtain ⟨j,hj⟩:∃j,d.size=j+1:=⟨d.size-1,by omega⟩
   have hlt:j<d.size:=by omega
   have HS:=hid hs
   have hk:b%8=1∨b%8=2∨b%8=3∨b%8=4∨b%8=5∨b%8=6∨b%8=7:=by omega
   have hjm:j≤10000000:=by omega
   have hle:(j:Int)≤(d.size:Int):=by omega
   have hln:(d.size:Int)-1=(j:Int):=by omega
   have HJ:=hid hj;clear hs h8 _hd hj;have hx:(d[j]).toNat<256:=(d[j]).toNat_lt;have HL:=hid (zck HJ.out hlt)
   rcases hk with hk | hk | hk | hk | hk | hk | hk
   · have hand:=zhl (d[j]).toNat hx
     have hq:(d[j]).toNat%2<256:=by omega
     have HE:Hid (cutD d b=d.extract 0 j++⟨#[UInt8.ofNat ((d[j]).toNat%2)]⟩):=hid (by rw[cutD,if_neg (by omega),HL.out,hk,show d.size-1=j by have:=HJ.out; omega]; rfl);generalize (d[j]).toNat%2=q at hand hq HE;have hcv:(convert 22 9 (.slice (some ⟨w.heap.size,0,none⟩) 1 1)).run Tryz.prog (w.alloc (.cells #[.int .u8 (q:Int)] 5)).drew= .ok (.string ⟨#[UInt8.ofNat q]⟩) (w.alloc (.cells #[.int .u8 (q:Int)] 5)).drew:=z40 q hq w.drew;go_enter Tryz.func171,Tryz.ntmps171;go_wp2
     go_region
     go_wp2;go_ret;exact ⟨by rw[HE.out]; rfl,((Below.refl _ w).alloc (Nat.le_refl _) _).drew⟩
   · have hand:=zh4 (d[j]).toNat hx
     have hq:(d[j]).toNat%4<256:=by omega
     have HE:Hid (cutD d b=d.extract 0 j++⟨#[UInt8.ofNat ((d[j]).toNat%4)]⟩):=hid (by rw[cutD,if_neg (by omega),HL.out,hk,show d.size-1=j by have:=HJ.out; omega]; rfl);generalize (d[j]).toNat%4=q at hand hq HE;have hcv:(convert 22 9 (.slice (some ⟨w.heap.size,0,none⟩) 1 1)).run Tryz.prog (w.alloc (.cells #[.int .u8 (q:Int)] 5)).drew= .ok (.string ⟨#[UInt8.ofNat q]⟩) (w.alloc (.cells #[.int .u8 (q:Int)] 5)).drew:=z40 q hq w.drew;go_enter Tryz.func171,Tryz.ntmps171;go_wp2
     go_region
     go_wp2;go_ret;exact ⟨by rw[HE.out]; rfl,((Below.refl _ w).alloc (Nat.le_refl _) _).drew⟩
   · have hand:=zhm (d[j]).toNat hx
     have hq:(d[j]).toNat%8<256:=by omega
     have HE:Hid (cutD d b=d.extract 0 j++⟨#[UInt8.ofNat ((d[j]).toNat%8)]⟩):=hid (by rw[cutD,if_neg (by omega),HL.out,hk,show d.size-1=j by have:=HJ.out; omega]; rfl);generalize (d[j]).toNat%8=q at hand hq HE;have hcv:(convert 22 9 (.slice (some ⟨w.heap.size,0,none⟩) 1 1)).run Tryz.prog (w.alloc (.cells #[.int .u8 (q:Int)] 5)).drew= .ok (.string ⟨#[UInt8.ofNat q]⟩) (w.alloc (.cells #[.int .u8 (q:Int)] 5)).drew:=z40 q hq w.drew;go_enter Tryz.func171,Tryz.ntmps171;go_wp2
     go_region
     go_wp2;go_ret;exact ⟨by rw[HE.out]; rfl,((Below.refl _ w).alloc (Nat.le_refl _) _).drew⟩
   · have hand:=zhd (d[j]).toNat hx
     have hq:(d[j]).toNat%16<256:=by omega
     have HE:Hid (cutD d b=d.extract 0 j++⟨#[UInt8.ofNat ((d[j]).toNat%16)]⟩):=hid (by rw[cutD,if_neg (by omega),HL.out,hk,show d.size-1=j by have:=HJ.out; omega]; rfl);generalize (d[j]).toNat%16=q at hand hq HE;have hcv:(convert 22 9 (.slice (some ⟨w.heap.size,0,none⟩) 1 1)).run Tryz.prog (w.alloc (.cells #[.int .u8 (q:Int)] 5)).drew= .ok (.string ⟨#[UInt8.ofNat q]⟩) (w.alloc (.cells #[.int .u8 (q:Int)] 5)).drew:=z40 q hq w.drew;go_enter Tryz.func171,Tryz.ntmps171;go_wp2
     go_region
     go_wp2;go_ret;exact ⟨by rw[HE.out]; rfl,((Below.refl _ w).alloc (Nat.le_refl _) _).drew⟩
   · have hand:=zi7 (d[j]).toNat hx
     have hq:(d[j]).toNat%32<256:=by omega
     have HE:Hid (cutD d b=d.extract 0 j++⟨#[UInt8.ofNat ((d[j]).toNat%32)]⟩):=hid (by rw[cutD,if_neg (by omega),HL.out,hk,show d.size-1=j by have:=HJ.out; omega]; rfl);generalize (d[j]).toNat%32=q at hand hq HE;have hcv:(convert 22 9 (.slice (some ⟨w.heap.size,0,none⟩) 1 1)).run Tryz.prog (w.alloc (.cells #[.int .u8 (q:Int)] 5)).drew= .ok (.string ⟨#[UInt8.ofNat q]⟩) (w.alloc (.cells #[.int .u8 (q:Int)] 5)).drew:=z40 q hq w.drew;go_enter Tryz.func171,Tryz.ntmps171;go_wp2
     go_region
     go_wp2;go_ret;exact ⟨by rw[HE.out]; rfl,((Below.refl _ w).alloc (Nat.le_refl _) _).drew⟩
   · have hand:=zhf (d[j]).toNat hx
     have hq:(d[j]).toNat%64<256:=by omega
     have HE:Hid (cutD d b=d.extract 0 j++⟨#[UInt8.ofNat ((d[j]).toNat%64)]⟩):=hid (by rw[cutD,if_neg (by omega),HL.out,hk,show d.size-1=j by have:=HJ.out; omega]; rfl);generalize (d[j]).toNat%64=q at hand hq HE;have hcv:(convert 22 9 (.slice (some ⟨w.heap.size,0,none⟩) 1 1)).run Tryz.prog (w.alloc (.cells #[.int .u8 (q:Int)] 5)).drew= .ok (.string ⟨#[UInt8.ofNat q]⟩) (w.alloc (.cells #[.int .u8 (q:Int)] 5)).drew:=z40 q hq w.drew;go_enter Tryz.func171,Tryz.ntmps171;go_wp2
     go_region
     go_wp2;go_ret;exact ⟨by rw[HE.out]; rfl,((Below.refl _ w).alloc (Nat.le_refl _) _).drew⟩
   · have hand:=zgr (d[j]).toNat hx
     have hq:(d[j]).toNat%128<256:=by omega
     have HE:Hid (cutD d b=d.extract 0 j++⟨#[UInt8.ofNat ((d[j]).toNat%128)]⟩):=hid (by rw[cutD,if_neg (by omega),HL.out,hk,show d.size-1=j by have:=HJ.out; omega]; rfl);generalize (d[j]).toNat%128=q at hand hq HE;have hcv:(convert 22 9 (.slice (some ⟨w.heap.size,0,none⟩) 1 1)).run Tryz.prog (w.alloc (.cells #[.int .u8 (q:Int)] 5)).drew= .ok (.string ⟨#[UInt8.ofNat q]⟩) (w.alloc (.cells #[.int .u8 (q:Int)] 5)).drew:=z40 q hq w.drew;go_enter Tryz.func171,Tryz.ntmps171;go_wp2
     go_region
     go_wp2;go_ret;exact ⟨by rw[HE.out]; rfl,((Below.refl _ w).alloc (Nat.le_refl _) _).drew⟩
theorem z1g (a b:ByteArray):(a++b).size=a.size+b.size:=by simp
theorem zm7 {d:ByteArray}{b:Int}(h0:0≤b)(hs:(d.size:Int)=(b+7)/8):(cutD d b=d)↔(b%8=0∨lastN d<2^(b%8).toNat):=by
 by_cases h8:b%8=0
 · rw[cutD,if_pos h8]; simp[h8]
 · rw[cutD,if_neg h8]
   obtain ⟨j,hj⟩:∃j,d.size=j+1:=⟨d.size-1,by omega⟩
   have hlt:j<d.size:=by omega
   have hL:=zck hj hlt;have hx:(d[j]).toNat<256:=(d[j]).toNat_lt
   have hjs:d.size-1=j:=by omega
   have hp:0<2^(b%8).toNat:=Nat.two_pow_pos _;rw[hjs,hL];generalize 2^(b%8).toNat=P at *
   have hsp:d.data.toList=(d.data.toList.take j)++ [d[j]]:=by
    have hl:d.data.toList.length=j+1:=by rw[← hj]; rfl
    have h1:d.data.toList[j]'(by omega)=d[j]:=rfl;rw[← h1,← List.take_succ_eq_append_getElem (by omega),List.take_of_length_le (by omega)]
   have hc:(d.extract 0 j++⟨#[UInt8.ofNat ((d[j]).toNat%P)]⟩=d)↔UInt8.ofNat ((d[j]).toNat%P)=d[j]:=by
    constructor
    · intro h
      have h2:(d.extract 0 j++⟨#[UInt8.ofNat ((d[j]).toNat%P)]⟩).data.toList=d.data.toList:=by rw[h]
      rw[ByteArray.toList_data_append,Lib.extract_data,hsp] at h2
      simp at h2
      exact h2.2
    · intro h
      apply Go.WideShapes.bytes_inj
      rw[h,ByteArray.toList_data_append,Lib.extract_data,hsp]
      have hl:(List.take j d.data.toList).length=j:=by
       have:d.data.toList.length=j+1:=by rw[← hj]; rfl
       rw[List.length_take]; omega
      simp[List.take_append_of_le_length (Nat.le_of_eq hl.symm),List.take_of_length_le (Nat.le_of_eq hl)]
   rw[hc]
   constructor
   · intro h
     right
     have h2:(UInt8.ofNat ((d[j]).toNat%P)).toNat=(d[j]).toNat:=by rw[h]
     rw[UInt8.toNat_ofNat'] at h2;have h3:(d[j]).toNat%P≤(d[j]).toNat:=Nat.mod_le _ _;rw[Nat.mod_eq_of_lt (by omega)] at h2;rw[← h2];exact Nat.mod_lt _ hp
   · intro h
     rcases h with h | h
     · exact absurd h h8
     · rw[Nat.mod_eq_of_lt h]
       simp
theorem zn3 (d:ByteArray)(i:Nat)(r:List UInt8):ByteArray.toList.loop d i r=r.reverse++d.data.toList.drop i:=by
 fun_induction ByteArray.toList.loop d i r with
 | case1 i r h ih =>
  have hl:i<d.data.toList.length:=h;rw[ih,List.drop_eq_getElem_cons hl,List.reverse_cons,List.append_assoc]
  congr 2
  show [d.get! i]++_=_
  have:d.get! i=d.data.toList[i]:=by
   show d.data[i]! =_
   rw[getElem!_pos d.data i h]
   rfl
  rw[this]; rfl
 | case2 i r h =>
  rw[List.drop_eq_nil_of_le (by show d.size≤i; omega),List.append_nil]
theorem toList_data (d:ByteArray):d.toList=d.data.toList:=by
 unfold ByteArray.toList
 rw[zn3]; rfl
theorem toList_eq (a b:ByteArray):(a.toList==b.toList)=decide (a=b):=by
 rw[toList_data,toList_data,Bool.eq_iff_iff]
 simp only[beq_iff_eq,decide_eq_true_eq]
 exact ⟨fun h=>Go.WideShapes.bytes_inj h,fun h=>by rw[h]⟩
theorem z5r (d:ByteArray)(b:Int)(w:World)(h0:0≤b)(h1:b≤10000000)(hd:d.size≤maxLen) :
 Calls Tryz.prog 186 #[.string d,.int .i64 b] w fun e w'=>e= .returned (.bool (bitsB d b))∧Below w.heap.size w w':=by
 by_cases hs:(d.size:Int)=(b+7)/8
 · have hq:=zm7 h0 hs
   have HC:=hid (zev d b w h0 h1 hd hs);have HE:Hid (bitsB d b=decide (b%8=0∨lastN d<2^(b%8).toNat)):=hid (by rw[Bool.eq_iff_iff]; simp[bitsB,hs]);go_enter Tryz.func186,Tryz.ntmps186
   go_wp2_with (go_at_call 171; go_must (refine HC.out.mono ?_); rintro e w1 ⟨rfl,hb1⟩)
   go_ret;refine ⟨z0j ?_,hb1⟩;rw[HE.out,toList_eq,Bool.eq_iff_iff]
   simpa using hq
 · have HE:Hid (bitsB d b=false):=hid (by simp[bitsB,hs])
   go_enter Tryz.func186,Tryz.ntmps186;go_wp2;go_ret;exact ⟨by rw[HE.out]; rfl,Below.refl _ _⟩
def itemB (n h:Nd):Bool:=z1z n.kind n.data n.size n.count n.items.length&&(decide (n.data.size=h.data.size)&&decide (n.ptrs.length=h.ptrs.length))
def z0c (l:List Nd):Bool:=l.all fun n=>itemB n (l.headD default)
theorem za8 {l:List Nd}{k:Nat}(h:k<l.length)(hh:(l.take k).all (fun n=>itemB n (l.headD default))=true)(hn:itemB l[k] (l.headD default)=true):(l.take (k+1)).all (fun n=>itemB n (l.headD default))=true:=by
 rw[List.take_succ_eq_append_getElem h,List.all_append,hh]
 simpa using hn
theorem z80 {l:List Nd}{k:Nat}(h:k<l.length)(hn:itemB l[k] (l.headD default)=false):z0c l=false:=by
 unfold z0c;rw[List.all_eq_false];exact ⟨l[k],List.getElem_mem h,by rw[hn]; decide⟩
theorem zcs {l:List Nd}(h:0<l.length):l[0]=l.headD default:=by
 cases l with
 | nil=>cases h
 | cons a t=>rfl
theorem z6r (x:Addr):x.add (0*6)=x:=by simp[Addr.add]
theorem zjm (m:Nat)(A:Option Addr)(c:Nat)(l:List Nd)(w:World)(S:Nat→Prop)(hl:NdsAt w S (m+1) A l)(hlm:l.length≤2000000) :
 Calls Tryz.prog 187 #[.slice A l.length c] w fun e w'=>e= .returned (.bool (z0c l))∧Below w.heap.size w w':=by
 have HF:=hid hl;clear hl;go_enter Tryz.func187,Tryz.ntmps187;go_wp2
 go_loopw [7] (fun i wr=>∃k:Nat,i= .int .i64 k∧k≤l.length∧Hid ((l.take k).all (fun n=>itemB n (l.headD default))=true)∧Hid (Below w.heap.size w wr)) (fun i _=>l.length-(intOf i).toNat)
 case atStart=>exact ⟨0,rfl,by omega,hid rfl,hid (Below.refl _ _)⟩
 case round =>
  obtain ⟨k,rfl,hk,HA,HB⟩:=hrel
  by_cases hlt:k<l.length
  · obtain ⟨x,hd,rfl,hc,hn⟩:=(HF.out.below HB.out).at_ hlt
    obtain ⟨x',hd0,hxx,hc0,hn0⟩:=(HF.out.below HB.out).at_ (k:=0) (by omega);obtain rfl:x=x':=Option.some.inj hxx;rw[z6r] at hc0;have HFL:=hid (fun h=>z80 hlt h);have HTR:=hid (fun h=>za8 hlt HA.out h)
    have h0l:0<l.length:=by omega
    rw[zcs h0l] at hc0;generalize l.headD default=hdn at hc0 HFL HTR;generalize l[k]=n at hc HFL HTR;have hxb:=hc0.lt;obtain ⟨c0,c1,c2,c3,c4,c5⟩:=hc;obtain ⟨-,d1,d2, -, -, -⟩:=hc0;have HI:=hid (fun W=>z7x n.kind n.size n.count n.data hd.A hd.B n.ptrs.length hd.a n.items.length hd.b W);have HBA:=hid (HB.out.alloc HB.out.size (.cells #[.int .i64 n.kind,.string n.data,.slice hd.A n.ptrs.length hd.a,.int .i64 n.size,.int .i64 n.count,.slice hd.B n.items.length hd.b] nodeT));have HR:=hid (heap_alloc_new wr (.cells #[.int .i64 n.kind,.string n.data,.slice hd.A n.ptrs.length hd.a,.int .i64 n.size,.int .i64 n.count,.slice hd.B n.items.length hd.b] nodeT));have HD1:=hid (((Below.refl wr.heap.size wr).alloc (Nat.le_refl _) (.cells #[.int .i64 n.kind,.string n.data,.slice hd.A n.ptrs.length hd.a,.int .i64 n.size,.int .i64 n.count,.slice hd.B n.items.length hd.b] nodeT)).cell (p:=⟨x.block,x.off+1,none⟩) hxb |>.trans d1);have HD2:=hid (((Below.refl wr.heap.size wr).alloc (Nat.le_refl _) (.cells #[.int .i64 n.kind,.string n.data,.slice hd.A n.ptrs.length hd.a,.int .i64 n.size,.int .i64 n.count,.slice hd.B n.items.length hd.b] nodeT)).cell (p:=⟨x.block,x.off+2,none⟩) hxb |>.trans d2);clear hn hn0 d1 d2
    go_wp2_with fail
    clear c0 c1 c2 c3 c4 c5;generalize hW:wr.alloc (.cells #[.int .i64 n.kind,.string n.data,.slice hd.A n.ptrs.length hd.a,.int .i64 n.size,.int .i64 n.count,.slice hd.B n.items.length hd.b] nodeT)=W at *;clear hW;obtain ⟨e0,e1,e2,e3,e4,e5⟩:=z01 HR.out;have q0:=cell_regrown e0;have q1:=cell_regrown e1;have q2:=cell_regrown e2;have q3:=cell_regrown e3;have q4:=cell_regrown e4;have q5:=cell_regrown e5;have p1:=cell_regrown HD1.out;have p2:=cell_regrown HD2.out;cases hst:z1z n.kind n.data n.size n.count n.items.length
    · have HX:=hid (HFL.out (by simp[itemB,hst]))
      rw[hst] at HI;refine wp_region_quiet_below (by kernel_rfl) (by kernel_rfl) ?_
      repeat (first | go_big_quiet_step ((go_at_call 158; exact Calls.regrown_of (HI.out _))) | quiet_step ((go_at_call 158; exact Calls.regrown_of (HI.out _))))
      refine wpQuiet_nil ?_
      intro _ hw'
      obtain ⟨⟨dq,osq⟩,hw''⟩:=hw';subst hw'';have HB2:=hid (HBA.out.trans ((below_regrown W dq osq).mono HBA.out.size));clear q0 q1 q2 q3 q4 q5 e0 e1 e2 e3 e4 e5 p1 p2;generalize «Sort».grow (redrawn W dq) osq=W2 at *;go_wp2;go_ret;exact ⟨by rw[HX.out]; rfl,HB2.out⟩
    · rw[hst] at HI
      by_cases hz:n.data.size=hdn.data.size
      · have HZ:=hid hz
        have hzb:((n.data.size:Int)==(hdn.data.size:Int))=true:=by rw[hz]; simp
        have hzn:((n.data.size:Int) != (hdn.data.size:Int))=false:=by rw[hz]; simp
        clear hz
        by_cases hp:n.ptrs.length=hdn.ptrs.length
        · have HX:=hid (HTR.out (by simp[itemB,hst,HZ.out,hp]))
          have hpn:((n.ptrs.length:Int) != (hdn.ptrs.length:Int))=false:=by rw[hp]; simp
          clear hp;refine wp_region_quiet_below (by kernel_rfl) (by kernel_rfl) ?_
          repeat (first | go_big_quiet_step ((go_at_call 158; exact Calls.regrown_of (HI.out _))) | quiet_step ((go_at_call 158; exact Calls.regrown_of (HI.out _))))
          refine wpQuiet_nil ?_
          intro _ hw'
          obtain ⟨⟨dq,osq⟩,hw''⟩:=hw';subst hw'';have HB2:=hid (HBA.out.trans ((below_regrown W dq osq).mono HBA.out.size));clear q0 q1 q2 q3 q4 q5 e0 e1 e2 e3 e4 e5 p1 p2;generalize «Sort».grow (redrawn W dq) osq=W2 at *;go_wp2
          go_roundw
          case rel=>exact ⟨k+1,by go_num,by omega,HX,HB2⟩
          case measure=>simp[intOf]; omega
        · have HX:=hid (HFL.out (by simp[itemB,hst,HZ.out,hp]))
          have hpn:((n.ptrs.length:Int) != (hdn.ptrs.length:Int))=true:=by simp; omega
          clear hp;refine wp_region_quiet_below (by kernel_rfl) (by kernel_rfl) ?_
          repeat (first | go_big_quiet_step ((go_at_call 158; exact Calls.regrown_of (HI.out _))) | quiet_step ((go_at_call 158; exact Calls.regrown_of (HI.out _))))
          refine wpQuiet_nil ?_
          intro _ hw'
          obtain ⟨⟨dq,osq⟩,hw''⟩:=hw';subst hw'';have HB2:=hid (HBA.out.trans ((below_regrown W dq osq).mono HBA.out.size));clear q0 q1 q2 q3 q4 q5 e0 e1 e2 e3 e4 e5 p1 p2;generalize «Sort».grow (redrawn W dq) osq=W2 at *;go_wp2;go_ret;exact ⟨by rw[HX.out]; rfl,HB2.out⟩
      · have HX:=hid (HFL.out (by simp[itemB,hst,hz]))
        have hzb:((n.data.size:Int)==(hdn.data.size:Int))=false:=by simp; omega
        have hzn:((n.data.size:Int) != (hdn.data.size:Int))=true:=by simp; omega
        refine wp_region_quiet_below (by kernel_rfl) (by kernel_rfl) ?_
        repeat (first | go_big_quiet_step ((go_at_call 158; exact Calls.regrown_of (HI.out _))) | quiet_step ((go_at_call 158; exact Calls.regrown_of (HI.out _))))
        refine wpQuiet_nil ?_
        intro _ hw'
        obtain ⟨⟨dq,osq⟩,hw''⟩:=hw';subst hw'';have HB2:=hid (HBA.out.trans ((below_regrown W dq osq).mono HBA.out.size));clear q0 q1 q2 q3 q4 q5 e0 e1 e2 e3 e4 e5 p1 p2;generalize «Sort».grow (redrawn W dq) osq=W2 at *;go_wp2;go_ret;exact ⟨by rw[HX.out]; rfl,HB2.out⟩
  · obtain rfl:k=l.length:=by omega
    rw[List.take_of_length_le (Nat.le_refl _)] at HA;have HX:Hid (z0c l=true):=hid HA.out;go_wp2;go_ret;exact ⟨by rw[HX.out]; rfl,HB.out⟩
end Go.Proofs.YtlbfffokkhccaaaGreatDoor
