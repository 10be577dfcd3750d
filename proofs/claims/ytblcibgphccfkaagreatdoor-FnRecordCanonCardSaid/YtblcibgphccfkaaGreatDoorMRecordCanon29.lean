/- Texts of the proof of the law FnRecordCanon, side by side: part 29. -/
import Derived.RegionTactic
import Derived.Test.YtblcibgphccfkaaGreatDoorMRecordCanon28
set_option maxHeartbeats 8000000
set_option maxRecDepth 100000
open Go.Lib (hid)
namespace Go.Proofs.YtblcibgphccfkaaGreatDoor
open Go.RowKit
theorem z7s {P:Program}{w:World}{g:Nat}(src dst e:TypeId){cs:Array Value}(cap:Nat)(s:ByteArray)(a bit:Nat)(hi:a/8<s.size)(hs:P.underlying src=some (.slice e))(he:P.underlying e=some (.int .u8))(hd:P.underlying dst=some .string)
 (h:SRow w g e cs) (ht:cs.toList.take s.size=Lib.byteCells s.data.toList) :
 (convert src dst (.slice (some ⟨g,0,none⟩) s.size cap)).run P (w.setCell ⟨g,a/8,none⟩ (.int .u8 ((newB (s.data.toList[a/8]?.getD 0) (a%8) bit).toNat:Int))).drew =
  .ok (.string ⟨(z5v s.data.toList a bit).toArray⟩) (w.setCell ⟨g,a/8,none⟩ (.int .u8 ((newB (s.data.toList[a/8]?.getD 0) (a%8) bit).toNat:Int))).drew:=by
 refine z6d _ src dst e g cap s.size (z5v s.data.toList a bit) (by simp[z5v]) hs he hd (h.set (a/8) _) ?_;rw[Array.toList_setIfInBounds,zji _ _ _ _ hi,ht,zab]
 rfl
theorem zc9 (s:ByteArray)(a:Nat)(bit:Int)(w:World)(hs:s.size≤1600)(h1:a<8*s.size)(hb:bit=0∨bit=1) :
 Calls Tryz.prog 116 #[.string s,.int .i64 a,.int .i64 bit] w fun e w'=>e= .returned (.string ⟨(z5v s.data.toList a bit.toNat).toArray⟩)∧Below w.heap.size w w':=by
 have h8:a/8<s.size:=by omega
 have hsl:s.data.toList.length=s.size:=by simp
 obtain ⟨x,hx⟩:∃x,s.data.toList[a/8]?.getD 0=x:=⟨_,rfl⟩
 have HX:=hid hx;have n0:=zo0 x (a%8) (by omega);have n1:=znz x (a%8) (by omega);have N0:=hid n0;have N1:=hid n1;clear n0 n1 hx hsl
 rcases hb with rfl | rfl
 · go_enter Tryz.func116,Tryz.ntmps116
   go_wp2_with (refine z30 rfl 9 22 5 (.tmp 8) rfl s rfl Tryz.underlying9 Tryz.underlying22 Tryz.underlying5 ?_; intro c w1 cs hrow htk hbel hsz)
   have hc:w1.cell? ⟨w.heap.size,a/8,none⟩=some (.int .u8 (x.toNat:Int)):=by rw[← HX.out]; exact zc7 hrow.out htk.out h8
   have hf:w1.frozen? ⟨w.heap.size,a/8,none⟩=false:=hrow.out.frozen _ (zbr hrow.out htk.out h8)
   go_region
   rw[N0.out];clear hc hf;have hcv0:=z7s (P:=Tryz.prog) 22 9 5 c s a 0 h8 Tryz.underlying22 Tryz.underlying5 Tryz.underlying9 hrow.out htk.out;rw[HX.out] at hcv0;go_wp2;go_ret;exact ⟨rfl,(hbel.out.setCell (Nat.le_refl _) _).drew⟩
 · go_enter Tryz.func116,Tryz.ntmps116
   go_wp2_with (refine z30 rfl 9 22 5 (.tmp 8) rfl s rfl Tryz.underlying9 Tryz.underlying22 Tryz.underlying5 ?_; intro c w1 cs hrow htk hbel hsz)
   have hc:w1.cell? ⟨w.heap.size,a/8,none⟩=some (.int .u8 (x.toNat:Int)):=by rw[← HX.out]; exact zc7 hrow.out htk.out h8
   have hf:w1.frozen? ⟨w.heap.size,a/8,none⟩=false:=hrow.out.frozen _ (zbr hrow.out htk.out h8)
   go_region
   rw[zkb _ (by omega),N1.out];clear hc hf;have hcv0:=z7s (P:=Tryz.prog) 22 9 5 c s a 1 h8 Tryz.underlying22 Tryz.underlying5 Tryz.underlying9 hrow.out htk.out;rw[HX.out] at hcv0;go_wp2;go_ret;exact ⟨rfl,(hbel.out.setCell (Nat.le_refl _) _).drew⟩
def zhk (l:List UInt8)(at_ bit:Int):Bool:=decide (0≤at_∧at_<8*l.length)&&decide (bit=0∨bit=1)
def bputT (l:List UInt8)(at_ bit:Int):List UInt8:=if z0w l.length=true then (if zhk l at_ bit=true then z5v l at_.toNat bit.toNat else l) else []
open Go.RowKit Go.Deep
structure Vl where
 num:Int
 nd:Nd
structure RSt where
 d:List UInt8
 p:List Nd
def wrF (f:Fld)(s:Nat)(n:Int)(D:List UInt8):List UInt8:=if f.size=1 then bputT D (s:Int) (xorI n f.els) else putT D ((s:Int)*wdF f.size) (wdF f.size) (xorI n f.els)
def tgF (l:List Fld)(k:Nat)(D:List UInt8):List UInt8:=if z2v l k=true then putT D (tagL l*2) 2 (plcN l k:Int) else D
def setF (l:List Fld)(k:Nat)(v:Vl)(st:RSt):RSt:=if (fldK l k).size=6 then ⟨tgF l k st.d,st.p.set (atF l k) v.nd⟩ else ⟨wrF (fldK l k) (atF l k) v.num (tgF l k st.d),st.p⟩
def pickB (l:List Fld)(k:Nat)(ch:Int):Bool:= !(fldK l k).choice||decide ((plcN l k:Int)=ch)
def vlK (vs:List Vl)(k:Nat):Vl:=vs[k]?.getD ⟨0,z07⟩
def fillF (l:List Fld)(vs:List Vl)(ch:Int):Nat→RSt
 | 0=>⟨List.replicate (8*(layF l ps0).2.ls.words) 0,List.replicate (layF l ps0).2.ptrs z07⟩
 | k+1=>if pickB l k ch=true then setF l k (vlK vs k) (fillF l vs ch k) else fillF l vs ch k
def recNd (D:ByteArray)(p:List Nd):Nd:= .mk 1 D p 0 0 []
def recN (st:RSt):Nd:=recNd ⟨st.d.toArray⟩ st.p
def valB (f:Fld)(v:Vl):Bool:=if f.size=6 then (decide (v.num=0)&&z0l v.nd) else (fitB f.size v.num&&(decide (v.nd.kind=0)&&z0l v.nd))
def valsB (l:List Fld)(vs:List Vl):Nat→Bool
 | 0=>true
 | k+1=>valsB l vs k&&valB (fldK l k) (vlK vs k)
def chB (l:List Fld)(ch:Int):Bool:=if plcN l l.length=0 then decide (ch= -1) else withB ch (plcN l l.length:Int)
def roB (l:List Fld)(vs:List Vl)(ch:Int):Bool:=z14 l&&((decide (vs.length=l.length)&&valsB l vs l.length)&&(chB l ch&&z0l (recN (fillF l vs ch l.length))))
def roN (l:List Fld)(vs:List Vl)(ch:Int):Nd:=if roB l vs ch=true then recN (fillF l vs ch l.length) else z07
structure VAt (w:World) (S:Nat→Prop) (m:Nat) (p:Addr) (v:Vl) (h:Hd):Prop where
 num:w.cell? p=some (.int .i64 v.num)
 cell:NdCell w ⟨p.block,p.off+1,none⟩ v.nd h
 nd:NdAt w S m v.nd h
def z4d (w:World)(S:Nat→Prop)(m:Nat)(A:Option Addr)(vs:List Vl):Prop :=
 vs= []∨∃x,A=some x∧x.block<w.heap.size∧∀i (hi:i<vs.length),∃h,VAt w S m (x.add (i*7)) vs[i] h
theorem VAt.below {w w':World}{S:Nat→Prop}{m:Nat}{p:Addr}{v:Vl}{h:Hd}(a:VAt w S m p v h)(hb:Below w.heap.size w w'):VAt w' S m p v h :=
 ⟨(hb.cell (p:=p) (World.block_lt_of_cell? w _ a.num)).trans a.num,a.cell.block (hb.block _ a.cell.lt),a.nd.below hb⟩
theorem z4d.below {w w':World}{S:Nat→Prop}{m:Nat}{A:Option Addr}{vs:List Vl}(a:z4d w S m A vs)(hb:Below w.heap.size w w'):z4d w' S m A vs:=by
 rcases a with a | ⟨x,rfl,hx,h⟩
 · exact .inl a
 · exact .inr ⟨x,rfl,Nat.lt_of_lt_of_le hx hb.size,fun i hi=>by obtain ⟨hh,hv⟩:=h i hi; exact ⟨hh,hv.below hb⟩⟩
theorem z4d.at_ {w:World}{S:Nat→Prop}{m:Nat}{A:Option Addr}{vs:List Vl}(a:z4d w S m A vs){i:Nat}(hi:i<vs.length):∃x h,A=some x∧x.block<w.heap.size∧VAt w S m (x.add (i*7)) vs[i] h:=by
 rcases a with a | ⟨x,rfl,hx,h⟩
 · rw[a] at hi; exact absurd hi (Nat.not_lt_zero _)
 · obtain ⟨hh,hv⟩:=h i hi
   exact ⟨x,hh,rfl,hx,hv⟩
theorem zed {vs:List Vl}{k:Nat}(h:k<vs.length):vlK vs k=vs[k]:=by unfold vlK; rw[List.getElem?_eq_getElem h]; rfl
def rowW:List (Vl×Hd)→List Value
 | []=> []
 | r :: t=> .int .i64 r.1.num :: .int .i64 r.1.nd.kind :: .string r.1.nd.data :: .slice r.2.A r.1.nd.ptrs.length r.2.a :: .int .i64 r.1.nd.size :: .int .i64 r.1.nd.count :: .slice r.2.B r.1.nd.items.length r.2.b :: rowW t
theorem zef:∀(q p:List (Vl×Hd)),rowW (q++p)=rowW q++rowW p
 | [],_=>rfl
 | r :: t,p=>by rw[List.cons_append,rowW,zef t p]; rfl
theorem zh6:∀(q:List (Vl×Hd)) (k:Nat) (r:Vl×Hd),q[k]? =some r →
 (rowW q)[k*7]? =some (.int .i64 r.1.num)∧(rowW q)[k*7+1]? =some (.int .i64 r.1.nd.kind)∧(rowW q)[k*7+2]? =some (.string r.1.nd.data)∧(rowW q)[k*7+3]? =some (.slice r.2.A r.1.nd.ptrs.length r.2.a) ∧
 (rowW q)[k*7+4]? =some (.int .i64 r.1.nd.size)∧(rowW q)[k*7+5]? =some (.int .i64 r.1.nd.count)∧(rowW q)[k*7+6]? =some (.slice r.2.B r.1.nd.items.length r.2.b)
 | [],k,r,h=>by simp at h
 | p :: t,0,r,h=>by
   obtain rfl:p=r:=by simpa using h
   exact ⟨rfl,rfl,rfl,rfl,rfl,rfl,rfl⟩
 | p :: t,k+1,r,h=>by
   have:=zh6 t k r (by simpa using h);rw[show (k+1)*7=k*7+1+1+1+1+1+1+1 by omega];exact this
def i64v (x:Int):Prop:= -9223372036854775808≤x∧x≤9223372036854775807
def VRow (w:World)(B:Nat)(v:Value)(q:List (Vl×Hd))(M T:Nat):Prop :=
 w.ownsRow B valT 7 v q.length (rowW q)∧∀r∈q,NdAt w (fun k=>B≤k∧some k≠v.ownBlock) M r.1.nd r.2∧totN M r.1.nd≤T∧i64v r.1.num
theorem VRow.picked {w w':World}{B M T R n:Nat}{v:Value}{q:List (Vl×Hd)}(h:VRow w B v q M T)(hp:z0e w R n w')(hR:R<B):VRow w' B v q M T :=
 ⟨z8l h.1 hp hR,fun r hr=>⟨(h.2 r hr).1.map (fun _ h=>h) (fun p _ _ hs hc=>hc.block (hp.2.block _ hc.lt (by have:B≤p.block:=hs.1; omega))),(h.2 r hr).2⟩⟩
theorem VRow.alloc {w:World}{B M T:Nat}{v:Value}{q:List (Vl×Hd)}(h:VRow w B v q M T)(o:Obj):VRow (w.alloc o) B v q M T :=
 ⟨h.1.alloc o,fun r hr=>⟨(h.2 r hr).1.below ((Below.refl _ _).alloc (Nat.le_refl _) o),(h.2 r hr).2⟩⟩
theorem VRow.next {w3 w4:World}{B H M T:Nat}{v v':Value}{q:List (Vl×Hd)}{y:Vl}{hy:Hd}(h:VRow w3 B v q M T)(hny:NdAt w3 (From H) M y.nd hy)(hty:totN M y.nd≤T∧i64v y.num)(hBH:B≤H)(hvH:∀k,v.ownBlock=some k→k<H)
 (hown:w4.ownsRow B valT 7 v' (q.length+1) (rowW q++rowW [(y,hy)])) (hgrow:w3.grownBy w4 v.ownBlock) (hat:v'.ownBlock=v.ownBlock∨v'.ownBlock=some w3.heap.size):VRow w4 B v' (q++ [(y,hy)]) M T:=by
 have hS:∀k,k<w3.heap.size→(B≤k∧some k≠v.ownBlock)→(B≤k∧some k≠v'.ownBlock):=fun k hk ⟨h1,h2⟩=>⟨h1,by
  rcases hat with h | h
  · rw[h]; exact h2
  · rw[h]; intro e; injection e with e; omega⟩
 refine ⟨by rw[List.length_append,zef]; exact hown,fun r hr=>?_⟩
 rcases List.mem_append.1 hr with hr | hr
 · exact ⟨(h.2 r hr).1.map' hS (fun p _ _ hs hc=>hc.block (hgrow.block _ hc.lt hs.2)),(h.2 r hr).2⟩
 · obtain rfl:=List.mem_singleton.1 hr
   have h1:NdAt w3 (fun k=>B≤k∧some k≠v.ownBlock) M y.nd hy:=hny.weak (fun k hk=>⟨Nat.le_trans hBH hk,fun e=>by have:=hvH k e.symm; have:H≤k:=hk; omega⟩);exact ⟨h1.map' hS (fun p _ _ hs hc=>hc.block (hgrow.block _ hc.lt hs.2)),hty⟩
theorem VRow.vals {w:World}{B M T:Nat}{v:Value}{q:List (Vl×Hd)}(h:VRow w B v q M T):∃A cap,v= .slice A q.length cap∧z4d w Any M A (q.map (·.1)):=by
 rcases h.1.2 with ⟨rfl,h0⟩ | ⟨g,cap,cur,rfl,hR,hg,_⟩
 · obtain rfl:q= []:=List.eq_nil_of_length_eq_zero h0
   exact ⟨none,0,rfl,.inl rfl⟩
 · refine ⟨_,cap,rfl,.inr ⟨_,rfl,z00 hg,fun i hi=>?_⟩⟩
   have hi':i<q.length:=by simpa using hi
   have hc:∀j u,(rowW q)[j]? =some u→w.cell? ⟨g,j,none⟩=some u:=fun j u hj=>by
    have:=h.1.cells (g:=g) rfl j u hj
    rwa [z2h] at this
   obtain ⟨c0,c1,c2,c3,c4,c5,c6⟩:=zh6 q i q[i] (List.getElem?_eq_getElem hi');have hn:=(h.2 _ (List.getElem_mem hi')).1;rw[List.getElem_map,z2h];exact ⟨(q[i]).2,hc _ _ c0,⟨hc _ _ c1,hc _ _ c2,hc _ _ c3,hc _ _ c4,hc _ _ c5,hc _ _ c6⟩,hn.weak (fun _ _=>trivial)⟩
theorem VRow.rg {w:World}{B M T:Nat}{v:Value}{q:List (Vl×Hd)}(h:VRow w B v q M T)(k:Nat):i64v (vlK (q.map (·.1)) k).num:=by
 by_cases hk:k<q.length
 · rw[zed (by simpa using hk),List.getElem_map]
   exact (h.2 _ (List.getElem_mem hk)).2.2
 · unfold vlK
   rw[List.getElem?_eq_none (by simpa using hk)];exact ⟨by decide,by decide⟩
theorem z7v (w:World)(r:Vl×Hd)(t:TypeId):∀j u,(rowW [r])[j]? =some u→(w.alloc (.cells #[.int .i64 r.1.num,.int .i64 r.1.nd.kind,.string r.1.nd.data,.slice r.2.A r.1.nd.ptrs.length r.2.a,.int .i64 r.1.nd.size,.int .i64 r.1.nd.count,.slice r.2.B r.1.nd.items.length r.2.b] t)).cell? ((⟨w.heap.size,0,none⟩:Addr).add j)=some u:=by
 intro j u hj
 rw[z2h,cell_of_row _ _ _ _ _ (0,0) (heap_alloc_new w _)]
 simp only[rowW] at hj
 match j,hj with
 | 0,hj=>simpa using hj
 | 1,hj=>simpa using hj
 | 2,hj=>simpa using hj
 | 3,hj=>simpa using hj
 | 4,hj=>simpa using hj
 | 5,hj=>simpa using hj
 | 6,hj=>simpa using hj
 | j+7,hj=>simp at hj
def dK:Nat→Nat
 | 0=>0
 | d+1=>50+6*dK d
def dT:Nat→Nat
 | 0=>0
 | d+1=>1001+6*dT d
def DrN (d:Nat):Prop:=∀(R n:Nat) (w:World),Rd w R n→n+dK d≤500000→Calls Tryz.prog 93 #[.pointer (some ⟨R,0,none⟩),.int .i64 (d:Int)] w (NdP (2*d) (dT d) R (n+dK d) w)
def StD (g:Nat)(k:Nat)(w:World):Prop:=∃dd:ByteArray,dd.size=8*k∧w.heap[g]? =some (.cells #[.int .i64 1,.string dd,.slice none 0 0,.int .i64 0,.int .i64 0,.slice none 0 0] nodeT (0,0))
theorem zat (d:Nat)(hN:DrN d)(R n:Nat)(data ptrs:Nat)(w:World)(h:Rd w R n)(hn:n+3*data+ptrs*dK d≤500000)(hd:data≤3)(hp:ptrs≤3)(hdd:d≤8)(_hkd:dK d≤20000)(_htd:dT d≤300000) :
 Calls Tryz.prog 124 #[.pointer (some ⟨R,0,none⟩),.int .i64 data,.int .i64 ptrs,.int .i64 ((d:Int)+1)] w (NdP (2*d+1) (8*data+ptrs*(1+dT d)) R (n+3*data+ptrs*dK d) w):=by
 have hRw:=h.lt;obtain ⟨i0,hi,hz0,hz1,hz2⟩:=info_parts z5z;have hq0:=h.self.below (((Below.refl w.heap.size w).alloc (Nat.le_refl _) (.cells #[.int .i64 0,.string { data:= #[] },.slice none 0 0,.int .i64 0,.int .i64 0,.slice none 0 0] nodeT)).alloc (by simp) (.cells #[.int .i64 1,.string { data:= #[] },.slice none 0 0,.int .i64 0,.int .i64 0,.slice none 0 0] nodeT));have hr0:((w.alloc (.cells #[.int .i64 0,.string { data:= #[] },.slice none 0 0,.int .i64 0,.int .i64 0,.slice none 0 0] nodeT)).alloc (.cells #[.int .i64 1,.string { data:= #[] },.slice none 0 0,.int .i64 0,.int .i64 0,.slice none 0 0] nodeT)).heap[w.heap.size]? =some (.cells #[.int .i64 0,.string { data:= #[] },.slice none 0 0,.int .i64 0,.int .i64 0,.slice none 0 0] nodeT (0,0)):=(Below.heap_alloc _ _ _ (by simp)).trans (heap_alloc_new w _)
 have hx0:((w.alloc (.cells #[.int .i64 0,.string { data:= #[] },.slice none 0 0,.int .i64 0,.int .i64 0,.slice none 0 0] nodeT)).alloc (.cells #[.int .i64 1,.string { data:= #[] },.slice none 0 0,.int .i64 0,.int .i64 0,.slice none 0 0] nodeT)).heap[w.heap.size+1]? =some (.cells #[.int .i64 1,.string { data:= #[] },.slice none 0 0,.int .i64 0,.int .i64 0,.slice none 0 0] nodeT (0,0)):=by have:=heap_alloc_new (w.alloc (.cells #[.int .i64 0,.string { data:= #[] },.slice none 0 0,.int .i64 0,.int .i64 0,.slice none 0 0] nodeT)) (.cells #[.int .i64 1,.string { data:= #[] },.slice none 0 0,.int .i64 0,.int .i64 0,.slice none 0 0] nodeT); rwa [show (w.alloc (.cells #[.int .i64 0,.string { data:= #[] },.slice none 0 0,.int .i64 0,.int .i64 0,.slice none 0 0] nodeT)).heap.size=w.heap.size+1 by simp] at this
 have hs0:((w.alloc (.cells #[.int .i64 0,.string { data:= #[] },.slice none 0 0,.int .i64 0,.int .i64 0,.slice none 0 0] nodeT)).alloc (.cells #[.int .i64 1,.string { data:= #[] },.slice none 0 0,.int .i64 0,.int .i64 0,.slice none 0 0] nodeT)).heap.size=w.heap.size+2:=by simp
 have HQ0:=hid hq0;have HR0:=hid hr0;have HX0:=hid hx0;have HNN:=hid hN;clear h hq0 hr0 hx0 hN;go_enter Tryz.func124,Tryz.ntmps124
 go_wp2_with fail
 generalize (w.alloc (.cells #[.int .i64 0,.string { data:= #[] },.slice none 0 0,.int .i64 0,.int .i64 0,.slice none 0 0] nodeT)).alloc (.cells #[.int .i64 1,.string { data:= #[] },.slice none 0 0,.int .i64 0,.int .i64 0,.slice none 0 0] nodeT)=W0 at *
 go_loopw [10] (fun i wr=>∃k:Nat,i= .int .i64 k∧k≤data∧Hid (StD (w.heap.size+1) k wr)∧Hid (wr.heap[w.heap.size]? =some (.cells #[.int .i64 0,.string { data:= #[] },.slice none 0 0,.int .i64 0,.int .i64 0,.slice none 0 0] nodeT (0,0)))∧Hid (z0e w R (n+3*k) wr∧w.heap.size+2≤wr.heap.size)) (fun i _=>data-(intOf i).toNat)
 case atStart=>exact ⟨0,rfl,by omega,hid ⟨_,rfl,HX0.out⟩,HR0,hid ⟨HQ0.out,by omega⟩⟩
 case round =>
  obtain ⟨k,rfl,hk,HS,HZ,HP⟩:=hrel;obtain ⟨dd,hds,hrow⟩:=HS.out;obtain ⟨hpk,hsz⟩:=HP.out
  have hdb:dd.size≤24:=by omega
  by_cases hlt:k<data
  · have hc:=z04 hrow
    obtain ⟨c0,c1,c2,c3,c4,c5⟩:=hc;have hfr:=z03 hrow 1;have HPK:=hid hpk;have HROW:=hid hrow;have HDS:=hid hds;have hdr:(wr.drew).heap.size=wr.heap.size:=rfl;clear hpk hrow hds HS HP
    go_wp2_with fail
    go_region_with (go_at_call 146; go_must (refine (z8s R (n+3*k) _ (by exact HPK.out.1.below ⟨rfl,rfl,rfl,Nat.le_refl _,fun _ _=>rfl⟩) (by omega)).mono ?_); rintro e w2 ⟨u,hu,rfl,hp2⟩; have hx2:=z0k (w:=wr.drew) HROW.out hp2 (by omega); obtain ⟨q0,q1,q2,q3,q4,q5⟩:=z04 hx2; have qf:=z03 hx2 1; have f1:¬9223372036854775807<dd.size+u.size:=by omega)
    all_goals
     have hp3:z0e wr R (n+3*k+3) w2:=⟨hp2.1,⟨hp2.2.os,hp2.2.tape,hp2.2.output,hp2.2.size,hp2.2.block⟩⟩
     have HP3:=hid (z0g (HPK.out.then hp3) hRw (b:=w.heap.size+1) (by omega) 1 (.string (dd++u)));have HS3:Hid (StD (w.heap.size+1) (k+1) (w2.setCell ⟨w.heap.size+1,1,none⟩ (.string (dd++u)))):=hid ⟨dd++u,by rw[z1e,HDS.out,hu]; omega,z06 hx2 1 _⟩;have HZ3:=hid ((Below.heap_setCell w2 ⟨w.heap.size+1,1,none⟩ (.string (dd++u)) w.heap.size (by simp)).trans (z0k (w:=wr) HZ.out hp3 (by omega)))
     have hsz3:w.heap.size+2≤(w2.setCell ⟨w.heap.size+1,1,none⟩ (.string (dd++u))).heap.size:=by have:=hp3.2.size; simp[World.setCell]; omega
     have HPP:=hid (And.intro (HP3.out.mono (show n+3*k+3≤n+3*(k+1) by omega)) hsz3);clear hp2 hp3 hx2 q0 q1 q2 q3 q4 q5 qf hsz3 hu;go_wp2
     go_roundw
     case rel=>exact ⟨k+1,by go_num,by omega,HS3,HZ3,HPP⟩
     case measure=>simp[intOf]; omega
  · obtain rfl:k=data:=by omega
    have HROW:=hid hrow;have HPK:=hid hpk;have HZ1:=hid HZ.out;have HDS:=hid hds;clear hrow hpk hds HS HP hlt
    go_wp2_with fail
    go_loopw [11] (fun i wr=>∃j:Nat,i= .int .i64 j∧j≤ptrs∧Hid (∃(v:Value) (q:List (Nd×Hd)),wr.heap[w.heap.size+1]? =some (.cells #[.int .i64 1,.string dd,v,.int .i64 0,.int .i64 0,.slice none 0 0] nodeT (0,0))∧q.length=j∧NRowC wr (w.heap.size+2) v q (2*d) (dT d))∧Hid (wr.heap[w.heap.size]? =some (.cells #[.int .i64 0,.string { data:= #[] },.slice none 0 0,.int .i64 0,.int .i64 0,.slice none 0 0] nodeT (0,0)))∧Hid (z0e w R (n+3*k+j*dK d) wr∧w.heap.size+2≤wr.heap.size)) (fun i _=>ptrs-(intOf i).toNat)
    case atStart=>exact ⟨0,rfl,by omega,hid ⟨_,[],HROW.out,rfl,NRowC.nil _ _ _ _⟩,HZ1,hid ⟨by have:=HPK.out; simpa using this,hsz⟩⟩
    case round =>
     clear hsz;obtain ⟨j,rfl,hj,HS,HZ,HP⟩:=hrel;obtain ⟨v,q,hrow,hql,hnr⟩:=HS.out;obtain ⟨hpk,hsz⟩:=HP.out;have HQL:=hid hql
     by_cases hlt:j<ptrs
     · obtain ⟨c0,c1,c2,c3,c4,c5⟩:=z04 hrow
       have hq1000:q.length≤1000:=by omega
       have HPK2:=hid hpk;have HROW2:=hid hrow;have HNR:=hid hnr;have hdr:(wr.drew).heap.size=wr.heap.size:=rfl
       have hjk:j*dK d+dK d≤ptrs*dK d:=by have:=Nat.mul_le_mul_right (dK d) (show j+1≤ptrs by omega); rw[Nat.add_mul] at this; omega
       have hwr:IntKind.i64.wrap (d:Int)=(d:Int):=by rw[IntKind.wrap_i64]; omega
       have HC:=hid (HNN.out R (n+3*k+j*dK d) wr.drew (by exact HPK2.out.1.below ⟨rfl,rfl,rfl,Nat.le_refl _,fun _ _=>rfl⟩) (by omega));unfold NdP at HC;clear hpk hrow hnr HS HP hql
       go_wp2_with fail
       go_region_law (first | (refine z3p rfl (.tmp 30) (.tmp 35) rfl (w.heap.size+2) v q.length (rowOf q) (by simp[Act.eval]) (HO2.out.1.alloc _) ⟨w2.heap.size,0,none⟩ 1 (y,hy) (by simp[Act.eval]) (z1c w2 (y,hy) _) hq1000 (by simp; omega) ?_; intro A4 c4 w4 hown4 hgrow4 hat4; have hx4:=(hgrow4.out.block (w.heap.size+1) (by simp; omega) (fun e=>by have:=(HO2.out.1.lt _ e.symm).1; omega)).trans ((Below.heap_alloc w2 _ (w.heap.size+1) (by omega)).trans HX2.out); have qf4:=z03 hx4 2; obtain ⟨r0,r1,r2,r3,r4,r5⟩:=z04 hx4) | (go_simp; go_at_call 93; (with_reducible refine HC.out.mono ?_); rintro e w2 ⟨y,hy,rfl,hny,hty,hp2⟩; have hx2:=z0k (w:=wr.drew) HROW2.out hp2 (by omega); have HX2:=hid hx2; have HO2:=hid (NRowC.picked (w:=wr.drew) HNR.out.drew hp2 (by omega)); have hsz2:wr.heap.size≤w2.heap.size:=hp2.2.size; obtain ⟨q0,q1,q2,q3,q4,q5⟩:=z04 hx2; have hlt2:=z00 hx2; have qa:∀o,(w2.alloc o).cell? ⟨w.heap.size+1,2,none⟩=some v:=fun o=>(((Below.refl w2.heap.size w2).alloc (Nat.le_refl _) o).cell hlt2).trans q2))
       all_goals
        have hp3:z0e wr R (n+3*k+j*dK d+dK d) w2:=⟨hp2.1,⟨hp2.2.os,hp2.2.tape,hp2.2.output,hp2.2.size,hp2.2.block⟩⟩
        have hbel:Below w.heap.size w2 w4:=((Below.refl w.heap.size w2).alloc (by omega) _).grown hgrow4.out (by simp; omega) (fun k hk=>by have:=(HO2.out.1.lt k hk).1; omega)
        have hp4:z0e w R (n+3*k+j*dK d+dK d) w4:=by
         obtain ⟨⟨a,l,c,p,hpn,hr,hc⟩,hk⟩:=HPK2.out.then hp3
         exact ⟨⟨a,l,c,p,hpn,(hbel.block R hRw).trans hr,hc.keeps (R:=w.heap.size) (Keeps.of_below hbel) (Nat.le_of_lt hRw) (Nat.le_of_lt hRw)⟩,⟨hbel.os.trans hk.os,hbel.tape.trans hk.tape,hbel.output.trans hk.output,Nat.le_trans hk.size hbel.size,fun k hk1 hk2=>(hbel.block k hk1).trans (hk.block k hk1 hk2)⟩⟩
        have hnx:=(HO2.out.alloc _).next (hny.belowC ((Below.refl w2.heap.size w2).alloc (Nat.le_refl _) _)) hty.1 (show w.heap.size+2≤(wr.drew).heap.size from hsz) (fun k hk=>(HNR.out.1.lt k hk).2) hown4.out hgrow4.out hat4.out;have HS5:Hid (∃(v':Value) (q':List (Nd×Hd)),(w4.setCell ⟨w.heap.size+1,2,none⟩ (.slice A4 (q.length+1) c4)).heap[w.heap.size+1]? =some (.cells #[.int .i64 1,.string dd,v',.int .i64 0,.int .i64 0,.slice none 0 0] nodeT (0,0))∧q'.length=j+1∧NRowC (w4.setCell ⟨w.heap.size+1,2,none⟩ (.slice A4 (q.length+1) c4)) (w.heap.size+2) v' q' (2*d) (dT d)):=hid ⟨_,_,z06 hx4 2 _,by have:=HQL.out; simp; omega,hnx.store (by omega)⟩;have HZ5:=hid ((Below.heap_setCell w4 ⟨w.heap.size+1,2,none⟩ (.slice A4 (q.length+1) c4) w.heap.size (by simp)).trans ((hgrow4.out.block w.heap.size (by simp; omega) (fun e=>by have:=(HO2.out.1.lt _ e.symm).1; omega)).trans ((Below.heap_alloc w2 _ w.heap.size (by omega)).trans (z0k (w:=wr) HZ.out hp3 (by omega)))));have HP5:Hid (z0e w R (n+3*k+(j+1)*dK d) (w4.setCell ⟨w.heap.size+1,2,none⟩ (.slice A4 (q.length+1) c4))∧w.heap.size+2≤(w4.setCell ⟨w.heap.size+1,2,none⟩ (.slice A4 (q.length+1) c4)).heap.size):=hid ⟨(z0g hp4 hRw (b:=w.heap.size+1) (by omega) 2 _).mono (by rw[Nat.add_mul]; omega),by have:=hbel.size; simp[World.setCell]; omega⟩;clear hp2 hp3 hp4 hbel hnx hx4 hx2 hown4 hgrow4 hat4 q0 q1 q2 q3 q4 q5 r0 r1 r2 r3 r4 r5 qf4 qa hlt2 hny hty;go_wp2
        go_roundw
        case rel=>exact ⟨j+1,by go_num,by omega,HS5,HZ5,HP5⟩
        case measure=>simp[intOf]; omega
     · obtain rfl:j=ptrs:=by omega
       obtain ⟨A,cap,hv,hnds,htot⟩:=hnr.nds (by omega);subst hv;have HND:=hid hnds;have HTOT:=hid htot;have HROW3:=hid hrow;have HPK3:=hid hpk;obtain ⟨c0,c1,c2,c3,c4,c5⟩:=z04 hrow
       have hz0:∀k,wr.cell? ⟨w.heap.size,k,none⟩=(#[.int .i64 0,.string { data:= #[] },.slice none 0 0,.int .i64 0,.int .i64 0,.slice none 0 0]:Array Value)[k]? :=fun k=>cell_of_row _ _ _ _ _ _ HZ.out
       have hzf:=z03 HZ.out;clear hnr hnds htot hrow hpk HS HP hql hlt hi
       go_wp2_with fail
       obtain ⟨wf,hwf,hrw,hpw,huw⟩:=z3a (w1:=wr) (b:=w.heap.size) HZ.out HPK3.out hRw (Nat.le_refl _) (.int .i64 1) (.string dd) (.slice A q.length cap) (.int .i64 0) (.int .i64 0) (.slice none 0 0);rw[hwf];obtain ⟨e0,e1,e2,e3,e4,e5⟩:=z04 hrw
       exact bodyPost_ret (v:= .agg #[.int .i64 1,.string dd,.slice A q.length cap,.int .i64 0,.int .i64 0,.slice none 0 0])
        (by simp[results,Tryz.results124,go_sem,e0,e1,e2,e3,e4,e5]) rfl
        ⟨.mk 1 dd (q.map (·.1)) 0 0 [],⟨A,cap,none,0⟩,by show _=Ending.returned (.agg #[.int .i64 1,.string dd,.slice A (q.map (·.1)).length cap,.int .i64 0,.int .i64 0,.slice none 0 0]); rw[List.length_map],⟨by show dd.size≤maxLen; unfold maxLen; omega,((HND.out.fromC (by omega)).uponC huw).fromC (by omega),NdsAt.nil _ _ _ _⟩,⟨by
         have h1:=HTOT.out;rw[HQL.out] at h1
         show dd.size+totL (2*d+1) (q.map (·.1))+totL (2*d+1) []≤_
         have h2:totL (2*d+1) []=0:=rfl;have h3:=HDS.out
         omega,SB.small (by show dd.size≤1100; have h3:=HDS.out; omega) (show (0:Nat)≤1000 by decide)⟩,hpw.mono (by omega)⟩
end Go.Proofs.YtblcibgphccfkaaGreatDoor
