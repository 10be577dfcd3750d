/- Texts of the proof of the law FnCanonSent, side by side: part 8. -/
import Derived.Test.YtlbfffokkhccaaaGreatDoorMCanonSent07
set_option maxHeartbeats 8000000
set_option maxRecDepth 100000
open Go.Lib (hid)
namespace Go.Proofs.YtlbfffokkhccaaaGreatDoor
open Go.RowKit
def sgz (zs:List ByteArray):Segs:=zs.map (·.data.toList)
theorem z7q {zs:List ByteArray}{j:Nat}(h:j<zs.length):sgS (sgz zs) j=zs[j].data.toList:=by
 unfold sgS sgz
 rw[List.getElem?_map,List.getElem?_eq_getElem h]; rfl
theorem zqo {zs:List ByteArray}{j p:Nat}(h:p<(sgS (sgz zs) j).length):j<zs.length:=by
 by_cases e:j<zs.length
 · exact e
 · rw[z97 (by unfold sgz; rw[List.length_map]; omega)] at h; cases h
theorem zgl {s:Segs}{j a:Nat}{t:List UInt8}(h:HasT s j (8*a) t)(ht:t.length=8):((sgS s j).drop (8*a)).take 8=t:=by
 apply List.ext_getElem?
 intro q
 by_cases hq:q<8
 · rw[List.getElem?_take_of_lt hq,List.getElem?_drop]; exact h q (by omega)
 · rw[List.getElem?_eq_none (by rw[List.length_take]; omega),List.getElem?_eq_none (by omega)]
theorem zcb {zs:List ByteArray}{j c:Nat}{d:ByteArray}(hj:j<zs.length)(h:HasT (sgz zs) j (8*c) d.data.toList):zs[j].extract (8*c) (8*c+d.size)=d:=by
 apply zh0
 rw[Lib.extract_data];have hd:=z0l d
 apply List.ext_getElem?
 intro q
 by_cases hq:q<d.size
 · rw[List.getElem?_take_of_lt (by omega),List.getElem?_drop]
   have:=h q (by omega);unfold byteS at this;rw[z7q hj] at this;exact this
 · rw[List.getElem?_eq_none (by rw[List.length_take]; omega),List.getElem?_eq_none (by omega)]
def ptG (n:Nd)(off:Int):Int×Int×Int×Int×Int×Int×Int×Bool :=
 if n.kind=1 then (1,off,(n.data.size/8:Nat),(n.ptrs.length:Nat),0,0,0,false) else (2,off,0,0,n.size,if n.size=7 then (ownN n:Int)-1 else n.count,0,false)
def RdW (t:List UInt8)(x:Int×Int×Int×Int×Int×Int×Int×Bool):Prop:=t.length=8∧getP (leN t 0 4) (leN t 4 4)=x
theorem zlv:RdW (zer 1) (0,0,0,0,0,0,0,false):=⟨by decide,by rw[getP,if_pos (by decide)]⟩
theorem zn9 {n:Nd}{off:Int}(pn:PtOk n)(ho: -536870912≤off∧off≤536870911)(h0:¬(n.kind=1∧off=0∧n.data.size/8=0∧n.ptrs.length=0)):RdW (ptrW n off) (ptG n off):=by
 refine ⟨z0f n off,?_⟩;rw[zp4];obtain ⟨hb1,hb2⟩:=pn.bd off;obtain ⟨h1,h2⟩:=zmf (loP n off) (hiP n) hb1.1 hb1.2 hb2.1 hb2.2;rw[show w8 (loP n off) (hiP n)=leB (loP n off) 4++leB (hiP n) 4 from rfl];generalize leN (leB (loP n off) 4++leB (hiP n) 4) 0 4=lo at *;generalize leN (leB (loP n off) 4++leB (hiP n) 4) 4 4=hi at *;have hd:=pn.data;have hp:=pn.ptrs;unfold loP at h1;unfold hiP at h2;unfold ptG;have ob:=z2a off
 rcases pn.kind with k | k
 · rw[if_pos k] at h1 h2
   rw[if_pos k,getP,if_neg (by unfold offN at h1; omega),if_pos (by unfold offN at h1; omega),zfj off lo (.inl h1) ho.1 ho.2,show ((hi%65536:Nat):Int)=(n.data.size/8:Nat) by omega,show ((hi/65536:Nat):Int)=(n.ptrs.length:Nat) by omega]
 · rw[if_neg (by omega)] at h1 h2
   have hs:=pn.size k;rw[if_neg (by omega),getP,if_neg (by unfold offN at h1; omega),if_neg (by unfold offN at h1; omega),if_pos (by unfold offN at h1; omega),zfj off lo (.inr h1) ho.1 ho.2]
   by_cases e:n.size=7
   · have ho':=pn.own k e
     rw[if_pos e] at h2;rw[if_pos e,show ((hi%8:Nat):Int)=n.size by omega,show ((hi/8:Nat):Int)=(ownN n:Int)-1 by omega]
   · rw[if_neg e] at h2
     rw[if_neg e,show ((hi%8:Nat):Int)=n.size by omega,show ((hi/8:Nat):Int)=n.count by omega]
theorem zso {pad j:Nat}(hp:pad≤1000)(hj:j≤10):RdW (farW pad j) (3,(pad:Nat),0,0,0,0,(j:Nat),false):=by
 refine ⟨z1e pad j,?_⟩;obtain ⟨h1,h2⟩:=zmf ((pad:Int)*8+2) (j:Int) (by omega) (by omega) (by omega) (by omega);rw[show farW pad j=leB ((pad:Int)*8+2) 4++leB (j:Int) 4 from rfl];generalize leN (leB ((pad:Int)*8+2) 4++leB (j:Int) 4) 0 4=lo at *;generalize leN (leB ((pad:Int)*8+2) 4++leB (j:Int) 4) 4 4=hi at *;rw[getP,if_neg (by omega),if_neg (by omega),if_neg (by omega),if_pos (by omega),show ((lo/8:Nat):Int)=(pad:Nat) by omega,show (hi:Int)=(j:Nat) by omega,show decide (lo/4%2=1)=false by simp; omega]
def tgG (n:Nd):Int×Int×Int×Int×Int×Int×Int×Bool :=
 if n.count=0∧itD n=0∧itP n=0 then (0,0,0,0,0,0,0,false) else (1,n.count,(itD n:Nat),(itP n:Nat),0,0,0,false)
theorem zt9 {n:Nd}(hc:0≤n.count∧n.count<12801)(hi:itD n≤300∧itP n≤300):RdW (tagW n) (tgG n):=by
 refine ⟨z0x n,?_⟩;have ob:=z2a n.count;obtain ⟨h1,h2⟩:=zmf (offN n.count) ((itD n:Nat)+65536*(itP n:Int)) (by omega) (by omega) (by omega) (by omega);rw[show tagW n=leB (offN n.count) 4++leB ((itD n:Nat)+65536*(itP n:Int)) 4 from rfl];generalize leN (leB (offN n.count) 4++leB ((itD n:Nat)+65536*(itP n:Int)) 4) 0 4=lo at *;generalize leN (leB (offN n.count) 4++leB ((itD n:Nat)+65536*(itP n:Int)) 4) 4 4=hi at *;unfold tgG
 by_cases e:n.count=0∧itD n=0∧itP n=0
 · rw[if_pos e,getP,if_pos (by unfold offN at h1; omega)]
 · rw[if_neg e,getP,if_neg (by unfold offN at h1; omega),if_pos (by unfold offN at h1; omega),zfj n.count lo (.inl h1) (by omega) (by omega),show ((hi%65536:Nat):Int)=(itD n:Nat) by omega,show ((hi/65536:Nat):Int)=(itP n:Nat) by omega]
theorem zm0 {s:Segs}{d:Nat}{n:Nd}{j c:Nat}(hw:(sgS s j).length%8=0)(h:BodyR (RepN s d) s n j c)(ho:ownB n≠0):c+ownB n≤wn (sgS s j):=by
 obtain ⟨h1,h2⟩:=h;have hd:=z0l n.data;unfold wn
 by_cases hp:n.ptrs.length=0
 · unfold ownB at ho ⊢
   have:=h1.le (by omega);omega
 · have:=(h2 (n.ptrs.length-1) (by omega)).le
   unfold ownB;omega
theorem zsh {s:Segs}{d:Nat}{n:Nd}{j c:Nat}(hw:(sgS s j).length%8=0)(hf:formN n=true)(h:FillR (RepN s d) s n j c)(ho:ownN n≠0):c+ownN n≤wn (sgS s j):=by
 unfold FillR at h
 by_cases e:n.kind=2∧n.size=7
 · rw[if_pos e] at h
   obtain ⟨g1,g2,g3⟩:=z2l hf e;rw[g2];have ht:=h.1.le (by rw[z0x]; omega);rw[z0x] at ht
   by_cases hz:n.items.length=0∨itD n+itP n=0
   · have:n.items.length*(itD n+itP n)=0:=by rcases hz with x | x <;> rw[x] <;> simp
     unfold wn;omega
   · have hl:n.items.length-1<n.items.length:=by omega
     have hb:=h.2 (n.items.length-1) hl;have hy:=z3a g1 _ (List.getElem_mem hl);have:=zm0 hw hb (by rw[hy]; omega);rw[hy] at this
     have e2:n.items.length*(itD n+itP n)=(n.items.length-1)*(itD n+itP n)+(itD n+itP n):=by
      obtain ⟨q,hq⟩:∃q,n.items.length=q+1:=⟨n.items.length-1,by omega⟩
      rw[hq,Nat.add_mul,Nat.one_mul,Nat.add_sub_cancel]
     omega
 · rw[if_neg e] at h
   rw[(z0z hf e).1] at ho ⊢;exact zm0 hw h ho
def z1d (n:Nat):Bool:=decide (n%8=0∧n≤1600)
theorem z2w (s:ByteArray)(w:World)(hs:s.size≤maxLen) :
 Calls Tryz.prog 48 #[.string s] w fun e w'=>e= .returned (.bool (z1d s.size))∧w=w':=by
 unfold maxLen at hs
 by_cases h1:s.size%8=0
 all_goals
  go_enter Tryz.func48,Tryz.ntmps48;go_wp2;go_ret;refine ⟨z0j ?_,rfl⟩
  simp[z1d,h1]
 omega
theorem zbz (s:ByteArray)(i:Int)(w:World)(hs:s.size≤maxLen)(h0:0≤i)(hi:8*i+8≤s.size) :
 Calls Tryz.prog 62 #[.string s,.int .i64 i] w fun e w'=>e= .returned (.agg (wd ((s.data.toList.drop (8*i.toNat)).take 8)))∧Below w.heap.size w w':=by
 obtain ⟨i,rfl⟩:=Int.eq_ofNat_of_zero_le h0;unfold maxLen at hs
 have ewd:(s.extract (i*8) s.size).data.toList.take 8=(s.data.toList.drop (8*(i:Int).toNat)).take 8:=by
  rw[Lib.extract_data,Nat.mul_comm]
  congr 2
  simp[List.take_of_length_le]
 have hsz:8≤(s.extract (i*8) s.size).size:=by simp; omega
 have hlen:((s.extract (i*8) s.size).data.toList.take 8).length=8:=by simp; omega
 generalize hl:(s.extract (i*8) s.size).data.toList.take 8=l at ewd hlen;rw[← ewd];have HL:=hid hl;clear ewd hl;go_enter Tryz.func62,Tryz.ntmps62;go_wp2
 have e1:IntKind.i64.wrap ((i:Int)*8)=(i:Int)*8:=by rw[IntKind.wrap_i64]; omega
 have e2:(0:Int)≤(i:Int)*8:=by omega
 have e3:(i:Int)*8≤(s.size:Int):=by omega
 have e4:((i:Int)*8).toNat=i*8:=by omega
 go_region_law (refine z6b rfl (.tmp 6) (.tmp 10) 22 9 rfl 5 Tryz.underlying22 size5 (w.heap.size+1) 8 8 (s.extract (i*8) s.size) _ 87 rfl (by simp[Act.eval,Act.put]) (by simp[Act.eval,Act.put]) (heap_alloc2_new w _ _) hsz ?_; intro w4 hg4 hb4)
 clear e1 e2 e3 e4
 have hA:Hid (w4.heap[w.heap.size]? =some (.cells #[.int .u8 0,.int .u8 0,.int .u8 0,.int .u8 0,.int .u8 0,.int .u8 0,.int .u8 0,.int .u8 0] 87 (0,0))) :=
  (hb4.out.block w.heap.size (by simp; omega) (by simp)).trans (heap_alloc2_old w _ _)
 have hB:Hid (Below w.heap.size w w4):=((Below.refl _ _).alloc (Nat.le_refl _) _ |>.alloc (by simp) _ |>.drew).grown hb4.out (by simp; omega) (fun k e=>by cases e; simp);clear hb4
 have hG:Hid (w4.heap[w.heap.size+1]? =some (.cells (wd l) 87 (0,0))):=by rw[← HL.out]; exact hg4.out
 have hlen:=hid hlen;clear hg4 HL
 go_wp2_with (first | (refine z1b rfl 87 (.tmp 5) rfl (w.heap.size+1) rfl 87 l _ hG.out Tryz.underlying87 rfl (by rw[hlen.out]; exact z1w) ?_) | (refine z3p rfl 87 (.tmp 4) (.tmp 12) rfl w.heap.size l rfl rfl 87 _ hA.out (by rw[hlen.out]; exact z1w) (by rw[hlen.out]; rfl) ?_; intro w5 hg5 hb5))
 refine bodyPost_ret (v:= .agg (wd l)) ?_ rfl ⟨rfl,hB.out.grown hb5.out (by have:=hB.out.size; omega) (fun k e=>by cases e; simp)⟩;exact results_cell_row rfl _ _ w.heap.size 87 _ (0,0) _ rfl hg5.out Tryz.underlying87 rfl (by rw[z44,hlen.out]; exact z1w)
theorem zad {B:Nat}{a w:World}(h:Below B a w)(n:Nat):Below B a (w.drewN n):=⟨h.os,h.tape,h.output,h.size,h.block⟩
def Strs (w:World)(A:Option Addr)(ss:List ByteArray):Prop :=
 (∀s∈ss,s.size≤maxLen)∧(ss= []∨∃a:Addr,A=some a∧a.block<w.heap.size∧∀i (h:i<ss.length),w.cell? (a.add i)=some (.string ss[i]))
theorem Strs.nil (w:World)(A:Option Addr):Strs w A []:=⟨(fun _ h=>by cases h),.inl rfl⟩
theorem Strs.below {w w':World}{A:Option Addr}{ss:List ByteArray}(h:Strs w A ss)(hb:Below w.heap.size w w'):Strs w' A ss:=by
 refine ⟨h.1,?_⟩
 rcases h.2 with h0 | ⟨a,ha,hlt,hc⟩
 · exact .inl h0
 · refine .inr ⟨a,ha,Nat.lt_of_lt_of_le hlt hb.size,fun i hi=>?_⟩
   have e:(a.add i).block=a.block:=by unfold Addr.add; split <;> rfl
   exact (hb.cell (p:=a.add i) (by rw[e]; exact hlt)).trans (hc i hi)
theorem z3k (a:Addr)(i:Nat):(a.add i).block=a.block:=by unfold Addr.add; split <;> rfl
def tot (ss:List ByteArray):Nat:=(ss.map (·.size)).sum
theorem z8b (ss:List ByteArray)(k:Nat)(h:k<ss.length):tot (ss.take (k+1))=tot (ss.take k)+(ss[k]).size:=by
 rw[List.take_succ_eq_append_getElem h,tot,tot,List.map_append,List.sum_append]
 simp
theorem z1u (ss:List ByteArray)(k:Nat):tot (ss.take k)≤tot ss:=by
 conv=>rhs; rw[← List.take_append_drop k ss]
 rw[tot,tot,List.map_append,List.sum_append];exact Nat.le_add_right _ _
theorem zr2:(Tryz.prog.info? 9).map (fun i=>(i.zero,i.size,i.bytes))=some (some (.string ByteArray.empty),1,16):=by kernel_rfl
open Go.RowKit Go.Deep
abbrev rdrT:TypeId:=66
abbrev plV (s a:Int):Value:= .agg #[.int .i64 s,.int .i64 a]
structure Rdr (w:World) (rb:Nat) (A:Option Addr) (cap:Nat) (zs:List ByteArray) (L:Int):Prop where
 row:w.heap[rb]? =some (.cells #[.slice A zs.length cap,.int .i64 L] rdrT (0,0))
 strs:Strs w A zs
 off:∀a,A=some a→a.block≠rb
 len:zs.length≤6
 small:∀s∈zs,s.size≤1600∧s.size%8=0
theorem Rdr.below {w w':World}{rb cap:Nat}{A:Option Addr}{zs:List ByteArray}{L:Int}(h:Rdr w rb A cap zs L)(hb:Below w.heap.size w w'):Rdr w' rb A cap zs L :=
 ⟨(hb.block _ (z00 h.row)).trans h.row,h.strs.below hb,h.off,h.len,h.small⟩
theorem Strs.keeps {w w':World}{rb:Nat}{A:Option Addr}{zs:List ByteArray}(h:Strs w A zs)(ho:∀a,A=some a→a.block≠rb)(hk:Keeps w.heap.size rb w w'):Strs w' A zs:=by
 refine ⟨h.1,?_⟩
 rcases h.2 with h0 | ⟨a,ha,hlt,hc⟩
 · exact .inl h0
 · refine .inr ⟨a,ha,Nat.lt_of_lt_of_le hlt hk.size,fun i hi=>?_⟩
   rw[z0y hk (a.add i) (by rw[z0r]; exact hlt) (by rw[z0r]; exact ho a ha)];exact hc i hi
theorem Rdr.lt {w:World}{rb cap:Nat}{A:Option Addr}{zs:List ByteArray}{L:Int}(h:Rdr w rb A cap zs L):rb<w.heap.size:=z00 h.row
theorem z1t {n:Int}(h0: -1000000000000≤n)(h1:n≤1000000000000):IntKind.i64.wrap n=n∧wrap64 n=n:=by
 constructor
 · rw[IntKind.wrap_i64]; omega
 · unfold wrap64; omega
theorem z5t (s a k:Int)(w:World)(h0: -1000000≤a)(h1:a≤1000000)(k0: -1000000≤k)(k1:k≤1000000) :
 Calls Tryz.prog 118 #[plV s a,.int .i64 k] w fun e w'=>e= .returned (plV s (a+k))∧Below w.heap.size w w':=by
 have e1:=(z1t (n:=a+k) (by omega) (by omega)).1;have e2:=(z1t (n:=a+k) (by omega) (by omega)).2;go_enter Tryz.func118,Tryz.ntmps118;go_wp2;refine bodyPost_ret (v:=plV s (a+k)) ?_ rfl ⟨rfl,((Below.refl _ _).alloc (Nat.le_refl _) _).alloc (by simp) _⟩;have h1:=heap_alloc_new (w.alloc (.cells #[.int .i64 s,.int .i64 a] 58)) (.cells #[.int .i64 s,.int .i64 (a+k)] 58);rw[show (w.alloc (.cells #[.int .i64 s,.int .i64 a] 58)).heap.size=w.heap.size+1 by simp] at h1;obtain ⟨d0,d1⟩:=z04 h1
 simp[results,Tryz.results118,go_sem,d0,d1]
theorem has_a {w:World}{rb cap:Nat}{A:Option Addr}{zs:List ByteArray}{L:Int}(h:Rdr w rb A cap zs L)(j c k:Nat)(hj:j<zs.length)(hc:c+k≤(zs[j]).size/8) :
 Calls Tryz.prog 44 #[.pointer (some ⟨rb,0,none⟩),plV j c,.int .i64 k] w fun e w'=>e= .returned (.bool true)∧Below w.heap.size w w':=by
 have hwi:∀W:World,Calls Tryz.prog 43 #[.int .i64 j,.int .i64 zs.length] W fun e w'=>e= .returned (.bool true)∧w'=W:=fun W=>(z0v j zs.length W).mono (fun e w' ⟨h1,h2⟩=>⟨by rw[h1]; congr 2; simp[wiB]; omega,h2.symm⟩)
 have hb:=(Below.refl w.heap.size w).alloc (Nat.le_refl _) (.cells #[.int .i64 (j:Int),.int .i64 (c:Int)] 58);have HB:=hid hb;have hr:=h.below hb;have hx:=heap_alloc_new w (.cells #[.int .i64 (j:Int),.int .i64 (c:Int)] 58);obtain ⟨c0,c1⟩:=z04 hr.row;obtain ⟨d0,d1⟩:=z04 hx;obtain ⟨a,rfl,hlt,hcs⟩:=hr.strs.2.resolve_left (by intro e; rw[e] at hj; cases hj);have hck:=hcs j hj;have hsm:=h.small _ (List.getElem_mem hj)
 have e1:(c:Int)≥0:=by omega
 have e2:decide ((k:Int)≤((zs[j]).size:Int)/8-(c:Int))=true:=by simp; omega
 have hl6:=h.len;clear h hr hb hcs hx;go_enter Tryz.func44,Tryz.ntmps44
 go_wp2_with fail
 generalize w.alloc (.cells #[.int .i64 (j:Int),.int .i64 (c:Int)] 58)=W at *
 go_quiet ((go_at_call 43; exact Calls.quiet_of_same (hwi _)))
 go_wp2;go_ret;exact ⟨rfl,zad HB.out nq⟩
theorem zcd {w:World}{rb cap:Nat}{A:Option Addr}{zs:List ByteArray}{L:Int}(h:Rdr w rb A cap zs L)(k:Int)(hk0:0≤k)(hk:k≤L)(hL:L≤1000) :
 Calls Tryz.prog 165 #[.pointer (some ⟨rb,0,none⟩),.int .i64 k] w fun e w'=>e= .returned .nilIface∧Rdr w' rb A cap zs (L-k)∧Keeps w.heap.size rb w w':=by
 obtain ⟨c0,c1⟩:=z04 h.row;have e1:=(z1t (n:=L-k) (by omega) (by omega)).1;have e2:=(z1t (n:=L-k) (by omega) (by omega)).2;go_enter Tryz.func165,Tryz.ntmps165;have hfz:=z02 h.row 1;go_wp2;go_ret;refine ⟨rfl,⟨z9o h.row,h.strs.keeps h.off (z0p _ _ _ _ _),h.off,h.len,h.small⟩,z0p _ _ _ _ _⟩
theorem zca {t:List UInt8}{x:Int×Int×Int×Int×Int×Int×Int×Bool}(h:RdW t x)(w:World) :
 Calls Tryz.prog 61 #[.agg (wd t)] w fun e w'=>e= .returned (ptI x)∧Below w.heap.size w w':=by
 obtain ⟨h1,h2⟩:=h;obtain ⟨a,b,c,d,e,f,g,i,rfl⟩:=len8 h1;rw[← h2];exact z9x a b c d e f g i w
theorem z1v {w:World}{rb cap:Nat}{A:Option Addr}{zs:List ByteArray}{L:Int}(h:Rdr w rb A cap zs L)(j c:Nat)(hj:j<zs.length)(hc:8*c+8≤(zs[j]).size){x:Int×Int×Int×Int×Int×Int×Int×Bool}(hx:RdW (((zs[j]).data.toList.drop (8*c)).take 8) x) :
 Calls Tryz.prog 85 #[.pointer (some ⟨rb,0,none⟩),plV j c] w fun e w'=>e= .returned (ptI x)∧Below w.heap.size w w':=by
 have hsm:=h.small _ (List.getElem_mem hj)
 have hW:∀W:World,Calls Tryz.prog 62 #[.string zs[j],.int .i64 c] W fun e w'=>e= .returned (.agg (wd (((zs[j]).data.toList.drop (8*c)).take 8)))∧Below W.heap.size W w':=fun W=>zbz zs[j] c W (by unfold maxLen; omega) (by omega) (by omega)
 have hR:=fun W:World=>zca hx W
 generalize wd (((zs[j]).data.toList.drop (8*c)).take 8)=t at *;generalize ptI x=px at *;have HW:=hid hW;have HR:=hid hR;clear hW hR hx;have hb:=(Below.refl w.heap.size w).alloc (Nat.le_refl _) (.cells #[.int .i64 (j:Int),.int .i64 (c:Int)] 58);have HB:=hid hb;have hr:=h.below hb;have hx:=heap_alloc_new w (.cells #[.int .i64 (j:Int),.int .i64 (c:Int)] 58);obtain ⟨c0',c1'⟩:=z04 hr.row;obtain ⟨d0',d1'⟩:=z04 hx;obtain ⟨a,rfl,hlt,hcs⟩:=hr.strs.2.resolve_left (by intro e; rw[e] at hj; cases hj);have c0:=cell_regrown c0';have d0:=cell_regrown d0';have d1:=cell_regrown d1';have hck:=cell_regrown (hcs j hj);have hl6:=h.len;clear h hr hb hcs hx c0' c1' d0' d1';go_enter Tryz.func85,Tryz.ntmps85
 go_wp2_with fail
 generalize w.alloc (.cells #[.int .i64 (j:Int),.int .i64 (c:Int)] 58)=W at *;refine wp_region_quiet_below (by kernel_rfl) (by kernel_rfl) ?_
 repeat (first | go_big_quiet_step (first | (go_at_call 62; exact Calls.regrown_of (HW.out _)) | (go_at_call 61; exact Calls.regrown_of (HR.out _))) | quiet_step (first | (go_at_call 62; exact Calls.regrown_of (HW.out _)) | (go_at_call 61; exact Calls.regrown_of (HR.out _))))
 refine wpQuiet_nil ?_
 intro _ hw'
 obtain ⟨⟨dq,osq⟩,hw''⟩:=hw';subst hw'';have HF:=hid (HB.out.trans ((below_regrown W dq osq).mono HB.out.size));generalize «Sort».grow (redrawn W dq) osq=W2 at *;clear c0 d0 d1 hck;go_wp2;go_ret;exact ⟨rfl,HF.out⟩
theorem zey {w:World}{rb cap:Nat}{A:Option Addr}{zs:List ByteArray}{L:Int}(h:Rdr w rb A cap zs L)(j c k:Nat)(hj:j<zs.length)(hc:8*c+k≤(zs[j]).size) :
 Calls Tryz.prog 172 #[.pointer (some ⟨rb,0,none⟩),plV j c,.int .i64 k] w fun e w'=>e= .returned (.string ((zs[j]).extract (8*c) (8*c+k)))∧Below w.heap.size w w':=by
 have hsm:=h.small _ (List.getElem_mem hj);have e1:=(z1t (n:=(c:Int)*8) (by omega) (by omega)).1;have e2:=(z1t (n:=(c:Int)*8) (by omega) (by omega)).2;have e3:=(z1t (n:=(c:Int)*8+k) (by omega) (by omega)).1;have e4:=(z1t (n:=(c:Int)*8+k) (by omega) (by omega)).2
 have e5:(0:Int)≤(c:Int)*8:=by omega
 have e6:(c:Int)*8≤(c:Int)*8+k:=by omega
 have e7:(c:Int)*8+k≤((zs[j]).size:Int):=by omega
 have e8:((c:Int)*8).toNat=8*c:=by omega
 have e9:((c:Int)*8+k).toNat=8*c+k:=by omega
 have hb:=(Below.refl w.heap.size w).alloc (Nat.le_refl _) (.cells #[.int .i64 (j:Int),.int .i64 (c:Int)] 58);have HB:=hid hb;have hr:=h.below hb;have hx:=heap_alloc_new w (.cells #[.int .i64 (j:Int),.int .i64 (c:Int)] 58);obtain ⟨c0,c1⟩:=z04 hr.row;obtain ⟨d0,d1⟩:=z04 hx;obtain ⟨a,rfl,hlt,hcs⟩:=hr.strs.2.resolve_left (by intro e; rw[e] at hj; cases hj);have hck:=hcs j hj;have hl6:=h.len;clear h hr hb hcs hx;go_enter Tryz.func172,Tryz.ntmps172
 go_wp2_with fail
 generalize w.alloc (.cells #[.int .i64 (j:Int),.int .i64 (c:Int)] 58)=W at *
 go_quiet (fail)
 go_wp2;go_ret;exact ⟨rfl,zad HB.out nq⟩
theorem z4e {w:World}{b:Nat}{p v:Value}{T:TypeId}(h:w.heap[b]? =some (.cells #[p,v] T (0,0)))(x y:Value):((w.setCell ⟨b,0,none⟩ x).setCell ⟨b,1,none⟩ y).heap[b]? =some (.cells #[x,y] T (0,0)):=by
 simp[World.setCell,Array.getElem?_modify,h]
theorem z2k {B:Nat}{w w':World}(h:Below B w w')(b:Nat)(hb:B≤b+1)(x y:Value):Below B w ((w'.setCell ⟨b+1,0,none⟩ x).setCell ⟨b+1,1,none⟩ y):=(h.setCell hb x).setCell hb y
theorem z5p (x:Value)(w:World):(Instr.typeAssert (.iface 168 x) 91 172 true).run Tryz.prog w= .ok (.tuple #[.agg #[.int .i64 0,.int .i64 0,.bool false],.bool false]) w:=by kernel_rfl
theorem z5g (x:Value)(w:World):(Instr.typeAssert (.iface 170 x) 91 172 true).run Tryz.prog w= .ok (.tuple #[.agg #[.int .i64 0,.int .i64 0,.bool false],.bool false]) w:=by kernel_rfl
abbrev fiV (o g:Int):Value:= .iface 172 (.agg #[.int .i64 o,.int .i64 g,.bool false])
abbrev siV (o d p:Int):Value:= .iface 168 (.agg #[.int .i64 o,.int .i64 d,.int .i64 p])
abbrev liV (o z c:Int):Value:= .iface 170 (.agg #[.int .i64 o,.int .i64 z,.int .i64 c])
theorem zs7 (o d p:Int)(w:World) :
 Calls Tryz.prog 164 #[siV o d p] w fun e w'=>e= .returned (.tuple #[.int .i64 o,.bool true])∧Below w.heap.size w w':=by
 have t1:=z3f;have t2:=z4d;have t3:=z4c;go_enter Tryz.func164,Tryz.ntmps164;go_wp2;exact bodyPost_ret (v:= .tuple #[.int .i64 o,.bool true]) (by simp[results,Tryz.results164,go_sem]) rfl ⟨rfl,by repeat (first | exact Below.refl _ _ | refine Below.alloc ?_ (by simp) _)⟩
theorem zpz (o d p s a:Int)(w:World)(h0: -100000≤a)(h1:a≤100000)(k0: -100000≤o)(k1:o≤100000) :
 Calls Tryz.prog 129 #[siV o d p,plV s a] w fun e w'=>e= .returned (.tuple #[siV o d p,plV s (a+(1+o)),.nilIface])∧Below w.heap.size w w':=by
 have e1:=(z1t (n:=1+o) (by omega) (by omega)).1;have e2:=(z1t (n:=1+o) (by omega) (by omega)).2;have HO:=hid (zs7 o d p);have HH:=hid (fun W:World=>z5t s a (1+o) W (by omega) (by omega) (by omega) (by omega));generalize a+(1+o)=b at *;have hb0:=(Below.refl w.heap.size w).alloc (Nat.le_refl _) (.cells #[.int .i64 s,.int .i64 a] 58);have hb1:=hb0.alloc (by simp) (.cells #[.int .i64 0,.int .i64 0] 58);have hr0:((w.alloc (.cells #[.int .i64 s,.int .i64 a] 58)).alloc (.cells #[.int .i64 0,.int .i64 0] 58)).heap[w.heap.size]? =some (.cells #[.int .i64 s,.int .i64 a] 58 (0,0)):=heap_alloc2_old w _ _;have hr1:((w.alloc (.cells #[.int .i64 s,.int .i64 a] 58)).alloc (.cells #[.int .i64 0,.int .i64 0] 58)).heap[w.heap.size+1]? =some (.cells #[.int .i64 0,.int .i64 0] 58 (0,0)):=heap_alloc2_new w _ _;have HB:=hid hb1;have R0:=hid hr0;have R1:=hid hr1;clear hb0 hb1 hr0 hr1;go_enter Tryz.func129,Tryz.ntmps129
 go_wp2_with fail
 generalize (w.alloc (.cells #[.int .i64 s,.int .i64 a] 58)).alloc (.cells #[.int .i64 0,.int .i64 0] 58)=W at *;refine (HO.out _).mono ?_;rintro e w1 ⟨rfl,hb1⟩;have HB1:=hid (HB.out.trans (hb1.mono HB.out.size));have r0:=(hb1.block _ (z00 R0.out)).trans R0.out;have r1:=(hb1.block _ (z00 R1.out)).trans R1.out;have R1':=hid r1;obtain ⟨c0,c1⟩:=z04 r0;clear hb1 r0 r1 R0
 go_wp2_with fail
 refine (HH.out _).mono ?_;rintro e w2 ⟨rfl,hb2⟩;have HB2:=hid (HB1.out.trans (hb2.mono HB1.out.size));have r1:=(hb2.block _ (z00 R1'.out)).trans R1'.out;have R2:=hid r1;obtain ⟨d0,d1⟩:=z04 r1;have f0:=z02 r1 0;have f1:=z02 r1 1;clear hb2 r1 c0 c1;go_wp2;have hq:=z4e R2.out (.int .i64 s) (.int .i64 b);have HBF:=hid (z2k HB2.out w.heap.size (by omega) (.int .i64 s) (.int .i64 b));generalize ((w2.setCell ⟨w.heap.size+1,0,none⟩ (.int .i64 s)).setCell ⟨w.heap.size+1,1,none⟩ (.int .i64 b))=wq at *;obtain ⟨q0,q1⟩:=z04 hq;exact bodyPost_ret (v:= .tuple #[siV o d p,plV s b,.nilIface]) (by simp[results,Tryz.results129,go_sem,q0,q1]) rfl ⟨rfl,HBF.out⟩
theorem zrx (o z q:Int)(w:World) :
 Calls Tryz.prog 164 #[liV o z q] w fun e w'=>e= .returned (.tuple #[.int .i64 o,.bool true])∧Below w.heap.size w w':=by
 have t1:=z3f;have t2:=z4d;have t3:=z4c;go_enter Tryz.func164,Tryz.ntmps164;go_wp2;exact bodyPost_ret (v:= .tuple #[.int .i64 o,.bool true]) (by simp[results,Tryz.results164,go_sem]) rfl ⟨rfl,by repeat (first | exact Below.refl _ _ | refine Below.alloc ?_ (by simp) _)⟩
theorem zqa (o z q s a:Int)(w:World)(h0: -100000≤a)(h1:a≤100000)(k0: -100000≤o)(k1:o≤100000) :
 Calls Tryz.prog 129 #[liV o z q,plV s a] w fun e w'=>e= .returned (.tuple #[liV o z q,plV s (a+(1+o)),.nilIface])∧Below w.heap.size w w':=by
 have e1:=(z1t (n:=1+o) (by omega) (by omega)).1;have e2:=(z1t (n:=1+o) (by omega) (by omega)).2;have HO:=hid (zrx o z q);have HH:=hid (fun W:World=>z5t s a (1+o) W (by omega) (by omega) (by omega) (by omega));generalize a+(1+o)=b at *;have hb0:=(Below.refl w.heap.size w).alloc (Nat.le_refl _) (.cells #[.int .i64 s,.int .i64 a] 58);have hb1:=hb0.alloc (by simp) (.cells #[.int .i64 0,.int .i64 0] 58);have hr0:((w.alloc (.cells #[.int .i64 s,.int .i64 a] 58)).alloc (.cells #[.int .i64 0,.int .i64 0] 58)).heap[w.heap.size]? =some (.cells #[.int .i64 s,.int .i64 a] 58 (0,0)):=heap_alloc2_old w _ _;have hr1:((w.alloc (.cells #[.int .i64 s,.int .i64 a] 58)).alloc (.cells #[.int .i64 0,.int .i64 0] 58)).heap[w.heap.size+1]? =some (.cells #[.int .i64 0,.int .i64 0] 58 (0,0)):=heap_alloc2_new w _ _;have HB:=hid hb1;have R0:=hid hr0;have R1:=hid hr1;clear hb0 hb1 hr0 hr1;go_enter Tryz.func129,Tryz.ntmps129
 go_wp2_with fail
 generalize (w.alloc (.cells #[.int .i64 s,.int .i64 a] 58)).alloc (.cells #[.int .i64 0,.int .i64 0] 58)=W at *;refine (HO.out _).mono ?_;rintro e w1 ⟨rfl,hb1⟩;have HB1:=hid (HB.out.trans (hb1.mono HB.out.size));have r0:=(hb1.block _ (z00 R0.out)).trans R0.out;have r1:=(hb1.block _ (z00 R1.out)).trans R1.out;have R1':=hid r1;obtain ⟨c0,c1⟩:=z04 r0;clear hb1 r0 r1 R0
 go_wp2_with fail
 refine (HH.out _).mono ?_;rintro e w2 ⟨rfl,hb2⟩;have HB2:=hid (HB1.out.trans (hb2.mono HB1.out.size));have r1:=(hb2.block _ (z00 R1'.out)).trans R1'.out;have R2:=hid r1;obtain ⟨d0,d1⟩:=z04 r1;have f0:=z02 r1 0;have f1:=z02 r1 1;clear hb2 r1 c0 c1;go_wp2;have hq:=z4e R2.out (.int .i64 s) (.int .i64 b);have HBF:=hid (z2k HB2.out w.heap.size (by omega) (.int .i64 s) (.int .i64 b));generalize ((w2.setCell ⟨w.heap.size+1,0,none⟩ (.int .i64 s)).setCell ⟨w.heap.size+1,1,none⟩ (.int .i64 b))=wq at *;obtain ⟨q0,q1⟩:=z04 hq;exact bodyPost_ret (v:= .tuple #[liV o z q,plV s b,.nilIface]) (by simp[results,Tryz.results129,go_sem,q0,q1]) rfl ⟨rfl,HBF.out⟩
theorem znq {w:World}(rb:Nat)(o d p s a:Int)(h0: -100000≤a)(h1:a≤100000)(k0: -100000≤o)(k1:o≤100000) :
 Calls Tryz.prog 86 #[.pointer (some ⟨rb,0,none⟩),siV o d p,plV s a] w fun e w'=>e= .returned (.tuple #[siV o d p,plV s (a+(1+o)),.nilIface])∧Below w.heap.size w w':=by
 have HN:=hid (fun W:World=>zpz o d p s a W h0 h1 k0 k1);generalize a+(1+o)=b at *;have hb0:=(Below.refl w.heap.size w).alloc (Nat.le_refl _) (.cells #[.int .i64 s,.int .i64 a] 58);have hb1:=hb0.alloc (by simp) (.cells #[.int .i64 0,.int .i64 0] 58);have hb2:=hb1.alloc (by simp <;> omega) (.cells #[.int .i64 0,.int .i64 0,.bool false] 172);have t1:=z5p;have t2:=z5g;have t3:=z5m;go_enter Tryz.func86,Tryz.ntmps86
 go_wp2_with fail
 have hr1:(((w.alloc (.cells #[.int .i64 s,.int .i64 a] 58)).alloc (.cells #[.int .i64 0,.int .i64 0] 58)).alloc (.cells #[.int .i64 0,.int .i64 0,.bool false] 172)).heap[w.heap.size+1]? =some (.cells #[.int .i64 0,.int .i64 0] 58 (0,0)):=(Below.heap_alloc _ _ _ (by simp)).trans (heap_alloc2_new w _ _);generalize ((w.alloc (.cells #[.int .i64 s,.int .i64 a] 58)).alloc (.cells #[.int .i64 0,.int .i64 0] 58)).alloc (.cells #[.int .i64 0,.int .i64 0,.bool false] 172)=W at *;refine (HN.out _).mono ?_;rintro e w2 ⟨rfl,hb3⟩;have HB2:=hid (hb2.trans (hb3.mono hb2.size));have r1:=(hb3.block _ (z00 hr1)).trans hr1;have R2:=hid r1;obtain ⟨d0,d1⟩:=z04 r1;have f0:=z02 r1 0;have f1:=z02 r1 1;clear hb2 hb3 r1 hr1 hb0 hb1;go_wp2;have hq:=z4e R2.out (.int .i64 s) (.int .i64 b);have HBF:=hid (z2k HB2.out w.heap.size (by omega) (.int .i64 s) (.int .i64 b));generalize ((w2.setCell ⟨w.heap.size+1,0,none⟩ (.int .i64 s)).setCell ⟨w.heap.size+1,1,none⟩ (.int .i64 b))=wq at *;obtain ⟨q0,q1⟩:=z04 hq;exact bodyPost_ret (v:= .tuple #[siV o d p,plV s b,.nilIface]) (by simp[results,Tryz.results86,go_sem,q0,q1]) rfl ⟨rfl,HBF.out⟩
theorem zg0 {w:World}{rb cap:Nat}{A:Option Addr}{zs:List ByteArray}{L:Int}(h:Rdr w rb A cap zs L)(o d p s a:Int)(j c:Nat)(hj:j<zs.length)(hc:8*c+8≤(zs[j]).size){x:Int×Int×Int×Int×Int×Int×Int×Bool}(hx:RdW (((zs[j]).data.toList.drop (8*c)).take 8) x)(hxv:ptI x=siV o d p)(k0: -10000≤o)(k1:o≤10000) :
 Calls Tryz.prog 86 #[.pointer (some ⟨rb,0,none⟩),fiV c j,plV s a] w fun e w'=>e= .returned (.tuple #[siV o d p,plV j (c+(1+o)),.nilIface])∧Below w.heap.size w w':=by
 have hsm:=(h.small _ (List.getElem_mem hj)).1;have HN:=hid (fun W:World=>zpz o d p j c W (by omega) (by omega) (by omega) (by omega));have HH:=hid (fun (W:World) (hW:Below w.heap.size w W)=>has_a (h.below hW) j c 1 hj (by omega));have HP:=hid (fun (W:World) (hW:Below w.heap.size w W)=>z1v (h.below hW) j c hj hc hx);rw[hxv] at HP;generalize (c:Int)+(1+o)=b at *
 have hb3:=(((((Below.refl w.heap.size w).alloc (Nat.le_refl _) (.cells #[.int .i64 s,.int .i64 a] 58)).alloc (by simp) (.cells #[.int .i64 0,.int .i64 0] 58)).alloc (by simp <;> omega) (.cells #[.int .i64 (c:Int),.int .i64 (j:Int),.bool false] 172)).alloc (by simp <;> omega) (.cells #[.int .i64 (j:Int),.int .i64 (c:Int)] 58))
 have t1:=z5p;have t2:=z5g;have t3:=z5m;clear h hc hx hxv hsm;go_enter Tryz.func86,Tryz.ntmps86
 go_wp2_with fail
 have hr1:((((w.alloc (.cells #[.int .i64 s,.int .i64 a] 58)).alloc (.cells #[.int .i64 0,.int .i64 0] 58)).alloc (.cells #[.int .i64 (c:Int),.int .i64 (j:Int),.bool false] 172)).alloc (.cells #[.int .i64 (j:Int),.int .i64 (c:Int)] 58)).heap[w.heap.size+1]? =some (.cells #[.int .i64 0,.int .i64 0] 58 (0,0)):=(Below.heap_alloc _ _ _ (by simp <;> omega)).trans ((Below.heap_alloc _ _ _ (by simp)).trans (heap_alloc2_new w _ _))
 have hr3:((((w.alloc (.cells #[.int .i64 s,.int .i64 a] 58)).alloc (.cells #[.int .i64 0,.int .i64 0] 58)).alloc (.cells #[.int .i64 (c:Int),.int .i64 (j:Int),.bool false] 172)).alloc (.cells #[.int .i64 (j:Int),.int .i64 (c:Int)] 58)).heap[w.heap.size+1+1+1]? =some (.cells #[.int .i64 (j:Int),.int .i64 (c:Int)] 58 (0,0)):=by
  have:=heap_alloc_new (((w.alloc (.cells #[.int .i64 s,.int .i64 a] 58)).alloc (.cells #[.int .i64 0,.int .i64 0] 58)).alloc (.cells #[.int .i64 (c:Int),.int .i64 (j:Int),.bool false] 172)) (.cells #[.int .i64 (j:Int),.int .i64 (c:Int)] 58)
  rwa [show (((w.alloc (.cells #[.int .i64 s,.int .i64 a] 58)).alloc (.cells #[.int .i64 0,.int .i64 0] 58)).alloc (.cells #[.int .i64 (c:Int),.int .i64 (j:Int),.bool false] 172)).heap.size=w.heap.size+1+1+1 by simp] at this
 generalize (((w.alloc (.cells #[.int .i64 s,.int .i64 a] 58)).alloc (.cells #[.int .i64 0,.int .i64 0] 58)).alloc (.cells #[.int .i64 (c:Int),.int .i64 (j:Int),.bool false] 172)).alloc (.cells #[.int .i64 (j:Int),.int .i64 (c:Int)] 58)=W at *;refine (HH.out _ hb3).mono ?_;rintro e w5 ⟨rfl,hb5⟩;have HB5:=hid (hb3.trans (hb5.mono hb3.size));have r1:=(hb5.block _ (z00 hr1)).trans hr1;have r3:=(hb5.block _ (z00 hr3)).trans hr3;have R1:=hid r1;have R3:=hid r3;obtain ⟨c0,c1⟩:=z04 r3;clear hb3 hb5 r1 r3 hr1 hr3;have hsz5:(w5.drew).heap.size=w5.heap.size:=rfl
 go_wp2_with fail
 go_region_with (first | (go_at_call 85; go_must (refine (HP.out _ (by exact HB5.out.drew)).mono ?_); rintro e w6 ⟨rfl,hb6⟩; have r6:=(hb6.block _ (z00 R3.out)).trans R3.out; obtain ⟨g0,g1⟩:=z04 r6; clear r6) | (go_at_call 129; go_must (refine (HN.out _).mono ?_); rintro e w7 ⟨rfl,hb7⟩; have r7:=(hb7.block _ (z00 ((hb6.block _ (z00 R1.out)).trans R1.out))).trans ((hb6.block _ (z00 R1.out)).trans R1.out); obtain ⟨d0,d1⟩:=z04 r7; have f0:=z02 r7 0; have f1:=z02 r7 1))
 all_goals
  have HB7:=HB5.out.drew.trans ((hb6.trans (hb7.mono hb6.size)).mono HB5.out.drew.size);have hq:=z4e r7 (.int .i64 (j:Int)) (.int .i64 b);have HBF:=hid (z2k HB7 w.heap.size (by omega) (.int .i64 (j:Int)) (.int .i64 b));generalize ((w7.setCell ⟨w.heap.size+1,0,none⟩ (.int .i64 (j:Int))).setCell ⟨w.heap.size+1,1,none⟩ (.int .i64 b))=wq at *;obtain ⟨q0,q1⟩:=z04 hq;clear g0 g1 d0 d1 f0 f1 c0 c1 HB7 hb6 hb7;go_wp2;exact bodyPost_ret (v:= .tuple #[siV o d p,plV j b,.nilIface]) (by simp[results,Tryz.results86,go_sem,q0,q1]) rfl ⟨rfl,HBF.out⟩
theorem zpf {w:World}(rb:Nat)(o z q s a:Int)(h0: -100000≤a)(h1:a≤100000)(k0: -100000≤o)(k1:o≤100000) :
 Calls Tryz.prog 86 #[.pointer (some ⟨rb,0,none⟩),liV o z q,plV s a] w fun e w'=>e= .returned (.tuple #[liV o z q,plV s (a+(1+o)),.nilIface])∧Below w.heap.size w w':=by
 have HN:=hid (fun W:World=>zqa o z q s a W h0 h1 k0 k1);generalize a+(1+o)=b at *;have hb0:=(Below.refl w.heap.size w).alloc (Nat.le_refl _) (.cells #[.int .i64 s,.int .i64 a] 58);have hb1:=hb0.alloc (by simp) (.cells #[.int .i64 0,.int .i64 0] 58);have hb2:=hb1.alloc (by simp <;> omega) (.cells #[.int .i64 0,.int .i64 0,.bool false] 172);have t1:=z5p;have t2:=z5g;have t3:=z5m;go_enter Tryz.func86,Tryz.ntmps86
 go_wp2_with fail
 have hr1:(((w.alloc (.cells #[.int .i64 s,.int .i64 a] 58)).alloc (.cells #[.int .i64 0,.int .i64 0] 58)).alloc (.cells #[.int .i64 0,.int .i64 0,.bool false] 172)).heap[w.heap.size+1]? =some (.cells #[.int .i64 0,.int .i64 0] 58 (0,0)):=(Below.heap_alloc _ _ _ (by simp)).trans (heap_alloc2_new w _ _);generalize ((w.alloc (.cells #[.int .i64 s,.int .i64 a] 58)).alloc (.cells #[.int .i64 0,.int .i64 0] 58)).alloc (.cells #[.int .i64 0,.int .i64 0,.bool false] 172)=W at *;refine (HN.out _).mono ?_;rintro e w2 ⟨rfl,hb3⟩;have HB2:=hid (hb2.trans (hb3.mono hb2.size));have r1:=(hb3.block _ (z00 hr1)).trans hr1;have R2:=hid r1;obtain ⟨d0,d1⟩:=z04 r1;have f0:=z02 r1 0;have f1:=z02 r1 1;clear hb2 hb3 r1 hr1 hb0 hb1;go_wp2;have hq:=z4e R2.out (.int .i64 s) (.int .i64 b);have HBF:=hid (z2k HB2.out w.heap.size (by omega) (.int .i64 s) (.int .i64 b));generalize ((w2.setCell ⟨w.heap.size+1,0,none⟩ (.int .i64 s)).setCell ⟨w.heap.size+1,1,none⟩ (.int .i64 b))=wq at *;obtain ⟨q0,q1⟩:=z04 hq;exact bodyPost_ret (v:= .tuple #[liV o z q,plV s b,.nilIface]) (by simp[results,Tryz.results86,go_sem,q0,q1]) rfl ⟨rfl,HBF.out⟩
theorem zfb {w:World}{rb cap:Nat}{A:Option Addr}{zs:List ByteArray}{L:Int}(h:Rdr w rb A cap zs L)(o z q s a:Int)(j c:Nat)(hj:j<zs.length)(hc:8*c+8≤(zs[j]).size){x:Int×Int×Int×Int×Int×Int×Int×Bool}(hx:RdW (((zs[j]).data.toList.drop (8*c)).take 8) x)(hxv:ptI x=liV o z q)(k0: -10000≤o)(k1:o≤10000) :
 Calls Tryz.prog 86 #[.pointer (some ⟨rb,0,none⟩),fiV c j,plV s a] w fun e w'=>e= .returned (.tuple #[liV o z q,plV j (c+(1+o)),.nilIface])∧Below w.heap.size w w':=by
 have hsm:=(h.small _ (List.getElem_mem hj)).1;have HN:=hid (fun W:World=>zqa o z q j c W (by omega) (by omega) (by omega) (by omega));have HH:=hid (fun (W:World) (hW:Below w.heap.size w W)=>has_a (h.below hW) j c 1 hj (by omega));have HP:=hid (fun (W:World) (hW:Below w.heap.size w W)=>z1v (h.below hW) j c hj hc hx);rw[hxv] at HP;generalize (c:Int)+(1+o)=b at *
 have hb3:=(((((Below.refl w.heap.size w).alloc (Nat.le_refl _) (.cells #[.int .i64 s,.int .i64 a] 58)).alloc (by simp) (.cells #[.int .i64 0,.int .i64 0] 58)).alloc (by simp <;> omega) (.cells #[.int .i64 (c:Int),.int .i64 (j:Int),.bool false] 172)).alloc (by simp <;> omega) (.cells #[.int .i64 (j:Int),.int .i64 (c:Int)] 58))
 have t1:=z5p;have t2:=z5g;have t3:=z5m;clear h hc hx hxv hsm;go_enter Tryz.func86,Tryz.ntmps86
 go_wp2_with fail
 have hr1:((((w.alloc (.cells #[.int .i64 s,.int .i64 a] 58)).alloc (.cells #[.int .i64 0,.int .i64 0] 58)).alloc (.cells #[.int .i64 (c:Int),.int .i64 (j:Int),.bool false] 172)).alloc (.cells #[.int .i64 (j:Int),.int .i64 (c:Int)] 58)).heap[w.heap.size+1]? =some (.cells #[.int .i64 0,.int .i64 0] 58 (0,0)):=(Below.heap_alloc _ _ _ (by simp <;> omega)).trans ((Below.heap_alloc _ _ _ (by simp)).trans (heap_alloc2_new w _ _))
 have hr3:((((w.alloc (.cells #[.int .i64 s,.int .i64 a] 58)).alloc (.cells #[.int .i64 0,.int .i64 0] 58)).alloc (.cells #[.int .i64 (c:Int),.int .i64 (j:Int),.bool false] 172)).alloc (.cells #[.int .i64 (j:Int),.int .i64 (c:Int)] 58)).heap[w.heap.size+1+1+1]? =some (.cells #[.int .i64 (j:Int),.int .i64 (c:Int)] 58 (0,0)):=by
  have:=heap_alloc_new (((w.alloc (.cells #[.int .i64 s,.int .i64 a] 58)).alloc (.cells #[.int .i64 0,.int .i64 0] 58)).alloc (.cells #[.int .i64 (c:Int),.int .i64 (j:Int),.bool false] 172)) (.cells #[.int .i64 (j:Int),.int .i64 (c:Int)] 58)
  rwa [show (((w.alloc (.cells #[.int .i64 s,.int .i64 a] 58)).alloc (.cells #[.int .i64 0,.int .i64 0] 58)).alloc (.cells #[.int .i64 (c:Int),.int .i64 (j:Int),.bool false] 172)).heap.size=w.heap.size+1+1+1 by simp] at this
 generalize (((w.alloc (.cells #[.int .i64 s,.int .i64 a] 58)).alloc (.cells #[.int .i64 0,.int .i64 0] 58)).alloc (.cells #[.int .i64 (c:Int),.int .i64 (j:Int),.bool false] 172)).alloc (.cells #[.int .i64 (j:Int),.int .i64 (c:Int)] 58)=W at *;refine (HH.out _ hb3).mono ?_;rintro e w5 ⟨rfl,hb5⟩;have HB5:=hid (hb3.trans (hb5.mono hb3.size));have r1:=(hb5.block _ (z00 hr1)).trans hr1;have r3:=(hb5.block _ (z00 hr3)).trans hr3;have R1:=hid r1;have R3:=hid r3;obtain ⟨c0,c1⟩:=z04 r3;clear hb3 hb5 r1 r3 hr1 hr3;have hsz5:(w5.drew).heap.size=w5.heap.size:=rfl
 go_wp2_with fail
 go_region_with (first | (go_at_call 85; go_must (refine (HP.out _ (by exact HB5.out.drew)).mono ?_); rintro e w6 ⟨rfl,hb6⟩; have r6:=(hb6.block _ (z00 R3.out)).trans R3.out; obtain ⟨g0,g1⟩:=z04 r6; clear r6) | (go_at_call 129; go_must (refine (HN.out _).mono ?_); rintro e w7 ⟨rfl,hb7⟩; have r7:=(hb7.block _ (z00 ((hb6.block _ (z00 R1.out)).trans R1.out))).trans ((hb6.block _ (z00 R1.out)).trans R1.out); obtain ⟨d0,d1⟩:=z04 r7; have f0:=z02 r7 0; have f1:=z02 r7 1))
 all_goals
  have HB7:=HB5.out.drew.trans ((hb6.trans (hb7.mono hb6.size)).mono HB5.out.drew.size);have hq:=z4e r7 (.int .i64 (j:Int)) (.int .i64 b);have HBF:=hid (z2k HB7 w.heap.size (by omega) (.int .i64 (j:Int)) (.int .i64 b));generalize ((w7.setCell ⟨w.heap.size+1,0,none⟩ (.int .i64 (j:Int))).setCell ⟨w.heap.size+1,1,none⟩ (.int .i64 b))=wq at *;obtain ⟨q0,q1⟩:=z04 hq;clear g0 g1 d0 d1 f0 f1 c0 c1 HB7 hb6 hb7;go_wp2;exact bodyPost_ret (v:= .tuple #[liV o z q,plV j b,.nilIface]) (by simp[results,Tryz.results86,go_sem,q0,q1]) rfl ⟨rfl,HBF.out⟩
structure RdLow (rb:Nat) (A:Option Addr) (zs:List ByteArray) (B:Nat):Prop where
 rb:rb<B
 txt:zs= []∨∃a:Addr,A=some a∧a.block<B
theorem Rdr.low {w:World}{rb cap:Nat}{A:Option Addr}{zs:List ByteArray}{L:Int}(h:Rdr w rb A cap zs L):RdLow rb A zs w.heap.size :=
 ⟨h.lt,h.strs.2.imp id (fun ⟨a,ha,hl,_⟩=>⟨a,ha,hl⟩)⟩
theorem RdLow.mono {rb B B':Nat}{A:Option Addr}{zs:List ByteArray}(h:RdLow rb A zs B)(hb:B≤B'):RdLow rb A zs B':=⟨Nat.lt_of_lt_of_le h.rb hb,h.txt.imp id (fun ⟨a,ha,hl⟩=>⟨a,ha,Nat.lt_of_lt_of_le hl hb⟩)⟩
theorem Rdr.keepB {w w':World}{rb cap B:Nat}{A:Option Addr}{zs:List ByteArray}{L:Int}(h:Rdr w rb A cap zs L)(hl:RdLow rb A zs B)(hb:Below B w w'):Rdr w' rb A cap zs L:=by
 refine ⟨(hb.block _ hl.rb).trans h.row,⟨h.strs.1,?_⟩,h.off,h.len,h.small⟩
 rcases hl.txt with h0 | ⟨a,ha,hlt⟩
 · exact .inl h0
 · rcases h.strs.2 with h0 | ⟨a',ha',hlt',hc⟩
   · exact .inl h0
   · rw[ha] at ha'
     injection ha' with ha'
     subst ha';exact .inr ⟨a,ha,Nat.lt_of_lt_of_le hlt' hb.size,fun i hi=>(hb.cell (p:=a.add i) (by rw[z0r]; exact hlt)).trans (hc i hi)⟩
theorem zim {w w':World}{rb base m z:Nat}{e:TypeId}{v:Value}{xs:List Value}(h:w.ownsRow base e z v m xs)(hk:Keeps w.heap.size rb w w')(hR:rb<base):w'.ownsRow base e z v m xs:=by
 refine h.kept (row:=some rb) ⟨hk.os,hk.tape,hk.output,hk.size,fun k hk1 hne=>hk.block k hk1 (fun e=>hne (by rw[e]))⟩ ?_
 by_cases hv:v.ownBlock=none
 · exact .inl hv
 · refine .inr (fun e=>?_)
   have:=(h.lt rb (by rw[e])).1;omega
theorem NdAt.keepsR {w w':World}{rb m:Nat}{n:Nd}{h:Hd}{S:Nat→Prop}(hn:NdAt w S m n h)(hk:Keeps w.heap.size rb w w')(hS:∀k,S k→k≠rb):NdAt w' S m n h :=
 hn.map' (fun _ _ h=>h) (fun p _ _ hs hc=>hc.block (hk.block _ hc.lt (hS _ hs)))
def NRw (w:World)(B:Nat)(v:Value)(q:List (Nd×Hd))(M:Nat):Prop :=
 w.ownsRow B nodeT 6 v q.length (rowOf q)∧∀r∈q,NdAt w (fun k=>B≤k∧some k≠v.ownBlock) M r.1 r.2
theorem NRw.nil (w:World)(B M:Nat):NRw w B (.slice none 0 0) [] M:=⟨World.ownsRow_nil _ _ _ _,fun r h=>by cases h⟩
theorem NRw.keeps {w w':World}{B M rb:Nat}{v:Value}{q:List (Nd×Hd)}(h:NRw w B v q M)(hk:Keeps w.heap.size rb w w')(hR:rb<B):NRw w' B v q M :=
 ⟨zim h.1 hk hR,fun r hr=>(h.2 r hr).keepsR hk (fun k hs e=>by have:=hs.1; omega)⟩
theorem NRw.next {w3 w4:World}{B H M:Nat}{v v':Value}{q:List (Nd×Hd)}{y:Nd}{hy:Hd}(h:NRw w3 B v q M)(hny:NdAt w3 (From H) M y hy)(hBH:B≤H)(hvH:∀k,v.ownBlock=some k→k<H)
 (hown:w4.ownsRow B nodeT 6 v' (q.length+1) (rowOf q++rowOf [(y,hy)])) (hgrow:w3.grownBy w4 v.ownBlock) (hat:v'.ownBlock=v.ownBlock∨v'.ownBlock=some w3.heap.size):NRw w4 B v' (q++ [(y,hy)]) M:=by
 have hS:∀k,k<w3.heap.size→(B≤k∧some k≠v.ownBlock)→(B≤k∧some k≠v'.ownBlock):=fun k hk ⟨h1,h2⟩=>⟨h1,by
  rcases hat with h | h
  · rw[h]; exact h2
  · rw[h]; intro e; injection e with e; omega⟩
 refine ⟨by rw[List.length_append,z4g]; exact hown,fun r hr=>?_⟩
 rcases List.mem_append.1 hr with hr | hr
 · exact (h.2 r hr).map' hS (fun p _ _ hs hc=>hc.block (hgrow.block _ hc.lt hs.2))
 · obtain rfl:=List.mem_singleton.1 hr
   have h1:NdAt w3 (fun k=>B≤k∧some k≠v.ownBlock) M y hy:=hny.weak (fun k hk=>⟨Nat.le_trans hBH hk,fun e=>by have:=hvH k e.symm; have:H≤k:=hk; omega⟩);exact h1.map' hS (fun p _ _ hs hc=>hc.block (hgrow.block _ hc.lt hs.2))
theorem NRw.nds {w:World}{B M:Nat}{v:Value}{q:List (Nd×Hd)}(h:NRw w B v q M)(hq:q.length≤1000):∃A cap,v= .slice A q.length cap∧NdsAt w (From B) (M+1) A (q.map (·.1)) :=
 zbo h.1 (S:=From B) (fun _ h=>h) (by unfold maxLen; omega) (fun r hr=>(h.2 r hr).weak (fun _ h=>h.1))
def NdQ (M rb:Nat)(A:Option Addr)(cap:Nat)(zs:List ByteArray)(L:Int)(n:Nd)(w:World)(e:Ending)(w':World):Prop :=
 ∃h:Hd,e= .returned (.tuple #[.agg #[.int .i64 n.kind,.string n.data,.slice h.A n.ptrs.length h.a,.int .i64 n.size,.int .i64 n.count,.slice h.B n.items.length h.b],.nilIface])∧NdAt w' (From w.heap.size) M n h∧Rdr w' rb A cap zs L∧Keeps w.heap.size rb w w'
def NsQ (M rb:Nat)(A:Option Addr)(cap:Nat)(zs:List ByteArray)(L:Int)(l:List Nd)(w:World)(e:Ending)(w':World):Prop :=
 ∃(A':Option Addr) (c':Nat),e= .returned (.tuple #[.slice A' l.length c',.nilIface])∧NdsAt w' (From w.heap.size) (M+1) A' l∧Rdr w' rb A cap zs L∧Keeps w.heap.size rb w w'
theorem zbm (f:Nd→Nat)(l:List Nd)(k:Nat)(hk:k<l.length):((l.take (k+1)).map f).sum=((l.take k).map f).sum+f l[k]:=by
 rw[List.take_succ_eq_append_getElem hk,List.map_append,List.sum_append]; simp
theorem z6x (f:Nd→Nat)(l:List Nd)(k:Nat):((l.take k).map f).sum≤(l.map f).sum:=by
 have h:=congrArg (fun x=>(x.map f).sum) (List.take_append_drop k l)
 simp only[List.map_append,List.sum_append] at h
 omega
theorem zt3 (f:Nd→Nat)(M:Nat){w:World}{rb cap:Nat}{A:Option Addr}{zs:List ByteArray}{L:Int}(h:Rdr w rb A cap zs L)(b1 b2:Nat)(l:List Nd)(j c ws:Nat)(hL:L≤1000)(hl:l.length≤1000)(hc:c≤1000)(hws:ws≤300)(hcost:((l.map f).sum:Nat)≤L)
 (HI:∀(k:Nat) (hk:k<l.length) (L':Int) (W:World),(f l[k]:Int)≤L'→L'≤1000→Keeps w.heap.size rb w W→Rdr W rb A cap zs L'→Calls Tryz.prog 84 #[plV j ((c:Int)+(k:Int)*(ws:Int)),.pointer (some ⟨b1,0,none⟩),.pointer (some ⟨b2,0,none⟩)] W (NdQ M rb A cap zs (L'-(f l[k]:Nat)) l[k] W)) :
 Calls Tryz.prog 168 #[plV j c,.int .i64 l.length,.int .i64 ws,.func (.func 84) #[] #[.pointer (some ⟨b1,0,none⟩),.pointer (some ⟨b2,0,none⟩)]] w (NsQ M rb A cap zs (L-((l.map f).sum:Nat)) l w):=by
 obtain ⟨i0,hi,hz0,hz1,hz2⟩:=info_parts z63;have hlow:=h.low;have hb0:=(Below.refl w.heap.size w).alloc (Nat.le_refl _) (.cells #[.int .i64 (j:Int),.int .i64 (c:Int)] 58);have hr0:=heap_alloc_new w (.cells #[.int .i64 (j:Int),.int .i64 (c:Int)] 58)
 have hs0:(w.alloc (.cells #[.int .i64 (j:Int),.int .i64 (c:Int)] 58)).heap.size=w.heap.size+1:=by simp
 have HR0:=hid (h.below hb0);have HK0:Hid (Keeps w.heap.size rb w (w.alloc (.cells #[.int .i64 (j:Int),.int .i64 (c:Int)] 58))):=hid (Keeps.of_below hb0);have HX0:=hid hr0;have HII:=hid HI;have HLOW:=hid hlow;have hrb:=hlow.rb;have HCO:=hid hcost;clear h hb0 hr0 HI hlow hcost;go_enter Tryz.func168,Tryz.ntmps168
 go_wp2_with fail
 generalize w.alloc (.cells #[.int .i64 (j:Int),.int .i64 (c:Int)] 58)=W0 at *
 go_loopw [10,15] (fun v i wr=>∃(k:Nat),i= .int .i64 k∧k≤l.length∧Hid (∃q:List (Nd×Hd),q.map (·.1)=l.take k∧NRw wr (w.heap.size+1) v q M)∧Hid (wr.heap[w.heap.size]? =some (.cells #[.int .i64 (j:Int),.int .i64 (c:Int)] 58 (0,0)))∧Hid (Rdr wr rb A cap zs (L-(((l.take k).map f).sum:Nat))∧Keeps w.heap.size rb w wr∧w.heap.size+1≤wr.heap.size)) (fun _ i _=>l.length-(intOf i).toNat)
 case atStart=>exact ⟨0,rfl,by omega,hid ⟨[],by simp,NRw.nil _ _ _⟩,HX0,hid ⟨by simpa using HR0.out,HK0.out,by omega⟩⟩
 case round =>
  obtain ⟨k,rfl,hk,HQ,HX,HP⟩:=hrel
  by_cases hlt:k<l.length
  · obtain ⟨q,hq,hnr⟩:=HQ.out
    obtain ⟨hrd,hkp,hsz⟩:=HP.out;have hxr:=HX.out;obtain ⟨x0,x1⟩:=z04 hxr
    have hql:q.length=k:=by have:=congrArg List.length hq; simp at this; omega
    have hmul:k*ws≤1000*300:=Nat.mul_le_mul (by omega) hws
    have hkw:0≤(k:Int)*(ws:Int)∧(k:Int)*(ws:Int)≤300000:=by rw[← Int.natCast_mul]; omega
    have HE:=hid (z1t (n:=(k:Int)*(ws:Int)) (by omega) (by omega));have hcs:=zbm f l k hlt;have hcl:=z6x f l (k+1);have hco:=HCO.out;have HBH:=hid (fun W:World=>z5t j c ((k:Int)*(ws:Int)) W (by omega) (by omega) (by omega) (by omega))
    obtain ⟨y,hy⟩:∃y,y=l[k]:=⟨_,rfl⟩
    have HC:Hid (∀W:World,Keeps w.heap.size rb w W→Rdr W rb A cap zs (L-(((l.take k).map f).sum:Nat))→Calls Tryz.prog 84 #[plV j ((c:Int)+(k:Int)*(ws:Int)),.pointer (some ⟨b1,0,none⟩),.pointer (some ⟨b2,0,none⟩)] W (NdQ M rb A cap zs (L-(((l.take (k+1)).map f).sum:Nat)) y W)):=hid fun W h1 h2=>by
     have:=HII.out k hlt (L-(((l.take k).map f).sum:Nat)) W (by omega) (by omega) h1 h2;rw[hcs,hy]
     rwa [show L-((((l.take k).map f).sum+f l[k]:Nat):Int)=L-(((l.take k).map f).sum:Nat)-(f l[k]:Nat) by omega]
    have HY:Hid (q.map (·.1)++ [y]=l.take (k+1)):=hid (by rw[List.take_succ_eq_append_getElem hlt,hq,hy]);clear hcs hcl hco hmul;generalize (c:Int)+(k:Int)*(ws:Int)=pl at *;have HX1:=hid hxr;clear hq hy hxr HQ HX HP;have HRD:=hid hrd;have HKP:=hid hkp;have HNR:=hid hnr;have HSZ:=hid hsz;have HQL:=hid hql;have HKW:=hid hkw;clear hrd hkp hnr hsz hql hkw;have e1:=HE.out.1;have e2:=HE.out.2
    go_wp2_with fail
    clear e1 e2;refine (HBH.out _).mono ?_;rintro e w2 ⟨rfl,hb2⟩;have hR2:=HRD.out.below hb2
    have hK2:=HKP.out.then (by have:=HSZ.out; omega) (Keeps.of_below (b:=rb) hb2)
    have hN2:=HNR.out.keeps (Keeps.of_below (b:=rb) hb2) (by omega);have hx2:=(hb2.block _ (z00 HX1.out)).trans HX1.out;have HC2:=hid (HC.out w2 hK2 hR2);have HK2:=hid hK2;have HN2:=hid hN2;have HX2:=hid hx2;have hsz2:w.heap.size+1≤w2.heap.size:=Nat.le_trans HSZ.out hb2.size;have HSZ2:=hid hsz2;clear hR2 hK2 hN2 hx2 hb2 hsz2 x0 x1 HC;unfold NdQ at HC2
    go_wp2_with fail
    refine HC2.out.mono ?_;rintro e w3 ⟨hy,rfl,hny,hrd3,hk3⟩
    have hK3:=HK2.out.then (by have:=HSZ2.out; omega) hk3
    have hN3:=HN2.out.keeps hk3 (by omega);have hx3:=(hk3.block _ (z00 HX2.out) (by omega)).trans HX2.out;have hsz3:w.heap.size+1≤w3.heap.size:=Nat.le_trans HSZ2.out hk3.size
    have hH:∀k,u10.ownBlock=some k→k<w2.heap.size:=fun k hk=>(HN2.out.1.lt k hk).2
    have hge:w.heap.size+1≤w2.heap.size:=HSZ2.out;have hbb:Below w3.heap.size w3 ((w3.alloc (.cells #[.int .i64 y.kind,.string y.data,.slice hy.A y.ptrs.length hy.a,.int .i64 y.size,.int .i64 y.count,.slice hy.B y.items.length hy.b] nodeT)).alloc (.cells #[.int .i64 y.kind,.string y.data,.slice hy.A y.ptrs.length hy.a,.int .i64 y.size,.int .i64 y.count,.slice hy.B y.items.length hy.b] nodeT)):=((Below.refl _ _).alloc (Nat.le_refl _) _).alloc (by simp) _;have HN5:=hid (hN3.keeps (Keeps.of_below (b:=rb) hbb) (by omega));have HNY:=hid (hny.below hbb);have HR5:=hid (hrd3.below hbb);have HK5:=hid (hK3.then (by omega) (Keeps.of_below (b:=rb) hbb));have HX5:=hid ((hbb.block _ (z00 hx3)).trans hx3)
    have hs5:((w3.alloc (.cells #[.int .i64 y.kind,.string y.data,.slice hy.A y.ptrs.length hy.a,.int .i64 y.size,.int .i64 y.count,.slice hy.B y.items.length hy.b] nodeT)).alloc (.cells #[.int .i64 y.kind,.string y.data,.slice hy.A y.ptrs.length hy.a,.int .i64 y.size,.int .i64 y.count,.slice hy.B y.items.length hy.b] nodeT)).heap.size=w3.heap.size+2:=by simp
    have HNE:Hid (∀(i:Nat) (u:Value),(rowOf [(y,hy)])[i]? =some u→((w3.alloc (.cells #[.int .i64 y.kind,.string y.data,.slice hy.A y.ptrs.length hy.a,.int .i64 y.size,.int .i64 y.count,.slice hy.B y.items.length hy.b] nodeT)).alloc (.cells #[.int .i64 y.kind,.string y.data,.slice hy.A y.ptrs.length hy.a,.int .i64 y.size,.int .i64 y.count,.slice hy.B y.items.length hy.b] nodeT)).cell? ((⟨w3.heap.size+1,0,none⟩:Addr).add i)=some u):=hid (by
     have:=z28 (w3.alloc (.cells #[.int .i64 y.kind,.string y.data,.slice hy.A y.ptrs.length hy.a,.int .i64 y.size,.int .i64 y.count,.slice hy.B y.items.length hy.b] nodeT)) (y,hy) nodeT
     rwa [show (w3.alloc (.cells #[.int .i64 y.kind,.string y.data,.slice hy.A y.ptrs.length hy.a,.int .i64 y.size,.int .i64 y.count,.slice hy.B y.items.length hy.b] nodeT)).heap.size=w3.heap.size+1 by simp] at this)
    clear hny hrd3 hk3 hK3 hN3 hx3 hbb
    go_wp2_with (at_builtin; go_must (refine wpList_append_own_at _ rfl (.tmp 31) (.tmp 33) z2d rfl (w.heap.size+1) nodeT i0 _ 6 88 Tryz.underlying23 hi hz0 hz1 hz2 rfl (by decide) u10 q.length (rowOf q) rfl HN5.out.1 ⟨w3.heap.size+1,0,none⟩ 1 1 (rowOf [(y,hy)]) rfl rfl HNE.out (z3v _) (by have:=HQL.out; unfold maxLen; omega) (by have:=HQL.out; omega) (by rw[hs5]; omega) ?_); intro v6 w6 hown6 hgrow6 hnil6 hat6)
    have hbel:Below (w.heap.size+1) ((w3.alloc (.cells #[.int .i64 y.kind,.string y.data,.slice hy.A y.ptrs.length hy.a,.int .i64 y.size,.int .i64 y.count,.slice hy.B y.items.length hy.b] nodeT)).alloc (.cells #[.int .i64 y.kind,.string y.data,.slice hy.A y.ptrs.length hy.a,.int .i64 y.size,.int .i64 y.count,.slice hy.B y.items.length hy.b] nodeT)) w6:=(Below.refl _ _).grown hgrow6 (by rw[hs5]; omega) (fun k hk=>(HN5.out.1.lt k hk).1);have HQ6:Hid (∃q':List (Nd×Hd),q'.map (·.1)=l.take (k+1)∧NRw w6 (w.heap.size+1) v6 q' M):=hid ⟨q++ [(y,hy)],by rw[List.map_append]; exact HY.out,HN5.out.next HNY.out hge hH hown6 hgrow6 hat6⟩;have HX6:=hid ((hbel.block _ (by omega)).trans HX5.out);have HP6:Hid (Rdr w6 rb A cap zs (L-(((l.take (k+1)).map f).sum:Nat))∧Keeps w.heap.size rb w w6∧w.heap.size+1≤w6.heap.size):=hid ⟨HR5.out.keepB (HLOW.out.mono (by omega)) hbel,HK5.out.trans (Keeps.of_below (hbel.mono (by omega))),by have:=hbel.size; rw[hs5] at this; omega⟩;clear hown6 hgrow6 hnil6 hat6 hbel hs5 hsz3 hH hge;go_wp2
    go_roundw
    case rel=>exact ⟨k+1,by go_num,by omega,HQ6,HX6,HP6⟩
    case measure=>simp[intOf]; omega
  · obtain ⟨q,hq,hnr⟩:=HQ.out
    obtain ⟨hrd,hkp,hsz⟩:=HP.out
    have hkl:k=l.length:=by omega
    have htk:l.take k=l:=by rw[hkl]; exact List.take_length
    rw[htk] at hq hrd
    have hql:q.length=l.length:=by rw[← hq,List.length_map]
    obtain ⟨A',c',hv,hnds⟩:=hnr.nds (by omega);rw[hq] at hnds;rw[hql] at hv;subst hv;have HF:Hid (NdsAt wr (From w.heap.size) (M+1) A' l∧Rdr wr rb A cap zs (L-((l.map f).sum:Nat))∧Keeps w.heap.size rb w wr):=hid ⟨hnds.weak (fun k h=>by have:w.heap.size+1≤k:=h; show w.heap.size≤k; omega),hrd,hkp⟩
    have hkd:¬(k:Int)<(l.length:Int):=by omega
    clear hnr hrd hkp hsz hkl htk hq hql hnds HQ HX HP;go_wp2;exact bodyPost_ret (v:= .tuple #[.slice A' l.length c',.nilIface]) (by simp[results,Tryz.results168,go_sem]) rfl ⟨A',c',rfl,HF.out⟩
theorem zt7 (f:Nd→Nat)(M:Nat){w:World}{rb cap:Nat}{A:Option Addr}{zs:List ByteArray}{L:Int}(h:Rdr w rb A cap zs L)(b1 b2 b3:Nat)(l:List Nd)(j c ws:Nat)(hL:L≤1000)(hl:l.length≤1000)(hc:c≤1000)(hws:ws≤300)(hcost:((l.map f).sum:Nat)≤L)
 (HI:∀(k:Nat) (hk:k<l.length) (L':Int) (W:World),(f l[k]:Int)≤L'→L'≤1000→Keeps w.heap.size rb w W→Rdr W rb A cap zs L'→Calls Tryz.prog 169 #[plV j ((c:Int)+(k:Int)*(ws:Int)),.pointer (some ⟨b1,0,none⟩),.pointer (some ⟨b2,0,none⟩),.pointer (some ⟨b3,0,none⟩)] W (NdQ M rb A cap zs (L'-(f l[k]:Nat)) l[k] W)) :
 Calls Tryz.prog 168 #[plV j c,.int .i64 l.length,.int .i64 ws,.func (.func 169) #[] #[.pointer (some ⟨b1,0,none⟩),.pointer (some ⟨b2,0,none⟩),.pointer (some ⟨b3,0,none⟩)]] w (NsQ M rb A cap zs (L-((l.map f).sum:Nat)) l w):=by
 obtain ⟨i0,hi,hz0,hz1,hz2⟩:=info_parts z63;have hlow:=h.low;have hb0:=(Below.refl w.heap.size w).alloc (Nat.le_refl _) (.cells #[.int .i64 (j:Int),.int .i64 (c:Int)] 58);have hr0:=heap_alloc_new w (.cells #[.int .i64 (j:Int),.int .i64 (c:Int)] 58)
 have hs0:(w.alloc (.cells #[.int .i64 (j:Int),.int .i64 (c:Int)] 58)).heap.size=w.heap.size+1:=by simp
 have HR0:=hid (h.below hb0);have HK0:Hid (Keeps w.heap.size rb w (w.alloc (.cells #[.int .i64 (j:Int),.int .i64 (c:Int)] 58))):=hid (Keeps.of_below hb0);have HX0:=hid hr0;have HII:=hid HI;have HLOW:=hid hlow;have hrb:=hlow.rb;have HCO:=hid hcost;clear h hb0 hr0 HI hlow hcost;go_enter Tryz.func168,Tryz.ntmps168
 go_wp2_with fail
 generalize w.alloc (.cells #[.int .i64 (j:Int),.int .i64 (c:Int)] 58)=W0 at *
 go_loopw [10,15] (fun v i wr=>∃(k:Nat),i= .int .i64 k∧k≤l.length∧Hid (∃q:List (Nd×Hd),q.map (·.1)=l.take k∧NRw wr (w.heap.size+1) v q M)∧Hid (wr.heap[w.heap.size]? =some (.cells #[.int .i64 (j:Int),.int .i64 (c:Int)] 58 (0,0)))∧Hid (Rdr wr rb A cap zs (L-(((l.take k).map f).sum:Nat))∧Keeps w.heap.size rb w wr∧w.heap.size+1≤wr.heap.size)) (fun _ i _=>l.length-(intOf i).toNat)
 case atStart=>exact ⟨0,rfl,by omega,hid ⟨[],by simp,NRw.nil _ _ _⟩,HX0,hid ⟨by simpa using HR0.out,HK0.out,by omega⟩⟩
 case round =>
  obtain ⟨k,rfl,hk,HQ,HX,HP⟩:=hrel
  by_cases hlt:k<l.length
  · obtain ⟨q,hq,hnr⟩:=HQ.out
    obtain ⟨hrd,hkp,hsz⟩:=HP.out;have hxr:=HX.out;obtain ⟨x0,x1⟩:=z04 hxr
    have hql:q.length=k:=by have:=congrArg List.length hq; simp at this; omega
    have hmul:k*ws≤1000*300:=Nat.mul_le_mul (by omega) hws
    have hkw:0≤(k:Int)*(ws:Int)∧(k:Int)*(ws:Int)≤300000:=by rw[← Int.natCast_mul]; omega
    have HE:=hid (z1t (n:=(k:Int)*(ws:Int)) (by omega) (by omega));have hcs:=zbm f l k hlt;have hcl:=z6x f l (k+1);have hco:=HCO.out;have HBH:=hid (fun W:World=>z5t j c ((k:Int)*(ws:Int)) W (by omega) (by omega) (by omega) (by omega))
    obtain ⟨y,hy⟩:∃y,y=l[k]:=⟨_,rfl⟩
    have HC:Hid (∀W:World,Keeps w.heap.size rb w W→Rdr W rb A cap zs (L-(((l.take k).map f).sum:Nat))→Calls Tryz.prog 169 #[plV j ((c:Int)+(k:Int)*(ws:Int)),.pointer (some ⟨b1,0,none⟩),.pointer (some ⟨b2,0,none⟩),.pointer (some ⟨b3,0,none⟩)] W (NdQ M rb A cap zs (L-(((l.take (k+1)).map f).sum:Nat)) y W)):=hid fun W h1 h2=>by
     have:=HII.out k hlt (L-(((l.take k).map f).sum:Nat)) W (by omega) (by omega) h1 h2;rw[hcs,hy]
     rwa [show L-((((l.take k).map f).sum+f l[k]:Nat):Int)=L-(((l.take k).map f).sum:Nat)-(f l[k]:Nat) by omega]
    have HY:Hid (q.map (·.1)++ [y]=l.take (k+1)):=hid (by rw[List.take_succ_eq_append_getElem hlt,hq,hy]);clear hcs hcl hco hmul;generalize (c:Int)+(k:Int)*(ws:Int)=pl at *;have HX1:=hid hxr;clear hq hy hxr HQ HX HP;have HRD:=hid hrd;have HKP:=hid hkp;have HNR:=hid hnr;have HSZ:=hid hsz;have HQL:=hid hql;have HKW:=hid hkw;clear hrd hkp hnr hsz hql hkw;have e1:=HE.out.1;have e2:=HE.out.2
    go_wp2_with fail
    clear e1 e2;refine (HBH.out _).mono ?_;rintro e w2 ⟨rfl,hb2⟩;have hR2:=HRD.out.below hb2
    have hK2:=HKP.out.then (by have:=HSZ.out; omega) (Keeps.of_below (b:=rb) hb2)
    have hN2:=HNR.out.keeps (Keeps.of_below (b:=rb) hb2) (by omega);have hx2:=(hb2.block _ (z00 HX1.out)).trans HX1.out;have HC2:=hid (HC.out w2 hK2 hR2);have HK2:=hid hK2;have HN2:=hid hN2;have HX2:=hid hx2;have hsz2:w.heap.size+1≤w2.heap.size:=Nat.le_trans HSZ.out hb2.size;have HSZ2:=hid hsz2;clear hR2 hK2 hN2 hx2 hb2 hsz2 x0 x1 HC;unfold NdQ at HC2
    go_wp2_with fail
    refine HC2.out.mono ?_;rintro e w3 ⟨hy,rfl,hny,hrd3,hk3⟩
    have hK3:=HK2.out.then (by have:=HSZ2.out; omega) hk3
    have hN3:=HN2.out.keeps hk3 (by omega);have hx3:=(hk3.block _ (z00 HX2.out) (by omega)).trans HX2.out;have hsz3:w.heap.size+1≤w3.heap.size:=Nat.le_trans HSZ2.out hk3.size
    have hH:∀k,u10.ownBlock=some k→k<w2.heap.size:=fun k hk=>(HN2.out.1.lt k hk).2
    have hge:w.heap.size+1≤w2.heap.size:=HSZ2.out;have hbb:Below w3.heap.size w3 ((w3.alloc (.cells #[.int .i64 y.kind,.string y.data,.slice hy.A y.ptrs.length hy.a,.int .i64 y.size,.int .i64 y.count,.slice hy.B y.items.length hy.b] nodeT)).alloc (.cells #[.int .i64 y.kind,.string y.data,.slice hy.A y.ptrs.length hy.a,.int .i64 y.size,.int .i64 y.count,.slice hy.B y.items.length hy.b] nodeT)):=((Below.refl _ _).alloc (Nat.le_refl _) _).alloc (by simp) _;have HN5:=hid (hN3.keeps (Keeps.of_below (b:=rb) hbb) (by omega));have HNY:=hid (hny.below hbb);have HR5:=hid (hrd3.below hbb);have HK5:=hid (hK3.then (by omega) (Keeps.of_below (b:=rb) hbb));have HX5:=hid ((hbb.block _ (z00 hx3)).trans hx3)
    have hs5:((w3.alloc (.cells #[.int .i64 y.kind,.string y.data,.slice hy.A y.ptrs.length hy.a,.int .i64 y.size,.int .i64 y.count,.slice hy.B y.items.length hy.b] nodeT)).alloc (.cells #[.int .i64 y.kind,.string y.data,.slice hy.A y.ptrs.length hy.a,.int .i64 y.size,.int .i64 y.count,.slice hy.B y.items.length hy.b] nodeT)).heap.size=w3.heap.size+2:=by simp
    have HNE:Hid (∀(i:Nat) (u:Value),(rowOf [(y,hy)])[i]? =some u→((w3.alloc (.cells #[.int .i64 y.kind,.string y.data,.slice hy.A y.ptrs.length hy.a,.int .i64 y.size,.int .i64 y.count,.slice hy.B y.items.length hy.b] nodeT)).alloc (.cells #[.int .i64 y.kind,.string y.data,.slice hy.A y.ptrs.length hy.a,.int .i64 y.size,.int .i64 y.count,.slice hy.B y.items.length hy.b] nodeT)).cell? ((⟨w3.heap.size+1,0,none⟩:Addr).add i)=some u):=hid (by
     have:=z28 (w3.alloc (.cells #[.int .i64 y.kind,.string y.data,.slice hy.A y.ptrs.length hy.a,.int .i64 y.size,.int .i64 y.count,.slice hy.B y.items.length hy.b] nodeT)) (y,hy) nodeT
     rwa [show (w3.alloc (.cells #[.int .i64 y.kind,.string y.data,.slice hy.A y.ptrs.length hy.a,.int .i64 y.size,.int .i64 y.count,.slice hy.B y.items.length hy.b] nodeT)).heap.size=w3.heap.size+1 by simp] at this)
    clear hny hrd3 hk3 hK3 hN3 hx3 hbb
    go_wp2_with (at_builtin; go_must (refine wpList_append_own_at _ rfl (.tmp 31) (.tmp 33) z2d rfl (w.heap.size+1) nodeT i0 _ 6 88 Tryz.underlying23 hi hz0 hz1 hz2 rfl (by decide) u10 q.length (rowOf q) rfl HN5.out.1 ⟨w3.heap.size+1,0,none⟩ 1 1 (rowOf [(y,hy)]) rfl rfl HNE.out (z3v _) (by have:=HQL.out; unfold maxLen; omega) (by have:=HQL.out; omega) (by rw[hs5]; omega) ?_); intro v6 w6 hown6 hgrow6 hnil6 hat6)
    have hbel:Below (w.heap.size+1) ((w3.alloc (.cells #[.int .i64 y.kind,.string y.data,.slice hy.A y.ptrs.length hy.a,.int .i64 y.size,.int .i64 y.count,.slice hy.B y.items.length hy.b] nodeT)).alloc (.cells #[.int .i64 y.kind,.string y.data,.slice hy.A y.ptrs.length hy.a,.int .i64 y.size,.int .i64 y.count,.slice hy.B y.items.length hy.b] nodeT)) w6:=(Below.refl _ _).grown hgrow6 (by rw[hs5]; omega) (fun k hk=>(HN5.out.1.lt k hk).1);have HQ6:Hid (∃q':List (Nd×Hd),q'.map (·.1)=l.take (k+1)∧NRw w6 (w.heap.size+1) v6 q' M):=hid ⟨q++ [(y,hy)],by rw[List.map_append]; exact HY.out,HN5.out.next HNY.out hge hH hown6 hgrow6 hat6⟩;have HX6:=hid ((hbel.block _ (by omega)).trans HX5.out);have HP6:Hid (Rdr w6 rb A cap zs (L-(((l.take (k+1)).map f).sum:Nat))∧Keeps w.heap.size rb w w6∧w.heap.size+1≤w6.heap.size):=hid ⟨HR5.out.keepB (HLOW.out.mono (by omega)) hbel,HK5.out.trans (Keeps.of_below (hbel.mono (by omega))),by have:=hbel.size; rw[hs5] at this; omega⟩;clear hown6 hgrow6 hnil6 hat6 hbel hs5 hsz3 hH hge;go_wp2
    go_roundw
    case rel=>exact ⟨k+1,by go_num,by omega,HQ6,HX6,HP6⟩
    case measure=>simp[intOf]; omega
  · obtain ⟨q,hq,hnr⟩:=HQ.out
    obtain ⟨hrd,hkp,hsz⟩:=HP.out
    have hkl:k=l.length:=by omega
    have htk:l.take k=l:=by rw[hkl]; exact List.take_length
    rw[htk] at hq hrd
    have hql:q.length=l.length:=by rw[← hq,List.length_map]
    obtain ⟨A',c',hv,hnds⟩:=hnr.nds (by omega);rw[hq] at hnds;rw[hql] at hv;subst hv;have HF:Hid (NdsAt wr (From w.heap.size) (M+1) A' l∧Rdr wr rb A cap zs (L-((l.map f).sum:Nat))∧Keeps w.heap.size rb w wr):=hid ⟨hnds.weak (fun k h=>by have:w.heap.size+1≤k:=h; show w.heap.size≤k; omega),hrd,hkp⟩
    have hkd:¬(k:Int)<(l.length:Int):=by omega
    clear hnr hrd hkp hsz hkl htk hq hql hnds HQ HX HP;go_wp2;exact bodyPost_ret (v:= .tuple #[.slice A' l.length c',.nilIface]) (by simp[results,Tryz.results168,go_sem]) rfl ⟨A',c',rfl,HF.out⟩
end Go.Proofs.YtlbfffokkhccaaaGreatDoor
