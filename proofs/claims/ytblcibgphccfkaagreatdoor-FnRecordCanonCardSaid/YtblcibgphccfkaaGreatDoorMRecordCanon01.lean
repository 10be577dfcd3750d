/- Texts of the proof of the law FnRecordCanon, side by side: part 1. -/
import Derived.Lib.BufferWrite
import Derived.Deep.RegionLaw
import Derived.Laws.BitsAllLaws
import Derived.StillTactics
import Derived.Test.YtblcibgphccfkaaGreatDoorMRecordCanon00
set_option maxHeartbeats 8000000
set_option maxRecDepth 100000
open Go.Lib (hid)
namespace Go.Proofs.YtblcibgphccfkaaGreatDoor
open Go.RowKit
def wd (l:List UInt8):Array Value:=(Lib.byteCells l).toArray
theorem za5 (l:List UInt8):(wd l).size=l.length:=by simp[wd,Lib.byteCells_length]
theorem len8 {l:List UInt8}(h:l.length=8):∃a b c d e f g i,l= [a,b,c,d,e,f,g,i]:=by
 match l,h with
 | [a,b,c,d,e,f,g,i],_=>exact ⟨a,b,c,d,e,f,g,i,rfl⟩
theorem wd8 (a b c d e f g i:UInt8):wd [a,b,c,d,e,f,g,i]= #[.int .u8 a.toNat,.int .u8 b.toNat,.int .u8 c.toNat,.int .u8 d.toNat,.int .u8 e.toNat,.int .u8 f.toNat,.int .u8 g.toNat,.int .u8 i.toNat]:=rfl
theorem z5w {P:Program}(w:World)(dT sT ty elem:TypeId)(g dCap:Nat)(s:ByteArray)(cur:Array Value)(t:TypeId)
 (hu:P.underlying dT=some (.slice elem)) (hs:(P.info? elem).map (·.size)=some 1) (hg:w.heap[g]? =some (.cells cur t (0,0))) (hle:cur.size≤s.size) :
 (Builtin.copy_ #[dT,sT] ty #[.slice (some ⟨g,0,none⟩) cur.size dCap,.string s]).run P w =
  .ok (goInt cur.size) (w.setRow g (wd (s.data.toList.take cur.size))):=by
 have hlen:(Lib.byteCells (s.data.toList.take cur.size)).length=cur.size:=by
  rw[Lib.byteCells_length,List.length_take,← Lib.size_eq]; omega
 have hst:=run_storeCells_at P g 0 t (Lib.byteCells (s.data.toList.take cur.size)) 0 cur w hg (by rw[hlen]; simp) (Lib.byteCells_one _);have hmin:Nat.min s.size cur.size=cur.size:=Nat.min_eq_right hle
 have htk:List.take cur.size (List.map (fun b:UInt8=>Value.int IntKind.u8 (b.toNat:Int)) s.data.toList)=Lib.byteCells (s.data.toList.take cur.size):=by
  rw[Lib.byteCells,List.map_take]
 rw[hlen] at hst;have hd:List.drop cur.size cur.toList= []:=List.drop_of_length_le (by simp)
 simp only[Nat.add_zero,Nat.zero_add,List.take_zero,List.nil_append,hd,List.append_nil] at hst
 cases hq:P.info? elem with
 | none=>simp[hq] at hs
 | some i =>
  simp[Builtin.copy_,run_underlying hu,Builtin.lenOf,Builtin.firstCells,sizeOf,typeInfo,hq,hmin]
  simp only[← List.map_take] at hst ⊢
  rw[show List.map (fun b:UInt8=>Value.int IntKind.u8 (b.toNat:Int)) (List.take cur.size s.data.toList)=Lib.byteCells (s.data.toList.take cur.size) from rfl,hst]
  simp[Result.andThen,wd]
theorem z5g {P:Program}{ops:Array Oper}{o:Oper}{a:Act}{w:World}{K:Act→World→Prop}{Q:Exit→Act→World→Prop}{E:Prop}(hgd:o.guard=none)(d s:Operand)(dT sT:TypeId)
 (ho:o.op= .call { callee:= .builtin .copy,args:= #[d,s],argTypes:= #[dT,sT] }) (elem:TypeId) (hu:P.underlying dT=some (.slice elem)) (hsz:(P.info? elem).map (·.size)=some 1)
 (g dCap n:Nat) (S:ByteArray) (cur:Array Value) (t:TypeId) (hn:cur.size=n) (hd:a.eval d= .slice (some ⟨g,0,none⟩) n dCap) (hs:a.eval s= .string S)
 (hg:w.heap[g]? =some (.cells cur t (0,0))) (hle:n≤S.size)
 (h:∀w',Hid (w'.heap[g]? =some (.cells (wd (S.data.toList.take n)) t (0,0)))→Hid (w.grownBy w' (some g))→K (a.put o.dst (goInt n)) w') :
 if Region.wanted o (yielded ops a.tmps)=true then Oper.wp P o a w K Q else E:=by
 subst hn
 have hw:Region.wanted o (yielded ops a.tmps)=true:=by simp[Region.wanted,hgd]
 rw[if_pos hw];have hrun:=z5w (P:=P) w dT sT o.type elem g dCap S cur t hu hsz hg hle;unfold Oper.wp
 simp[execOp,ho,resolve,invoke,builtin,hd,hs,hrun,Result.andThen]
 exact h _ (setRow_heap w g _ _ t _ hg) ⟨rfl,rfl,rfl,by simp[World.setRow],fun k _ hk=>setRow_other w g k _ (fun e=>hk (by rw[e]))⟩
theorem znp (l:List UInt8):(wd l).all (·.oneCell')=true:=by
 rw[Array.all_eq_true_iff_forall_mem]
 intro v hv
 exact Lib.byteCells_one l v (by simpa [wd] using hv)
theorem z8m {P:Program}{ops:Array Oper}{rest:List Oper}{o:Oper}{a:Act}{w:World}{Q:Exit→Act→World→Prop}(hgd:o.guard=none)(ty:TypeId)(x y:Operand)(ho:o.op= .store ty x y)
 (g:Nat) (l:List UInt8) (hx:a.eval x= .pointer (some ⟨g,0,none⟩)) (hy:a.eval y= .agg (wd l))
 (t:TypeId) (old:Array Value) (hg:w.heap[g]? =some (.cells old t (0,0))) (hi:(P.info? ty).map (·.size)=some l.length) (hold:old.size=l.length)
 (h:∀w',Hid (w'.heap[g]? =some (.cells (wd l) t (0,0)))→Hid (w.grownBy w' (some g))→wpList P ops Q rest (a.put o.dst undef) w'):wpList P ops Q (o :: rest) a w :=
 wpList_store_row hgd ty x y ho g (wd l) hx hy t old hg (by rw[za5]; exact hi) (by rw[za5]; exact hold) (znp l)
  (h _ (setRow_heap w g _ _ t _ hg) ⟨rfl,rfl,rfl,by simp[World.setRow],fun k _ hk=>setRow_other w g k _ (fun e=>hk (by rw[e]))⟩)
theorem z92 {P:Program}{ops:Array Oper}{rest:List Oper}{o:Oper}{a:Act}{w:World}{Q:Exit→Act→World→Prop}(hgd:o.guard=none)(ty:TypeId)(x:Operand)(ho:o.op= .load ty x)
 (g:Nat) (hx:a.eval x= .pointer (some ⟨g,0,none⟩)) (t:TypeId) (l:List UInt8) (d:TypeDesc) (hg:w.heap[g]? =some (.cells (wd l) t (0,0)))
 (hu:P.underlying ty=some d) (hd:(match d with | .struct _ | .array _ _=>true | _=>false)=true) (hi:(P.info? ty).map (·.size)=some l.length)
 (h:wpList P ops Q rest (a.put o.dst (.agg (wd l))) w):wpList P ops Q (o :: rest) a w :=
 wpList_load_row hgd ty x ho g hx t (wd l) (0,0) d hg hu hd (by rw[za5]; exact hi) h
def leN (l:List UInt8):Nat→Nat→Nat
 | _,0=>0
 | a,k+1=>(l[a]?.getD 0).toNat+256*leN l (a+1) k
theorem z8x (l:List UInt8)(a:Nat):(l[a]?.getD 0).toNat<256:=(l[a]?.getD 0).toNat_lt
theorem zlu (l:List UInt8):∀(k a:Nat),leN l a k<256^k
 | 0,_=>by simp[leN]
 | k+1,a=>by
   have h:=zlu l k (a+1);have h2:=z8x l a
   simp only[leN,Nat.pow_succ]
   omega
theorem ziy (l:List UInt8)(k a:Nat)(h:k≤7):leN l a k<72057594037927936 :=
 Nat.lt_of_lt_of_le (zlu l k a) (Nat.le_trans (Nat.pow_le_pow_right (by decide) h) (by decide))
theorem zmm (n b:Nat)(hn:n<72057594037927936)(hb:b<256):bits .or .u64 (IntKind.u64.wrap ((n:Int)*256)) (b:Int)=((b+256*n:Nat):Int):=by
 have h:IntKind.u64.wrap ((n:Int)*256)=((n*256:Nat):Int):=by rw[IntKind.wrap_u64]; omega
 rw[h,u64_or_nat (n*256) b (by omega) (by omega),nat_join 8 (n*256) b (by omega) (by omega)];omega
theorem zgq (l:List UInt8)(a:Nat):IntKind.u64.wrap ((l[a]?.getD 0).toNat:Int)=((l[a]?.getD 0).toNat:Int):=by
 have:=z8x l a
 rw[IntKind.wrap_u64]; omega
theorem zci (l:List UInt8)(a z k:Nat)(hk:k<z)(hz:z≤8) :
 bits .or .u64 (IntKind.u64.wrap ((leN l (a+z-k) k:Int)*256)) (IntKind.u64.wrap ((l[a+z-1-k]?.getD 0).toNat:Int))=((leN l (a+z-(k+1)) (k+1):Nat):Int):=by
 rw[zgq,zmm _ _ (ziy l k _ (by omega)) (z8x l _)]
 have e1:a+z-(k+1)=a+z-1-k:=by omega
 have e2:a+z-1-k+1=a+z-k:=by omega
 rw[e1,leN,e2]
theorem zil (n:Int):BitVec.ofInt 64 (IntKind.i64.wrap n)=BitVec.ofInt 64 n:=by
 apply BitVec.eq_of_toInt_eq
 rw[BitVec.toInt_ofInt,BitVec.toInt_ofInt,IntKind.wrap_i64]
 simp only[Int.bmod_def]
 omega
theorem zik (n b:Nat)(hn:n<72057594037927936)(hb:b<256):bits .or .i64 (IntKind.i64.wrap ((n:Int)*256)) (b:Int)=wrap64 ((b+256*n:Nat):Int):=by
 show IntKind.i64.wrap ((BitVec.ofInt 64 (IntKind.i64.wrap ((n:Int)*256)) ||| BitVec.ofInt 64 (b:Int)).toNat:Int)=_
 rw[zil,show ((n:Int)*256)=((n*256:Nat):Int) by omega,BitVec.toNat_or,ofInt_u64 (n*256) (by omega),ofInt_u64 b (by omega),nat_join 8 (n*256) b (by omega) (by omega)];rw[show n*256+b=b+256*n by omega]
 simp[wrap64,IntKind.wrap_i64]
theorem z2w (n:Nat)(h:n<9223372036854775808):wrap64 (n:Int)=n:=by unfold wrap64; omega
theorem zey (l:List UInt8)(a z k:Nat)(hk:k<z)(hz:z≤8) :
 bits .or .i64 (IntKind.i64.wrap (wrap64 (leN l (a+z-k) k:Int)*256)) ((l[a+z-1-k]?.getD 0).toNat:Int)=wrap64 ((leN l (a+z-(k+1)) (k+1):Nat):Int):=by
 have h7:=ziy l k (a+z-k) (by omega);rw[z2w _ (by omega),zik _ _ h7 (z8x l _)]
 have e1:a+z-(k+1)=a+z-1-k:=by omega
 have e2:a+z-1-k+1=a+z-k:=by omega
 rw[e1,leN,e2]
theorem zbm (n:Int):wrap64 n=IntKind.i64.wrap n:=by rw[IntKind.wrap_i64]; unfold wrap64; omega
theorem zb6 (b:UInt8):wrap64 (b.toNat:Int)=(b.toNat:Int):=z2w _ (by have:=b.toNat_lt; omega)
theorem zc8 (s:ByteArray)(i:Nat)(h:i<s.size):s.data.toList[i]?.getD 0=s[i]:=by
 rw[List.getElem?_eq_getElem (by simpa using h)]; rfl
theorem zhd (s:ByteArray)(a z k:Nat)(hk:k<z)(hz:z≤8)(hin:a+(z-1-k)<s.size) :
 bits .or .i64 (wrap64 (wrap64 (leN s.data.toList (a+z-k) k:Int)*256)) (wrap64 (s[a+(z-1-k)].toNat:Int))=wrap64 ((leN s.data.toList (a+z-(k+1)) (k+1):Nat):Int):=by
 rw[← zey s.data.toList a z k hk hz,zb6,← zbm,show a+z-1-k=a+(z-1-k) by omega,zc8 s _ hin]
theorem zau (s:ByteArray)(a z k:Nat)(hk:k<z)(hz:z≤8)(hin:¬a+z-1-k<s.size) :
 bits .or .i64 (wrap64 (wrap64 (leN s.data.toList (a+z-k) k:Int)*256)) 0=wrap64 ((leN s.data.toList (a+z-(k+1)) (k+1):Nat):Int):=by
 rw[← zey s.data.toList a z k hk hz,← zbm,List.getElem?_eq_none (by simpa using hin)]
 rfl
theorem zgp (w:World)(l:List UInt8)(t:TypeId)(i:Nat)(h:i<l.length):(w.alloc (.cells (wd l) t)).cell? ⟨w.heap.size,i,none⟩=some (.int .u8 ((l[i]?.getD 0).toNat:Int)):=by
 rw[cell_of_row _ _ _ (wd l) t (0,0) (heap_alloc_new w _)]
 simp[wd,Lib.byteCells,h]
def leB (n:Int):Nat→List UInt8
 | 0=> []
 | k+1=>UInt8.ofNat (n%256).toNat :: leB (n/256) k
theorem z2s (n:Int)(k:Nat):(leB n k).length=k:=by
 induction k generalizing n with
 | zero=>rfl
 | succ k ih=>simp[leB,ih]
def shr8 (n:Int):Nat→Int
 | 0=>n
 | k+1=>shr8 n k/256
theorem zfo (n:Int)(k:Nat):shr8 (n/256) k=shr8 n k/256:=by
 induction k with
 | zero=>rfl
 | succ k ih=>simp[shr8,ih]
theorem zjj (n:Int)(k:Nat):leB n (k+1)=leB n k++ [UInt8.ofNat (shr8 n k%256).toNat]:=by
 induction k generalizing n with
 | zero=>rfl
 | succ k ih=>rw[leB,ih,leB,List.cons_append,zfo,shr8]
theorem z93 (m:Int):(((UInt8.ofNat (m%256).toNat).toNat:Nat):Int)=m%256:=by
 rw[UInt8.toNat_ofNat']; omega
def putL (l:List UInt8)(a:Nat)(xs:List UInt8):List UInt8:=l.take a++(xs++l.drop (a+xs.length))
theorem zd6 (l:List UInt8)(a:Nat)(xs:List UInt8)(h:a+xs.length≤l.length):(putL l a xs).length=l.length:=by simp[putL]; omega
theorem zd3 {w:World}{g:Nat}{o:Obj}(h:w.heap[g]? =some o):g<w.heap.size:=by
 rcases Nat.lt_or_ge g w.heap.size with hlt | hge
 · exact hlt
 · rw[Array.getElem?_eq_none hge] at h; cases h
theorem z02 {w:World}{g:Nat}{o:Obj}(h:w.heap[g]? =some o)(x:Obj):(w.alloc x).heap[g]? =some o:=(Below.heap_alloc w x g (zd3 h)).trans h
theorem zes (g j:Nat):(⟨g,0,none⟩:Addr).add j=⟨g,j,none⟩:=by unfold Addr.add; split <;> simp_all
theorem z6d {P:Program}(w:World)(src dst e:TypeId)(g cap n:Nat)(l:List UInt8)(hn:l.length=n)(hs:P.underlying src=some (.slice e))(he:P.underlying e=some (.int .u8))(hd:P.underlying dst=some .string)
 {t:TypeId} {fr:Nat×Nat} {cs:Array Value} (hg:w.heap[g]? =some (.cells cs t fr)) (hc:cs.toList.take n=Lib.byteCells l) :
 (convert src dst (.slice (some ⟨g,0,none⟩) n cap)).run P w= .ok (.string ⟨l.toArray⟩) w:=by
 subst hn
 refine run_convert_bytes_back w src dst e ⟨g,0,none⟩ cap l hs he hd fun j hj=>?_
 rw[zes,cell_of_row _ _ _ cs t fr hg];have h:=congrArg (fun x:List Value=>x[j]?) hc
 simp only[List.getElem?_take_of_lt hj,Array.getElem?_toList] at h
 rw[h]
 simp[Lib.byteCells,hj]
theorem zdj {P:Program}(w:World)(src dst e:TypeId)(hs:P.underlying src=some (.slice e))(he:P.underlying e=some (.int .u8))(hd:P.underlying dst=some .string) :
 (convert src dst (.slice none 0 0)).run P w= .ok (.string ⟨#[]⟩) w:=by
 rw[run_convert_bytes_string w src dst e none 0 0 hs he hd]
 rfl
theorem zcs {P:Program}(w:World)(src dst e:TypeId)(base n:Nat)(l:List UInt8)(v:Value)(hn:l.length=n)(hs:P.underlying src=some (.slice e))(he:P.underlying e=some (.int .u8))(hd:P.underlying dst=some .string)
 (hown:w.ownsRow base e 1 v n (Lib.byteCells l)):(convert src dst v).run P w= .ok (.string ⟨l.toArray⟩) w:=by
 rcases hown.2 with ⟨rfl,rfl⟩ | ⟨g,cap,cur,rfl,_,hg,_,_,_,htk⟩
 · obtain rfl:l= []:=List.eq_nil_of_length_eq_zero hn
   exact zdj w src dst e hs he hd
 · exact z6d w src dst e g cap n l hn hs he hd hg (by simpa using htk)
theorem z85 (l:List UInt8)(b:UInt8):Lib.byteCells l++ [Value.int .u8 (b.toNat:Int)]=Lib.byteCells (l++ [b]):=by simp[Lib.byteCells]
theorem zbi {B:Nat}{w0 w w1:World}{x:Obj}{e:TypeId}{size n:Nat}{v:Value}{xs:List Value}(hb:Below B w0 w)(hB:B≤w.heap.size)(hown:w.ownsRow B e size v n xs)(hg:(w.alloc x).grownBy w1 v.ownBlock):Below B w0 w1 :=
 (hb.alloc hB x).grown hg (by simp; omega) (fun k hk=>(hown.lt k hk).1)
theorem z4z (a:Nat)(ha:a<9223372036854775808):(BitVec.ofInt 64 (a:Int)).toNat=a:=ofInt_u64 a (by omega)
theorem zm3 (a b:Nat)(ha:a<9223372036854775808)(hb:b<9223372036854775808):bits .and .i64 (a:Int) (b:Int)=((a &&& b:Nat):Int):=by
 have hx:a &&& b<2^63:=Nat.and_lt_two_pow _ (by omega)
 show IntKind.i64.wrap ((BitVec.ofInt 64 (a:Int) &&& BitVec.ofInt 64 (b:Int)).toNat:Int)=_
 rw[BitVec.toNat_and,z4z a ha,z4z b hb,IntKind.wrap_i64];omega
theorem zf5 (b r:Nat):(b:Int)/2^r=((b/2^r:Nat):Int):=by
 rw[Int.natCast_ediv,Int.natCast_pow]; rfl
theorem znk (b r:Nat)(hb:b<256):wrap64 (bits .and .u8 ((b:Int)/2^r) 1)=((b/2^r%2:Nat):Int):=by
 have h:=Nat.div_le_self b (2^r);rw[zf5,show (1:Int)=((1:Nat):Int) from rfl,u8_and_nat _ _ (by omega) (by omega),nat_mask1,z2w _ (by omega)]
theorem zmu (b r:Nat)(hb:b<256):bits .and .i64 (wrap64 (b:Int)/2^r) 1=((b/2^r%2:Nat):Int):=by
 have h:=Nat.div_le_self b (2^r);rw[z2w _ (by omega),zf5,show (1:Int)=((1:Nat):Int) from rfl,zm3 _ _ (by omega) (by omega),nat_mask1]
theorem z3f {P:Program}{ops:Array Oper}{o:Oper}{a:Act}{w:World}{K:Act→World→Prop}{Q:Exit→Act→World→Prop}{E:Prop}(hgd:o.guard=none)(s x:Operand)(t:TypeId)
 (ho:o.op= .call { callee:= .builtin .append,args:= #[s,x],argTypes:= #[t,t] })
 (base:Nat) (e:TypeId) (i:TypeInfo) (z:Value) (size bytes:Nat) (ht:P.underlying t=some (.slice e)) (hi:P.info? e=some i) (hz:i.zero=some z)
 (hsize:i.size=size) (hby:i.bytes=bytes) (hzs:z.cells.size=size) (hsz:0<size)
 (v:Value) (n:Nat) (xs:List Value) (hs:a.eval s=v) (hown:w.ownsRow base e size v n xs)
 (ad:Addr) (m c:Nat) (news:List Value) (hx:a.eval x= .slice (some ad) m c) (hl:news.length=m*size) (hnews:∀j u,news[j]? =some u→w.cell? (ad.add j)=some u) (h1:∀u∈news,u.oneCell'=true)
 (h63:n+m≤maxLen) (hbytes:(n+m)*bytes≤140737488355328) (hbase:base≤w.heap.size)
 (h:∀v' w',Hid (w'.ownsRow base e size v' (n+m) (xs++news))→Hid (w.grownBy w' v.ownBlock)→K (a.put o.dst v') w'):if Region.wanted o (yielded ops a.tmps)=true then Oper.wp P o a w K Q else E:=by
 have hw:Region.wanted o (yielded ops a.tmps)=true:=by simp[Region.wanted,hgd]
 rw[if_pos hw]
 exact wp_append_own w s x t ho base e i z size bytes ht hi hz hsize hby hzs hsz v n xs hs hown ad m c news hx hl hnews h1 h63 hbytes hbase fun v' w' h2 h3 _=>h v' w' h2 h3
theorem za9 (w:World)(x y:Value)(t:TypeId):∀j u,[x,y][j]? =some u→(w.alloc (.cells #[x,y] t)).cell? ((⟨w.heap.size,0,none⟩:Addr).add j)=some u:=by
 intro j u hj
 rw[zes,cell_of_row _ _ _ _ _ (0,0) (heap_alloc_new w _)]
 match j,hj with
 | 0,hj=>simpa using hj
 | 1,hj=>simpa using hj
theorem zi8 {a b:ByteArray}(h:a.data.toList=b.data.toList):a=b:=by
 cases a; cases b; simp at h; simp[h]
def wiB (n b:Int):Bool:=decide (0≤n∧n<b)
theorem z18 (n b:Int)(w:World) :
 Calls Tryz.prog 27 #[.int .i64 n,.int .i64 b] w fun e w'=>e= .returned (.bool (wiB n b))∧w=w':=by
 by_cases h1:0≤n
 all_goals
  go_enter Tryz.func27,Tryz.ntmps27;go_wp2
  all_goals go_ret
  all_goals refine ⟨z0f ?_,rfl⟩
  all_goals (simp[wiB]; try omega)
def bz (n:Int):Int:=if n=1 then 1 else if n=2 then 8 else if n=3 then 16 else if n=4 then 32 else if n=5 then 64 else if n=6 then 64 else 0
theorem bz_le (n:Int):0≤bz n∧bz n≤64:=by
 unfold bz
 repeat' split
 all_goals omega
theorem z35 (n:Int)(w:World)(h0:0≤n)(h1:n≤6) :
 Calls Tryz.prog 105 #[.int .i64 n] w fun e w'=>e= .returned (.int .i64 (bz n))∧w=w':=by
 have h:n=0∨n=1∨n=2∨n=3∨n=4∨n=5∨n=6:=by omega
 rcases h with rfl | rfl | rfl | rfl | rfl | rfl | rfl
 all_goals
  go_enter Tryz.func105,Tryz.ntmps105;go_wp2;go_ret;exact ⟨z15 (by decide),rfl⟩
theorem zjh (n:Int)(w:World)(h0:0≤n)(h1:n≤6) :
 Calls Tryz.prog 67 #[.int .i64 n] w fun e w'=>e= .returned (.int .i64 (bz n))∧Below w.heap.size w w':=by
 have h:n=0∨n=1∨n=2∨n=3∨n=4∨n=5∨n=6:=by omega
 rcases h with rfl | rfl | rfl | rfl | rfl | rfl | rfl
 all_goals
  go_enter Tryz.func67,Tryz.ntmps67;go_wp2;go_ret;exact ⟨z15 (by decide),(Below.refl _ _).alloc (Nat.le_refl _) _⟩
def byteZ (s c:Int):Int:=(bz s*c+7)/8
theorem zbl (s c:Int)(w:World)(h0:0≤s)(h1:s≤6)(h2:0≤c)(h3:c≤12800) :
 Calls Tryz.prog 158 #[.int .i64 s,.int .i64 c] w fun e w'=>e= .returned (.int .i64 (byteZ s c))∧Below w.heap.size w w':=by
 have hb:=bz_le s;have HE:Hid (byteZ s c=(bz s*c+7)/8):=hid rfl
 have hm:0≤bz s*c∧bz s*c≤819200:=⟨Int.mul_nonneg hb.1 h2,by
  have:=Int.mul_le_mul hb.2 h3 h2 (by omega)
  omega⟩
 generalize hz:bz s=z at *;generalize hp:z*c=p at *;have HP:=hid hp;clear hp;go_enter Tryz.func158,Tryz.ntmps158
 go_wp2_with (go_at_call 67; go_must (refine (zjh _ _ h0 h1).mono ?_); rintro e w1 ⟨rfl,hb1⟩; rw[hz]; have hpp:=HP.out)
 go_ret;exact ⟨by rw[HE.out]; rfl,hb1⟩
def lastN (d:ByteArray):Nat:=if h:d.size-1<d.size then (d[d.size-1]).toNat else 0
def cutD (d:ByteArray)(b:Int):ByteArray:=if b%8=0 then d else d.extract 0 (d.size-1)++⟨#[UInt8.ofNat (lastN d%2^(b%8).toNat)]⟩
def bitsB (d:ByteArray)(b:Int):Bool:=decide ((d.size:Int)=(b+7)/8)&&(decide (b%8=0)||decide (lastN d<2^(b%8).toNat))
theorem z3o (c:Nat)(hc:c<256)(W:World):(convert 22 9 (.slice (some ⟨W.heap.size,0,none⟩) 1 1)).run Tryz.prog (W.alloc (.cells #[.int .u8 (c:Int)] 5))= .ok (.string ⟨#[UInt8.ofNat c]⟩) (W.alloc (.cells #[.int .u8 (c:Int)] 5)):=by
 refine z6d _ _ _ 5 W.heap.size 1 1 [UInt8.ofNat c] rfl Tryz.underlying22 Tryz.underlying5 Tryz.underlying9 (heap_alloc_new W _) ?_
 have:(UInt8.ofNat c).toNat=c:=by rw[UInt8.toNat_ofNat']; omega
 simp[Lib.byteCells]; omega
theorem zax {d:ByteArray}{j:Nat}(h:d.size=j+1)(hj:j<d.size):lastN d=(d[j]).toNat:=by
 unfold lastN;rw[dif_pos (by omega)]
 congr 2
 omega
theorem zeh:∀x:Nat,x<256→bits BinOp.and IntKind.u8 (x:Int) 1=((x%2:Nat):Int):=by decide +kernel
theorem zdu:∀x:Nat,x<256→bits BinOp.and IntKind.u8 (x:Int) 3=((x%4:Nat):Int):=by decide +kernel
theorem zfd:∀x:Nat,x<256→bits BinOp.and IntKind.u8 (x:Int) 7=((x%8:Nat):Int):=by decide +kernel
theorem zeq:∀x:Nat,x<256→bits BinOp.and IntKind.u8 (x:Int) 15=((x%16:Nat):Int):=by decide +kernel
theorem ze6:∀x:Nat,x<256→bits BinOp.and IntKind.u8 (x:Int) 31=((x%32:Nat):Int):=by decide +kernel
theorem zei:∀x:Nat,x<256→bits BinOp.and IntKind.u8 (x:Int) 63=((x%64:Nat):Int):=by decide +kernel
theorem zex:∀x:Nat,x<256→bits BinOp.and IntKind.u8 (x:Int) 127=((x%128:Nat):Int):=by decide +kernel
theorem zj3 (d:ByteArray)(b:Int)(w:World)(h0:0≤b)(h1:b≤10000000)(_hd:d.size≤maxLen)(hs:(d.size:Int)=(b+7)/8) :
 Calls Tryz.prog 159 #[.string d,.int .i64 b] w fun e w'=>e= .returned (.string (cutD d b))∧Below w.heap.size w w':=by
 by_cases h8:b%8=0
 · have HE:Hid (cutD d b=d):=hid (by rw[cutD,if_pos h8])
   go_enter Tryz.func159,Tryz.ntmps159;go_wp2;go_ret;exact ⟨by rw[HE.out]; rfl,Below.refl _ _⟩
 · obtain ⟨j,hj⟩:∃j,d.size=j+1:=⟨d.size-1,by omega⟩
   have hlt:j<d.size:=by omega
   have HS:=hid hs
   have hk:b%8=1∨b%8=2∨b%8=3∨b%8=4∨b%8=5∨b%8=6∨b%8=7:=by omega
   have hjm:j≤10000000:=by omega
   have hle:(j:Int)≤(d.size:Int):=by omega
   have hln:(d.size:Int)-1=(j:Int):=by omega
   have HJ:=hid hj;clear hs h8 _hd hj;have hx:(d[j]).toNat<256:=(d[j]).toNat_lt;have HL:=hid (zax HJ.out hlt)
   rcases hk with hk | hk | hk | hk | hk | hk | hk
   · have hand:=zeh (d[j]).toNat hx
     have hq:(d[j]).toNat%2<256:=by omega
     have HE:Hid (cutD d b=d.extract 0 j++⟨#[UInt8.ofNat ((d[j]).toNat%2)]⟩):=hid (by rw[cutD,if_neg (by omega),HL.out,hk,show d.size-1=j by have:=HJ.out; omega]; rfl);generalize (d[j]).toNat%2=q at hand hq HE;have hcv:(convert 22 9 (.slice (some ⟨w.heap.size,0,none⟩) 1 1)).run Tryz.prog (w.alloc (.cells #[.int .u8 (q:Int)] 5)).drew= .ok (.string ⟨#[UInt8.ofNat q]⟩) (w.alloc (.cells #[.int .u8 (q:Int)] 5)).drew:=z3o q hq w.drew;go_enter Tryz.func159,Tryz.ntmps159;go_wp2
     go_region
     go_wp2;go_ret;exact ⟨by rw[HE.out]; rfl,((Below.refl _ w).alloc (Nat.le_refl _) _).drew⟩
   · have hand:=zdu (d[j]).toNat hx
     have hq:(d[j]).toNat%4<256:=by omega
     have HE:Hid (cutD d b=d.extract 0 j++⟨#[UInt8.ofNat ((d[j]).toNat%4)]⟩):=hid (by rw[cutD,if_neg (by omega),HL.out,hk,show d.size-1=j by have:=HJ.out; omega]; rfl);generalize (d[j]).toNat%4=q at hand hq HE;have hcv:(convert 22 9 (.slice (some ⟨w.heap.size,0,none⟩) 1 1)).run Tryz.prog (w.alloc (.cells #[.int .u8 (q:Int)] 5)).drew= .ok (.string ⟨#[UInt8.ofNat q]⟩) (w.alloc (.cells #[.int .u8 (q:Int)] 5)).drew:=z3o q hq w.drew;go_enter Tryz.func159,Tryz.ntmps159;go_wp2
     go_region
     go_wp2;go_ret;exact ⟨by rw[HE.out]; rfl,((Below.refl _ w).alloc (Nat.le_refl _) _).drew⟩
   · have hand:=zfd (d[j]).toNat hx
     have hq:(d[j]).toNat%8<256:=by omega
     have HE:Hid (cutD d b=d.extract 0 j++⟨#[UInt8.ofNat ((d[j]).toNat%8)]⟩):=hid (by rw[cutD,if_neg (by omega),HL.out,hk,show d.size-1=j by have:=HJ.out; omega]; rfl);generalize (d[j]).toNat%8=q at hand hq HE;have hcv:(convert 22 9 (.slice (some ⟨w.heap.size,0,none⟩) 1 1)).run Tryz.prog (w.alloc (.cells #[.int .u8 (q:Int)] 5)).drew= .ok (.string ⟨#[UInt8.ofNat q]⟩) (w.alloc (.cells #[.int .u8 (q:Int)] 5)).drew:=z3o q hq w.drew;go_enter Tryz.func159,Tryz.ntmps159;go_wp2
     go_region
     go_wp2;go_ret;exact ⟨by rw[HE.out]; rfl,((Below.refl _ w).alloc (Nat.le_refl _) _).drew⟩
   · have hand:=zeq (d[j]).toNat hx
     have hq:(d[j]).toNat%16<256:=by omega
     have HE:Hid (cutD d b=d.extract 0 j++⟨#[UInt8.ofNat ((d[j]).toNat%16)]⟩):=hid (by rw[cutD,if_neg (by omega),HL.out,hk,show d.size-1=j by have:=HJ.out; omega]; rfl);generalize (d[j]).toNat%16=q at hand hq HE;have hcv:(convert 22 9 (.slice (some ⟨w.heap.size,0,none⟩) 1 1)).run Tryz.prog (w.alloc (.cells #[.int .u8 (q:Int)] 5)).drew= .ok (.string ⟨#[UInt8.ofNat q]⟩) (w.alloc (.cells #[.int .u8 (q:Int)] 5)).drew:=z3o q hq w.drew;go_enter Tryz.func159,Tryz.ntmps159;go_wp2
     go_region
     go_wp2;go_ret;exact ⟨by rw[HE.out]; rfl,((Below.refl _ w).alloc (Nat.le_refl _) _).drew⟩
   · have hand:=ze6 (d[j]).toNat hx
     have hq:(d[j]).toNat%32<256:=by omega
     have HE:Hid (cutD d b=d.extract 0 j++⟨#[UInt8.ofNat ((d[j]).toNat%32)]⟩):=hid (by rw[cutD,if_neg (by omega),HL.out,hk,show d.size-1=j by have:=HJ.out; omega]; rfl);generalize (d[j]).toNat%32=q at hand hq HE;have hcv:(convert 22 9 (.slice (some ⟨w.heap.size,0,none⟩) 1 1)).run Tryz.prog (w.alloc (.cells #[.int .u8 (q:Int)] 5)).drew= .ok (.string ⟨#[UInt8.ofNat q]⟩) (w.alloc (.cells #[.int .u8 (q:Int)] 5)).drew:=z3o q hq w.drew;go_enter Tryz.func159,Tryz.ntmps159;go_wp2
     go_region
     go_wp2;go_ret;exact ⟨by rw[HE.out]; rfl,((Below.refl _ w).alloc (Nat.le_refl _) _).drew⟩
   · have hand:=zei (d[j]).toNat hx
     have hq:(d[j]).toNat%64<256:=by omega
     have HE:Hid (cutD d b=d.extract 0 j++⟨#[UInt8.ofNat ((d[j]).toNat%64)]⟩):=hid (by rw[cutD,if_neg (by omega),HL.out,hk,show d.size-1=j by have:=HJ.out; omega]; rfl);generalize (d[j]).toNat%64=q at hand hq HE;have hcv:(convert 22 9 (.slice (some ⟨w.heap.size,0,none⟩) 1 1)).run Tryz.prog (w.alloc (.cells #[.int .u8 (q:Int)] 5)).drew= .ok (.string ⟨#[UInt8.ofNat q]⟩) (w.alloc (.cells #[.int .u8 (q:Int)] 5)).drew:=z3o q hq w.drew;go_enter Tryz.func159,Tryz.ntmps159;go_wp2
     go_region
     go_wp2;go_ret;exact ⟨by rw[HE.out]; rfl,((Below.refl _ w).alloc (Nat.le_refl _) _).drew⟩
   · have hand:=zex (d[j]).toNat hx
     have hq:(d[j]).toNat%128<256:=by omega
     have HE:Hid (cutD d b=d.extract 0 j++⟨#[UInt8.ofNat ((d[j]).toNat%128)]⟩):=hid (by rw[cutD,if_neg (by omega),HL.out,hk,show d.size-1=j by have:=HJ.out; omega]; rfl);generalize (d[j]).toNat%128=q at hand hq HE;have hcv:(convert 22 9 (.slice (some ⟨w.heap.size,0,none⟩) 1 1)).run Tryz.prog (w.alloc (.cells #[.int .u8 (q:Int)] 5)).drew= .ok (.string ⟨#[UInt8.ofNat q]⟩) (w.alloc (.cells #[.int .u8 (q:Int)] 5)).drew:=z3o q hq w.drew;go_enter Tryz.func159,Tryz.ntmps159;go_wp2
     go_region
     go_wp2;go_ret;exact ⟨by rw[HE.out]; rfl,((Below.refl _ w).alloc (Nat.le_refl _) _).drew⟩
theorem z1e (a b:ByteArray):(a++b).size=a.size+b.size:=by simp
theorem zmb {d:ByteArray}{b:Int}(h0:0≤b)(hs:(d.size:Int)=(b+7)/8):(cutD d b=d)↔(b%8=0∨lastN d<2^(b%8).toNat):=by
 by_cases h8:b%8=0
 · rw[cutD,if_pos h8]; simp[h8]
 · rw[cutD,if_neg h8]
   obtain ⟨j,hj⟩:∃j,d.size=j+1:=⟨d.size-1,by omega⟩
   have hlt:j<d.size:=by omega
   have hL:=zax hj hlt;have hx:(d[j]).toNat<256:=(d[j]).toNat_lt
   have hjs:d.size-1=j:=by omega
   have hp:0<2^(b%8).toNat:=Nat.two_pow_pos _;rw[hjs,hL];generalize 2^(b%8).toNat=P at *
   have hsp:d.data.toList=(d.data.toList.take j)++ [d[j]]:=by
    have hl:d.data.toList.length=j+1:=by rw[← hj]; rfl
    have h1:d.data.toList[j]'(by omega)=d[j]:=rfl;rw[← h1,← List.take_succ_eq_append_getElem (by omega),List.take_of_length_le (by omega)]
   have hc:(d.extract 0 j++⟨#[UInt8.ofNat ((d[j]).toNat%P)]⟩=d)↔UInt8.ofNat ((d[j]).toNat%P)=d[j]:=by
    constructor
    · intro h
      have h2:(d.extract 0 j++⟨#[UInt8.ofNat ((d[j]).toNat%P)]⟩).data.toList=d.data.toList:=by rw[h]
      rw[ByteArray.toList_data_append,Lib.extract_data,hsp] at h2
      simp at h2
      exact h2.2
    · intro h
      apply Go.WideShapes.bytes_inj
      rw[h,ByteArray.toList_data_append,Lib.extract_data,hsp]
      have hl:(List.take j d.data.toList).length=j:=by
       have:d.data.toList.length=j+1:=by rw[← hj]; rfl
       rw[List.length_take]; omega
      simp[List.take_append_of_le_length (Nat.le_of_eq hl.symm),List.take_of_length_le (Nat.le_of_eq hl)]
   rw[hc]
   constructor
   · intro h
     right
     have h2:(UInt8.ofNat ((d[j]).toNat%P)).toNat=(d[j]).toNat:=by rw[h]
     rw[UInt8.toNat_ofNat'] at h2;have h3:(d[j]).toNat%P≤(d[j]).toNat:=Nat.mod_le _ _;rw[Nat.mod_eq_of_lt (by omega)] at h2;rw[← h2];exact Nat.mod_lt _ hp
   · intro h
     rcases h with h | h
     · exact absurd h h8
     · rw[Nat.mod_eq_of_lt h]
       simp
theorem zie (d:ByteArray)(i:Nat)(r:List UInt8):ByteArray.toList.loop d i r=r.reverse++d.data.toList.drop i:=by
 fun_induction ByteArray.toList.loop d i r with
 | case1 i r h ih =>
  have hl:i<d.data.toList.length:=h;rw[ih,List.drop_eq_getElem_cons hl,List.reverse_cons,List.append_assoc]
  congr 2
  show [d.get! i]++_=_
  have:d.get! i=d.data.toList[i]:=by
   show d.data[i]! =_
   rw[getElem!_pos d.data i h]
   rfl
  rw[this]; rfl
 | case2 i r h =>
  rw[List.drop_eq_nil_of_le (by show d.size≤i; omega),List.append_nil]
theorem z7o (d:ByteArray):d.toList=d.data.toList:=by
 unfold ByteArray.toList
 rw[zie]; rfl
theorem z4o (a b:ByteArray):(a.toList==b.toList)=decide (a=b):=by
 rw[z7o,z7o,Bool.eq_iff_iff]
 simp only[beq_iff_eq,decide_eq_true_eq]
 exact ⟨fun h=>Go.WideShapes.bytes_inj h,fun h=>by rw[h]⟩
theorem z55 (d:ByteArray)(b:Int)(w:World)(h0:0≤b)(h1:b≤10000000)(hd:d.size≤maxLen) :
 Calls Tryz.prog 140 #[.string d,.int .i64 b] w fun e w'=>e= .returned (.bool (bitsB d b))∧Below w.heap.size w w':=by
 by_cases hs:(d.size:Int)=(b+7)/8
 · have hq:=zmb h0 hs
   have HC:=hid (zj3 d b w h0 h1 hd hs);have HE:Hid (bitsB d b=decide (b%8=0∨lastN d<2^(b%8).toNat)):=hid (by rw[Bool.eq_iff_iff]; simp[bitsB,hs]);go_enter Tryz.func140,Tryz.ntmps140
   go_wp2_with (go_at_call 159; go_must (refine HC.out.mono ?_); rintro e w1 ⟨rfl,hb1⟩)
   go_ret;refine ⟨z0f ?_,hb1⟩;rw[HE.out,z4o,Bool.eq_iff_iff]
   simpa using hq
 · have HE:Hid (bitsB d b=false):=hid (by simp[bitsB,hs])
   go_enter Tryz.func140,Tryz.ntmps140;go_wp2;go_ret;exact ⟨by rw[HE.out]; rfl,Below.refl _ _⟩
end Go.Proofs.YtblcibgphccfkaaGreatDoor
