/- Texts of the proof of the law FnRecordCanon, side by side: part 42. -/
import Derived.Stop.BytesEq
import Derived.Test.YtblcibgphccfkaaGreatDoorMRecordCanon41
set_option maxHeartbeats 8000000
set_option maxRecDepth 100000
open Go.Lib (hid)
namespace Go.Proofs.YtblcibgphccfkaaGreatDoor
open Go.RowKit Go.Shelf
attribute [local go_sem] Oper.semAt_some
def nzR:List W8→Nat
 | []=>0
 | x :: r=>if zerB x.1 then nzR r else r.length+1
def nzN (l:List W8):Nat:=nzR l.reverse
theorem ze9 (l:List W8)(x:W8):nzN (l++ [x])=if zerB x.1 then nzN l else l.length+1:=by
 rw[nzN,List.reverse_append]; simp[nzR,nzN]
theorem zlp:∀l:List W8,nzR l≤l.length
 | []=>Nat.le_refl _
 | x :: r=>by
   have:=zlp r;rw[nzR]
   split <;> simp <;> omega
theorem zo1 (l:List W8):nzN l≤l.length:=by have:=zlp l.reverse; rw[nzN]; simpa using this
theorem zfa (l:List UInt8):∀k,k≤l.length/8→nzN ((List.range k).map (wordQ l))=trimN l k
 | 0,_=>rfl
 | k+1,h=>by
   rw[z88,ze9,zfa l k (by omega),zeg l k (by omega),trimN]
   simp
theorem zgz (l:List UInt8):nzN (z3e l)=trimN l (l.length/8):=zfa l _ (Nat.le_refl _)
theorem znb (a b c d e f g i:UInt8):zerB [a,b,c,d,e,f,g,i]=([a,b,c,d,e,f,g,i]== [0,0,0,0,0,0,0,0]):=by
 rw[Bool.eq_iff_iff]; simp[zerB]
theorem zjs (a b c d e f g i:UInt8)(w:World) :
 (binOp .neq 180 (.agg #[.int .u8 a.toNat,.int .u8 b.toNat,.int .u8 c.toNat,.int .u8 d.toNat,.int .u8 e.toNat,.int .u8 f.toNat,.int .u8 g.toNat,.int .u8 i.toNat]) (.agg #[.int .u8 0,.int .u8 0,.int .u8 0,.int .u8 0,.int .u8 0,.int .u8 0,.int .u8 0,.int .u8 0])).run Tryz.prog w= .ok (.bool (!(zerB [a,b,c,d,e,f,g,i]))) w:=by
 rw[znb];have h2:((Op.equalIn 10000 180 (.agg #[.int .u8 a.toNat,.int .u8 b.toNat,.int .u8 c.toNat,.int .u8 d.toNat,.int .u8 e.toNat,.int .u8 f.toNat,.int .u8 g.toNat,.int .u8 i.toNat]) (.agg #[.int .u8 0,.int .u8 0,.int .u8 0,.int .u8 0,.int .u8 0,.int .u8 0,.int .u8 0,.int .u8 0])).run Tryz.prog w)= .ok ([a,b,c,d,e,f,g,i]== [0,0,0,0,0,0,0,0]) w:=run_equalIn_bytes w 9998 180 5 8 Tryz.underlying180 Tryz.underlying5 (fun w=>by kernel_rfl) [a,b,c,d,e,f,g,i] [0,0,0,0,0,0,0,0] rfl rfl;rw[run_neq_struct,h2]
 rfl
theorem zdf (op:BinOp)(x y:Operand)(xs ys:Array Value)(w:World):(eqGuard op 180 x y (.agg xs) (.agg ys)).run Tryz.prog w= .ok () w:=run_eqGuard_agg w _ _ _ _ _ _ (by kernel_rfl)
theorem zg0 (n:Nat)(s:ByteArray)(w:World) :
 CallsIn Fence.wide n Tryz.prog 143 #[.string s] w fun e w'=>e= .returned (.func (.func 160) #[] #[.pointer (some ⟨w.heap.size,0,none⟩)])∧w'=w.alloc (.cells #[.string s] 9):=by
 refine callsIn_of_wp Tryz.func143 rfl trivial ?_ rfl
 simp only[Tryz.ntmps143,List.size_toArray,List.length_cons,List.length_nil,Nat.reduceAdd,Nat.reduceSub,Array.replicate_succ,Array.replicate_zero,List.push_toArray,List.append_toArray,List.nil_append,List.cons_append]
 gi_wp2
 go_ret;exact ⟨rfl,rfl⟩
theorem zi3 {w:World}{B:Nat}{x:W8}{T:TypeId}(h:w.heap[B]? =some (.cells (wd x.1) T (0,0))) :
 ∃b0 b1 b2 b3 b4 b5 b6 b7:UInt8,x.1= [b0,b1,b2,b3,b4,b5,b6,b7] ∧
  w.cell? ⟨B,0,none⟩=some (.int .u8 b0.toNat)∧w.cell? ⟨B,1,none⟩=some (.int .u8 b1.toNat)∧w.cell? ⟨B,2,none⟩=some (.int .u8 b2.toNat)∧w.cell? ⟨B,3,none⟩=some (.int .u8 b3.toNat) ∧
  w.cell? ⟨B,4,none⟩=some (.int .u8 b4.toNat)∧w.cell? ⟨B,5,none⟩=some (.int .u8 b5.toNat)∧w.cell? ⟨B,6,none⟩=some (.int .u8 b6.toNat)∧w.cell? ⟨B,7,none⟩=some (.int .u8 b7.toNat):=by
 obtain ⟨b0,b1,b2,b3,b4,b5,b6,b7,hx⟩:=len8 x.2;rw[hx,wd8] at h;refine ⟨b0,b1,b2,b3,b4,b5,b6,b7,hx,?_,?_,?_,?_,?_,?_,?_,?_⟩
 all_goals (rw[cell_of_row _ _ _ _ _ _ h]; rfl)
theorem zmc (s:ByteArray)(w:World)(hs:s.size≤maxLen)(hw:z0w s.size=true) :
 CallsIn Fence.wide 6 Tryz.prog 122 #[.string s] w fun e w'=>e= .returned (.string (s.extract 0 (8*nzN (z3e s.data.toList))))∧Below w.heap.size w w':=by
 have hw8:s.size%8=0∧s.size≤1600:=by simpa [z0w] using hw
 obtain ⟨hw1,hw2⟩:=hw8;have hle:=zo1 (z3e s.data.toList);rw[zaj] at hle
 have hsl:s.data.toList.length=s.size:=by simp
 rw[hsl] at hle;clear hsl;refine callsIn_of_wp_marks Tryz.func122 rfl trivial ?_ rfl
 simp only[Tryz.ntmps122,List.size_toArray,List.length_cons,List.length_nil,Nat.reduceAdd,Nat.reduceSub,Array.replicate_succ,Array.replicate_zero,List.push_toArray,List.append_toArray,List.nil_append,List.cons_append]
 gi_wp2_with fail
 refine ⟨trivial,(callsIn_wide.2 (z1z s _ hs)).mono ?_⟩;rintro e w' ⟨rfl,rfl⟩;rw[hw]
 gi_wp2_with fail
 refine ⟨trivial,(zg0 _ s _).mono ?_⟩;rintro e w' ⟨rfl,rfl⟩
 gi_wp2_with fail
 have bAt:=((Boxed.new w 3 (.int .i64 0)).alloc (.cells #[.int .i64 0] 3)).alloc (.cells #[.string s] 9);have bEnd:=(Boxed.new (w.alloc (.cells #[.int .i64 0] 3)) 3 (.int .i64 0)).alloc (.cells #[.string s] 9);have bTx:=Boxed.new ((w.alloc (.cells #[.int .i64 0] 3)).alloc (.cells #[.int .i64 0] 3)) 9 (.string s)
 simp only[World.size_alloc] at bEnd bTx
 have hB0:Below w.heap.size w (((w.alloc (.cells #[.int .i64 0] 3)).alloc (.cells #[.int .i64 0] 3)).alloc (.cells #[.string s] 9)):=(((Below.refl _ w).alloc (Nat.le_refl _) _).alloc (by simp) _).alloc (by simp; omega) _
 have hsz:(((w.alloc (.cells #[.int .i64 0] 3)).alloc (.cells #[.int .i64 0] 3)).alloc (.cells #[.string s] 9)).heap.size=w.heap.size+3:=by simp
 obtain ⟨W0,hW0⟩:∃W0,(((w.alloc (.cells #[.int .i64 0] 3)).alloc (.cells #[.int .i64 0] 3)).alloc (.cells #[.string s] 9))=W0:=⟨_,rfl⟩
 rw[hW0] at bAt bEnd bTx hB0 hsz ⊢;clear hW0
 refine wpIn_rangeFunc_ownH rfl (by decide) (gf:=160) (lb:= #[.pointer (some ⟨w.heap.size+1+1,0,none⟩)]) rfl trivial (enters_of Tryz.func160 (by kernel_rfl) rfl)
  (zcu 5 (by decide) (w.heap.size+1+1) s hs W0 bTx) (fun h k=>k.trans h) (fun W l o o' hl h _ _=>(grownBy_putObj' W l o').block _ (by have:=(Array.getElem?_eq_some_iff.1 h).1; omega) (by intro e; cases e; omega)) (Below.refl _ _) (fun _=>rfl)
  (fun pre W=>(Boxed W w.heap.size 3 (.int .i64 ((8*pre.length:Nat):Int))∧Boxed W (w.heap.size+1) 3 (.int .i64 ((8*nzN pre:Nat):Int))∧Boxed W (w.heap.size+1+1) 9 (.string s))∧Below w.heap.size w W)
  (fun _ _ _=>False)
  (OwnFrom.and (OwnFrom.and (Own.from (boxed_own _ _ _) _) (OwnFrom.and (Own.from (boxed_own _ _ _) _) (Own.from (boxed_own _ _ _) _))) (ownFrom_below (Nat.le_refl _) (by omega)))
  (fun _ _ _ _ _ hs _ _=>hs)
  ⟨⟨bAt,bEnd,bTx⟩,hB0⟩
  (fun x a' W=>∃Bx,w.heap.size+1+1<Bx∧W.heap[Bx]? =some (.cells (wd x.1) 180 (0,0))∧a'= { tmps:= #[.string s,undef,.string ByteArray.empty,.pointer (some ⟨w.heap.size,0,none⟩),.pointer (some ⟨w.heap.size+1,0,none⟩),.pointer (some ⟨Bx,0,none⟩),.string s,.bool true,.bool false,.string s,.func (.func 160) #[] #[.pointer (some ⟨w.heap.size+1+1,0,none⟩)],.agg (wd x.1),undef,undef,undef,undef,undef,undef,undef,undef,undef],defers:= [] })
  (fun x a' _ X Y row hs hg hr=>by
   obtain ⟨Bx,h1,h2,h3⟩:=hs;refine ⟨Bx,h1,(hg.block Bx (Array.getElem?_eq_some_iff.1 h2).1 (fun e=>?_)).trans h2,h3⟩;obtain ⟨_,o,ho,hcl⟩:=hr Bx e.symm
   rw[h2] at ho; cases ho; cases hcl)
  ?assign ?body ?done ?stop
 case assign =>
  rintro l pre x W K ⟨⟨bA1,bE1,bT1⟩,hB1⟩ hK;obtain ⟨b0,b1,b2,b3,b4,b5,b6,b7,hx⟩:=len8 x.2
  simp only[hx,wd8] at hK ⊢
  gi_wp2
  exact hK _ _ ((KeepsOthers.alloc _ _).from _) (Below.heap_alloc W _ _ bT1.lt) ⟨⟨bA1.alloc _,bE1.alloc _,bT1.alloc _⟩,hB1.alloc hB1.size _⟩ ⟨W.heap.size,bT1.lt,heap_alloc_new W _,rfl⟩
 case body =>
  rintro l pre x a' W hl ⟨r,hr⟩ ⟨⟨bA1,bE1,bT1⟩,hB1⟩ ⟨Bx,hBx,bX,rfl⟩ hlt;obtain ⟨b0,b1,b2,b3,b4,b5,b6,b7,hx,c0,c1,c2,c3,c4,c5,c6,c7⟩:=zi3 bX;have hneq:=zjs b0 b1 b2 b3 b4 b5 b6 b7;rw[← hx] at hneq
  have hgd:=fun x y=>zdf .neq x y
  have cA:=bA1.cell;have fA:=bA1.frozen;have fE:=bE1.frozen
  have hp:pre.length≤1600:=by omega
  have hv:((8*pre.length:Nat):Int)+8=((8*(pre++ [x]).length:Nat):Int):=by rw[List.length_append,List.length_singleton]; omega
  have HV:=hid hv;have hnz:=ze9 pre x;have HNZ:=hid hnz;have HX:=hid hx;clear hv hnz hx;have cE:=bE1.cell
  have hvv:(8:Int)*(pre.length:Int)+8=((8*(pre++ [x]).length:Nat):Int):=by rw[List.length_append,List.length_singleton]; omega
  have HVV:=hid hvv
  have bA2:Boxed (W.setCell ⟨w.heap.size,0,none⟩ (.int .i64 (8*(pre.length:Int)+8))) w.heap.size 3 (.int .i64 ((8*(pre++ [x]).length:Nat):Int)):=by rw[← HVV.out]; exact bA1.set _
  have bE2:Boxed (W.setCell ⟨w.heap.size,0,none⟩ (.int .i64 (8*(pre.length:Int)+8))) (w.heap.size+1) 3 (.int .i64 ((8*nzN pre:Nat):Int)):=bE1.other (by omega) _;have bT2:Boxed (W.setCell ⟨w.heap.size,0,none⟩ (.int .i64 (8*(pre.length:Int)+8))) (w.heap.size+1+1) 9 (.string s):=bT1.other (by omega) _;have hB2:Below w.heap.size w (W.setCell ⟨w.heap.size,0,none⟩ (.int .i64 (8*(pre.length:Int)+8))):=hB1.setCell (p:=⟨w.heap.size,0,none⟩) (Nat.le_refl _) _
  have hK2:KeepsFrom W0.heap.size W (W.setCell ⟨w.heap.size,0,none⟩ (.int .i64 (8*(pre.length:Int)+8))):=(KeepsOthers.setCell _ _ _).from _
  have BA2:=hid bA2;have BT2:=hid bT2;have BE2:=hid bE2;have HB2:=hid hB2;have HK2:=hid hK2;have BT1:=hid bT1;have cE2:=bE2.cell;have fE2:=bE2.frozen;clear hvv bA2 bT2 hB2 hK2 bE2;cases hz:zerB x.1
  · rw[hz] at hneq
    have hneq':∀w:World,(binOp .neq 180 (.agg #[.int .u8 b0.toNat,.int .u8 b1.toNat,.int .u8 b2.toNat,.int .u8 b3.toNat,.int .u8 b4.toNat,.int .u8 b5.toNat,.int .u8 b6.toNat,.int .u8 b7.toNat]) (.agg #[.int .u8 0,.int .u8 0,.int .u8 0,.int .u8 0,.int .u8 0,.int .u8 0,.int .u8 0,.int .u8 0])).run Tryz.prog w= .ok (.bool true) w:=hneq
    have hn1:nzN (pre++ [x])=(pre++ [x]).length:=by rw[HNZ.out,hz,List.length_append,List.length_singleton]; rfl
    have HN1:=hid hn1;clear hneq hz hn1
    gi_wp2
    refine ⟨HK2.out.trans ((KeepsOthers.setCell _ _ _).from _),BT2.out.other (by omega) _ |>.trans BT1.out.symm,⟨BA2.out.other (by omega) _,?_,BT2.out.other (by omega) _⟩,HB2.out.setCell (p:=⟨w.heap.size+1,0,none⟩) (by simp) _⟩;rw[HN1.out,← HVV.out];exact BE2.out.set _
  · rw[hz] at hneq
    have hneq':∀w:World,(binOp .neq 180 (.agg #[.int .u8 b0.toNat,.int .u8 b1.toNat,.int .u8 b2.toNat,.int .u8 b3.toNat,.int .u8 b4.toNat,.int .u8 b5.toNat,.int .u8 b6.toNat,.int .u8 b7.toNat]) (.agg #[.int .u8 0,.int .u8 0,.int .u8 0,.int .u8 0,.int .u8 0,.int .u8 0,.int .u8 0,.int .u8 0])).run Tryz.prog w= .ok (.bool false) w:=hneq
    have hn1:nzN (pre++ [x])=nzN pre:=by rw[HNZ.out,hz]; rfl
    have HN1:=hid hn1;clear hneq hz hn1
    gi_wp2
    refine ⟨HK2.out,BT2.out.trans BT1.out.symm,⟨BA2.out,?_,BT2.out⟩,HB2.out⟩;rw[HN1.out];exact BE2.out
 case done =>
  rintro D zs W hD rfl ⟨⟨bA1,bE1,bT1⟩,hB1⟩ hK;have cE:=bE1.cell
  have g0:(0:Int)≤((8*nzN (z3e s.data.toList):Nat):Int):=by omega
  have g1:((8*nzN (z3e s.data.toList):Nat):Int)≤(s.size:Int):=by omega
  gi_wp2
  refine ⟨by simp,.inl ⟨_,_,rfl,run_takeDeferred hK,?_⟩⟩;exact ⟨_,results_tmp rfl _ _ _,rfl,hB1.trans (belowK_b (w:=w) (Nat.le_refl _) W D _ _ (by omega) hK rfl rfl)⟩
 case stop =>
  rintro D c pre W _ _ h _;exact h.elim
end Go.Proofs.YtblcibgphccfkaaGreatDoor
namespace Go.Proofs.YtblcibgphccfkaaGreatDoor
open Go.RowKit
theorem zc5 (s:ByteArray)(_hw:z0w s.size=true):s.extract 0 (8*nzN (z3e s.data.toList))=trimD s:=by
 have hsl:s.data.toList.length=s.size:=by simp
 apply ext_d
 rw[Lib.extract_data,zgz,z2e];unfold trimL tw
 simp
theorem zfi (s:ByteArray)(w:World)(h8:s.size%8=0)(hs:s.size≤1600) :
 Calls Tryz.prog 122 #[.string s] w fun e w'=>e= .returned (.string (trimD s))∧Below w.heap.size w w':=by
 have hw:z0w s.size=true:=by simp[z0w,h8,hs]
 rw[← zc5 s hw];exact callsIn_wide.1 (zmc s w (by unfold maxLen; omega) hw)
open Go.RowKit Go.Deep
theorem fin6w {w w1:World}{b:Nat}{T:TypeId}{a0 a1 a2 a3 a4 a5:Value}(h:w1.heap[b]? =some (.cells #[a0,a1,a2,a3,a4,a5] T (0,0)))(hp:Below w.heap.size w w1)(hb:w.heap.size≤b)(v0 v1 v2 v3 v4 v5:Value) :
 ∃wf,((((((w1.setCell ⟨b,0,none⟩ v0).setCell ⟨b,1,none⟩ v1).setCell ⟨b,2,none⟩ v2).setCell ⟨b,3,none⟩ v3).setCell ⟨b,4,none⟩ v4).setCell ⟨b,5,none⟩ v5)=wf∧wf.heap[b]? =some (.cells #[v0,v1,v2,v3,v4,v5] T (0,0))∧Below w.heap.size w wf∧(∀k,k≠b→wf.heap[k]? =w1.heap[k]?):=by
 have hk:∀(W:World) (i:Nat) (v:Value),Below w.heap.size w W→Below w.heap.size w (W.setCell ⟨b,i,none⟩ v):=fun W i v hW=>hW.setCell (p:=⟨b,i,none⟩) hb v
 have ho:∀(W:World) (i:Nat) (v:Value) (k:Nat),k≠b→(W.setCell ⟨b,i,none⟩ v).heap[k]? =W.heap[k]? :=fun W i v k hk=>Below.heap_setCell W ⟨b,i,none⟩ v k hk
 exact ⟨_,rfl,z06 (z06 (z06 (z06 (z06 (z06 h 0 v0) 1 v1) 2 v2) 3 v3) 4 v4) 5 v5,hk _ _ _ (hk _ _ _ (hk _ _ _ (hk _ _ _ (hk _ _ _ (hk _ _ _ hp))))),
  fun k hne=>by rw[ho _ _ _ k hne,ho _ _ _ k hne,ho _ _ _ k hne,ho _ _ _ k hne,ho _ _ _ k hne,ho _ _ _ k hne]⟩
theorem zit {w:World}{m c:Nat}{A:Option Addr}{l:List Nd}{bs:List Nat}(h:OwS w m A c l bs):(A=none∧l= []∧c=0)∨(∃g,A=some ⟨g,0,none⟩)∧l.length≤c:=by
 cases m with
 | zero =>
  obtain ⟨hl,ho,_⟩:=h
  rcases z3d ho with ⟨h1,_,h3,_⟩ | ⟨g,_,h1,_⟩
  · exact .inl ⟨h1,hl,h3⟩
  · exact .inr ⟨⟨g,h1⟩,by rw[hl]; exact Nat.zero_le _⟩
 | succ m =>
  obtain ⟨q,hq,ho,_⟩:=h
  rcases z3d ho with ⟨h1,h2,h3,_⟩ | ⟨g,cur,h1,_,_,_,h5,_⟩
  · exact .inl ⟨h1,by rw[← hq,List.eq_nil_of_length_eq_zero h2]; rfl,h3⟩
  · exact .inr ⟨⟨g,h1⟩,by rw[← hq,List.length_map]; exact h5⟩
theorem zam (m:Nat)(n:Nd)(h:Hd)(bs:List Nat)(w:World)(hn:OwN w m n h bs)(h8:n.data.size%8=0)(hd:n.data.size≤1600)(hp:n.ptrs.length≤2000000) :
 Calls Tryz.prog 88 #[.agg #[.int .i64 n.kind,.string n.data,.slice h.A n.ptrs.length h.a,.int .i64 n.size,.int .i64 n.count,.slice h.B n.items.length h.b]] w fun e w'=>e= .returned (.agg #[.int .i64 n.kind,.string (trimD n.data),.slice h.A (endC n.ptrs) h.a,.int .i64 n.size,.int .i64 n.count,.slice h.B n.items.length h.b])∧Below w.heap.size w w':=by
 obtain ⟨qA,qa,qB,qb⟩:=h;have hcap:=zit hn.2.choose_spec.choose_spec.2.1;have HN:=hid hn.nd;have HTR:=hid (fun W=>zfi n.data W h8 hd);have hb0:Below w.heap.size w ((w.alloc (.cells #[.int .i64 n.kind,.string n.data,.slice qA n.ptrs.length qa,.int .i64 n.size,.int .i64 n.count,.slice qB n.items.length qb] nodeT)).alloc (.cells #[.int .i64 0,.string { data:= #[] },.slice none 0 0,.int .i64 0,.int .i64 0,.slice none 0 0] nodeT)):=((Below.refl _ w).alloc (Nat.le_refl _) _).alloc (by simp) _;have hx0:((w.alloc (.cells #[.int .i64 n.kind,.string n.data,.slice qA n.ptrs.length qa,.int .i64 n.size,.int .i64 n.count,.slice qB n.items.length qb] nodeT)).alloc (.cells #[.int .i64 0,.string { data:= #[] },.slice none 0 0,.int .i64 0,.int .i64 0,.slice none 0 0] nodeT)).heap[w.heap.size]? =some (.cells #[.int .i64 n.kind,.string n.data,.slice qA n.ptrs.length qa,.int .i64 n.size,.int .i64 n.count,.slice qB n.items.length qb] nodeT (0,0)):=z02 (heap_alloc_new w _) _
 have hz0:((w.alloc (.cells #[.int .i64 n.kind,.string n.data,.slice qA n.ptrs.length qa,.int .i64 n.size,.int .i64 n.count,.slice qB n.items.length qb] nodeT)).alloc (.cells #[.int .i64 0,.string { data:= #[] },.slice none 0 0,.int .i64 0,.int .i64 0,.slice none 0 0] nodeT)).heap[w.heap.size+1]? =some (.cells #[.int .i64 0,.string { data:= #[] },.slice none 0 0,.int .i64 0,.int .i64 0,.slice none 0 0] nodeT (0,0)):=by have:=heap_alloc_new (w.alloc (.cells #[.int .i64 n.kind,.string n.data,.slice qA n.ptrs.length qa,.int .i64 n.size,.int .i64 n.count,.slice qB n.items.length qb] nodeT)) (.cells #[.int .i64 0,.string { data:= #[] },.slice none 0 0,.int .i64 0,.int .i64 0,.slice none 0 0] nodeT); rwa [show (w.alloc (.cells #[.int .i64 n.kind,.string n.data,.slice qA n.ptrs.length qa,.int .i64 n.size,.int .i64 n.count,.slice qB n.items.length qb] nodeT)).heap.size=w.heap.size+1 by simp] at this
 have HB0:=hid hb0;have HX0:=hid hx0;have HZ0:=hid hz0;clear hn hb0 hx0 hz0 h8 hd;go_enter Tryz.func88,Tryz.ntmps88
 go_wp2_with fail
 generalize ((w.alloc (.cells #[.int .i64 n.kind,.string n.data,.slice qA n.ptrs.length qa,.int .i64 n.size,.int .i64 n.count,.slice qB n.items.length qb] nodeT)).alloc (.cells #[.int .i64 0,.string { data:= #[] },.slice none 0 0,.int .i64 0,.int .i64 0,.slice none 0 0] nodeT))=W0 at *;refine (HTR.out _).mono ?_;rintro e w1 ⟨rfl,hb1⟩;have hx1:=(hb1.block _ (z00 HX0.out)).trans HX0.out;have hz1:=(hb1.block _ (z00 HZ0.out)).trans HZ0.out;have hb1':=HB0.out.trans (hb1.mono HB0.out.size);have HX2:=hid (z06 hx1 1 (.string (trimD n.data)));have HZ2:=hid ((Below.heap_setCell w1 ⟨w.heap.size,1,none⟩ (.string (trimD n.data)) (w.heap.size+1) (by simp)).trans hz1);have HB2:=hid (hb1'.setCell (p:=⟨w.heap.size,1,none⟩) (Nat.le_refl _) (.string (trimD n.data)));obtain ⟨a0,a1,a2,a3,a4,a5⟩:=z04 hx1;have f1:=z03 hx1 1;clear hb1 hx1 hz1 hb1' HX0 HZ0 HB0 HTR
 go_wp2_with fail
 clear a0 a1 a2 a3 a4 a5 f1;generalize w1.setCell ⟨w.heap.size,1,none⟩ (.string (trimD n.data))=W2 at *;obtain ⟨a0,a1,a2,a3,a4,a5⟩:=z04 HX2.out;have fx:=z03 HX2.out 2
 go_loopw [3] (fun i wr=>∃t:Nat,i= .int .i64 t∧t≤n.ptrs.length∧endC n.ptrs=endK n.ptrs t∧wr=W2) (fun i _=>(intOf i).toNat)
 case atStart=>exact ⟨_,rfl,Nat.le_refl _,rfl,rfl⟩
 case round =>
  obtain ⟨t,rfl,ht,hE,rfl⟩:=hrel;have HE:=hid hE
  have hex:∀t':Nat,Hid (endC n.ptrs=t')→Hid (∀W:World,W=wr.setCell ⟨w.heap.size,2,none⟩ (.slice qA t' qa)→W.heap[w.heap.size]? =some (.cells #[.int .i64 n.kind,.string (trimD n.data),.slice qA t' qa,.int .i64 n.size,.int .i64 n.count,.slice qB n.items.length qb] nodeT (0,0))∧W.heap[w.heap.size+1]? =some (.cells #[.int .i64 0,.string { data:= #[] },.slice none 0 0,.int .i64 0,.int .i64 0,.slice none 0 0] nodeT (0,0))∧Below w.heap.size w W):=fun t' _=>hid fun W hW=>by
   subst hW;exact ⟨z06 HX2.out 2 _,(Below.heap_setCell wr ⟨w.heap.size,2,none⟩ _ (w.heap.size+1) (by simp)).trans HZ2.out,HB2.out.setCell (p:=⟨w.heap.size,2,none⟩) (Nat.le_refl _) _⟩
  have HEX:=hid hex;clear hE hex
  cases t with
  | zero =>
   have hE0:endC n.ptrs=0:=HE.out;rw[hE0];obtain ⟨hx3,hz3,hb3⟩:=(HEX.out 0 (hid hE0)).out _ rfl;have HX3:=hid hx3;have HZ3:=hid hz3;have HB3:=hid hb3;obtain ⟨b0,b1,b2,b3,b4,b5⟩:=z04 hx3;obtain ⟨z0,z1,z2,z3,z4,z5⟩:=z04 hz3;have zf:=z03 hz3;clear hx3 hz3 hb3
   rcases hcap with ⟨rfl,hl0,rfl⟩ | ⟨⟨g,rfl⟩,hle⟩
   · have hl00:n.ptrs.length=0:=by rw[hl0]; rfl
     have hli:(n.ptrs.length:Int)=0:=by omega
     clear hl0
     go_wp2_with fail
     obtain ⟨wf,hwf,hrw,hbf, -⟩:=fin6w HZ3.out HB3.out (by omega) (.int .i64 n.kind) (.string (trimD n.data)) (.slice none 0 0) (.int .i64 n.size) (.int .i64 n.count) (.slice qB n.items.length qb);rw[hwf];obtain ⟨e0,e1,e2,e3,e4,e5⟩:=z04 hrw;exact bodyPost_ret (v:= .agg #[.int .i64 n.kind,.string (trimD n.data),.slice none 0 0,.int .i64 n.size,.int .i64 n.count,.slice qB n.items.length qb]) (by simp[results,Tryz.results88,go_sem,e0,e1,e2,e3,e4,e5]) rfl ⟨by rw[hE0],hbf⟩
   · go_wp2_with fail
     obtain ⟨wf,hwf,hrw,hbf, -⟩:=fin6w HZ3.out HB3.out (by omega) (.int .i64 n.kind) (.string (trimD n.data)) (.slice (some ⟨g,0,none⟩) 0 qa) (.int .i64 n.size) (.int .i64 n.count) (.slice qB n.items.length qb);rw[hwf];obtain ⟨e0,e1,e2,e3,e4,e5⟩:=z04 hrw;exact bodyPost_ret (v:= .agg #[.int .i64 n.kind,.string (trimD n.data),.slice (some ⟨g,0,none⟩) 0 qa,.int .i64 n.size,.int .i64 n.count,.slice qB n.items.length qb]) (by simp[results,Tryz.results88,go_sem,e0,e1,e2,e3,e4,e5]) rfl ⟨by rw[hE0],hbf⟩
  | succ k =>
   have hk:k<n.ptrs.length:=by omega
   rcases hcap with ⟨rfl,hl0,rfl⟩ | ⟨⟨g,rfl⟩,hle⟩
   · rw[hl0] at hk; cases hk
   obtain ⟨j,rfl⟩:=(show NdsAt w (InB w bs) m (some ⟨g,0,none⟩) n.ptrs from HN.out.2.1).pred hk;obtain ⟨x,hd,hxe,hc, -⟩:=((show NdsAt w (InB w bs) (j+1) (some ⟨g,0,none⟩) n.ptrs from HN.out.2.1).below HB2.out).at_ hk;obtain rfl:(⟨g,0,none⟩:Addr)=x:=Option.some.inj hxe
   have hget:(n.ptrs[k]?.getD z07)=n.ptrs[k]:=by rw[List.getElem?_eq_getElem hk]; rfl
   have HE2:Hid (endC n.ptrs=if n.ptrs[k].kind=0 then endK n.ptrs k else k+1):=hid (by rw[HE.out,endK,hget]);obtain ⟨d0,d1,d2,d3,d4,d5⟩:=hc;clear d1 d2 d3 d4 d5 hget hxe;rw[z2h] at d0
   by_cases hk0:n.ptrs[k].kind=0
   · rw[hk0] at d0
     rw[if_pos hk0] at HE2;clear hk0;go_wp2
     go_roundw
     case rel=>exact ⟨k,by go_num,by omega,HE2.out,trivial⟩
     case measure=>simp[intOf]
   · rw[if_neg hk0] at HE2
     have hkb:(n.ptrs[k].kind==0)=false:=by simpa using hk0
     clear hk0;have hE0:=HE2.out;rw[hE0];obtain ⟨hx3,hz3,hb3⟩:=(HEX.out (k+1) (hid hE0)).out _ rfl;have HX3:=hid hx3;have HZ3:=hid hz3;have HB3:=hid hb3;obtain ⟨b0,b1,b2,b3,b4,b5⟩:=z04 hx3;obtain ⟨z0,z1,z2,z3,z4,z5⟩:=z04 hz3;have zf:=z03 hz3;clear hx3 hz3 hb3
     go_wp2_with fail
     obtain ⟨wf,hwf,hrw,hbf, -⟩:=fin6w HZ3.out HB3.out (by omega) (.int .i64 n.kind) (.string (trimD n.data)) (.slice (some ⟨g,0,none⟩) (k+1) qa) (.int .i64 n.size) (.int .i64 n.count) (.slice qB n.items.length qb);rw[hwf];obtain ⟨e0,e1,e2,e3,e4,e5⟩:=z04 hrw;exact bodyPost_ret (v:= .agg #[.int .i64 n.kind,.string (trimD n.data),.slice (some ⟨g,0,none⟩) (k+1) qa,.int .i64 n.size,.int .i64 n.count,.slice qB n.items.length qb]) (by simp[results,Tryz.results88,go_sem,e0,e1,e2,e3,e4,e5]) rfl ⟨by rw[hE0],hbf⟩
theorem NdCell.flat {w:World}{g o:Nat}{n:Nd}{h:Hd}(hc:NdCell w ((⟨g,0,none⟩:Addr).add o) n h):w.cell? ⟨g,o,none⟩=some (.int .i64 n.kind)∧w.cell? ⟨g,o+1,none⟩=some (.string n.data)∧w.cell? ⟨g,o+2,none⟩=some (.slice h.A n.ptrs.length h.a)∧w.cell? ⟨g,o+3,none⟩=some (.int .i64 n.size)∧w.cell? ⟨g,o+4,none⟩=some (.int .i64 n.count)∧w.cell? ⟨g,o+5,none⟩=some (.slice h.B n.items.length h.b):=by
 rw[z2h] at hc;exact ⟨hc.c0,hc.c1,hc.c2,hc.c3,hc.c4,hc.c5⟩
theorem RowG.cells {w:World}{M g c:Nat}{pre post:List NB}{r:NB}(h:RowG w g c (pre++r :: post) M):w.cell? ⟨g,pre.length*6,none⟩=some (.int .i64 r.1.kind)∧w.cell? ⟨g,pre.length*6+1,none⟩=some (.string r.1.data)∧w.cell? ⟨g,pre.length*6+2,none⟩=some (.slice r.2.1.A r.1.ptrs.length r.2.1.a)∧w.cell? ⟨g,pre.length*6+3,none⟩=some (.int .i64 r.1.size)∧w.cell? ⟨g,pre.length*6+4,none⟩=some (.int .i64 r.1.count)∧w.cell? ⟨g,pre.length*6+5,none⟩=some (.slice r.2.1.B r.1.items.length r.2.1.b)∧∀i,w.frozen? ⟨g,i,none⟩=false:=by
 obtain ⟨cur,h1,h2,h3,h4,h5,h6,h7,h8⟩:=h
 have hl:pre.length<(pre++r :: post).length:=by simp
 have key:∀e,e<6→w.cell? ⟨g,pre.length*6+e,none⟩=some (cellE (r.1,r.2.1) e):=by
  intro e he
  rw[cell_of_row _ _ _ _ _ _ h1]
  have h9:(cur.toList.take ((pre++r :: post).length*6))[pre.length*6+e]? =some (cellE (r.1,r.2.1) e):=by
   rw[h5];unfold rowB;rw[z38,List.getElem?_map,show (pre.length*6+e)/6=pre.length by omega,show (pre.length*6+e)%6=e by omega,List.getElem?_append_right (Nat.le_refl _),Nat.sub_self]
   rfl
  rw[List.getElem?_take_of_lt (by omega)] at h9
  simpa using h9
 exact ⟨key 0 (by decide),key 1 (by decide),key 2 (by decide),key 3 (by decide),key 4 (by decide),key 5 (by decide),z03 h1⟩
theorem zdp (A:Option Addr)(n c:Nat):blk A=(Value.slice A n c).ownBlock.toList:=by cases A <;> rfl
theorem RowG.ptrs {w:World}{M g c:Nat}{pre post:List NB}{r:NB}(h:RowG w g c (pre++r :: post) (M+1)):∃(q0:List NB) (b2:List Nat),q0.map (·.1)=r.1.ptrs∧w.ownsRow 0 nodeT 6 (.slice r.2.1.A r.1.ptrs.length r.2.1.a) r.1.ptrs.length (rowB q0)∧r.2.2=(blk r.2.1.A++blkB q0)++b2∧(∀x∈q0,OwN w M x.1 x.2.1 x.2.2)∧OwS w (M+1) r.2.1.B r.2.1.b r.1.items b2∧r.1.data.size≤maxLen:=by
 obtain ⟨cur,h1,h2,h3,h4,h5,h6,h7,h8⟩:=h;obtain ⟨hd,b1,b2,he,⟨q0,hq,ho,hb,hr⟩,h10⟩:=h6 r (List.mem_append_right _ List.mem_cons_self)
 have hl:q0.length=r.1.ptrs.length:=by rw[← hq,List.length_map]
 rw[hl] at ho;exact ⟨q0,b2,hq,ho,by rw[he,hb],hr,h10,hd⟩
theorem zjg (k:Nat):blkB (List.replicate k ((z07,nHd,[]):NB))= []:=by
 induction k with
 | zero=>rfl
 | succ k ih=>rw[List.replicate_succ,z1s,ih]; rfl
theorem zkn (k:Nat):rowB (List.replicate k ((z07,nHd,[]):NB))=rowOf (List.replicate k (z07,nHd)):=by unfold rowB; rw[List.map_replicate]
theorem zg2 {X Y Z Z':List Nat}{f:Nat}(h:(X++(Z++Y)).Nodup)(hz:Z'=Z∨Z'= [f])(hf:∀b∈X++(Z++Y),b<f):(X++(Z'++Y)).Nodup:=by
 rcases hz with rfl | rfl
 · exact h
 · have h1:=List.nodup_append.1 h
   have h2:=List.nodup_append.1 h1.2.1;refine List.nodup_append.2 ⟨h1.1,List.nodup_cons.2 ⟨fun hm=>?_,h2.2.1⟩,fun a ha b hb e=>?_⟩
   · have:=hf f (List.mem_append_right _ (List.mem_append_right _ hm)); omega
   · rcases List.mem_cons.1 hb with rfl | hb
     · have:=hf a (List.mem_append_left _ ha); omega
     · exact h1.2.2 a ha b (List.mem_append_right _ hb) e
theorem RowG.grow {w w4:World}{M g c kz:Nat}{pre post:List NB}{r:NB}{A':Option Addr}{c':Nat}{q0:List NB}{b2:List Nat}(h:RowG w g c (pre++r :: post) (M+1))
 (hq:q0.map (·.1)=r.1.ptrs) (hb:r.2.2=(blk r.2.1.A++blkB q0)++b2) (hkids:∀x∈q0,OwN w M x.1 x.2.1 x.2.2) (hitems:OwS w (M+1) r.2.1.B r.2.1.b r.1.items b2) (hd:r.1.data.size≤maxLen)
 (hown:w4.ownsRow 0 nodeT 6 (.slice A' (r.1.ptrs.length+kz) c') (r.1.ptrs.length+kz) (rowB q0++rowOf (List.replicate kz (z07,nHd)))) (hgrow:w.grownBy w4 (Value.slice r.2.1.A r.1.ptrs.length r.2.1.a).ownBlock)
 (hat:(Value.slice A' (r.1.ptrs.length+kz) c').ownBlock=(Value.slice r.2.1.A r.1.ptrs.length r.2.1.a).ownBlock∨(Value.slice A' (r.1.ptrs.length+kz) c').ownBlock=some w.heap.size) :
 ∃r':NB,r'.1= .mk r.1.kind r.1.data (r.1.ptrs++List.replicate kz z07) r.1.size r.1.count r.1.items∧RowG (w4.setCell ⟨g,pre.length*6+2,none⟩ (.slice A' (r.1.ptrs.length+kz) c')) g c (pre++r' :: post) (M+1)∧∀b∈r'.2.2,b∈r.2.2∨w.heap.size≤b:=by
 have hlt:=h.lt;obtain ⟨cur,h1,h2,h3,h4,h5,h6,h7,h8⟩:=h
 have hblk:blkB (pre++r :: post)=blkB pre++(blk r.2.1.A++(blkB q0++(b2++blkB post))):=by rw[z1x,z1s,hb]; simp[List.append_assoc]
 rw[hblk] at h7 h8 hlt;have hbA:=zdp r.2.1.A r.1.ptrs.length r.2.1.a;have hbA':=zdp A' (r.1.ptrs.length+kz) c'
 -- blocks that are not the pointers' own row stay
 have hz:blk A'=blk r.2.1.A∨blk A'= [w.heap.size]:=by
  rw[hbA,hbA']
  rcases hat with e | e <;> rw[e]
  · exact .inl rfl
  · exact .inr rfl
 have hne:∀b,b∉blk r.2.1.A→some b≠(Value.slice r.2.1.A r.1.ptrs.length r.2.1.a).ownBlock:=by
  intro b hb e
  apply hb
  rw[hbA,← e]; exact List.mem_singleton.2 rfl
 have hstay:∀b,b<w.heap.size→b∉blk r.2.1.A→b≠g→(w4.setCell ⟨g,pre.length*6+2,none⟩ (.slice A' (r.1.ptrs.length+kz) c')).heap[b]? =w.heap[b]? :=fun b hb1 hb2 hb3 =>
  (Below.heap_setCell w4 ⟨g,pre.length*6+2,none⟩ _ b hb3).trans (hgrow.block b hb1 (hne b hb2))
 have hnd1:=List.nodup_append.1 h7;have hnd2:=List.nodup_append.1 hnd1.2.1
 have hin:∀b,b∈blkB q0++(b2++blkB post)→b<w.heap.size∧b∉blk r.2.1.A∧b≠g:=fun b hb=>⟨hlt.2 b (List.mem_append_right _ (List.mem_append_right _ hb)),fun h=>hnd2.2.2 b h b hb rfl,fun e=>h8 (e ▸ List.mem_append_right _ (List.mem_append_right _ hb))⟩
 have hpre:∀b,b∈blkB pre→b<w.heap.size∧b∉blk r.2.1.A∧b≠g:=fun b hb=>⟨hlt.2 b (List.mem_append_left _ hb),fun h=>hnd1.2.2 b hb b (List.mem_append_left _ h) rfl,fun e=>h8 (e ▸ List.mem_append_left _ hb)⟩
 have hgA:g∉blk r.2.1.A:=fun h=>h8 (List.mem_append_right _ (List.mem_append_left _ h))
 have hgA':g∉blk A':=by
  rcases hz with e | e <;> rw[e]
  · exact hgA
  · intro h; have:=List.mem_singleton.1 h; omega
 refine ⟨(.mk r.1.kind r.1.data (r.1.ptrs++List.replicate kz z07) r.1.size r.1.count r.1.items,⟨A',c',r.2.1.B,r.2.1.b⟩,(blk A'++blkB q0)++b2),rfl,?_,?_⟩
 · have hg4:w4.heap[g]? =some (.cells cur nodeT (0,0)):=(hgrow.block g hlt.1 (hne g hgA)).trans h1
   have hblk':blkB (pre++((.mk r.1.kind r.1.data (r.1.ptrs++List.replicate kz z07) r.1.size r.1.count r.1.items,⟨A',c',r.2.1.B,r.2.1.b⟩,(blk A'++blkB q0)++b2):NB) :: post)=blkB pre++(blk A'++(blkB q0++(b2++blkB post))):=by rw[z1x,z1s]; simp[List.append_assoc]
   refine ⟨_,z06 hg4 _ _,by simpa using h2,by simpa using h3,h4,?_,fun x hx=>?_,?_,?_⟩
   · have h5':cur.toList.take ((pre.map (fun r=>(r.1,r.2.1))++(r.1,r.2.1) :: post.map (fun r=>(r.1,r.2.1))).length*6)=rowOf (pre.map (fun r=>(r.1,r.2.1))++(r.1,r.2.1) :: post.map (fun r=>(r.1,r.2.1))):=by
      have:=h5;unfold rowB at this;rw[List.map_append,List.map_cons] at this
      simpa using this
     have:=zi6 (e:=2) (r':=((.mk r.1.kind r.1.data (r.1.ptrs++List.replicate kz z07) r.1.size r.1.count r.1.items:Nd),(⟨A',c',r.2.1.B,r.2.1.b⟩:Hd))) h2 (by simpa using h3) h5' (by decide) (fun f hf hf2=>by
      match f,hf with
      | 0,_=>rfl
      | 1,_=>rfl
      | 2,_=>exact absurd rfl hf2
      | 3,_=>rfl
      | 4,_=>rfl
      | 5,_=>rfl)
     unfold rowB;rw[List.map_append,List.map_cons]
     have hlen:(r.1.ptrs++List.replicate kz z07).length=r.1.ptrs.length+kz:=by simp
     have hce:cellE ((.mk r.1.kind r.1.data (r.1.ptrs++List.replicate kz z07) r.1.size r.1.count r.1.items:Nd),(⟨A',c',r.2.1.B,r.2.1.b⟩:Hd)) 2= .slice A' (r.1.ptrs.length+kz) c':=by
      show Value.slice A' (r.1.ptrs++List.replicate kz z07).length c'=_
      rw[hlen]
     rw[hce] at this
     simpa using this
   · rcases List.mem_append.1 hx with hx | hx
     · exact (h6 x (List.mem_append_left _ hx)).frame (fun b hbm=>by
        obtain ⟨p1,p2,p3⟩:=hpre b (List.mem_flatMap.2 ⟨x,hx,hbm⟩)
        exact hstay b p1 p2 p3)
     · rcases List.mem_cons.1 hx with rfl | hx
       · refine ⟨hd,blk A'++blkB q0,b2,rfl,?_,?_⟩
         · refine ⟨q0++List.replicate kz (z07,nHd,[]),?_,?_,?_,fun x hx=>?_⟩
           · rw[List.map_append,hq,List.map_replicate]; rfl
           · have hl:(q0++List.replicate kz ((z07,nHd,[]):NB)).length=r.1.ptrs.length+kz:=by rw[List.length_append,List.length_replicate,← hq,List.length_map]
             rw[hl,zf7,zkn];exact z8r hown (fun b hbm=>Below.heap_setCell w4 ⟨g,pre.length*6+2,none⟩ _ b (fun e=>hgA' ((show b=g from e) ▸ hbm)))
           · rw[z1x,zjg,List.append_nil]
           · rcases List.mem_append.1 hx with hx | hx
             · have:=(hkids x hx).frame (w':=w4.setCell ⟨g,pre.length*6+2,none⟩ (.slice A' (r.1.ptrs.length+kz) c')) (fun b hbm=>by
                obtain ⟨p1,p2,p3⟩:=hin b (List.mem_append_left _ (List.mem_flatMap.2 ⟨x,hx,hbm⟩))
                exact hstay b p1 p2 p3)
               exact this
             · have:=List.eq_of_mem_replicate hx
               subst this;exact OwN.none _ M
         · exact hitems.frame _ _ _ _ _ (fun b hbm=>by
            obtain ⟨p1,p2,p3⟩:=hin b (List.mem_append_right _ (List.mem_append_left _ hbm))
            exact hstay b p1 p2 p3)
       · exact (h6 x (List.mem_append_right _ (List.mem_cons_of_mem _ hx))).frame (fun b hbm=>by
          obtain ⟨p1,p2,p3⟩:=hin b (List.mem_append_right _ (List.mem_append_right _ (List.mem_flatMap.2 ⟨x,hx,hbm⟩)))
          exact hstay b p1 p2 p3)
   · rw[hblk']
     exact zg2 h7 hz (fun b hb=>hlt.2 b hb)
   · rw[hblk']
     intro hm
     rcases List.mem_append.1 hm with hm | hm
     · exact h8 (List.mem_append_left _ hm)
     · rcases List.mem_append.1 hm with hm | hm
       · exact hgA' hm
       · exact h8 (List.mem_append_right _ (List.mem_append_right _ hm))
 · intro b hbm
   rw[hb]
   rcases List.mem_append.1 hbm with hbm | hbm
   · rcases List.mem_append.1 hbm with hbm | hbm
     · rcases hz with e | e
       · rw[e] at hbm; exact .inl (List.mem_append_left _ (List.mem_append_left _ hbm))
       · rw[e] at hbm; obtain rfl:=List.mem_singleton.1 hbm; exact .inr (Nat.le_refl _)
     · exact .inl (List.mem_append_left _ (List.mem_append_right _ hbm))
   · exact .inl (List.mem_append_right _ hbm)
end Go.Proofs.YtblcibgphccfkaaGreatDoor
