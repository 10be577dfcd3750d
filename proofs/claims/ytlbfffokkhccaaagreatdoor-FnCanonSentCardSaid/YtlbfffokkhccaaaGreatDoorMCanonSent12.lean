/- Texts of the proof of the law FnCanonSent, side by side: part 12. -/
import Derived.StillTailTactics
import Derived.RegionTactic
import Derived.BigRegion
import Derived.Test.YtlbfffokkhccaaaGreatDoorMCanonSent11
set_option maxHeartbeats 8000000
set_option maxRecDepth 100000
open Go.Lib (hid)
namespace Go.Proofs.YtlbfffokkhccaaaGreatDoor
open Go.RowKit
theorem z6o {P:Program}(w:World)(dT sT ty elem:TypeId)(g dCap:Nat)(s:ByteArray)(cur:List UInt8)(t:TypeId)
 (hu:P.underlying dT=some (.slice elem)) (hs:(P.info? elem).map (·.size)=some 1) (hg:w.heap[g]? =some (.cells (wd cur) t (0,0))) (hle:s.size≤cur.length) :
 (Builtin.copy_ #[dT,sT] ty #[.slice (some ⟨g,0,none⟩) cur.length dCap,.string s]).run P w =
  .ok (goInt s.size) (w.setRow g (wd (s.data.toList++cur.drop s.size))):=by
 have hlen:(Lib.byteCells s.data.toList).length=s.size:=by
  rw[Lib.byteCells_length,← Lib.size_eq]
 have hst:=run_storeCells_at P g 0 t (Lib.byteCells s.data.toList) 0 (wd cur) w hg (by rw[hlen]; simp[wd,Lib.byteCells_length]; omega) (Lib.byteCells_one _);have hmin:Nat.min s.size cur.length=s.size:=Nat.min_eq_left hle
 have htk:List.take s.size (List.map (fun b:UInt8=>Value.int IntKind.u8 (b.toNat:Int)) s.data.toList)=Lib.byteCells s.data.toList:=by
  rw[Lib.byteCells,List.take_of_length_le (by simp)]
 rw[hlen] at hst
 have hd:List.drop s.size (wd cur).toList=Lib.byteCells (cur.drop s.size):=by simp[wd,Lib.byteCells,List.map_drop]
 simp only[Nat.add_zero,Nat.zero_add,List.take_zero,List.nil_append,hd] at hst
 cases hq:P.info? elem with
 | none=>simp[hq] at hs
 | some i =>
  simp[Builtin.copy_,run_underlying hu,Builtin.lenOf,Builtin.firstCells,sizeOf,typeInfo,hq,hmin]
  rw[show (List.take s.size (List.map (fun b:UInt8=>Value.int IntKind.u8 (b.toNat:Int)) s.data.toList))=Lib.byteCells s.data.toList from htk,hst]
  simp[Result.andThen,wd,Lib.byteCells]
theorem z5c {P:Program}{ops:Array Oper}{rest:List Oper}{o:Oper}{a:Act}{w:World}{Q:Exit→Act→World→Prop}(hgd:o.guard=none)(d s:Operand)(dT sT:TypeId)
 (ho:o.op= .call { callee:= .builtin .copy,args:= #[d,s],argTypes:= #[dT,sT] }) (elem:TypeId) (hu:P.underlying dT=some (.slice elem)) (hsz:(P.info? elem).map (·.size)=some 1)
 (g dCap n:Nat) (S:ByteArray) (cur:List UInt8) (t:TypeId) (hn:cur.length=n) (hd:a.eval d= .slice (some ⟨g,0,none⟩) n dCap) (hs:a.eval s= .string S)
 (hg:w.heap[g]? =some (.cells (wd cur) t (0,0))) (hle:S.size≤n)
 (h:∀w',Hid (w'.heap[g]? =some (.cells (wd (S.data.toList++cur.drop S.size)) t (0,0)))→Hid (w.grownBy w' (some g))→wpList P ops Q rest (a.put o.dst (goInt S.size)) w') :
 wpList P ops Q (o :: rest) a w:=by
 subst hn
 refine wpList_plain hgd fun _ hK=>?_
 have hrun:=z6o (P:=P) w dT sT o.type elem g dCap S cur t hu hsz hg hle;unfold Oper.wp
 simp[execOp,ho,resolve,invoke,builtin,hd,hs,hrun,Result.andThen]
 exact hK _ _ (h _ (setRow_heap w g _ _ t _ hg) ⟨rfl,rfl,rfl,by simp[World.setRow],fun k _ hk=>setRow_other w g k _ (fun e=>hk (by rw[e]))⟩)
theorem zsf (s:ByteArray)(p:Nat)(h:4*p+4≤s.size):leN ((s.extract (4*p) (4*p+4)).data.toList++ [0,0,0,0]) 0 4=gN s.data.toList p:=by
 refine z2d _ _ 4 _ _ (fun i hi=>?_)
 have hl:s.data.toList.length=s.size:=by simp
 rw[Lib.extract_data,List.getElem?_append_left (by simp; omega),List.getElem?_take_of_lt (by omega),List.getElem?_drop,Nat.zero_add]
theorem z6u (s:ByteArray)(p:Nat)(w:World)(hs:s.size≤maxLen)(hp:4*p+4≤s.size) :
 Calls Tryz.prog 104 #[.string s,.int .i64 p] w fun e w'=>e= .returned (.int .i64 (gN s.data.toList p))∧Below w.heap.size w w':=by
 unfold maxLen at hs;have hcut:=zsf s p hp
 have hsz:(s.extract (p*4) ((p+1)*4)).size=4:=by simp; omega
 have e0:s.extract (4*p) (4*p+4)=s.extract (p*4) ((p+1)*4):=by rw[Nat.mul_comm 4 p,show p*4+4=(p+1)*4 by omega]
 rw[e0] at hcut
 have hlen:((s.extract (p*4) ((p+1)*4)).data.toList++ [(0:UInt8),0,0,0]).length=8:=by
  have h2:(s.extract (p*4) ((p+1)*4)).data.toList.length=(s.extract (p*4) ((p+1)*4)).size:=rfl;rw[List.length_append,h2,hsz,List.length_cons,List.length_cons,List.length_cons,List.length_cons,List.length_nil]
 have hgl:=gN_lt s.data.toList p;generalize gN s.data.toList p=G at hcut hgl ⊢;generalize hX:s.extract (p*4) ((p+1)*4)=X at hcut hlen hsz;have HX:=hid hX;have HC:=hid hcut;have HSZ:=hid hsz;clear hX hcut e0 hsz;go_enter Tryz.func104,Tryz.ntmps104;go_wp2
 have e1:IntKind.i64.wrap ((p:Int)*4)=(p:Int)*4:=by rw[IntKind.wrap_i64]; omega
 have e1b:IntKind.i64.wrap ((p:Int)+1)=(p:Int)+1:=by rw[IntKind.wrap_i64]; omega
 have e1c:IntKind.i64.wrap (((p:Int)+1)*4)=((p:Int)+1)*4:=by rw[IntKind.wrap_i64]; omega
 have e2:(0:Int)≤(p:Int)*4:=by omega
 have e2b:(p:Int)*4≤((p:Int)+1)*4:=by omega
 have e3:((p:Int)+1)*4≤(s.size:Int):=by omega
 have e4:((p:Int)*4).toNat=p*4:=by omega
 have e5:(((p:Int)+1)*4).toNat=(p+1)*4:=by omega
 have e6:(0:Int)≤((p:Int)+1)*4:=by omega
 have e7:(p:Int)≤(p:Int)+1:=by omega
 have hg0:=heap_alloc_new w (.cells #[.int .u8 0,.int .u8 0,.int .u8 0,.int .u8 0,.int .u8 0,.int .u8 0,.int .u8 0,.int .u8 0] 87);have HWB:=hid ((Below.refl _ w).alloc (Nat.le_refl _) (.cells #[.int .u8 0,.int .u8 0,.int .u8 0,.int .u8 0,.int .u8 0,.int .u8 0,.int .u8 0,.int .u8 0] 87));generalize w.alloc (.cells #[.int .u8 0,.int .u8 0,.int .u8 0,.int .u8 0,.int .u8 0,.int .u8 0,.int .u8 0,.int .u8 0] 87)=W at hg0 HWB ⊢;refine wp_region_still_tail 8 (by kernel_rfl) (by kernel_rfl) ?_
 simp only[List.take_succ_cons,List.take_zero,List.drop_succ_cons,List.drop_zero]
 refine wpStill_step (fun K hK=>?_)
 go_simp
 refine hK _ ?_;clear hK K
 still_step
 still_step
 still_step
 still_step
 still_step
 still_step
 refine wpStill_step (fun K hK=>?_)
 go_simp
 refine hK _ ?_;clear hK K;refine wpStill_nil ?_;clear e1 e1b e1c e2 e2b e3 e4 e5 e6 e7
 change wpList _ _ _ _ _ W.drew
 have hgD:W.drew.heap[w.heap.size]? =some (.cells (wd [0,0,0,0,0,0,0,0]) 87 (0,0)):=hg0;have hbD:Below w.heap.size w W.drew:=HWB.out.drew;generalize W.drew=W2 at hgD hbD ⊢;refine z5c rfl (.tmp 6) (.tmp 13) 22 9 rfl 5 Tryz.underlying22 size5 w.heap.size 8 8 (s.extract (p*4) ((p+1)*4)) [0,0,0,0,0,0,0,0] 87 rfl rfl rfl hgD (by rw[HX.out,HSZ.out]; decide) ?_
 intro w4 hg4 hb4
 rw[HX.out,HSZ.out] at hg4;have hB:=hid (hbD.grown hb4.out (by have:=hbD.size; omega) (fun k e=>by cases e; exact Nat.le_refl _));have hlen:=hid hlen;have hC:=HC;clear hb4 hbD hgD;generalize hl:X.data.toList++ [(0:UInt8),0,0,0]=l at hlen hC;have hg5:Hid (w4.heap[w.heap.size]? =some (.cells (wd l) 87 (0,0))):=hid (by rw[← hl]; exact hg4.out);clear hg4 hl HC HX HSZ hg0
 go_wp2_with (refine z1b rfl 87 (.tmp 5) rfl w.heap.size rfl 87 l _ hg5.out Tryz.underlying87 rfl (by rw[hlen.out]; exact z24) ?_)
 refine (zbb l 0 4 _ hlen.out (by decide) (by decide) (by decide)).mono ?_;rintro e w5 ⟨rfl,hb5⟩;rw[show (0:Int).toNat=0 from rfl,show (4:Int).toNat=4 from rfl,hC.out]
 have hw:IntKind.i64.wrap (G:Int)=G:=by rw[IntKind.wrap_i64]; omega
 go_wp2;go_ret;exact ⟨rfl,hB.out.trans (hb5.mono hB.out.size)⟩
open Go.RowKit Go.Shelf
def zm7:Ren:=⟨fun | 231=>177 | 232=>178 | n=>n,fun | 9=>9 | 4=>4 | 3=>3 | 5=>5 | n=>n,fun n=>n⟩
theorem zo7:Go.Proofs.Lays.n231 Tryz.prog zm7:= {
 mixed:=by kernel_rfl
 f231:=Tryz.func177.trans (congrArg some (by kernel_rfl))
 t3:=Tryz.underlying3,a3:=Tryz.isAgg3,z3:=Tryz.sizeOf3,v3:=Tryz.zeroValue3
 t4:=Tryz.underlying4,a4:=Tryz.isAgg4,z4:=Tryz.sizeOf4,v4:=Tryz.zeroValue4
 t5:=Tryz.underlying5,a5:=Tryz.isAgg5,z5:=Tryz.sizeOf5,v5:=Tryz.zeroValue5
 t9:=Tryz.underlying9,a9:=Tryz.isAgg9,z9:=Tryz.sizeOf9,v9:=Tryz.zeroValue9 }
theorem zkc:Go.Proofs.Lays.n232 Tryz.prog zm7:= {
 mixed:=by kernel_rfl
 f232:=Tryz.func178.trans (congrArg some (by kernel_rfl))
 t3:=Tryz.underlying3,a3:=Tryz.isAgg3,z3:=Tryz.sizeOf3,v3:=Tryz.zeroValue3
 t4:=Tryz.underlying4,a4:=Tryz.isAgg4,z4:=Tryz.sizeOf4,v4:=Tryz.zeroValue4
 t5:=Tryz.underlying5,a5:=Tryz.isAgg5,z5:=Tryz.sizeOf5,v5:=Tryz.zeroValue5
 t9:=Tryz.underlying9,a9:=Tryz.isAgg9,z9:=Tryz.sizeOf9,v9:=Tryz.zeroValue9 }
theorem zdu (s:ByteArray)(w:World) :
 Calls Tryz.prog 177 #[.string s,.int .u8 0] w fun e w'=>e= .returned (.string ⟨(Lib.trimLeftB s.data.toList 0).toArray⟩)∧w'=w:=Any.strings_trimLeftByte zo7 s 0 w
theorem zcc (s:ByteArray)(w:World)(hs:s.size≤9223372036854775807) :
 Calls Tryz.prog 178 #[.string s,.int .u8 0] w fun e w'=>e= .returned (.string ⟨(Lib.trimRightB s.data.toList 0).toArray⟩)∧w'=w:=Any.strings_trimRightByte zkc s 0 w hs
theorem zqe (m:List UInt8):m.dropWhile (· ==(0:UInt8))= []↔∀b∈m,b=0:=by
 induction m with
 | nil=>simp
 | cons x r ih =>
  by_cases h:x=0
  · subst h
    rw[List.dropWhile_cons_of_pos (by rfl),ih]
    simp
  · rw[List.dropWhile_cons_of_neg (by simpa using h)]
    simp[h]
theorem zej (l:List UInt8):Lib.trimB l 0= []↔∀b∈l,b=0:=by
 have hL:∀m:List UInt8,Lib.trimLeftB m 0= []↔∀b∈m,b=0:=fun m=>by
  exact zqe m
 unfold Lib.trimB;rw[hL];unfold Lib.trimRightB
 constructor
 · intro h
   have h2:l.reverse.dropWhile (· ==(0:UInt8))= []:=by
    cases hd:l.reverse.dropWhile (· ==(0:UInt8)) with
    | nil=>rfl
    | cons x r =>
     have hx:=List.head_dropWhile_not (fun b:UInt8=>b==0) (l:=l.reverse) (by rw[hd]; simp)
     have e:(l.reverse.dropWhile (· ==(0:UInt8))).head (by rw[hd]; simp)=x:=by simp[hd]
     rw[e] at hx;have:=h x (by rw[hd]; simp);subst this
     simp at hx
   rw[zqe] at h2
   intro b hb
   exact h2 b (by simpa using hb)
 · intro h b hb
   have:b∈l.reverse.dropWhile (· ==(0:UInt8)):=by simpa using hb
   exact h b (by simpa using (List.dropWhile_sublist _).subset this)
theorem zlp (s:ByteArray)(w:World)(hs:s.size≤1048576) :
 Calls Tryz.prog 150 #[.string s,.string ⟨#[0]⟩] w fun e w'=>e= .returned (.string ⟨(Lib.trimB s.data.toList 0).toArray⟩)∧Below w.heap.size w w':=by
 have hR:=zcc s;have hL:=zdu ⟨(Lib.trimRightB s.data.toList 0).toArray⟩;have hR':=hid hR;have hL':=hid hL;clear hR hL;go_enter Tryz.func150,Tryz.ntmps150;go_wp2
 · have hl:s.data.toList= []:=by rw[← Lib.toList_data]; assumption
   go_ret;refine ⟨?_,Below.refl _ _⟩
   show Ending.returned (Value.string s)=_
   have hs0:s=⟨#[]⟩:=by rw[← Lib.mk_data s,hl]
   rw[hl,(zej []).2 (by simp),hs0]
 · rename_i h1 h2
   exact absurd (by simpa using h2) h1
 · go_region_with (first
    | (refine (hR'.out _ (by omega)).mono ?_; rintro e w' ⟨rfl,rfl⟩)
    | (refine (hL'.out _).mono ?_; rintro e w' ⟨rfl,rfl⟩))
   all_goals (go_wp2; go_ret; exact ⟨rfl,(Below.refl _ _).drew⟩)
end Go.Proofs.YtlbfffokkhccaaaGreatDoor
namespace Go.Proofs.YtlbfffokkhccaaaGreatDoor
open Go.RowKit
theorem zqw:(Tryz.prog.info? 3).map (fun i=>(i.zero,i.size,i.bytes))=some (some (.int .i64 0),1,8):=by kernel_rfl
def z39 (zs:List Nat):List Value:=zs.map fun z:Nat=> .int .i64 ((z:Int)*8)
theorem ze6 (zs:List Nat)(z:Nat):z39 (zs++ [z])=z39 zs++ [.int .i64 ((z:Int)*8)]:=by simp[z39]
theorem z42 (zs:List Nat):(z39 zs).length=zs.length:=by simp[z39]
theorem z9x {w:World}{B e n:Nat}{v:Value}{xs:List Value}(h:w.ownsRow B e 1 v n xs):∃A cap,v= .slice A n cap:=by
 rcases h.2 with ⟨rfl,rfl⟩ | ⟨g,cap,_,rfl,_⟩
 · exact ⟨none,0,rfl⟩
 · exact ⟨_,cap,rfl⟩
def FSz (h:ByteArray)(n:Nat)(w:World)(e:Ending)(w':World):Prop :=
 ∃v,e= .returned (.tuple #[v,.bool (fgZ h.data.toList n&&decide ((szs h.data.toList n).sum≤200))])∧w'.ownsRow w.heap.size 3 1 v n (z39 (szs h.data.toList n))∧Below w.heap.size w w'
theorem z8q (l:List UInt8):(⟨l.toArray⟩:ByteArray).toList.isEmpty=l.isEmpty:=by rw[ByteArray.toList_eq]
theorem zaq (h:ByteArray)(n:Nat)(w:World)(hn1:1≤n)(hn:n≤6)(hs:h.size=z1a n) :
 Calls Tryz.prog 105 #[.string h,.int .i64 n] w (FSz h n w):=by
 have hs2:=hs;unfold z1a at hs2
 have hsm:h.size≤32:=by omega
 have hs4:4*n+4≤h.size:=by omega
 have hZ:fgZ h.data.toList n=(h.data.toList.drop (4*(n+1))).all (· ==0):=by
  have e:h.data.toList.length=h.size:=rfl;rw[fgZ,List.take_of_length_le (by omega)]
 have HZ:=hid hZ;have HS:=hid hs;obtain ⟨i0,hi,hz0,hz1,hz2⟩:=info_parts zqw;clear hs hs2 hZ;go_enter Tryz.func105,Tryz.ntmps105
 go_wp2_with fail
 go_loopw [6,7,12] (fun v t i wr=>∃k:Nat,k≤n∧i= .int .i64 k∧t= .int .i64 ((szs h.data.toList k).sum*8:Nat)∧Hid (wr.ownsRow w.heap.size 3 1 v k (z39 (szs h.data.toList k)))∧Hid (Below w.heap.size w wr)) (fun _ _ i _=>n-(intOf i).toNat)
 case atStart=>exact ⟨0,by omega,rfl,rfl,hid (World.ownsRow_nil _ _ _ _),Below.refl _ _⟩
 case round =>
  obtain ⟨k,hk,rfl,rfl,HO,HB⟩:=hrel;obtain ⟨A,cp,rfl⟩:=z9x HO.out;have hsl:=zbz h.data.toList k
  by_cases hk1:k<n
  · have hg:=gN_lt h.data.toList (k+1)
    have hstep:=zh6 h.data.toList k;have hsum:=z80 h.data.toList k;have HSt:=hid hstep;have HSu:=hid hsum;generalize (szs h.data.toList k).sum=T at hsl HSu ⊢;clear hstep hsum
    go_wp2_with fail
    refine (z6u h (k+1) _ (by unfold maxLen; omega) (by omega)).mono ?_;rintro e w1 ⟨rfl,hb1⟩;generalize hG:gN h.data.toList (k+1)=G at hg HSt HSu ⊢;have HO1:=hid (HO.out.kept (row:=none) ⟨hb1.os,hb1.tape,hb1.output,hb1.size,fun k hk _=>hb1.block k hk⟩ (Classical.em _));have HB1:=hid (HB.out.trans (hb1.mono HB.out.size));have hsz1:=HB1.out.size;clear hb1 hG
    go_wp2_with (at_builtin; go_must (refine wpList_append_own _ rfl (.tmp 20) (.tmp 22) 50 rfl w.heap.size 3 i0 (.int .i64 0) 1 8 Tryz.underlying50 hi hz0 hz1 hz2 rfl (by decide) _ _ _ rfl (HO1.out.alloc _) ⟨w1.heap.size,0,none⟩ 1 1 [.int .i64 ((G:Int)*8)] rfl rfl (cell_one_new _ _ _) (by simp[Value.oneCell']) (by unfold maxLen; omega) (by omega) (by simp <;> omega) ?_); intro v' wn hown' hgrow _)
    have HON:=hid (show wn.ownsRow w.heap.size 3 1 v' (k+1) (z39 (szs h.data.toList (k+1))) by rw[HSt.out,ze6]; exact hown');have HBN:=hid (z3z HB1.out hsz1 HO1.out hgrow);clear hgrow hown';go_wp2
    go_roundw
    case rel=>exact ⟨k+1,by omega,by go_num,by rw[HSu.out]; go_num,HON,HBN⟩
    case measure=>simp[intOf]; omega
  · obtain rfl:k=n:=by omega
    have hcut:(h.extract ((k+1)*4) h.size).data.toList=h.data.toList.drop (4*(k+1)):=by
     have e:h.data.toList.length=h.size:=rfl;rw[Lib.extract_data,List.take_of_length_le (by simp <;> omega),Nat.mul_comm]
    have hxs:(h.extract ((k+1)*4) h.size).size≤1048576:=by simp; omega
    have hz:Lib.trimB (h.extract ((k+1)*4) h.size).data.toList 0= []↔fgZ h.data.toList k=true:=by
     rw[zej,hcut,HZ.out,List.all_eq_true]
     simp only[beq_iff_eq]
    have HZZ:=hid hz;clear hcut hz;generalize hT:(szs h.data.toList k).sum=T at hsl ⊢;generalize hL:Lib.trimB (h.extract ((k+1)*4) h.size).data.toList 0=L at HZZ;have HT:=hid hT;have HL:=hid hL;clear hT hL
    go_wp2_with fail
    refine (zlp _ _ hxs).mono ?_;rintro e w1 ⟨rfl,hb1⟩;rw[HL.out];have HO1:=hid (HO.out.kept (row:=none) ⟨hb1.os,hb1.tape,hb1.output,hb1.size,fun k hk _=>hb1.block k hk⟩ (Classical.em _));have HB1:=hid (HB.out.trans (hb1.mono HB.out.size));clear hb1
    have hres:∀b:Bool,∀c:Bool,fgZ h.data.toList k=b→decide (T≤200)=c→FSz h k w (.returned (.tuple #[.slice A k cp,.bool (b&&c)])) w1:=fun b c hb hc=>⟨.slice A k cp,by rw[hb,HT.out,hc],HO1.out,HB1.out⟩
    have HR:=hid hres;clear hres
    by_cases hL:L= []
    · have hf:=HZZ.out.1 hL
      subst hL;have HF:=hid hf;clear hf;have HD:Hid (decide ((T:Int)*8≤1600)=decide (T≤200)):=hid (by rw[decide_eq_decide]; omega);go_wp2
      go_ret2
      have h3:=HR.out true (decide (T≤200)) HF.out rfl;rw[← HD.out] at h3;exact h3
    · have hf:fgZ h.data.toList k=false:=by
       cases hz:fgZ h.data.toList k
       · rfl
       · exact absurd (HZZ.out.2 hz) hL
      have hx:(⟨L.toArray⟩:ByteArray).toList.isEmpty=false:=by
       rw[z8q]
       cases L with
       | nil=>exact absurd rfl hL
       | cons a r=>rfl
      generalize (⟨L.toArray⟩:ByteArray)=X at hx ⊢;have HF:=hid hf;clear hf hL;go_wp2
      go_ret2
      have:=HR.out false (decide (T≤200)) HF.out rfl;exact this
def Ones (w:World)(A:Option Addr)(xs:List Value):Prop :=
 xs= []∨∃a:Addr,A=some a∧a.block<w.heap.size∧∀i (h:i<xs.length),w.cell? (a.add i)=some xs[i]
theorem Ones.below {w w':World}{A:Option Addr}{xs:List Value}(h:Ones w A xs)(hb:Below w.heap.size w w'):Ones w' A xs:=by
 rcases h with h0 | ⟨a,ha,hlt,hc⟩
 · exact .inl h0
 · refine .inr ⟨a,ha,Nat.lt_of_lt_of_le hlt hb.size,fun i hi=>?_⟩
   exact (hb.cell (p:=a.add i) (by rw[z3r]; exact hlt)).trans (hc i hi)
theorem Ones.own {w:World}{B e n cap:Nat}{A:Option Addr}{xs:List Value}(h:w.ownsRow B e 1 (.slice A n cap) n xs):Ones w A xs:=by
 rcases h.2 with ⟨_,h0⟩ | ⟨g,cap,_,he,_⟩
 · exact .inl (List.eq_nil_of_length_eq_zero (by rw[h.1,h0]))
 · cases he
   refine .inr ⟨_,rfl,(h.lt g rfl).2,fun i hi=>?_⟩;exact h.cells rfl i _ (by simp[List.getElem?_eq_getElem hi])
def zlk (s:ByteArray)(a:Nat)(zs:List Nat)(w:World)(e:Ending)(w':World):Prop :=
 ∃v,e= .returned (.tuple #[v,.int .i64 ((a+8*zs.sum:Nat):Int)])∧w'.ownsRow w.heap.size 9 1 v zs.length ((cutB s a zs).map Value.string)∧Below w.heap.size w w'
def CutNo (w:World)(e:Ending)(w':World):Prop:=e= .returned (.tuple #[.slice none 0 0,.int .i64 0])∧Below w.heap.size w w'
theorem z7x (zs:List Nat)(k:Nat):(zs.take k).sum≤zs.sum:=by
 conv=>rhs; rw[← List.take_append_drop k zs]
 rw[List.sum_append]; omega
theorem zam (zs:List Nat)(k:Nat)(h:k<zs.length):(zs.take (k+1)).sum=(zs.take k).sum+zs[k]:=by
 rw[List.take_succ_eq_append_getElem h,List.sum_append]; simp
theorem zkb (s:ByteArray)(a:Nat)(zs:List Nat)(k:Nat)(h:k<zs.length):cutB s a (zs.take (k+1))=cutB s a (zs.take k)++ [s.extract (a+8*(zs.take k).sum) (a+8*(zs.take k).sum+8*zs[k])]:=by
 rw[List.take_succ_eq_append_getElem h,zew]
theorem z9p (s:ByteArray)(a:Nat)(A:Option Addr)(cap:Nat)(zs:List Nat)(w:World)(hs:s.size≤1099511627776)(ha:a≤s.size)(hn:zs.length≤6)(hz:zs.sum≤200)(h:Ones w A (z39 zs)) :
 Calls Tryz.prog 106 #[.string s,.int .i64 a,.slice A zs.length cap] w (fun e w'=>if s.size<a+8*zs.sum then CutNo w e w' else zlk s a zs w e w'):=by
 have hpost:∃P:Ending→World→Prop,P=(fun e w'=>if s.size<a+8*zs.sum then CutNo w e w' else zlk s a zs w e w'):=⟨_,rfl⟩
 obtain ⟨P,hP⟩:=hpost;rw[← hP];have HP:=hid hP;have H:=hid h;obtain ⟨i0,hi,hz0,hz1,hz2⟩:=info_parts zre;clear h hP;go_enter Tryz.func106,Tryz.ntmps106
 go_wp2_with fail
 go_loopw [1,8,13] (fun at_ v i wr=>∃k:Nat,k≤zs.length∧i= .int .i64 k∧at_= .int .i64 ((a+8*(zs.take k).sum:Nat):Int)∧a+8*(zs.take k).sum≤s.size∧Hid (wr.ownsRow w.heap.size 9 1 v k ((cutB s a (zs.take k)).map Value.string))∧Hid (Below w.heap.size w wr)) (fun _ _ i _=>zs.length-(intOf i).toNat)
 case atStart=>exact ⟨0,by omega,rfl,by simp,by simpa using ha,hid (World.ownsRow_nil _ _ _ _),Below.refl _ _⟩
 case round =>
  obtain ⟨k,hk,rfl,rfl,hat,HO,HB⟩:=hrel;obtain ⟨A2,cp,rfl⟩:=z9x HO.out
  by_cases hk1:k<zs.length
  · obtain ⟨ad,rfl,_,hc⟩:=(H.out.below HB.out).resolve_left (by intro h; have:=z42 zs; rw[h] at this; simp at this; omega)
    have hck:=hc k (by rw[z42]; exact hk1)
    have he:(z39 zs)[k]'(by rw[z42]; exact hk1)= .int .i64 ((zs[k]:Int)*8):=by simp[z39]
    rw[he] at hck;have hs1:=zam zs k hk1;have hs2:=z7x zs (k+1);have hs3:=z7x zs k;have hct:=zkb s a zs k hk1;have HCT:=hid hct;have HS1:=hid hs1;generalize hz':zs[k]=z at hck hs1 HCT HS1;generalize (zs.take k).sum=T at hs1 hs2 hs3 hat HO HCT HS1 ⊢
    have hzl:z≤200:=by omega
    have HS2:=hid hs2;clear hc hct hs1 hs2 he
    by_cases hlt:s.size<a+8*T+8*z
    · have hd:((s.size:Nat):Int)<(a:Int)+8*(T:Int)+(z:Int)*8:=by omega
      go_wp2;rw[HP.out]
      show if s.size<a+8*zs.sum then _ else _
      rw[if_pos (by have:=HS1.out; have:=HS2.out; omega)];exact ⟨rfl,HB.out⟩
    · have hd:¬((s.size:Nat):Int)<(a:Int)+8*(T:Int)+(z:Int)*8:=by omega
      have hcutE:s.extract (a+8*T) (a+8*T+8*z)=s.extract (a+8*T) (a+8*T+z*8):=by rw[Nat.mul_comm 8 z]
      rw[hcutE] at HCT;clear hcutE
      have g1:(0:Int)≤(a:Int)+8*(T:Int):=by omega
      have hsz1:=HB.out.size
      go_wp2_with (at_builtin; go_must (refine wpList_append_own _ rfl (.tmp 23) (.tmp 30) 28 rfl w.heap.size 9 i0 (.string ByteArray.empty) 1 16 Tryz.underlying28 hi hz0 hz1 hz2 rfl (by decide) _ _ _ rfl (HO.out.alloc _) ⟨wr.heap.size,0,none⟩ 1 1 [.string (s.extract (a+8*T) (a+8*T+z*8))] rfl rfl (cell_one_new _ _ _) (by simp[Value.oneCell']) (by unfold maxLen; omega) (by omega) (by simp <;> omega) ?_); intro v' wn hown' hgrow _)
      have HON:=hid (show wn.ownsRow w.heap.size 9 1 v' (k+1) ((cutB s a (zs.take (k+1))).map Value.string) by rw[HCT.out,List.map_append]; exact hown');have HBN:=hid (z3z HB.out hsz1 HO.out hgrow);clear hgrow hown';go_wp2
      go_roundw
      case rel=>exact ⟨k+1,by omega,by go_num,by rw[HS1.out]; go_num,by rw[HS1.out]; omega,HON,HBN⟩
      case measure=>simp[intOf]; omega
  · obtain rfl:k=zs.length:=by omega
    go_wp2;rw[HP.out]
    show if s.size<a+8*zs.sum then _ else _
    rw[List.take_length] at hat HO ⊢;rw[if_neg (by omega)];exact ⟨_,by simp,HO.out,HB.out⟩
theorem bsize:(Tryz.prog.info? 119).map (·.size)=some 2:=by kernel_rfl
theorem blies:liesAt Tryz.prog Tryz.prog.depth 119 (2/Tryz.prog.cellsOf 119) 0 119 1=true:=by kernel_rfl
theorem ztd:(Tryz.prog.info? 5).map (fun i=>(i.zero,i.size,i.bytes))=some (some (.int .u8 0),1,1):=by kernel_rfl
theorem zaj (b:Nat)(w:World)(h0:w.cell? ⟨b,0,none⟩=some (.pointer (some ⟨b,0,none⟩))) :
 Calls Tryz.prog 121 #[.pointer (some ⟨b,0,none⟩)] w fun e w'=>e= .returned (.tuple #[])∧w'=w:=by
 obtain ⟨j,hj,_⟩:=Option.map_eq_some_iff.1 bsize;have hne:=Lib.run_neq_ptr_same (P:=Tryz.prog) w (tp:=117) (te:=119) ⟨b,0,none⟩ Tryz.underlying117 hj;go_enter Tryz.func121,Tryz.ntmps121;go_wp2
 go_end0
 exact ⟨rfl,rfl⟩
theorem z9d (b:Nat)(w:World)(h0:w.cell? ⟨b,0,none⟩=some (.pointer none))(hsh:w.shape? b=some (119,2))(hfz:w.frozen? ⟨b,0,none⟩=false) :
 Calls Tryz.prog 121 #[.pointer (some ⟨b,0,none⟩)] w fun e w'=>e= .returned (.tuple #[])∧w'=w.setCell ⟨b,0,none⟩ (.pointer (some ⟨b,0,none⟩)):=by
 obtain ⟨j,hj,hjs⟩:=Option.map_eq_some_iff.1 bsize;have hto:=Lib.run_to_unsafe (P:=Tryz.prog) w (src:=117) (dst:=134) (t:=119) ⟨b,0,none⟩ Tryz.underlying117 Tryz.underlying134 hj (by rw[hjs]; decide) hsh (Nat.zero_lt_succ 1);have hfrom:=Lib.run_from_unsafe (P:=Tryz.prog) w (src:=134) (dst:=117) (u:=119) ⟨b,0,none⟩ Tryz.underlying134 Tryz.underlying117 hj hsh blies
 have hesc:(callFunc 161 #[.pointer (some ⟨b,0,none⟩)]).run Tryz.prog w= .ok (.value (.pointer (some ⟨b,0,none⟩))) w:=by
  rw[run_callFunc_extern Tryz.func161 (by kernel_rfl) (by kernel_rfl) (by kernel_rfl) (e:=Extern.AbiNoEscape.same) (by kernel_rfl),Lib.run_noEscape]
  rfl
 go_enter Tryz.func121,Tryz.ntmps121;go_wp2
 go_end0
 exact ⟨rfl,rfl⟩
def Bld (B b:Nat)(bs:List Value)(w:World):Prop :=
 ∃p v,(p= .pointer none∨p= .pointer (some ⟨b,0,none⟩))∧w.heap[b]? =some (.cells #[p,v] 119 (0,0))∧w.ownsRow B 5 1 v bs.length bs
theorem Bld.fresh {w:World}{b:Nat}(B:Nat)(h:w.heap[b]? =some (.cells #[.pointer none,.slice none 0 0] 119 (0,0))):Bld B b [] w :=
 ⟨_,_,.inl rfl,h,World.ownsRow_nil _ _ _ _⟩
theorem Bld.is {B b B':Nat}{bs:List Value}{w:World}(h:Bld B b bs w)(h1:B'≤B)(h2:B'≤b):Lib.IsBuilder 119 5 B' b bs w:=by
 obtain ⟨p,v,hp,hb,hown⟩:=h;have hne:=Lib.ownBlock_ne hown hb (by decide)
 have hown':w.ownsRow B' 5 1 v bs.length bs:=⟨hown.1,hown.2.imp (fun x=>x) (fun ⟨g,cap,cur,hv,hg,r⟩=>⟨g,cap,cur,hv,Nat.le_trans h1 hg,r⟩)⟩
 rcases hp with rfl | rfl
 · exact .inl ⟨h2,v,hb,hown',hne⟩
 · exact .inr ⟨h2,v,hb,hown',hne⟩
theorem zpm {w:World}{b:Nat}{p v q:Value}{T:TypeId}(h:w.heap[b]? =some (.cells #[p,v] T (0,0))):(w.setCell ⟨b,0,none⟩ q).heap[b]? =some (.cells #[q,v] T (0,0)):=by
 simp[World.setCell,Array.getElem?_modify,h]
theorem zeg (w:World)(b i:Nat)(u:Value):w.grownBy (w.setCell ⟨b,i,none⟩ u) (some b) :=
 ⟨rfl,rfl,rfl,by simp[World.setCell],fun k _ hk=>Below.heap_setCell w ⟨b,i,none⟩ u k (fun e=>hk (by rw[e]))⟩
def Self (B b:Nat)(v:Value)(bs:List Value)(w0 w:World):Prop :=
 w.heap[b]? =some (.cells #[.pointer (some ⟨b,0,none⟩),v] 119 (0,0))∧w.ownsRow B 5 1 v bs.length bs∧Keeps B b w0 w∧w.heap.size=w0.heap.size
theorem zcz (B b:Nat)(bs:List Value)(w:World)(h:Bld B b bs w) :
 ∃v,Calls Tryz.prog 121 #[.pointer (some ⟨b,0,none⟩)] w fun e w'=>e= .returned (.tuple #[])∧Self B b v bs w w':=by
 obtain ⟨p,v,hp,hb,hown⟩:=h;have hne:=Lib.ownBlock_ne hown hb (by decide);obtain ⟨c0,_⟩:=z04 hb
 rcases hp with rfl | rfl
 · refine ⟨v,(z9d b w c0 (by simp[World.shape?,hb]) (Lib.frozen_of_heap hb 0)).mono ?_⟩
   rintro e w' ⟨rfl,rfl⟩;exact ⟨rfl,zpm hb,hown.kept (zeg w b 0 _) (.inr hne),z0o B b w 0 _,by simp[World.setCell]⟩
 · refine ⟨v,(zaj b w c0).mono ?_⟩
   rintro e w' ⟨rfl,rfl⟩;exact ⟨rfl,hb,hown,Keeps.refl _ _ _,rfl⟩
theorem Self.put {B b:Nat}{bs new:List Value}{v v':Value}{w0 w1 w2:World}(h:Self B b v bs w0 w1){wx:World}(hx:Keeps w1.heap.size w1.heap.size w1 wx)(hg:wx.grownBy w2 v.ownBlock)(hown:w2.ownsRow B 5 1 v' (bs++new).length (bs++new)) :
 w2.heap[b]? =some (.cells #[.pointer (some ⟨b,0,none⟩),v] 119 (0,0))∧Bld B b (bs++new) (w2.setCell ⟨b,1,none⟩ v')∧(B≤w1.heap.size→Keeps B b w0 (w2.setCell ⟨b,1,none⟩ v')):=by
 obtain ⟨hb,ho,hk,_⟩:=h;have hne:=Lib.ownBlock_ne ho hb (by decide)
 have hlt:b<w1.heap.size:=by
  rcases Nat.lt_or_ge b w1.heap.size with hlt | hge
  · exact hlt
  · rw[Array.getElem?_eq_none hge] at hb; cases hb
 have h2:w2.heap[b]? =some (.cells #[.pointer (some ⟨b,0,none⟩),v] 119 (0,0)) :=
  (hg.block b (Nat.lt_of_lt_of_le hlt hx.size) (Ne.symm hne)).trans ((hx.block b hlt (by omega)).trans hb)
 have hne2:=Lib.ownBlock_ne hown h2 (by decide);refine ⟨h2,⟨_,_,.inr rfl,z9n h2,hown.kept (zeg w2 b 1 _) (.inr hne2)⟩,fun hB=>hk.trans ?_⟩;refine Keeps.trans (c:=w2) ⟨hg.os.trans hx.os,hg.tape.trans hx.tape,hg.output.trans hx.output,Nat.le_trans hx.size hg.size,fun k hk' hn=>?_⟩ (z0o B b w2 1 _);refine (hg.block k (Nat.lt_of_lt_of_le (Nat.lt_of_lt_of_le hk' hB) hx.size) (fun e=>?_)).trans (hx.block k (by omega) (by omega));have:=(ho.lt k e.symm).1;omega
theorem zmx {w:World}{B e n:Nat}{v:Value}{xs:List Value}(h:w.ownsRow B e 1 v n xs):∃A cap,v= .slice A n cap:=by
 rcases h.2 with ⟨rfl,rfl⟩ | ⟨g,cap,_,rfl,_⟩
 · exact ⟨none,0,rfl⟩
 · exact ⟨_,cap,rfl⟩
theorem z9h {B b:Nat}{bs:List Value}{w w':World}(h:Bld B b bs w)(hb:Below w.heap.size w w'):Bld B b bs w':=by
 obtain ⟨p,v,hp,hr,hown⟩:=h;exact ⟨p,v,hp,(hb.block b (z00 hr)).trans hr,hown.kept (row:=none) ⟨hb.os,hb.tape,hb.output,hb.size,fun k hk _=>hb.block k hk⟩ (Classical.em _)⟩
theorem z1k (B b:Nat)(bs:List Value)(s:ByteArray)(w:World)(h:Bld B b bs w)(hlen:bs.length≤1099511627776)(hs:s.size≤1099511627776)(hBw:B≤w.heap.size) :
 Calls Tryz.prog 75 #[.pointer (some ⟨b,0,none⟩),.string s] w fun e w'=>e= .returned (.tuple #[.int .i64 s.size,.nilIface])∧(Bld B b (bs++Lib.strCells s) w'∧Keeps B b w w'):=by
 obtain ⟨i0,hi,hz0,hz1,hz2⟩:=info_parts ztd;obtain ⟨v,hcc⟩:=zcz B b bs w h;have HC:=hid hcc;clear hcc h;have hsl:=Lib.strCells_length s;have HSL:=hid hsl;clear hsl;go_enter Tryz.func75,Tryz.ntmps75
 go_wp2_with (first | (go_at_call 121; refine HC.out.mono ?_; rintro e w1 ⟨rfl,hS⟩; have hT:=hid hS; have hsz:=Nat.le_trans hBw (Nat.le_of_eq hS.2.2.2.symm); have c1:=(z04 hS.1).2; clear hS) | (at_builtin; go_must (refine Lib.wpList_append_own_string _ rfl (.tmp 12) (.tmp 13) 22 9 rfl B 5 i0 Tryz.underlying22 Tryz.underlying9 hi hz0 hz1 hz2 v _ _ rfl hT.out.2.1 s rfl (by unfold maxLen; omega) (by omega) hsz ?_); intro v' w2 hown' hgrow _; obtain ⟨h2,hU,hKp⟩:=hT.out.put (new:=Lib.strCells s) (Keeps.refl _ _ _) hgrow (by rw[List.length_append,HSL.out]; exact hown'); have d1:=(z04 h2).2; have f1:=Lib.frozen_of_heap h2 1; obtain ⟨g,cap,rfl⟩:=zmx hown'; clear h2 hgrow))
 go_ret2
 exact ⟨rfl,hU,hKp hsz⟩
theorem zr7 (B b:Nat)(bs:List Value)(w:World)(h:Bld B b bs w) :
 Calls Tryz.prog 93 #[.pointer (some ⟨b,0,none⟩)] w fun e w'=>e= .returned (.int .i64 bs.length)∧w=w':=by
 obtain ⟨p,v,hp,hb,hown⟩:=h;obtain ⟨g,cap,rfl⟩:=zmx hown;obtain ⟨_,c1⟩:=z04 hb;clear hb hown hp;go_enter Tryz.func93,Tryz.ntmps93;go_wp2;go_ret;exact ⟨rfl,rfl⟩
open Go.Shelf Go.RowKit
def zq7:Go.Shelf.Ren:=⟨fun | 169=>76 | n=>n,fun | 70=>117 | 9=>9 | 0=>0 | 72=>119 | 37=>22 | 127=>188 | 3=>3 | 5=>5 | n=>n,fun | n=>n⟩
theorem zr1:Go.Proofs.Lays.n169 Tryz.prog zq7:= {
 mixed:=by kernel_rfl
 f169:=Tryz.func76.trans (congrArg some (by kernel_rfl))
 t0:=Tryz.underlying0,a0:=Tryz.isAgg0,z0:=Tryz.sizeOf0,v0:=Tryz.zeroValue0
 t3:=Tryz.underlying3,a3:=Tryz.isAgg3,z3:=Tryz.sizeOf3,v3:=Tryz.zeroValue3
 t9:=Tryz.underlying9,a9:=Tryz.isAgg9,z9:=Tryz.sizeOf9,v9:=Tryz.zeroValue9
 t37:=Tryz.underlying22,a37:=Tryz.isAgg22,z37:=Tryz.sizeOf22,v37:=Tryz.zeroValue22
 t70:=Tryz.underlying117,a70:=Tryz.isAgg117,z70:=Tryz.sizeOf117,v70:=Tryz.zeroValue117
 t72:=Tryz.underlying119,a72:=Tryz.isAgg119,z72:=Tryz.sizeOf119,v72:=Tryz.zeroValue119
 t127:=Tryz.underlying188,a127:=Tryz.isAgg188,z127:=Tryz.sizeOf188,v127:=Tryz.zeroValue188 }
theorem zp4:Builder.Extra Tryz.prog zq7:= {
 sizeBuilder:=by kernel_rfl
 liesBuilder:=by kernel_rfl
 t5:=Tryz.underlying5,a5:=Tryz.isAgg5,z5:=Tryz.sizeOf5,v5:=Tryz.zeroValue5
 infoByte:=by kernel_rfl
 cellsByte:=by kernel_rfl
 sizeByte:=by kernel_rfl
 neB5:=by decide }
theorem z7p (B b:Nat)(l:List UInt8)(w:World)(h:Lib.IsBuilder 119 5 B b (Lib.byteCells l) w)(hBw:B≤w.heap.size) :
 Calls Tryz.prog 76 #[.pointer (some ⟨b,0,none⟩)] w fun e w'=>e= .returned (.string ⟨l.toArray⟩)∧Below B w w':=Any.Builder_String_any zr1 zp4 B b l w h hBw
end Go.Proofs.YtlbfffokkhccaaaGreatDoor
namespace Go.Proofs.YtlbfffokkhccaaaGreatDoor
open Go.RowKit
theorem sz4 (n:Int):(⟨(leB n 4).toArray⟩:ByteArray).size=4:=by rw[show (⟨(leB n 4).toArray⟩:ByteArray).size=(leB n 4).length by simp[ByteArray.size],z07]
theorem zol (n:Int):(leB n 8).take 4=leB n 4:=by
 have h:=zca n 4 4;rw[show (4+4:Nat)=8 from rfl] at h;rw[h,List.take_append_of_le_length (by rw[z07]; omega),List.take_of_length_le (by rw[z07]; omega)]
theorem z4o (n:Int)(w:World)(h0:0≤n)(h1:n≤1099511627776) :
 Calls Tryz.prog 92 #[.int .i64 n] w fun e w'=>e= .returned (.string ⟨(leB n 4).toArray⟩)∧Below w.heap.size w w':=by
 have e1:IntKind.u64.wrap n=n:=by rw[IntKind.wrap_u64]; omega
 have hcut:(⟨(leB n 8).toArray⟩:ByteArray).extract 0 4=⟨(leB n 4).toArray⟩:=by
  apply z63; rw[Lib.extract_data]; simp[zol]
 have hsz:(⟨(leB n 8).toArray⟩:ByteArray).size=8:=by simp[ByteArray.size,z07]
 have HC:=hid hcut;clear hcut;go_enter Tryz.func92,Tryz.ntmps92
 go_wp2_with fail
 refine (z5v n _ h0 (by omega)).mono ?_;rintro e w1 ⟨rfl,hb1⟩
 go_wp2_with fail
 refine (zd8 (leB n 8) _ (z07 n 8)).mono ?_;rintro e w2 ⟨rfl,hb2⟩;generalize (⟨(leB n 8).toArray⟩:ByteArray)=u at HC hsz ⊢
 have g1:(4:Int)≤(u.size:Int):=by omega
 have HS:=hid hsz;have hc:=HC.out;clear hsz;go_wp2;go_ret;exact ⟨rfl,hb1.trans (hb2.mono hb1.size)⟩
def numsL (ss:List ByteArray):List UInt8:=ss.flatMap fun s=>leB ((s.size/8:Nat):Int) 4
def bodyL (ss:List ByteArray):List UInt8:=ss.flatMap fun s=>s.data.toList
def fillL (n:Nat):List UInt8:=if n%2=0 then leB 0 4 else []
def z11 (ss:List ByteArray):List UInt8:=if frOk ss=true then leB ((ss.length:Int)-1) 4++numsL ss++fillL ss.length++bodyL ss else []
theorem zau (ss:List ByteArray)(k:Nat)(h:k<ss.length):numsL (ss.take (k+1))=numsL (ss.take k)++leB (((ss[k]).size/8:Nat):Int) 4:=by
 rw[List.take_succ_eq_append_getElem h,numsL,numsL,List.flatMap_append,List.flatMap_cons,List.flatMap_nil,List.append_nil]
theorem z5x (ss:List ByteArray)(k:Nat)(h:k<ss.length):bodyL (ss.take (k+1))=bodyL (ss.take k)++(ss[k]).data.toList:=by
 rw[List.take_succ_eq_append_getElem h,bodyL,bodyL,List.flatMap_append,List.flatMap_cons,List.flatMap_nil,List.append_nil]
theorem z14:∀ss:List ByteArray,(numsL ss).length=4*ss.length
 | []=>rfl
 | s :: r=>by rw[numsL,List.flatMap_cons,List.length_append,z07,← numsL,z14 r,List.length_cons]; omega
theorem z1s:∀ss:List ByteArray,(bodyL ss).length=tot ss
 | []=>rfl
 | s :: r=>by rw[bodyL,List.flatMap_cons,List.length_append,← bodyL,z1s r]; simp[tot]
theorem z40 (n:Nat):(fillL n).length≤4:=by unfold fillL; split <;> simp[z07]
theorem z73 (n:Nat)(w:World)(h:n≤1000) :
 Calls Tryz.prog 94 #[.int .i64 n] w fun e w'=>e= .returned (.int .i64 (((n/2+1)*8:Nat):Int))∧w=w':=by
 go_enter Tryz.func94,Tryz.ntmps94;go_wp2;go_ret;exact ⟨z2r (by omega),rfl⟩
theorem z5m {ss:List ByteArray}(h:frOk ss=true):(1≤ss.length∧ss.length≤6)∧tot ss≤1600:=by
 simp only[frOk,Bool.and_eq_true,decide_eq_true_eq] at h
 exact ⟨h.1,h.2.2⟩
theorem z97 (s:ByteArray):Lib.strCells s=Lib.byteCells s.data.toList:=rfl
theorem z6y (a b:List UInt8):Lib.byteCells a++Lib.byteCells b=Lib.byteCells (a++b):=by simp[Lib.byteCells]
theorem zcr (l:List UInt8):Lib.strCells ⟨l.toArray⟩=Lib.byteCells l:=by simp[Lib.strCells,Lib.byteCells]
theorem z6a (ss:List ByteArray)(k:Nat)(h:k<ss.length):(ss[k]).size≤tot ss:=by
 have h1:=z8e ss k h;have h2:=z1y ss (k+1);omega
theorem z85 (A:Option Addr)(cap:Nat)(ss:List ByteArray)(w:World)(h:Strs w A ss)(hok:frOk ss=true) :
 Calls Tryz.prog 49 #[.slice A ss.length cap] w fun e w'=>e= .returned (.string ⟨(z11 ss).toArray⟩)∧Below w.heap.size w w':=by
 obtain ⟨⟨hn1,hn6⟩,htot⟩:=z5m hok
 have HFO:Hid (∀w:World,Strs w A ss→Calls Tryz.prog 17 #[.slice A ss.length cap] w fun e w'=>e= .returned (.bool true)∧w=w'):=hid (fun w h=>by
  have:=z3p A cap ss w h (by omega)
  rw[hok] at this; exact this)
 have hfin:z11 ss=leB ((ss.length:Int)-1) 4++numsL ss++fillL ss.length++bodyL ss:=by rw[z11,if_pos hok]
 have HF:=hid hfin;obtain ⟨a,rfl,hlt,hcells⟩:=h.2.resolve_left (by intro h0; rw[h0] at hn1; simp at hn1);have HCells:=hid hcells;have H:=hid h;clear hfin hok h hcells;go_enter Tryz.func49,Tryz.ntmps49
 go_wp2_with fail
 refine (HFO.out _ H.out).mono ?_;rintro e w' ⟨rfl,rfl⟩
 go_wp2_with fail
 refine (z4o _ _ (by omega) (by omega)).mono ?_;rintro e w1 ⟨rfl,hb1⟩
 have HB0:Hid (Bld (w.heap.size+1) w.heap.size [] w1∧Below w.heap.size w w1∧w.heap.size+1≤w1.heap.size):=by
  refine ⟨Bld.fresh _ ((hb1.block _ (by simp)).trans (heap_alloc_new w _)),((Below.refl _ w).alloc (Nat.le_refl _) _).trans (hb1.mono (by simp)),?_⟩;have:=hb1.size
  simpa using this
 clear hb1
 go_wp2_with fail
 refine (z1k _ _ _ _ _ HB0.out.1 (by simp) (by rw[sz4]; omega) HB0.out.2.2).mono ?_;rintro e w2 ⟨rfl,h2,k2⟩
 have HB:Hid (Bld (w.heap.size+1) w.heap.size (Lib.byteCells (leB ((ss.length:Int)-1) 4)) w2∧Below w.heap.size w w2∧w.heap.size+1≤w2.heap.size):=by
  refine ⟨?_,HB0.out.2.1.trans (k2.below (by omega) (Nat.le_refl _)),Nat.le_trans HB0.out.2.2 k2.size⟩;rw[zcr] at h2;exact h2
 clear h2 k2 HB0
 go_wp2_with fail
 go_loopw [5,18] (fun _ i wr=>∃k:Nat,k≤ss.length∧i= .int .i64 k∧Hid (Bld (w.heap.size+1) w.heap.size (Lib.byteCells (leB ((ss.length:Int)-1) 4++numsL (ss.take k))) wr∧Below w.heap.size w wr∧w.heap.size+1≤wr.heap.size)) (fun _ i _=>ss.length-(intOf i).toNat)
 case atStart=>exact ⟨0,by omega,rfl,by simpa [numsL] using HB.out.1,HB.out.2⟩
 case round =>
  obtain ⟨k,hk,rfl,HR⟩:=hrel
  by_cases hk1:k<ss.length
  · have hc:=(HR.out.2.1.cell (p:=a.add k) (by rw[z3r]; exact hlt)).trans (HCells.out k hk1)
    have hsz:=z6a ss k hk1;have hnt:=zau ss k hk1;have HNT:=hid hnt
    obtain ⟨s,hs⟩:∃s,ss[k]=s:=⟨_,rfl⟩
    rw[hs] at hc hsz;have HS:=hid hs
    have hnl:(numsL (ss.take k)).length≤4*ss.length:=by rw[z14,List.length_take]; omega
    clear hnt hs
    go_wp2_with fail
    refine (z4o _ _ (by omega) (by omega)).mono ?_;rintro e w3 ⟨rfl,hb3⟩;have hBld3:Bld (w.heap.size+1) w.heap.size (Lib.byteCells (leB ((ss.length:Int)-1) 4++numsL (ss.take k))) w3:=z9h HR.out.1 hb3;have HB3:=hid hBld3;have HB4:=hid (HR.out.2.1.trans (hb3.mono (by have:=HR.out.2.2; omega)));have HB5:=hid (Nat.le_trans HR.out.2.2 hb3.size);clear hBld3 hb3
    go_wp2_with fail
    refine (z1k _ _ _ _ _ HB3.out (by rw[Lib.byteCells_length,List.length_append,z07]; omega) (by rw[sz4]; omega) HB5.out).mono ?_;rintro e w4 ⟨rfl,h4,k4⟩
    have HN:Hid (Bld (w.heap.size+1) w.heap.size (Lib.byteCells (leB ((ss.length:Int)-1) 4++numsL (ss.take (k+1)))) w4∧Below w.heap.size w w4∧w.heap.size+1≤w4.heap.size):=by
     refine ⟨?_,HB4.out.trans (k4.below (by omega) (Nat.le_refl _)),Nat.le_trans HB5.out k4.size⟩;rw[zcr,z6y] at h4;rw[HNT.out,← List.append_assoc,HS.out];exact h4
    clear h4 k4;go_wp2
    go_roundw
    case rel=>exact ⟨k+1,by omega,by go_num,HN⟩
    case measure=>simp[intOf]; omega
  · obtain rfl:k=ss.length:=by omega
    clear hk1 hk HB
    have hlen:(Lib.byteCells (leB ((ss.length:Int)-1) 4++numsL (ss.take ss.length))).length=4+4*ss.length:=by
     rw[Lib.byteCells_length,List.length_append,z07,z14,List.take_length]
    have HLen:=hid hlen;clear hlen
    go_wp2_with fail
    refine (zr7 _ _ _ _ HR.out.1).mono ?_;rintro e w' ⟨rfl,rfl⟩;rw[HLen.out]
    go_wp2_with fail
    refine (z73 ss.length _ (by omega)).mono ?_;rintro e w' ⟨rfl,rfl⟩
    by_cases hp:ss.length%2=0
    · have hlt1:((4+4*ss.length:Nat):Int)<(((ss.length/2+1)*8:Nat):Int):=by omega
      have hlt2:decide (4+4*ss.length<(ss.length/2+1)*8)=true:=by simp; omega
      go_wp2_with fail
      refine (z4o _ _ (by omega) (by omega)).mono ?_;rintro e w3 ⟨rfl,hb3⟩;have hBld3:=z9h HR.out.1 hb3;have HB3:=hid hBld3;have HB4:=hid (HR.out.2.1.trans (hb3.mono (by have:=HR.out.2.2; omega)));have HB5:=hid (Nat.le_trans HR.out.2.2 hb3.size);clear hBld3 hb3
      go_wp2_with fail
      refine (z1k _ _ _ _ _ HB3.out (by rw[HLen.out]; omega) (by rw[sz4]; omega) HB5.out).mono ?_;rintro e w4 ⟨rfl,h4,k4⟩
      have HM:Hid (Bld (w.heap.size+1) w.heap.size (Lib.byteCells (leB ((ss.length:Int)-1) 4++numsL ss++fillL ss.length)) w4∧Below w.heap.size w w4∧w.heap.size+1≤w4.heap.size):=by
       refine ⟨?_,HB4.out.trans (k4.below (by omega) (Nat.le_refl _)),Nat.le_trans HB5.out k4.size⟩;rw[zcr,z6y,List.take_length] at h4;rw[fillL,if_pos hp];exact h4
      clear h4 k4 hlt1 hlt2
      go_wp2_with fail
      go_loopw [7,37] (fun _ i wr=>∃k:Nat,k≤ss.length∧i= .int .i64 k∧Hid (Bld (w.heap.size+1) w.heap.size (Lib.byteCells (leB ((ss.length:Int)-1) 4++numsL ss++fillL ss.length++bodyL (ss.take k))) wr∧Below w.heap.size w wr∧w.heap.size+1≤wr.heap.size)) (fun _ i _=>ss.length-(intOf i).toNat)
      case atStart=>exact ⟨0,by omega,rfl,by simpa [bodyL] using HM.out.1,HM.out.2⟩
      case round =>
       obtain ⟨k,hk,rfl,HR⟩:=hrel
       by_cases hk1:k<ss.length
       · have hc:=(HR.out.2.1.cell (p:=a.add k) (by rw[z3r]; exact hlt)).trans (HCells.out k hk1)
         have hsz:=z6a ss k hk1;have hbt:=z5x ss k hk1;have HBT:=hid hbt
         obtain ⟨s,hs⟩:∃s,ss[k]=s:=⟨_,rfl⟩
         rw[hs] at hc hsz;have HS:=hid hs
         have hbl:(bodyL (ss.take k)).length≤1600:=by rw[z1s]; have:=z1y ss k; omega
         have hnl:=z14 ss;have hfl:=z40 ss.length
         have hlen:(Lib.byteCells (leB ((ss.length:Int)-1) 4++numsL ss++fillL ss.length++bodyL (ss.take k))).length≤1099511627776:=by
          rw[Lib.byteCells_length,List.length_append,List.length_append,List.length_append,z07]; omega
         clear hbt hs hbl hnl hfl
         go_wp2_with fail
         refine (z1k _ _ _ _ _ HR.out.1 hlen (by omega) HR.out.2.2).mono ?_;rintro e w4 ⟨rfl,h4,k4⟩
         have HN:Hid (Bld (w.heap.size+1) w.heap.size (Lib.byteCells (leB ((ss.length:Int)-1) 4++numsL ss++fillL ss.length++bodyL (ss.take (k+1)))) w4∧Below w.heap.size w w4∧w.heap.size+1≤w4.heap.size):=by
          refine ⟨?_,HR.out.2.1.trans (k4.below (by omega) (Nat.le_refl _)),Nat.le_trans HR.out.2.2 k4.size⟩;rw[z97,z6y] at h4;rw[HBT.out,← List.append_assoc,HS.out];exact h4
         clear h4 k4 hlen;go_wp2
         go_roundw
         case rel=>exact ⟨k+1,by omega,by go_num,HN⟩
         case measure=>simp[intOf]; omega
       · obtain rfl:k=ss.length:=by omega
         have hbd:Bld (w.heap.size+1) w.heap.size (Lib.byteCells (z11 ss)) wr:=by
          rw[HF.out];have:=HR.out.1
          rwa [List.take_length] at this
         have HBD:=hid hbd;clear hbd
         go_wp2_with fail
         refine (z7p w.heap.size w.heap.size (z11 ss) wr (HBD.out.is (by omega) (Nat.le_refl _)) (by have:=HR.out.2.2; omega)).mono ?_;rintro e w5 ⟨rfl,b5⟩;have B5:=hid (HR.out.2.1.trans b5);clear b5;go_wp2;go_ret;exact ⟨rfl,B5.out⟩
    · have hlt1:¬((4+4*ss.length:Nat):Int)<(((ss.length/2+1)*8:Nat):Int):=by omega
      have hlt2:decide (4+4*ss.length<(ss.length/2+1)*8)=false:=by simp; omega
      have HM:Hid (Bld (w.heap.size+1) w.heap.size (Lib.byteCells (leB ((ss.length:Int)-1) 4++numsL ss++fillL ss.length)) wr∧Below w.heap.size w wr∧w.heap.size+1≤wr.heap.size):=by
       refine ⟨?_,HR.out.2⟩;have h4:=HR.out.1;rw[List.take_length] at h4;rw[fillL,if_neg hp,List.append_nil];exact h4
      go_wp2_with fail
      go_loopw [7,37] (fun _ i wr=>∃k:Nat,k≤ss.length∧i= .int .i64 k∧Hid (Bld (w.heap.size+1) w.heap.size (Lib.byteCells (leB ((ss.length:Int)-1) 4++numsL ss++fillL ss.length++bodyL (ss.take k))) wr∧Below w.heap.size w wr∧w.heap.size+1≤wr.heap.size)) (fun _ i _=>ss.length-(intOf i).toNat)
      case atStart=>exact ⟨0,by omega,rfl,by simpa [bodyL] using HM.out.1,HM.out.2⟩
      case round =>
       obtain ⟨k,hk,rfl,HR⟩:=hrel
       by_cases hk1:k<ss.length
       · have hc:=(HR.out.2.1.cell (p:=a.add k) (by rw[z3r]; exact hlt)).trans (HCells.out k hk1)
         have hsz:=z6a ss k hk1;have hbt:=z5x ss k hk1;have HBT:=hid hbt
         obtain ⟨s,hs⟩:∃s,ss[k]=s:=⟨_,rfl⟩
         rw[hs] at hc hsz;have HS:=hid hs
         have hbl:(bodyL (ss.take k)).length≤1600:=by rw[z1s]; have:=z1y ss k; omega
         have hnl:=z14 ss;have hfl:=z40 ss.length
         have hlen:(Lib.byteCells (leB ((ss.length:Int)-1) 4++numsL ss++fillL ss.length++bodyL (ss.take k))).length≤1099511627776:=by
          rw[Lib.byteCells_length,List.length_append,List.length_append,List.length_append,z07]; omega
         clear hbt hs hbl hnl hfl
         go_wp2_with fail
         refine (z1k _ _ _ _ _ HR.out.1 hlen (by omega) HR.out.2.2).mono ?_;rintro e w4 ⟨rfl,h4,k4⟩
         have HN:Hid (Bld (w.heap.size+1) w.heap.size (Lib.byteCells (leB ((ss.length:Int)-1) 4++numsL ss++fillL ss.length++bodyL (ss.take (k+1)))) w4∧Below w.heap.size w w4∧w.heap.size+1≤w4.heap.size):=by
          refine ⟨?_,HR.out.2.1.trans (k4.below (by omega) (Nat.le_refl _)),Nat.le_trans HR.out.2.2 k4.size⟩;rw[z97,z6y] at h4;rw[HBT.out,← List.append_assoc,HS.out];exact h4
         clear h4 k4 hlen;go_wp2
         go_roundw
         case rel=>exact ⟨k+1,by omega,by go_num,HN⟩
         case measure=>simp[intOf]; omega
       · obtain rfl:k=ss.length:=by omega
         have hbd:Bld (w.heap.size+1) w.heap.size (Lib.byteCells (z11 ss)) wr:=by
          rw[HF.out];have:=HR.out.1
          rwa [List.take_length] at this
         have HBD:=hid hbd;clear hbd
         go_wp2_with fail
         refine (z7p w.heap.size w.heap.size (z11 ss) wr (HBD.out.is (by omega) (Nat.le_refl _)) (by have:=HR.out.2.2; omega)).mono ?_;rintro e w5 ⟨rfl,b5⟩;have B5:=hid (HR.out.2.1.trans b5);clear b5;go_wp2;go_ret;exact ⟨rfl,B5.out⟩
def FG (s:ByteArray)(w:World)(e:Ending)(w':World):Prop :=
 ∃v,e= .returned (.tuple #[v,.int .i64 (fg s).1])∧w'.ownsRow w.heap.size 9 1 v (fg s).2.length ((fg s).2.map Value.string)∧Below w.heap.size w w'
theorem FG.none {s:ByteArray}{w w':World}{c:Int}(h:fg s=(c,[]))(hb:Below w.heap.size w w'):FG s w (.returned (.tuple #[.slice none 0 0,.int .i64 c])) w' :=
 ⟨_,by rw[h],by rw[h]; exact World.ownsRow_nil _ _ _ _,hb⟩
theorem z84 (s:ByteArray)(w:World)(hs:s.size≤1099511627776) :
 Calls Tryz.prog 55 #[.string s] w (FG s w):=by
 have hpost:∃P:Ending→World→Prop,P=FG s w:=⟨_,rfl⟩
 obtain ⟨P,hP⟩:=hpost;rw[← hP];have HP:=hid hP;clear hP
 by_cases h4:s.size<4
 · have h4':((s.size:Nat):Int)<4:=by omega
   have hf:=fg0 h4;have HF:=hid hf;clear hf;go_enter Tryz.func55,Tryz.ntmps55;go_wp2;rw[HP.out];exact FG.none HF.out (Below.refl _ _)
 have h4:4≤s.size:=by omega
 have h4':¬((s.size:Nat):Int)<4:=by omega
 have hg:=gN_lt s.data.toList 0
 obtain ⟨n,hn⟩:∃n,gN s.data.toList 0+1=n:=⟨_,rfl⟩
 have hG:((gN s.data.toList 0:Nat):Int)+1=(n:Int):=by omega
 have hn1:1≤n:=by omega
 have HN:=hid hn;have HGN:=hid hG
 have hGN:Hid (∀w:World,Calls Tryz.prog 104 #[.string s,.int .i64 0] w fun e w'=>e= .returned (.int .i64 ((n:Int)-1))∧Below w.heap.size w w'):=hid (fun w=>by
  have:=z6u s 0 w (by unfold maxLen; omega) (by omega);rw[show ((gN s.data.toList 0:Nat):Int)=(n:Int)-1 by omega] at this
  exact this)
 have hnl:n≤4294967296:=by omega
 clear hg hn hG;go_enter Tryz.func55,Tryz.ntmps55
 go_wp2_with fail
 refine (hGN.out _).mono ?_;rintro e w1 ⟨rfl,hb1⟩;have HB1:=hid hb1;clear hb1
 by_cases h6:6<n
 · have h6':(6:Int)<(n:Int)-1+1:=by omega
   go_wp2;rw[HP.out];exact FG.none (fg1 HN.out h4 h6) HB1.out
 have h6':¬(6:Int)<(n:Int)-1+1:=by omega
 have h6:n≤6:=by omega
 have he:(n:Int)-1+1=n:=by omega
 have HE:=hid he;clear he
 go_wp2_with fail
 refine (z73 n _ (by omega)).mono ?_;rintro e w' ⟨rfl,rfl⟩
 obtain ⟨hd,hhd⟩:∃hd,z1a n=hd:=⟨_,rfl⟩
 have hhd2:(n/2+1)*8=hd:=hhd;rw[hhd2]
 have hdl:hd≤32∧8≤hd:=by omega
 obtain ⟨hdl,hd8⟩:=hdl;have HHD:=hid hhd;clear hhd hhd2
 by_cases hsh:s.size<hd
 · have h7:((s.size:Nat):Int)<(hd:Int):=by omega
   go_wp2;rw[HP.out];exact FG.none (fg2 HN.out h4 h6 (by rw[HHD.out]; exact hsh)) HB1.out
 have hsh:hd≤s.size:=by omega
 have h7:¬((s.size:Nat):Int)<(hd:Int):=by omega
 have hxs:(s.extract 0 hd).size=z1a n:=by rw[HHD.out]; simp; omega
 have hxl:(s.extract 0 hd).data.toList=s.data.toList.take hd:=by rw[Lib.extract_data]; simp
 have HFS:Hid (∀w:World,Calls Tryz.prog 105 #[.string (s.extract 0 hd),.int .i64 n] w (FSz (s.extract 0 hd) n w)):=hid (fun w=>zaq _ n w hn1 h6 hxs)
 have hsz:szs (s.extract 0 hd).data.toList n=szs s.data.toList n:=by
  refine zlb n (fun j hj=>?_);rw[hxl,List.getElem?_take_of_lt (by have:=HHD.out; unfold z1a at this; omega)]
 have hfz:fgZ (s.extract 0 hd).data.toList n=fgZ s.data.toList n:=by
  rw[fgZ,fgZ,hxl,HHD.out,List.take_take,Nat.min_self]
 have HSZ:=hid hsz;have HFZ:=hid hfz;clear hxs hxl hsz hfz
 go_wp2_with fail
 refine (HFS.out _).mono ?_;rintro e w2 ⟨v,rfl,hown,hb2⟩;rw[HSZ.out,HFZ.out];rw[HSZ.out] at hown;have HB2:=hid (HB1.out.trans (hb2.mono HB1.out.size));obtain ⟨A,cp,rfl⟩:=z9x hown;have HON:=hid (Ones.own hown);clear hown hb2
 by_cases hbad:fgZ s.data.toList n=false∨200<(szs s.data.toList n).sum
 · have hb:(fgZ s.data.toList n&&decide ((szs s.data.toList n).sum≤200))=false:=by
    rcases hbad with h | h
    · rw[h]; rfl
    · rw[decide_eq_false (by omega)]; simp
   rw[hb];clear hb;have HBAD:=hid hbad;clear hbad;go_wp2;rw[HP.out];exact FG.none (fg3 HN.out h4 h6 (by rw[HHD.out]; exact hsh) HBAD.out) HB2.out
 have hz1:fgZ s.data.toList n=true:=by
  cases h:fgZ s.data.toList n
  · exact absurd (.inl h) hbad
  · rfl
 have hz2:(szs s.data.toList n).sum≤200:=by omega
 rw[hz1,decide_eq_true hz2];have HZ1:=hid hz1;have HZ2:=hid hz2;have hzl:=z5o s.data.toList n
 have HCS:Hid (∀w:World,Ones w A (z39 (szs s.data.toList n))→Calls Tryz.prog 106 #[.string s,.int .i64 hd,.slice A n cp] w (fun e w'=>if s.size<hd+8*(szs s.data.toList n).sum then CutNo w e w' else zlk s hd (szs s.data.toList n) w e w')):=hid (fun w h=>by
  have:=z9p s hd A cp (szs s.data.toList n) w hs hsh (by omega) hz2 h;rw[hzl] at this
  exact this)
 have HZL:=hid hzl;clear hbad hz1 hz2 hzl
 go_wp2_with fail
 refine (HCS.out _ HON.out).mono ?_
 intro e w3 h3
 by_cases hlt:s.size<hd+8*(szs s.data.toList n).sum
 · rw[if_pos hlt] at h3
   obtain ⟨rfl,hb3⟩:=h3;have HL:=hid hlt;have HB3:=hid (HB2.out.trans (hb3.mono HB2.out.size));clear hlt hb3;go_wp2;rw[HP.out];exact FG.none (fg4 HN.out h4 h6 (by rw[HHD.out]; exact hsh) HZ1.out HZ2.out (by rw[HHD.out]; exact HL.out)) HB3.out
 · rw[if_neg hlt] at h3
   obtain ⟨v,rfl,ho3,hb3⟩:=h3;have HO3:=hid ho3;have hf:=fg5 HN.out h4 h6 (by rw[HHD.out]; exact hsh) HZ1.out HZ2.out (by rw[HHD.out]; omega);rw[HHD.out] at hf;have HF:=hid hf;have HB3:=hid (HB2.out.trans (hb3.mono HB2.out.size));have HBW:=hid HB2.out.size;clear hlt hb3 ho3 hf;go_wp2;rw[HP.out];refine ⟨v,by rw[HF.out]; rfl,?_,HB3.out⟩;rw[HF.out]
   show World.ownsRow w3 w.heap.size _ 1 v (cutB s hd (szs s.data.toList n)).length _
   rw[z8s];exact ⟨HO3.out.1,HO3.out.2.imp (fun x=>x) (fun ⟨g,cap,cur,hv,hg,r⟩=>⟨g,cap,cur,hv,Nat.le_trans HBW.out hg,r⟩)⟩
abbrev wrT:TypeId:=124
abbrev stT:TypeId:=9
abbrev strS (s:List UInt8):Value:= .string ⟨s.toArray⟩
def Sb (w:World)(base b size:Nat)(ss:Segs)(bad:Bool)(P:Nat→Prop):Prop :=
 ∃v,w.heap[b]? =some (.cells #[v,.int .i64 size,.bool bad] wrT (0,0))∧w.ownsRow base stT 1 v ss.length (ss.map strS)∧base≤b∧P b∧∀k,v.ownBlock=some k→P k
theorem Sb.low {w w':World}{base b size:Nat}{ss:Segs}{bad:Bool}{P:Nat→Prop}(h:Sb w base b size ss bad P)(hb:Below w.heap.size w w'):Sb w' base b size ss bad P:=by
 obtain ⟨v,h1,h2,h3,h4⟩:=h;exact ⟨v,(hb.block _ (z00 h1)).trans h1,z16 h2 (fun k hk=>hb.block k (h2.lt k hk).2),h3,h4⟩
theorem Sb.weak {w:World}{base b size:Nat}{ss:Segs}{bad:Bool}{P Q:Nat→Prop}(h:Sb w base b size ss bad P)(hQ:∀k,P k→Q k):Sb w base b size ss bad Q:=by
 obtain ⟨v,h1,h2,h3,h4,h5⟩:=h;exact ⟨v,h1,h2,h3,hQ _ h4,fun k hk=>hQ _ (h5 k hk)⟩
theorem Sb.tight {w:World}{base b size:Nat}{ss:Segs}{bad:Bool}{P:Nat→Prop}(h:Sb w base b size ss bad P):Sb w base b size ss bad (fun k=>P k∧base≤k∧k<w.heap.size):=by
 obtain ⟨v,h1,h2,h3,h4,h5⟩:=h;exact ⟨v,h1,h2,h3,⟨h4,h3,z00 h1⟩,fun k hk=>⟨h5 k hk,h2.lt k hk⟩⟩
theorem Sb.base {w:World}{base b size:Nat}{ss:Segs}{bad:Bool}{P:Nat→Prop}(h:Sb w base b size ss bad P):base≤b∧b<w.heap.size:=by
 obtain ⟨v,h1,h2,h3,h4,h5⟩:=h;exact ⟨h3,z00 h1⟩
theorem KP.drew {P:Nat→Prop}{w w':World}(h:KP P w w'):KP P w w'.drew:=⟨h.os,h.tape,h.output,h.size,h.block⟩
theorem Sb.drew {w:World}{base b size:Nat}{ss:Segs}{bad:Bool}{P:Nat→Prop}(h:Sb w base b size ss bad P):Sb w.drew base b size ss bad P:=h.low (Below.refl _ _).drew
theorem zaa {ss:Segs}{i:Nat}(hi:i<ss.length):sgS ss i=ss[i]:=by unfold sgS; rw[List.getElem?_eq_getElem hi]; rfl
theorem Sb.open_ {w:World}{base b size:Nat}{ss:Segs}{bad:Bool}{P:Nat→Prop}(h:Sb w base b size ss bad P)(h1:1≤ss.length):∃r cap,w.heap[b]? =some (.cells #[.slice (some ⟨r,0,none⟩) ss.length cap,.int .i64 size,.bool bad] wrT (0,0))∧(P r∧r<w.heap.size∧r≠b) ∧
 (∀i,i<ss.length→w.cell? ⟨r,i,none⟩=some (strS (sgS ss i))∧w.frozen? ⟨r,i,none⟩=false) ∧
 ∀i s,i<ss.length→Sb (w.setCell ⟨r,i,none⟩ (strS s)) base b size (ss.set i s) bad P:=by
 obtain ⟨v,hb,ho,hl,hP,hv⟩:=h;obtain ⟨r,cap,cur,rfl,e2,e3,e4,e5,e6,e7⟩:=z2o ho h1;have hne:r≠b:=ne_T e3 hb (by decide);refine ⟨r,cap,hb,⟨hv r rfl,z00 e3,hne⟩,fun i hi=>⟨?_,z02 e3 i⟩,fun i s hi=>?_⟩
 · have:=ho.cells (g:=r) rfl i (strS (sgS ss i)) (by rw[List.getElem?_map,List.getElem?_eq_getElem hi,zaa hi]; rfl)
   rwa [z23] at this
 · refine ⟨_,(Below.heap_setCell w ⟨r,i,none⟩ _ b (fun e=>hne e.symm)).trans hb,?_,hl,hP,hv⟩
   have:=ho.stored (g:=r) (cap:=cap) i (strS s);rw[List.length_set,List.map_set];exact this.1
theorem Sb.bad_ {w:World}{base b size:Nat}{ss:Segs}{bad:Bool}{P:Nat→Prop}(h:Sb w base b size ss bad P):Sb (w.setCell ⟨b,2,none⟩ (.bool true)) base b size ss true P:=by
 obtain ⟨v,hb,ho,hl,hP,hv⟩:=h;refine ⟨v,z08 hb 2 _,z16 ho (fun k hk=>Below.heap_setCell w ⟨b,2,none⟩ _ k ?_),hl,hP,hv⟩;obtain ⟨c,hc⟩:=own_T ho hk;exact ne_T hc hb (by decide)
open Go.RowKit Go.Deep
def PutQ (base b size:Nat)(ss:Segs)(i a:Nat)(t:List UInt8)(P:Nat→Prop)(w:World)(e:Ending)(w':World):Prop :=
 e= .returned (.tuple #[])∧KP P w w'∧Sb w' base b size (putS ss i a t) false P
theorem zt9 (s t:List UInt8)(p:Nat)(h:p+t.length≤s.length):((⟨s.toArray⟩:ByteArray).extract 0 p++(⟨t.toArray⟩:ByteArray))++(⟨s.toArray⟩:ByteArray).extract (p+t.length) s.length=⟨(spl s p t).toArray⟩:=by
 apply z63
 rw[ByteArray.data_append,ByteArray.data_append,Array.toList_append,Array.toList_append,Lib.extract_data,Lib.extract_data];unfold spl
 simp
 rw[List.take_of_length_le (by rw[List.length_drop]; exact Nat.le_refl _)]
theorem z3c (base b size:Nat)(ss:Segs)(P:Nat→Prop)(w:World)(h:Sb w base b size ss false P)(i a:Nat)(t:List UInt8)(hi:i<ss.length)(ha:8*a+t.length≤(sgS ss i).length)(hl:(sgS ss i).length≤100000) :
 Calls Tryz.prog 124 #[.pointer (some ⟨b,0,none⟩),.int .i64 (i:Int),.int .i64 (a:Int),.string ⟨t.toArray⟩] w (PutQ base b size ss i a t P w):=by
 obtain ⟨r,cap,hb,⟨hPr,hrl,hrb⟩,hc,hst⟩:=h.open_ (by omega);obtain ⟨c0,c1,c2⟩:=z0k hb;obtain ⟨hci,hfi⟩:=hc i hi;have hfin:=hst i (spl (sgS ss i) (8*a) t) hi;have hba:=zt9 (sgS ss i) t (8*a) ha
 have hts:(⟨t.toArray⟩:ByteArray).size=t.length:=by simp[ByteArray.size]
 have hss:(⟨(sgS ss i).toArray⟩:ByteArray).size=(sgS ss i).length:=by simp[ByteArray.size]
 have hlt:(i:Int)<(ss.length:Int):=by omega
 have HF:=hid hfin;have HPR:=hid hPr
 obtain ⟨s,hs⟩:∃s,sgS ss i=s:=⟨_,rfl⟩
 rw[hs] at hci hfin hba hss ha hl HF;have HS:=hid hs
 obtain ⟨S,hS⟩:∃S:ByteArray,S=⟨s.toArray⟩:=⟨_,rfl⟩
 obtain ⟨T,hT⟩:∃T:ByteArray,T=⟨t.toArray⟩:=⟨_,rfl⟩
 unfold strS at hci;rw[← hS] at hci hss hba;rw[← hT] at hts hba ⊢
 have hx1:(0:Int)≤8*(a:Int):=by omega
 have hx2:8*(a:Int)≤(S.size:Int):=by rw[hss]; omega
 have hx3:(0:Int)≤8*(a:Int)+(T.size:Int):=by omega
 have hx4:8*(a:Int)+(T.size:Int)≤(S.size:Int):=by rw[hss,hts]; omega
 have hN1:(8*(a:Int)).toNat=8*a:=by omega
 have hN2:(8*(a:Int)+(T.size:Int)).toNat=8*a+T.size:=by omega
 have hT5:T.size≤100000:=by omega
 have hS5:S.size≤100000:=by omega
 have hsz1:(S.extract 0 (8*a)).size≤100000:=by rw[ByteArray.size_extract]; omega
 have HFIN:Hid (∀W:World,W=w.setCell ⟨r,i,none⟩ (.string ((S.extract 0 (8*a)++T)++S.extract (8*a+T.size) S.size))→KP P w W∧Sb W base b size (putS ss i a t) false P):=hid (fun W hW=>by
  subst hW;rw[hts,hss,hba];refine ⟨KP.set HPR.out _ _ _,?_⟩;have:=HF.out;unfold putS;rw[HS.out]
  exact this)
 have HSS:=hid hss;have HTS:=hid hts;clear hfin hba hs hS hT hss hts hc hst ha;go_enter Tryz.func124,Tryz.ntmps124
 go_wp2_with fail
 go_region
 obtain ⟨k1,k2⟩:=HFIN.out _ rfl
 go_end0
 exact ⟨rfl,k1.drew,k2.drew⟩
def zsq (base b size:Nat)(ss:Segs)(i k:Nat)(P:Nat→Prop)(w:World)(e:Ending)(w':World):Prop :=
 e= .returned (.int .i64 (wn (sgS ss i):Nat))∧KP P w w'∧Sb w' base b size (growB ss i k) false P
theorem z8y (base b size:Nat)(ss:Segs)(P:Nat→Prop)(w:World)(h:Sb w base b size ss false P)(i k:Nat)(hi:i<ss.length)(hk:k≤10000)(hl:(sgS ss i).length≤100000) :
 Calls Tryz.prog 127 #[.pointer (some ⟨b,0,none⟩),.int .i64 (i:Int),.int .i64 (k:Int)] w (zsq base b size ss i k P w):=by
 obtain ⟨r,cap,hb,⟨hPr,hrl,hrb⟩,hc,hst⟩:=h.open_ (by omega);obtain ⟨c0,c1,c2⟩:=z0k hb;obtain ⟨hci,hfi⟩:=hc i hi
 have hss:(⟨(sgS ss i).toArray⟩:ByteArray).size=(sgS ss i).length:=by simp[ByteArray.size]
 have hlt:(i:Int)<(ss.length:Int):=by omega
 have HH:=hid h;have HB:=hid hb;have HC:=hid hci;have HPR:=hid hPr
 obtain ⟨s,hs⟩:∃s,sgS ss i=s:=⟨_,rfl⟩
 rw[hs] at hci hss hl HC;have HS:=hid hs
 obtain ⟨S,hS⟩:∃S:ByteArray,S=⟨s.toArray⟩:=⟨_,rfl⟩
 unfold strS at hci HC;rw[← hS] at hci hss HC;have HSV:=hid hS
 have hn8:(8*(k:Int)).toNat=8*k:=by omega
 have HM:=hid (fun W=>z3i ⟨#[0]⟩ (8*(k:Int)) W (by omega) (by omega) (by decide) (by show 1*_≤_; omega))
 obtain ⟨Z,hZ⟩:∃Z:ByteArray,Z=⟨(zer k).toArray⟩:=⟨_,rfl⟩
 have hzz:(⟨(repL (⟨#[0]⟩:ByteArray).data.toList (8*(k:Int)).toNat).toArray⟩:ByteArray)=Z:=by
  rw[hZ,hn8]
  congr 2
  unfold zer;generalize 8*k=q
  induction q with
  | zero=>rfl
  | succ q ih=>rw[List.replicate_succ,← ih]; rfl
 have hzs:Z.size=8*k:=by rw[hZ]; simp[ByteArray.size,z0t]
 have HZV:=hid hZ
 have hS5:S.size≤100000:=by omega
 have hZ5:Z.size≤100000:=by omega
 have hcc:¬9223372036854775807<S.size+Z.size:=by omega
 have HE:Hid (((S.size:Int)/8)=((wn (sgS ss i):Nat):Int)):=hid (by rw[HS.out]; unfold wn; rw[hss]; omega)
 have hHM:∀W,Calls Tryz.prog 68 #[.string ⟨#[0]⟩,.int .i64 (8*(k:Int))] W fun e w'=>e= .returned (.string Z)∧W=w':=fun W=>by
  have:=HM.out W;rw[hzz] at this;exact this
 have HHM:=hid hHM
 have HFIN:Hid (∀W:World,W=w.setCell ⟨r,i,none⟩ (.string (S++Z))→KP P w W.drew∧Sb W.drew base b size (growB ss i k) false P):=hid (fun W hW=>by
  subst hW;have h1:=hst i (s++zer k) hi
  have e:(⟨(s++zer k).toArray⟩:ByteArray)=S++Z:=by
   rw[hS,hZ]; apply z63; rw[ByteArray.data_append]; simp
  unfold strS at h1;rw[e] at h1;refine ⟨(KP.set HPR.out _ _ _).drew,?_⟩;unfold growB;rw[HS.out]
  exact h1.drew)
 have hw8k:IntKind.i64.wrap (8*(k:Int))=8*(k:Int):=by rw[IntKind.wrap_i64]; omega
 clear hHM hzz hzs hS hZ hn8 hs h hb hc hst HM hss;go_enter Tryz.func127,Tryz.ntmps127
 go_wp2_with fail
 refine wp_region_still_tail 17 (by kernel_rfl) (by kernel_rfl) ?_
 simp only[List.take_succ_cons,List.take_zero,List.drop_succ_cons,List.drop_zero]
 repeat still_step
 refine wpStill_step (fun K hK=>?_)
 go_simp
 refine ⟨_,(HHM.out _).mono (fun e w' h=>⟨h.1,h.2.symm⟩),hK _ ?_⟩;clear hK K
 repeat still_step
 refine wpStill_nil ?_
 change wpList _ _ _ _ _ w.drew
 have q0:w.drew.cell? ⟨b,0,none⟩=some (.slice (some ⟨r,0,none⟩) ss.length cap):=c0;have q1:w.drew.cell? ⟨r,i,none⟩=some (.string S):=hci;have q2:w.drew.frozen? ⟨r,i,none⟩=false:=hfi;have HFIN2:Hid (∀W:World,W=w.drew.setCell ⟨r,i,none⟩ (.string (S++Z))→KP P w W∧Sb W base b size (growB ss i k) false P):=hid (fun W hW=>by subst hW; exact HFIN.out _ rfl);clear c0 c1 c2 hci hfi HFIN;generalize w.drew=w2 at *;go_wp2;obtain ⟨k1,k2⟩:=HFIN2.out _ rfl;go_ret;exact ⟨z2r HE.out,k1,k2⟩
end Go.Proofs.YtlbfffokkhccaaaGreatDoor
