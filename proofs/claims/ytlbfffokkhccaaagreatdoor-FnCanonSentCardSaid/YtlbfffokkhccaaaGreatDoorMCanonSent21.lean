/- Texts of the proof of the law FnCanonSent, side by side: part 21. -/
import Derived.RangeFuncNested
import Derived.RangeFuncBound
import Derived.RangeFuncCalls
import Derived.RangeFuncLeaves
import Derived.Shelf.Abstract
import Derived.Shelf.RegionOpen
import Derived.OwnWalkIn
import Derived.TacticsInMore
import Derived.LoopNIn
import Derived.LoopIn
import Derived.RangeFuncBox
import Derived.Test.YtlbfffokkhccaaaGreatDoorMCanonSent20
set_option maxHeartbeats 8000000
set_option maxRecDepth 100000
open Go.Lib (hid)
namespace Go.Proofs.YtlbfffokkhccaaaGreatDoor
open Go.RowKit
theorem z4x {P:Program}{ops:Array Oper}{rest:List Oper}{op:Oper}{a:Act}{w:World}{Q:Exit→Act→World→Prop}(hgd:Region.wanted op (yielded ops a.tmps)=true)(ty:TypeId)(x:Operand)(ho:op.op= .load ty x)
 (b o:Nat) (hx:a.eval x= .pointer (some ⟨b,o,none⟩)) (cs:List Value) (d:TypeDesc) (hc:w.rangeAt b o cs)
 (hu:P.underlying ty=some d) (hd:d.isRow=true) (hi:(P.info? ty).map (·.size)=some cs.length)
 (h:wpList P ops Q rest (a.put op.dst (.agg cs.toArray)) w):wpList P ops Q (op :: rest) a w:=by
 show if _ then _∨_ else _
 rw[if_pos hgd];exact .inl (wp_load_mid ty x ho b o hx cs d hc hu hd hi h)
def WS (B b:Nat)(w:World)(v:Value)(ws:List (List UInt8)):Prop :=
 ∃A cap,v= .slice A ws.length cap∧ws.length≤cap∧cap≤9223372036854775807∧Wds ws∧(ws= []∨∃g o,A=some ⟨g,o,none⟩∧g<B∧g≠b∧w.rangeAt g o (Lib.byteCells ws.flatten))
theorem WS.keeps {B b:Nat}{w w':World}{v:Value}{ws:List (List UInt8)}(h:WS B b w v ws)(hk:Keeps B b w w'):WS B b w' v ws:=by
 obtain ⟨A,cap,hv,h1,h2,h3,h4⟩:=h;refine ⟨A,cap,hv,h1,h2,h3,h4.imp id ?_⟩;rintro ⟨g,o,ha,hg,hne,hr⟩;exact ⟨g,o,ha,hg,hne,fun j u hu=>(z0y hk ⟨g,o+j,none⟩ hg hne).trans (hr j u hu)⟩
theorem zgb:∀(ws:List (List UInt8)) (k j:Nat) (_:Wds ws) (h:k<ws.length),j<8→ws.flatten[8*k+j]? =(ws[k])[j]?
 | w :: r,0,j,hw,_,hj=>by
   have h8:=hw w (by simp);rw[List.flatten_cons,List.getElem?_append_left (by omega)]
   simp
 | w :: r,k+1,j,hw,h,hj=>by
   have h8:=hw w (by simp);have ih:=zgb r k j (fun x hx=>hw x (by simp[hx])) (by simpa using h) hj;rw[List.flatten_cons,List.getElem?_append_right (by omega),h8,show 8*(k+1)+j-8=8*k+j by omega,ih]
   simp
theorem z9s:∀(ws:List (List UInt8)) (k:Nat),Wds ws→k≤ws.length→ws.flatten.drop (8*k)=(ws.drop k).flatten
 | ws,0,_,_=>rfl
 | [],k+1,_,h=>by simp at h
 | w :: r,k+1,hw,h=>by
   have h8:=hw w (by simp);rw[List.flatten_cons,List.drop_append,List.drop_of_length_le (by omega),List.nil_append,show 8*(k+1)-w.length=8*k by omega,List.drop_succ_cons];exact z9s r k (fun x hx=>hw x (by simp[hx])) (by simpa using h)
theorem z5l {w:World}{g o:Nat}{ws:List (List UInt8)}(hw:Wds ws)(h:w.rangeAt g o (Lib.byteCells ws.flatten))(k:Nat)(hk:k<ws.length):w.rangeAt g (o+8*k) (Lib.byteCells ws[k]):=fun j u hu=>by
 have h8:(ws[k]).length=8:=hw _ (List.getElem_mem hk)
 have hj:j<8:=by have:=(List.getElem?_eq_some_iff.1 hu).1; rw[Lib.byteCells_length] at this; omega
 have:=h (8*k+j) u (by rw[Lib.byteCells,List.getElem?_map,zgb ws k j hw hk hj,← List.getElem?_map]; exact hu);rw[← Nat.add_assoc] at this;exact this
theorem zay {w:World}{g o:Nat}{ws:List (List UInt8)}(hw:Wds ws)(h:w.rangeAt g o (Lib.byteCells ws.flatten))(k:Nat)(hk:k≤ws.length):w.rangeAt g (o+8*k) (Lib.byteCells (ws.drop k).flatten):=fun j u hu=>by
 rw[← z9s ws k hw hk] at hu;have:=h (8*k+j) u (by rw[Lib.byteCells,List.getElem?_map] at hu ⊢; rwa [List.getElem?_drop] at hu);rw[← Nat.add_assoc] at this;exact this
theorem ziw {w:World}{g o:Nat}{ws:List (List UInt8)}(h:w.rangeAt g o (Lib.byteCells ws.flatten))(k:Nat):w.rangeAt g o (Lib.byteCells (ws.take k).flatten):=fun j u hu=>by
 refine h j u ?_
 have e:ws.flatten=(ws.take k).flatten++(ws.drop k).flatten:=by rw[← List.flatten_append,List.take_append_drop]
 rw[e,Lib.byteCells,List.map_append,List.getElem?_append_left (by have:=(List.getElem?_eq_some_iff.1 hu).1; simpa [Lib.byteCells] using this)];exact hu
def PS (B b:Nat)(out:List UInt8)(v:Value)(ws:List (List UInt8))(w:World):Prop:=BF 154 B b (Lib.byteCells out) [v] w∧WS B b w v ws
theorem pkT:LiesB 154 1:=⟨by decide,by kernel_rfl⟩
theorem PS.left {B b:Nat}{out:List UInt8}{v:Value}{ws:List (List UInt8)}{w:World}(h:PS B b out v ws w):w.cell? ⟨b,2,none⟩=some v:=by
 have:=BF.cell h.1 0; simpa using this
theorem PS.below {B b:Nat}{out:List UInt8}{v:Value}{ws:List (List UInt8)}{w w':World}(h:PS B b out v ws w)(hb:Below w.heap.size w w')(hB:B≤w.heap.size):PS B b out v ws w' :=
 ⟨h.1.below hb,h.2.keeps (Keeps.of_below (hb.mono hB))⟩
theorem PS.setLeft {B b:Nat}{out:List UInt8}{v:Value}{ws:List (List UInt8)}{w:World}(h:PS B b out v ws w)(v':Value):BF 154 B b (Lib.byteCells out) [v'] (w.setCell ⟨b,2,none⟩ v'):=by
 have:=BF.set pkT.1 h.1 0 v'; simpa using this
theorem WS.taken {B b k cap:Nat}{w:World}{A:Option Addr}{ws:List (List UInt8)}(h:WS B b w (.slice A ws.length cap) ws)(hk:k≤ws.length):WS B b w (.slice A k cap) (ws.take k):=by
 obtain ⟨A',cap',hv,h1,h2,h3,h4⟩:=h;cases hv
 have hl:(ws.take k).length=k:=by rw[List.length_take]; omega
 refine ⟨A,cap,by rw[hl],by omega,h2,h3.take k,?_⟩
 rcases h4 with rfl | ⟨g,o,ha,hg,hne,hr⟩
 · left; simp
 · exact .inr ⟨g,o,ha,hg,hne,ziw hr k⟩
theorem WS.dropped {B b k cap g o:Nat}{w:World}{ws:List (List UInt8)}(h:WS B b w (.slice (some ⟨g,o,none⟩) ws.length cap) ws)(hk:k<ws.length):WS B b w (.slice (some ⟨g,o+k*8,none⟩) (ws.length-k) (cap-k)) (ws.drop k):=by
 obtain ⟨A',cap',hv,h1,h2,h3,h4⟩:=h;cases hv;refine ⟨some ⟨g,o+k*8,none⟩,cap-k,by rw[List.length_drop],by rw[List.length_drop]; omega,by omega,h3.drop k,?_⟩
 rcases h4 with rfl | ⟨g',o',ha,hg,hne,hr⟩
 · simp at hk
 · cases ha
   exact .inr ⟨g,o+k*8,rfl,hg,hne,by rw[Nat.mul_comm k 8]; exact zay h3 hr k (by omega)⟩
theorem WS.empty (B b:Nat)(w:World)(A:Option Addr)(cap:Nat)(h:cap≤9223372036854775807):WS B b w (.slice A 0 cap) []:=⟨A,cap,rfl,Nat.zero_le _,h,(fun w hw=>by cases hw),.inl rfl⟩
theorem z3i (B b:Nat)(out:List UInt8)(k cap:Nat)(A:Option Addr)(v2:Value)(ws:List (List UInt8))(w:World)(h:PS B b out (.slice A ws.length cap) ws w)(hk:k≤ws.length)(hk2:k≤255)(h2:WS B b w v2 (ws.drop k))(ho:out.length≤1000000)(hBw:B≤w.heap.size) :
 Calls Tryz.prog 140 #[.pointer (some ⟨b,0,none⟩),.int .u8 (k:Int)] (w.setCell ⟨b,2,none⟩ v2) fun e w'=>e= .returned .nilIface∧WS B b w' (.slice A k cap) (ws.take k)∧PS B b (out++ [UInt8.ofNat k]) v2 (ws.drop k) w'∧Keeps B b w w':=by
 have hs:=h.setLeft v2;have hK:=z0p B b w 2 v2;refine (z42 154 B b (Lib.byteCells out) [v2] (k:Int) _ pkT hs (by rw[Lib.byteCells_length]; omega) (Nat.le_trans hBw hK.size)).mono ?_;rintro e w' ⟨he,hb,hk'⟩;have hKK:=hK.trans hk'
 have e:Lib.byteCells out++ [Value.int .u8 (k:Int)]=Lib.byteCells (out++ [UInt8.ofNat k]):=by
  have:(UInt8.ofNat k).toNat=k:=by rw[UInt8.toNat_ofNat']; omega
  simp[Lib.byteCells]; omega
 rw[e] at hb;exact ⟨he,(h.2.taken hk).keeps hKK,⟨hb,h2.keeps hKK⟩,hKK⟩
theorem zj3 (B b:Nat)(out:List UInt8)(v:Value)(ws:List (List UInt8))(w:World)(h:PS B b out v ws w)(hl:ws.length≤200)(ho:out.length≤1000000)(hBw:B≤w.heap.size) :
 Calls Tryz.prog 173 #[.pointer (some ⟨b,0,none⟩),.func (.func 174) #[] #[]] w fun e w' =>
  ∃v1 v2,e= .returned v1∧WS B b w' v1 (ws.take (runN zerL ws))∧PS B b (out++ [UInt8.ofNat (runN zerL ws)]) v2 (ws.drop (runN zerL ws)) w'∧Keeps B b w w':=by
 obtain ⟨A,cap,rfl,hcap,hcm,hwds,hrg⟩:=h.2;have HWds:=hid hwds;have HRG:=hid hrg;have H:=hid h
 obtain ⟨P,hP⟩:∃P:Ending→World→Prop,P=(fun e w'=>∃v1 v2,e= .returned v1∧WS B b w' v1 (ws.take (runN zerL ws))∧PS B b (out++ [UInt8.ofNat (runN zerL ws)]) v2 (ws.drop (runN zerL ws)) w'∧Keeps B b w w'):=⟨_,rfl⟩
 rw[← hP];have HP:=hid hP;clear hP h hwds hrg;go_enter Tryz.func173,Tryz.ntmps173
 go_wp2_with fail
 go_loopw [5] (fun i wr=>∃k:Nat,k≤ws.length∧k≤255∧i= .int .i64 k∧Hid (∀j (h:j<ws.length),j<k→zerL ws[j]=true)∧Hid (Below w.heap.size w wr)) (fun i _=>ws.length-(intOf i).toNat)
 case atStart=>exact ⟨0,by omega,by omega,rfl,fun j hj h=>by omega,Below.refl _ _⟩
 case round =>
  obtain ⟨k,hk,hk255,rfl,HZ,HB⟩:=hrel;have hPS:=H.out.below HB.out hBw;have hcl:=hPS.left;have hPS0:=hid hPS;have HBB:=hid (Nat.le_trans hBw HB.out.size)
  by_cases hgo:k<ws.length∧k<255
  · obtain ⟨hk1,hk2⟩:=hgo
    obtain ⟨g,o,rfl,hgB,hgb,hr⟩:=HRG.out.resolve_left (by intro h; rw[h] at hk1; simp at hk1)
    have hr2:wr.rangeAt g (o+8*k) (Lib.byteCells ws[k]):=fun j u hu=>(HB.out.cell (p:=⟨g,o+8*k+j,none⟩) (show g<w.heap.size by omega)).trans (z5l HWds.out hr k hk1 j u hu)
    have hx8:(ws[k]).length=8:=HWds.out _ (List.getElem_mem hk1)
    obtain ⟨x,hx⟩:∃x,ws[k]=x:=⟨_,rfl⟩
    rw[hx] at hr2 hx8;have HX:=hid hx;rw[Nat.mul_comm 8 k] at hr2;have HR2:=hid hr2;have HX8:=hid hx8
    have hd1:decide ((k:Int)<(ws.length:Int))=true:=by simp; omega
    have hd2:decide ((k:Int)<255)=true:=by simp; omega
    have hN:=hid (zef x wr hx8);clear hx hr2 hPS hx8
    go_wp2_with (refine z4x (by rfl) 87 (.tmp 25) rfl g (o+k*8) rfl (Lib.byteCells x) _ HR2.out Tryz.underlying87 rfl (by rw[Lib.byteCells_length,HX8.out]; exact z1w) ?_)
    refine hN.out.mono ?_;rintro e w1 ⟨rfl,hb1⟩;have HB1:=hid (HB.out.trans (hb1.mono HB.out.size));cases hz:zerL x
    · have hrun:runN zerL ws=k:=zcz hk hk255 HZ.out (.inr (.inr ⟨hk1,by rw[HX.out]; exact hz⟩))
      have HRun:=hid hrun;have hPS1:=hPS0.out.below hb1 HBB.out;have hcl1:=hPS1.left;have hfz1:=BF.frozen hPS1.1 2;have HPS1:=hid hPS1;have hB1:=hb1;clear hrun hz hb1 hPS1;have hpc:=hid (z3i B b out k cap _ _ ws w1 HPS1.out hk hk255 (HPS1.out.2.dropped hk1) ho (Nat.le_trans HBB.out hB1.size))
      go_wp2_with fail
      refine hpc.out.mono ?_;rintro e w2 ⟨rfl,hw1,hp1,hkp⟩;have HW1:=hid hw1;have HP1:=hid hp1;have HK1:=hid ((Keeps.of_below (HB1.out.mono hBw)).trans hkp);clear hw1 hp1 hkp hB1;go_wp2;rw[HP.out,HRun.out];exact ⟨_,_,rfl,HW1.out,HP1.out,HK1.out⟩
    · have HZ2:Hid (∀j (h:j<ws.length),j<k+1→zerL ws[j]=true):=hid (fun j hj hjk=>by
       by_cases hjk2:j<k
       · exact HZ.out j hj hjk2
       · obtain rfl:j=k:=by omega
         rw[HX.out]; exact hz)
      clear hz hb1;go_wp2
      go_roundw
      case rel=>exact ⟨k+1,by omega,by omega,by go_num,HZ2,HB1⟩
      case measure=>simp[intOf]; omega
  · obtain rfl:k=ws.length:=by omega
    have hrun:runN zerL ws=ws.length:=zcz (Nat.le_refl _) hk255 HZ.out (.inr (.inl rfl));have HRun:=hid hrun;have hfz1:=BF.frozen hPS.1 2;have hdrop:ws.drop ws.length= []:=List.drop_length;have HDrop:=hid hdrop;clear hrun hPS hdrop
    by_cases hcc:cap=ws.length
    · subst hcc
      have hpc:=hid (z3i B b out ws.length ws.length A (.slice A 0 0) ws wr hPS0.out (Nat.le_refl _) hk255 (by rw[HDrop.out]; exact WS.empty B b wr _ _ (by omega)) ho HBB.out)
      go_wp2_with fail
      refine hpc.out.mono ?_;rintro e w2 ⟨rfl,hw1,hp1,hkp⟩;have HW1:=hid hw1;have HP1:=hid hp1;have HK1:=hid ((Keeps.of_below (HB.out.mono hBw)).trans hkp);clear hw1 hp1 hkp;go_wp2;rw[HP.out,HRun.out];exact ⟨_,_,rfl,HW1.out,HP1.out,HK1.out⟩
    · have hcc2:ws.length<cap:=by omega
      have hpc:=hid (z3i B b out ws.length cap A (.slice (Option.map (fun x=>x.add (ws.length*8)) A) 0 (cap-ws.length)) ws wr hPS0.out (Nat.le_refl _) hk255 (by rw[HDrop.out]; exact WS.empty B b wr _ _ (by omega)) ho HBB.out)
      go_wp2_with fail
      refine hpc.out.mono ?_;rintro e w2 ⟨rfl,hw1,hp1,hkp⟩;have HW1:=hid hw1;have HP1:=hid hp1;have HK1:=hid ((Keeps.of_below (HB.out.mono hBw)).trans hkp);clear hw1 hp1 hkp;go_wp2;rw[HP.out,HRun.out];exact ⟨_,_,rfl,HW1.out,HP1.out,HK1.out⟩
theorem zjl (B b:Nat)(out:List UInt8)(v:Value)(ws:List (List UInt8))(w:World)(h:PS B b out v ws w)(hl:ws.length≤200)(ho:out.length≤1000000)(hBw:B≤w.heap.size) :
 Calls Tryz.prog 173 #[.pointer (some ⟨b,0,none⟩),.func (.func 175) #[] #[]] w fun e w' =>
  ∃v1 v2,e= .returned v1∧WS B b w' v1 (ws.take (runN fewL ws))∧PS B b (out++ [UInt8.ofNat (runN fewL ws)]) v2 (ws.drop (runN fewL ws)) w'∧Keeps B b w w':=by
 obtain ⟨A,cap,rfl,hcap,hcm,hwds,hrg⟩:=h.2;have HWds:=hid hwds;have HRG:=hid hrg;have H:=hid h
 obtain ⟨P,hP⟩:∃P:Ending→World→Prop,P=(fun e w'=>∃v1 v2,e= .returned v1∧WS B b w' v1 (ws.take (runN fewL ws))∧PS B b (out++ [UInt8.ofNat (runN fewL ws)]) v2 (ws.drop (runN fewL ws)) w'∧Keeps B b w w'):=⟨_,rfl⟩
 rw[← hP];have HP:=hid hP;clear hP h hwds hrg;go_enter Tryz.func173,Tryz.ntmps173
 go_wp2_with fail
 go_loopw [5] (fun i wr=>∃k:Nat,k≤ws.length∧k≤255∧i= .int .i64 k∧Hid (∀j (h:j<ws.length),j<k→fewL ws[j]=true)∧Hid (Below w.heap.size w wr)) (fun i _=>ws.length-(intOf i).toNat)
 case atStart=>exact ⟨0,by omega,by omega,rfl,fun j hj h=>by omega,Below.refl _ _⟩
 case round =>
  obtain ⟨k,hk,hk255,rfl,HZ,HB⟩:=hrel;have hPS:=H.out.below HB.out hBw;have hcl:=hPS.left;have hPS0:=hid hPS;have HBB:=hid (Nat.le_trans hBw HB.out.size)
  by_cases hgo:k<ws.length∧k<255
  · obtain ⟨hk1,hk2⟩:=hgo
    obtain ⟨g,o,rfl,hgB,hgb,hr⟩:=HRG.out.resolve_left (by intro h; rw[h] at hk1; simp at hk1)
    have hr2:wr.rangeAt g (o+8*k) (Lib.byteCells ws[k]):=fun j u hu=>(HB.out.cell (p:=⟨g,o+8*k+j,none⟩) (show g<w.heap.size by omega)).trans (z5l HWds.out hr k hk1 j u hu)
    have hx8:(ws[k]).length=8:=HWds.out _ (List.getElem_mem hk1)
    obtain ⟨x,hx⟩:∃x,ws[k]=x:=⟨_,rfl⟩
    rw[hx] at hr2 hx8;have HX:=hid hx;rw[Nat.mul_comm 8 k] at hr2;have HR2:=hid hr2;have HX8:=hid hx8
    have hd1:decide ((k:Int)<(ws.length:Int))=true:=by simp; omega
    have hd2:decide ((k:Int)<255)=true:=by simp; omega
    have hN:=hid (ziu x wr hx8);clear hx hr2 hPS hx8
    go_wp2_with (refine z4x (by rfl) 87 (.tmp 25) rfl g (o+k*8) rfl (Lib.byteCells x) _ HR2.out Tryz.underlying87 rfl (by rw[Lib.byteCells_length,HX8.out]; exact z1w) ?_)
    refine hN.out.mono ?_;rintro e w1 ⟨rfl,hb1⟩;have HB1:=hid (HB.out.trans (hb1.mono HB.out.size));cases hz:fewL x
    · have hrun:runN fewL ws=k:=zcz hk hk255 HZ.out (.inr (.inr ⟨hk1,by rw[HX.out]; exact hz⟩))
      have HRun:=hid hrun;have hPS1:=hPS0.out.below hb1 HBB.out;have hcl1:=hPS1.left;have hfz1:=BF.frozen hPS1.1 2;have HPS1:=hid hPS1;have hB1:=hb1;clear hrun hz hb1 hPS1;have hpc:=hid (z3i B b out k cap _ _ ws w1 HPS1.out hk hk255 (HPS1.out.2.dropped hk1) ho (Nat.le_trans HBB.out hB1.size))
      go_wp2_with fail
      refine hpc.out.mono ?_;rintro e w2 ⟨rfl,hw1,hp1,hkp⟩;have HW1:=hid hw1;have HP1:=hid hp1;have HK1:=hid ((Keeps.of_below (HB1.out.mono hBw)).trans hkp);clear hw1 hp1 hkp hB1;go_wp2;rw[HP.out,HRun.out];exact ⟨_,_,rfl,HW1.out,HP1.out,HK1.out⟩
    · have HZ2:Hid (∀j (h:j<ws.length),j<k+1→fewL ws[j]=true):=hid (fun j hj hjk=>by
       by_cases hjk2:j<k
       · exact HZ.out j hj hjk2
       · obtain rfl:j=k:=by omega
         rw[HX.out]; exact hz)
      clear hz hb1;go_wp2
      go_roundw
      case rel=>exact ⟨k+1,by omega,by omega,by go_num,HZ2,HB1⟩
      case measure=>simp[intOf]; omega
  · obtain rfl:k=ws.length:=by omega
    have hrun:runN fewL ws=ws.length:=zcz (Nat.le_refl _) hk255 HZ.out (.inr (.inl rfl));have HRun:=hid hrun;have hfz1:=BF.frozen hPS.1 2;have hdrop:ws.drop ws.length= []:=List.drop_length;have HDrop:=hid hdrop;clear hrun hPS hdrop
    by_cases hcc:cap=ws.length
    · subst hcc
      have hpc:=hid (z3i B b out ws.length ws.length A (.slice A 0 0) ws wr hPS0.out (Nat.le_refl _) hk255 (by rw[HDrop.out]; exact WS.empty B b wr _ _ (by omega)) ho HBB.out)
      go_wp2_with fail
      refine hpc.out.mono ?_;rintro e w2 ⟨rfl,hw1,hp1,hkp⟩;have HW1:=hid hw1;have HP1:=hid hp1;have HK1:=hid ((Keeps.of_below (HB.out.mono hBw)).trans hkp);clear hw1 hp1 hkp;go_wp2;rw[HP.out,HRun.out];exact ⟨_,_,rfl,HW1.out,HP1.out,HK1.out⟩
    · have hcc2:ws.length<cap:=by omega
      have hpc:=hid (z3i B b out ws.length cap A (.slice (Option.map (fun x=>x.add (ws.length*8)) A) 0 (cap-ws.length)) ws wr hPS0.out (Nat.le_refl _) hk255 (by rw[HDrop.out]; exact WS.empty B b wr _ _ (by omega)) ho HBB.out)
      go_wp2_with fail
      refine hpc.out.mono ?_;rintro e w2 ⟨rfl,hw1,hp1,hkp⟩;have HW1:=hid hw1;have HP1:=hid hp1;have HK1:=hid ((Keeps.of_below (HB.out.mono hBw)).trans hkp);clear hw1 hp1 hkp;go_wp2;rw[HP.out,HRun.out];exact ⟨_,_,rfl,HW1.out,HP1.out,HK1.out⟩
def pTag (b:Nat):Value:= .func (.func 97) #[.pointer (some ⟨b,0,none⟩)] #[]
def pNou (b:Nat):Value:= .func (.func 141) #[.pointer (some ⟨b,0,none⟩)] #[]
def pPla (b:Nat):Value:= .func (.func 142) #[.pointer (some ⟨b,0,none⟩)] #[]
def nouL (ws:List (List UInt8)):List UInt8:=UInt8.ofNat (runN zerL ws) :: packW (ws.drop (runN zerL ws))
def plaL (ws:List (List UInt8)):List UInt8:=UInt8.ofNat (runN fewL ws) :: ((ws.take (runN fewL ws)).flatten++packW (ws.drop (runN fewL ws)))
def PJ (R:List UInt8)(B b k:Nat)(s:Value)(w:World):Prop:=∃out v ws,PS B b out v ws w∧ws.length≤200 ∧
 ((s=pTag b∧out++packW ws=R∧2*ws.length+1≤k)∨(s=pNou b∧out++nouL ws=R∧2*ws.length+2≤k)∨(s=pPla b∧out++plaL ws=R∧2*ws.length+2≤k)∨(s= .nilFunc∧out=R))
def PNext (R:List UInt8)(B b k:Nat)(w:World)(e:Ending)(w':World):Prop:=∃s k',k'<k∧e= .returned s∧PJ R B b k' s w'∧Keeps B b w w'
theorem zhg {out x R:List UInt8}(h:out++x=R)(hR:R.length≤100000):out.length≤100000:=by
 rw[← h,List.length_append] at hR; omega
theorem zkb (R:List UInt8)(B b k:Nat)(out:List UInt8)(v:Value)(ws:List (List UInt8))(w:World)(h:PS B b out v ws w)(hl:ws.length≤200)(hR:out++nouL ws=R)(hk:2*ws.length+2≤k)(hRl:R.length≤100000)(hBw:B≤w.heap.size) :
 Calls Tryz.prog 141 #[.pointer (some ⟨b,0,none⟩)] w (PNext R B b k w):=by
 have HT:=hid (zj3 B b out v ws w h hl (by have:=zhg hR hRl; omega) hBw);have HR:=hid hR;clear h hR;go_enter Tryz.func141,Tryz.ntmps141
 go_wp2_with fail
 refine HT.out.mono ?_;rintro e w1 ⟨v1,v2,rfl,_,hp,hk1⟩;have HP:=hid hp;have HK:=hid hk1;clear hp hk1;go_wp2;go_ret;refine ⟨pTag b,2*(ws.drop (runN zerL ws)).length+1,by rw[List.length_drop]; omega,rfl,⟨_,_,_,HP.out,by rw[List.length_drop]; omega,.inl ⟨rfl,?_,Nat.le_refl _⟩⟩,HK.out⟩
 rw[← HR.out,nouL,List.append_assoc]; rfl
theorem zk1 (R:List UInt8)(B b k:Nat)(out:List UInt8)(v:Value)(ws:List (List UInt8))(w:World)(h:PS B b out v ws w)(hl:ws.length≤200)(hR:out++plaL ws=R)(hk:2*ws.length+2≤k)(hRl:R.length≤100000)(hBw:B≤w.heap.size) :
 Calls Tryz.prog 142 #[.pointer (some ⟨b,0,none⟩)] w (PNext R B b k w):=by
 have HT:=hid (zjl B b out v ws w h hl (by have:=zhg hR hRl; omega) hBw);have HR:=hid hR;obtain ⟨hn1,hn2⟩:=z5c fewL ws
 obtain ⟨n,hn⟩:∃n,runN fewL ws=n:=⟨_,rfl⟩
 rw[hn] at HT hn1 hn2;have hol:=zhg hR hRl;have HN:=hid hn;clear h hR hn;go_enter Tryz.func142,Tryz.ntmps142
 go_wp2_with fail
 refine HT.out.mono ?_;rintro e w1 ⟨v1,v2,rfl,hw1,hp,hk1⟩;obtain ⟨A,cap,rfl,hc1,hc2,hwd,hrg⟩:=hw1
 have htl:(ws.take n).length=n:=by rw[List.length_take]; omega
 rw[htl] at hc1 ⊢;have HTL:=hid htl;have HRG:=hid hrg;have HWD:=hid hwd;have HP:=hid hp;have HK:=hid hk1;have hB1:=Nat.le_trans hBw hk1.size;clear hp hk1 hrg hwd htl
 go_wp2_with fail
 go_loopw [8] (fun i wr=>∃j:Nat,j≤n∧i= .int .i64 j∧Hid (BF 154 B b (Lib.byteCells (out++ [UInt8.ofNat n]++((ws.take n).take j).flatten)) [v2] wr)∧Hid (Keeps B b w1 wr)) (fun i _=>n-(intOf i).toNat)
 case atStart=>exact ⟨0,by omega,rfl,by simpa [Hid] using HP.out.1,Keeps.refl _ _ _⟩
 case round =>
  obtain ⟨j,hj,rfl,HB,HKR⟩:=hrel
  by_cases hj1:j<n
  · have hjt:j<(ws.take n).length:=by rw[HTL.out]; exact hj1
    obtain ⟨g,o,rfl,hgB,hgb,hr⟩:=HRG.out.resolve_left (by intro h; rw[h] at hjt; simp at hjt);have hr1:=z5l HWD.out hr j hjt
    have hr2:wr.rangeAt g (o+8*j) (Lib.byteCells (ws.take n)[j]):=fun i u hu=>(z0y HKR.out ⟨g,o+8*j+i,none⟩ hgB hgb).trans (hr1 i u hu)
    have hx8:((ws.take n)[j]).length=8:=HWD.out _ (List.getElem_mem hjt)
    have hfl:((ws.take n).take (j+1)).flatten=((ws.take n).take j).flatten++(ws.take n)[j]:=by
     rw[List.take_succ_eq_append_getElem hjt,List.flatten_append]; simp
    have hflen:((ws.take n).take j).flatten.length≤2000:=by
     rw[z2x (HWD.out.take j),List.length_take]; omega
    obtain ⟨x,hx⟩:∃x,(ws.take n)[j]=x:=⟨_,rfl⟩
    rw[hx] at hr2 hx8 hfl;obtain ⟨b0,b1,b2,b3,b4,b5,b6,b7,rfl⟩:=len8 hx8;have HFL:=hid hfl;rw[Nat.mul_comm 8 j] at hr2;have HR2:=hid hr2;have hB2:=Nat.le_trans hB1 HKR.out.size;clear hx hr hr1 hr2 hx8 hjt hfl
    go_wp2_with (refine wpList_load_mid rfl 87 (.tmp 10) rfl g (o+j*8) rfl [.int .u8 b0.toNat,.int .u8 b1.toNat,.int .u8 b2.toNat,.int .u8 b3.toNat,.int .u8 b4.toNat,.int .u8 b5.toNat,.int .u8 b6.toNat,.int .u8 b7.toNat] _ HR2.out Tryz.underlying87 rfl z1w ?_)
    have hlen:(Lib.byteCells (out++ [UInt8.ofNat n]++((ws.take n).take j).flatten)).length≤1099511627776:=by
     rw[Lib.byteCells_length,List.length_append,List.length_append,List.length_singleton]; omega
    have HLen:=hid hlen;clear hlen hflen
    have hcat:∀l:List UInt8,Lib.byteCells l++Lib.strCells ⟨#[b0,b1,b2,b3,b4,b5,b6,b7]⟩=Lib.byteCells (l++ [b0,b1,b2,b3,b4,b5,b6,b7]):=fun l=>by simp[Lib.byteCells,Lib.strCells]
    have HCat:=hid hcat;clear hcat
    go_region_with (first | (go_at_call 59; refine (zgz b0 b1 b2 b3 b4 b5 b6 b7 _).mono ?_; rintro e wt ⟨rfl,hbt⟩; have HBT:Hid (Below wr.heap.size wr wt):=hid ((((Below.refl wr.heap.size wr).alloc (Nat.le_refl _) _).drew).trans (hbt.mono (by simp))); clear hbt) | (go_at_call 75; refine (z4u 154 B b (Lib.byteCells (out++ [UInt8.ofNat n]++((ws.take n).take j).flatten)) [v2] ⟨#[b0,b1,b2,b3,b4,b5,b6,b7]⟩ _ pkT (HB.out.below HBT.out) HLen.out (by show 8≤_; decide) (Nat.le_trans hB2 HBT.out.size)).mono ?_; rintro e w5 ⟨rfl,hU,hK5⟩; have HU:=hid hU; have HK5:=hid hK5; clear hU hK5))
    all_goals
     go_wp2
     go_roundw
     case rel=>exact ⟨j+1,by omega,by go_num,by rw[HFL.out,← List.append_assoc,← HCat.out]; exact HU,(HKR.out.trans (Keeps.of_below (HBT.out.mono hB2))).trans HK5.out⟩
     case measure=>simp[intOf]; omega
  · obtain rfl:j=n:=by omega
    have hU:=HB.out;rw[List.take_of_length_le (by rw[HTL.out]; exact Nat.le_refl _)] at hU;have HU:=hid hU;clear hU;go_wp2;go_ret;refine ⟨pTag b,2*(ws.drop j).length+1,by rw[List.length_drop]; omega,rfl,⟨_,v2,_,⟨HU.out,HP.out.2.keeps HKR.out⟩,by rw[List.length_drop]; omega,.inl ⟨rfl,?_,Nat.le_refl _⟩⟩,HK.out.trans HKR.out⟩
    rw[← HR.out,plaL,HN.out,List.append_assoc,List.append_assoc]; rfl
theorem zg7 (l:List UInt8)(k:Nat)(h:k<l.length):nzL (l.take (k+1))=nzL (l.take k)++(if l[k]=0 then [] else [l[k]]):=by
 rw[List.take_succ_eq_append_getElem h,nzL,List.filter_append,← nzL]
 by_cases hz:l[k]=0
 · rw[if_pos hz,hz]; rfl
 · rw[if_neg hz,List.filter_cons,if_pos (by simpa using hz)]; rfl
theorem pkT0:87≠5:=by decide
theorem zld (R:List UInt8)(B b k:Nat)(out:List UInt8)(v:Value)(ws:List (List UInt8))(w:World)(h:PS B b out v ws w)(hl:ws.length≤200)(hR:out++packW ws=R)(hk:2*ws.length+1≤k)(hRl:R.length≤100000)(hBw:B≤w.heap.size) :
 Calls Tryz.prog 97 #[.pointer (some ⟨b,0,none⟩)] w (PNext R B b k w):=by
 have hcl:=h.left;have hfz:=BF.frozen h.1 2;have hblt:=h.1.lt
 have hbne:b≠w.heap.size:=by omega
 have H:=hid h;obtain ⟨A,cap,rfl,hc1,hc2,hwd,hrg⟩:=h.2
 cases ws with
 | nil =>
  have HR:Hid (PNext R B b k w (.returned .nilFunc) w):=hid ⟨.nilFunc,0,by omega,rfl,⟨out,_,[],H.out,by simp,.inr (.inr (.inr ⟨rfl,by rw[← hR,packW,List.append_nil]⟩))⟩,Keeps.refl _ _ _⟩;clear h hR hrg hwd hfz;go_enter Tryz.func97,Tryz.ntmps97;go_wp2;go_ret;exact HR.out
 | cons x r =>
  obtain ⟨g,o,rfl,hgB,hgb,hr⟩:=hrg.resolve_left (by simp);have hx8:x.length=8:=hwd x (by simp);have hr2:=z5l hwd hr 0 (by simp)
  simp only[Nat.mul_zero,Nat.add_zero,List.getElem_cons_zero] at hr2
  have hol:=zhg hR hRl;obtain ⟨b0,b1,b2,b3,b4,b5,b6,b7,rfl⟩:=len8 hx8;have HR2:=hid hr2;have HR:=hid hR;have HWD:=hid hwd
  have hlr:r.length≤199:=by simp at hl; omega
  have hlen1:((([b0,b1,b2,b3,b4,b5,b6,b7] :: r).length:Nat):Int)=(r.length:Int)+1:=by simp
  have hcap1:r.length+1≤cap:=by simpa using hc1
  have HS:Hid (∀v2,WS B b w v2 r→PS B b out v2 r (w.setCell ⟨b,2,none⟩ v2)):=hid (fun v2 hv2=>⟨H.out.setLeft v2,hv2.keeps (z0p B b w 2 v2)⟩)
  have hv2:r.length+1<cap∨1<r.length+1→WS B b w (.slice (some ⟨g,o+8,none⟩) r.length (cap-1)) r:=fun _=>by
   refine ⟨_,cap-1,rfl,by omega,by omega,hwd.drop 1,?_⟩
   by_cases hr0:r= []
   · exact .inl hr0
   · exact .inr ⟨g,o+8,rfl,hgB,hgb,by have:=zay hwd hr 1 (by simp); simpa using this⟩
  clear h hr2 hR hwd hrg hr hx8
  obtain ⟨v2,hv2v,hv2⟩:∃v2,((cap=1→v2= .slice (some ⟨g,o,none⟩) 0 0)∧(cap≠1→v2= .slice (some ⟨g,o+8,none⟩) r.length (cap-1)))∧WS B b w v2 r:=by
   by_cases hcc:cap=1
   · have hr0:r= []:=List.eq_nil_of_length_eq_zero (by omega)
     exact ⟨_,⟨fun _=>rfl,fun h=>absurd hcc h⟩,by rw[hr0]; exact WS.empty B b w _ 0 (by omega)⟩
   · exact ⟨_,⟨fun h=>absurd h hcc,fun _=>rfl⟩,hv2 (by omega)⟩
  have HPS0:=hid (HS.out v2 hv2);have hKs:=z0p B b w 2 v2;have HK0:=hid hKs
  have hsz0:(w.setCell ⟨b,2,none⟩ v2).heap.size=w.heap.size:=by simp[World.setCell]
  obtain ⟨W0,hW0⟩:∃W0,w.setCell ⟨b,2,none⟩ v2=W0:=⟨_,rfl⟩
  rw[hW0] at HPS0 HK0 hsz0;have hbox:=heap_alloc_new W0 (.cells (wd [b0,b1,b2,b3,b4,b5,b6,b7]) 87);rw[hsz0] at hbox;have hbl1:Below W0.heap.size W0 (W0.alloc (.cells (wd [b0,b1,b2,b3,b4,b5,b6,b7]) 87)):=(Below.refl _ _).alloc (Nat.le_refl _) _;have HPS1:=hid (HPS0.out.below hbl1 (by omega));have HK1:=hid (HK0.out.trans (Keeps.of_below (hbl1.mono (show B≤W0.heap.size by omega))))
  obtain ⟨W1,hW1⟩:∃W1,W0.alloc (.cells (wd [b0,b1,b2,b3,b4,b5,b6,b7]) 87)=W1:=⟨_,rfl⟩
  rw[hW1] at hbox HPS1 HK1;have hB1:=Nat.le_trans hBw HK1.out.size;have HBOX:=hid hbox
  obtain ⟨l,hle⟩:∃l,[b0,b1,b2,b3,b4,b5,b6,b7]=l:=⟨_,rfl⟩
  have hl8:l.length=8:=by rw[← hle]; rfl
  have HMask:Hid (Calls Tryz.prog 139 #[.agg (wd [b0,b1,b2,b3,b4,b5,b6,b7])] W1 fun e w'=>e= .returned (.int .u8 (maskN l:Nat))∧Below W1.heap.size W1 w'):=hid (by rw[← hle]; exact zi6 _ W1 rfl);rw[hle] at HBOX;rw[wd8] at HMask hW1;have HW0:=hid hW0;have HW1:=hid hW1;have hRR:=HR.out;rw[hle] at hRR;have HRR:=hid hRR;have hm256:=z3x l;rw[hl8] at hm256;have hm256b:maskN l<256:=hm256;have HL8:=hid hl8;have HLE:=hid hle
  obtain ⟨M,hM⟩:∃M,maskN l=M:=⟨_,rfl⟩
  rw[hM] at HMask hm256b;have HM:=hid hM;clear hKs hW0 hbl1 hW1 hbox hRR hm256 hl8 hle hM hv2 HR
  have fin:∀w2,Below W1.heap.size W1 w2→PS B b out v2 r w2∧w2.heap[w.heap.size]? =some (.cells (wd l) 87 (0,0))∧Keeps B b w w2∧B≤w2.heap.size:=fun w2 hb=>⟨HPS1.out.below hb hB1,(hb.block _ (z00 HBOX.out)).trans HBOX.out,HK1.out.trans (Keeps.of_below (hb.mono hB1)),Nat.le_trans hB1 hb.size⟩
  have FIN:=hid fin;clear fin
  by_cases hcc:cap=1
  · have hv:=hv2v.1 hcc
    subst hv;subst hcc
    have hr0:r.length=0:=by omega
    clear hv2v;go_enter Tryz.func97,Tryz.ntmps97
    go_wp2_with (refine wpList_load_mid rfl 87 (.tmp 17) rfl g o rfl [.int .u8 b0.toNat,.int .u8 b1.toNat,.int .u8 b2.toNat,.int .u8 b3.toNat,.int .u8 b4.toNat,.int .u8 b5.toNat,.int .u8 b6.toNat,.int .u8 b7.toNat] _ HR2.out Tryz.underlying87 rfl z1w ?_)
    rw[HW0.out,HW1.out];refine HMask.out.mono ?_;rintro e w2 ⟨rfl,hb2⟩;obtain ⟨hp2,hx2,hk2,hB2⟩:=FIN.out w2 hb2;have HWB:=hid (z3m 154 B b (Lib.byteCells out) [_] (M:Int) w2 pkT hp2.1 (by rw[Lib.byteCells_length]; omega) hB2);have HWS2:=hid hp2.2;have HX2:=hid hx2;have HK2:=hid hk2;clear hp2 hx2 hk2 hb2
    go_wp2_with fail
    refine HWB.out.mono ?_;rintro e w3 ⟨rfl,hbf,hk3,hot⟩;have HBF:=hid hbf;have HX3:=hid (hot _ _ _ _ (by omega) pkT0 HX2.out);have HK3:=hid (HK2.out.trans hk3);have HWS3:=hid (HWS2.out.keeps hk3);have hB3:=Nat.le_trans hB2 hk3.size;clear hbf hk3 hot
    go_wp2_with (refine z1b rfl 87 (.tmp 3) rfl w.heap.size rfl 87 l _ HX3.out Tryz.underlying87 rfl (by rw[HL8.out]; exact z1w) ?_)
    have hU0:Lib.byteCells out++ [Value.int .u8 (M:Int)]=Lib.byteCells (out++ [UInt8.ofNat M]++nzL (l.take 0)):=by
     have:(UInt8.ofNat M).toNat=M:=by rw[UInt8.toNat_ofNat']; omega
     simp[Lib.byteCells,nzL]; omega
    rw[hU0] at HBF;clear hU0
    go_loopw [35] (fun i wr=>∃j:Nat,j≤8∧i= .int .i64 j∧Hid (BF 154 B b (Lib.byteCells (out++ [UInt8.ofNat M]++nzL (l.take j))) [.slice (some ⟨g,o,none⟩) 0 0] wr)∧Hid (Keeps B b w3 wr)) (fun i _=>8-(intOf i).toNat)
    case atStart=>exact ⟨0,by omega,rfl,HBF,Keeps.refl _ _ _⟩
    case round =>
     obtain ⟨j,hj,rfl,HB,HKR⟩:=hrel;have hB4:=Nat.le_trans hB3 HKR.out.size
     by_cases hj1:j<8
     · have hjl:j<l.length:=by rw[HL8.out]; exact hj1
       have hnz:=zg7 l j hjl
       have hgd:l[j]?.getD 0=l[j]:=by rw[List.getElem?_eq_getElem hjl]; rfl
       obtain ⟨c,hc⟩:∃c,l[j]=c:=⟨_,rfl⟩
       rw[hc] at hnz hgd;have hidx:=zd4 l j c HL8.out hj1 hgd;have HNZ:=hid hnz;have hnl:(nzL (l.take j)).length≤8:=Nat.le_trans (List.length_filter_le _ _) (by rw[List.length_take]; omega);clear hnz hgd hc hjl
       by_cases hz:c=0
       · have hz1:((c.toNat:Int)==0)=true:=by rw[hz]; rfl
         have hz2:((c.toNat:Int) != 0)=false:=by rw[hz]; rfl
         have HE:Hid (nzL (l.take (j+1))=nzL (l.take j)):=hid (by rw[HNZ.out,if_pos hz,List.append_nil]);clear hz;go_wp2
         go_roundw
         case rel=>exact ⟨j+1,by omega,by go_num,by rw[HE.out]; exact HB,HKR⟩
         case measure=>simp[intOf]; omega
       · have hz1:((c.toNat:Int)==0)=false:=by
          rw[beq_eq_false_iff_ne]; intro h; exact hz (UInt8.toNat_inj.1 (show c.toNat=0 by omega))
         have hz2:((c.toNat:Int) != 0)=true:=by simp[bne,hz1]
         have HE:Hid (nzL (l.take (j+1))=nzL (l.take j)++ [c]):=hid (by rw[HNZ.out,if_neg hz]);have HWB2:=hid (z42 154 B b _ [_] (c.toNat:Int) wr pkT HB.out (by rw[Lib.byteCells_length,List.length_append,List.length_append,List.length_singleton]; omega) hB4)
         have hcat:∀x:List UInt8,Lib.byteCells x++ [Value.int .u8 (c.toNat:Int)]=Lib.byteCells (x++ [c]):=fun x=>by simp[Lib.byteCells]
         have HCat:=hid hcat;clear hz hcat
         go_wp2_with fail
         refine HWB2.out.mono ?_;rintro e w5 ⟨rfl,hb5,hk5⟩;rw[HCat.out] at hb5;have HB5:=hid hb5;have HK5:=hid (HKR.out.trans hk5);clear hb5 hk5;go_wp2
         go_roundw
         case rel=>exact ⟨j+1,by omega,by go_num,by rw[HE.out,← List.append_assoc]; exact HB5,HK5⟩
         case measure=>simp[intOf]; omega
     · obtain rfl:j=8:=by omega
       have hb8:=HB.out;rw[show l.take 8=l from List.take_of_length_le (by rw[HL8.out]; exact Nat.le_refl _)] at hb8
       have HFin:Hid (∀s x,(s=pTag b∧x=packW r∧2*r.length+1≤2*r.length+2)∨(s=pNou b∧x=nouL r∧True)∨(s=pPla b∧x=plaL r∧True)→out++ [UInt8.ofNat M]++nzL l++x=R→PNext R B b k w (.returned s) wr):=hid (fun s x hs hx=>by
        have hps:PS B b (out++ [UInt8.ofNat M]++nzL l) (.slice (some ⟨g,o,none⟩) 0 0) r wr:=⟨hb8,HWS3.out.keeps HKR.out⟩
        rcases hs with ⟨rfl,rfl,_⟩ | ⟨rfl,rfl,_⟩ | ⟨rfl,rfl,_⟩
        · exact ⟨_,2*r.length+2,by rw[List.length_cons] at hk; omega,rfl,⟨_,_,_,hps,by omega,.inl ⟨rfl,hx,by omega⟩⟩,HK3.out.trans HKR.out⟩
        · exact ⟨_,2*r.length+2,by rw[List.length_cons] at hk; omega,rfl,⟨_,_,_,hps,by omega,.inr (.inl ⟨rfl,hx,by omega⟩)⟩,HK3.out.trans HKR.out⟩
        · exact ⟨_,2*r.length+2,by rw[List.length_cons] at hk; omega,rfl,⟨_,_,_,hps,by omega,.inr (.inr (.inl ⟨rfl,hx,by omega⟩))⟩,HK3.out.trans HKR.out⟩)
       have hpk:=HRR.out;rw[packW] at hpk;clear hb8;cases hzz:zerL l
       · rw[hzz,if_neg (by simp)] at hpk
         have hM0:M≠0:=fun h=>by
          have:=(z25 l).1 (by rw[HM.out]; exact h)
          rw[hzz] at this; cases this
         have hm0:((M:Int)==0)=false:=beq_eq_false_iff_ne.2 (by omega);cases hff:fullL l
         · rw[hff,if_neg (by simp),HM.out] at hpk
           have hM1:M≠255:=fun h=>by
            have:=(z2y HL8.out).1 (by rw[HM.out]; exact h)
            rw[hff] at this; cases this
           have hm1:((M:Int)==255)=false:=beq_eq_false_iff_ne.2 (by omega);have HX:=hid (HFin.out (pTag b) (packW r) (.inl ⟨rfl,rfl,by omega⟩) (by rw[← hpk]; simp));unfold pTag at HX;clear hpk hzz hff hM0 hM1;go_wp2;go_ret;exact HX.out
         · rw[hff,if_pos rfl] at hpk
           have hM1:M=255:=by rw[← HM.out]; exact (z2y HL8.out).2 hff
           have hm1:((M:Int)==255)=true:=by rw[hM1]; rfl
           have HX:=hid (HFin.out (pPla b) (plaL r) (.inr (.inr ⟨rfl,rfl,trivial⟩)) (by rw[← hpk,zfw hff,hM1,plaL]; simp));unfold pPla at HX;clear hpk hzz hff hM0 hM1;go_wp2;go_ret;exact HX.out
       · rw[hzz,if_pos rfl] at hpk
         have hM0:M=0:=by rw[← HM.out]; exact (z25 l).2 hzz
         have hm0:((M:Int)==0)=true:=by rw[hM0]; rfl
         have hnz0:nzL l= []:=by
          rw[nzL,List.filter_eq_nil_iff]
          intro x hx
          have:=List.all_eq_true.1 hzz x hx
          simpa using this
         have HX:=hid (HFin.out (pNou b) (nouL r) (.inr (.inl ⟨rfl,rfl,trivial⟩)) (by rw[← hpk,hnz0,hM0,nouL]; simp));unfold pNou at HX;clear hpk hzz hM0 hnz0;go_wp2;go_ret;exact HX.out
  · have hv:=hv2v.2 hcc
    subst hv;clear hv2v;go_enter Tryz.func97,Tryz.ntmps97
    go_wp2_with (refine wpList_load_mid rfl 87 (.tmp 17) rfl g o rfl [.int .u8 b0.toNat,.int .u8 b1.toNat,.int .u8 b2.toNat,.int .u8 b3.toNat,.int .u8 b4.toNat,.int .u8 b5.toNat,.int .u8 b6.toNat,.int .u8 b7.toNat] _ HR2.out Tryz.underlying87 rfl z1w ?_)
    rw[HW0.out,HW1.out];refine HMask.out.mono ?_;rintro e w2 ⟨rfl,hb2⟩;obtain ⟨hp2,hx2,hk2,hB2⟩:=FIN.out w2 hb2;have HWB:=hid (z3m 154 B b (Lib.byteCells out) [_] (M:Int) w2 pkT hp2.1 (by rw[Lib.byteCells_length]; omega) hB2);have HWS2:=hid hp2.2;have HX2:=hid hx2;have HK2:=hid hk2;clear hp2 hx2 hk2 hb2
    go_wp2_with fail
    refine HWB.out.mono ?_;rintro e w3 ⟨rfl,hbf,hk3,hot⟩;have HBF:=hid hbf;have HX3:=hid (hot _ _ _ _ (by omega) pkT0 HX2.out);have HK3:=hid (HK2.out.trans hk3);have HWS3:=hid (HWS2.out.keeps hk3);have hB3:=Nat.le_trans hB2 hk3.size;clear hbf hk3 hot
    go_wp2_with (refine z1b rfl 87 (.tmp 3) rfl w.heap.size rfl 87 l _ HX3.out Tryz.underlying87 rfl (by rw[HL8.out]; exact z1w) ?_)
    have hU0:Lib.byteCells out++ [Value.int .u8 (M:Int)]=Lib.byteCells (out++ [UInt8.ofNat M]++nzL (l.take 0)):=by
     have:(UInt8.ofNat M).toNat=M:=by rw[UInt8.toNat_ofNat']; omega
     simp[Lib.byteCells,nzL]; omega
    rw[hU0] at HBF;clear hU0
    go_loopw [35] (fun i wr=>∃j:Nat,j≤8∧i= .int .i64 j∧Hid (BF 154 B b (Lib.byteCells (out++ [UInt8.ofNat M]++nzL (l.take j))) [.slice (some ⟨g,o+8,none⟩) r.length (cap-1)] wr)∧Hid (Keeps B b w3 wr)) (fun i _=>8-(intOf i).toNat)
    case atStart=>exact ⟨0,by omega,rfl,HBF,Keeps.refl _ _ _⟩
    case round =>
     obtain ⟨j,hj,rfl,HB,HKR⟩:=hrel;have hB4:=Nat.le_trans hB3 HKR.out.size
     by_cases hj1:j<8
     · have hjl:j<l.length:=by rw[HL8.out]; exact hj1
       have hnz:=zg7 l j hjl
       have hgd:l[j]?.getD 0=l[j]:=by rw[List.getElem?_eq_getElem hjl]; rfl
       obtain ⟨c,hc⟩:∃c,l[j]=c:=⟨_,rfl⟩
       rw[hc] at hnz hgd;have hidx:=zd4 l j c HL8.out hj1 hgd;have HNZ:=hid hnz;have hnl:(nzL (l.take j)).length≤8:=Nat.le_trans (List.length_filter_le _ _) (by rw[List.length_take]; omega);clear hnz hgd hc hjl
       by_cases hz:c=0
       · have hz1:((c.toNat:Int)==0)=true:=by rw[hz]; rfl
         have hz2:((c.toNat:Int) != 0)=false:=by rw[hz]; rfl
         have HE:Hid (nzL (l.take (j+1))=nzL (l.take j)):=hid (by rw[HNZ.out,if_pos hz,List.append_nil]);clear hz;go_wp2
         go_roundw
         case rel=>exact ⟨j+1,by omega,by go_num,by rw[HE.out]; exact HB,HKR⟩
         case measure=>simp[intOf]; omega
       · have hz1:((c.toNat:Int)==0)=false:=by
          rw[beq_eq_false_iff_ne]; intro h; exact hz (UInt8.toNat_inj.1 (show c.toNat=0 by omega))
         have hz2:((c.toNat:Int) != 0)=true:=by simp[bne,hz1]
         have HE:Hid (nzL (l.take (j+1))=nzL (l.take j)++ [c]):=hid (by rw[HNZ.out,if_neg hz]);have HWB2:=hid (z42 154 B b _ [_] (c.toNat:Int) wr pkT HB.out (by rw[Lib.byteCells_length,List.length_append,List.length_append,List.length_singleton]; omega) hB4)
         have hcat:∀x:List UInt8,Lib.byteCells x++ [Value.int .u8 (c.toNat:Int)]=Lib.byteCells (x++ [c]):=fun x=>by simp[Lib.byteCells]
         have HCat:=hid hcat;clear hz hcat
         go_wp2_with fail
         refine HWB2.out.mono ?_;rintro e w5 ⟨rfl,hb5,hk5⟩;rw[HCat.out] at hb5;have HB5:=hid hb5;have HK5:=hid (HKR.out.trans hk5);clear hb5 hk5;go_wp2
         go_roundw
         case rel=>exact ⟨j+1,by omega,by go_num,by rw[HE.out,← List.append_assoc]; exact HB5,HK5⟩
         case measure=>simp[intOf]; omega
     · obtain rfl:j=8:=by omega
       have hb8:=HB.out;rw[show l.take 8=l from List.take_of_length_le (by rw[HL8.out]; exact Nat.le_refl _)] at hb8
       have HFin:Hid (∀s x,(s=pTag b∧x=packW r∧2*r.length+1≤2*r.length+2)∨(s=pNou b∧x=nouL r∧True)∨(s=pPla b∧x=plaL r∧True)→out++ [UInt8.ofNat M]++nzL l++x=R→PNext R B b k w (.returned s) wr):=hid (fun s x hs hx=>by
        have hps:PS B b (out++ [UInt8.ofNat M]++nzL l) (.slice (some ⟨g,o+8,none⟩) r.length (cap-1)) r wr:=⟨hb8,HWS3.out.keeps HKR.out⟩
        rcases hs with ⟨rfl,rfl,_⟩ | ⟨rfl,rfl,_⟩ | ⟨rfl,rfl,_⟩
        · exact ⟨_,2*r.length+2,by rw[List.length_cons] at hk; omega,rfl,⟨_,_,_,hps,by omega,.inl ⟨rfl,hx,by omega⟩⟩,HK3.out.trans HKR.out⟩
        · exact ⟨_,2*r.length+2,by rw[List.length_cons] at hk; omega,rfl,⟨_,_,_,hps,by omega,.inr (.inl ⟨rfl,hx,by omega⟩)⟩,HK3.out.trans HKR.out⟩
        · exact ⟨_,2*r.length+2,by rw[List.length_cons] at hk; omega,rfl,⟨_,_,_,hps,by omega,.inr (.inr (.inl ⟨rfl,hx,by omega⟩))⟩,HK3.out.trans HKR.out⟩)
       have hpk:=HRR.out;rw[packW] at hpk;clear hb8;cases hzz:zerL l
       · rw[hzz,if_neg (by simp)] at hpk
         have hM0:M≠0:=fun h=>by
          have:=(z25 l).1 (by rw[HM.out]; exact h)
          rw[hzz] at this; cases this
         have hm0:((M:Int)==0)=false:=beq_eq_false_iff_ne.2 (by omega);cases hff:fullL l
         · rw[hff,if_neg (by simp),HM.out] at hpk
           have hM1:M≠255:=fun h=>by
            have:=(z2y HL8.out).1 (by rw[HM.out]; exact h)
            rw[hff] at this; cases this
           have hm1:((M:Int)==255)=false:=beq_eq_false_iff_ne.2 (by omega);have HX:=hid (HFin.out (pTag b) (packW r) (.inl ⟨rfl,rfl,by omega⟩) (by rw[← hpk]; simp));unfold pTag at HX;clear hpk hzz hff hM0 hM1;go_wp2;go_ret;exact HX.out
         · rw[hff,if_pos rfl] at hpk
           have hM1:M=255:=by rw[← HM.out]; exact (z2y HL8.out).2 hff
           have hm1:((M:Int)==255)=true:=by rw[hM1]; rfl
           have HX:=hid (HFin.out (pPla b) (plaL r) (.inr (.inr ⟨rfl,rfl,trivial⟩)) (by rw[← hpk,zfw hff,hM1,plaL]; simp));unfold pPla at HX;clear hpk hzz hff hM0 hM1;go_wp2;go_ret;exact HX.out
       · rw[hzz,if_pos rfl] at hpk
         have hM0:M=0:=by rw[← HM.out]; exact (z25 l).2 hzz
         have hm0:((M:Int)==0)=true:=by rw[hM0]; rfl
         have hnz0:nzL l= []:=by
          rw[nzL,List.filter_eq_nil_iff]
          intro x hx
          have:=List.all_eq_true.1 hzz x hx
          simpa using this
         have HX:=hid (HFin.out (pNou b) (nouL r) (.inr (.inl ⟨rfl,rfl,trivial⟩)) (by rw[← hpk,hnz0,hM0,nouL]; simp));unfold pNou at HX;clear hpk hzz hM0 hnz0;go_wp2;go_ret;exact HX.out
theorem PJ.ended {R:List UInt8}{B b k:Nat}{w:World}(h:PJ R B b k .nilFunc w):∃v ws,PS B b R v ws w:=by
 obtain ⟨out,v,ws,hp,_,h | h | h | h⟩:=h
 · cases h.1
 · cases h.1
 · cases h.1
 · exact ⟨v,ws,h.2 ▸ hp⟩
theorem zpp (R:List UInt8)(B b k:Nat)(v:Value)(w:World)(h:PJ R B b k v w)(hBw:B≤w.heap.size)(hRl:R.length≤100000) :
 Calls Tryz.prog 98 #[v] w fun e w'=>e= .returned (.tuple #[])∧(∃k',PJ R B b k' .nilFunc w')∧Keeps B b w w':=by
 have H:=hid h;clear h;go_enter Tryz.func98,Tryz.ntmps98
 go_wp2_with fail
 go_loopg [0] k (fun k s wr=>Hid (PJ R B b k s wr)∧Hid (Keeps B b w wr))
 case atStart=>exact ⟨H,Keeps.refl _ _ _⟩
 case round =>
  obtain ⟨HJ,HK⟩:=hrel;have hB:=Nat.le_trans hBw HK.out.size;obtain ⟨out,v0,ws,hp,hl,⟨rfl,hR,hk⟩ | ⟨rfl,hR,hk⟩ | ⟨rfl,hR,hk⟩ | ⟨rfl,hR⟩⟩:=HJ.out
  · have HN:=hid (zld R B b gk out v0 ws wr hp hl hR hk hRl hB)
    clear hp hR hk HJ;unfold pTag;have hneq:=z9l
    go_wp2_with fail
    refine HN.out.mono ?_;rintro e w4 ⟨v,k',hk',rfl,hj4,hk4⟩;have HJ4:=hid hj4;have HK4:=hid (HK.out.trans hk4);clear hj4 hk4;go_wp2
    go_roundg k'
    case measure=>exact hk'
    case rel=>exact ⟨HJ4,HK4⟩
  · have HN:=hid (zkb R B b gk out v0 ws wr hp hl hR hk hRl hB)
    clear hp hR hk HJ;unfold pNou;have hneq:=z9l
    go_wp2_with fail
    refine HN.out.mono ?_;rintro e w4 ⟨v,k',hk',rfl,hj4,hk4⟩;have HJ4:=hid hj4;have HK4:=hid (HK.out.trans hk4);clear hj4 hk4;go_wp2
    go_roundg k'
    case measure=>exact hk'
    case rel=>exact ⟨HJ4,HK4⟩
  · have HN:=hid (zk1 R B b gk out v0 ws wr hp hl hR hk hRl hB)
    clear hp hR hk HJ;unfold pPla;have hneq:=z9l
    go_wp2_with fail
    refine HN.out.mono ?_;rintro e w4 ⟨v,k',hk',rfl,hj4,hk4⟩;have HJ4:=hid hj4;have HK4:=hid (HK.out.trans hk4);clear hj4 hk4;go_wp2
    go_roundg k'
    case measure=>exact hk'
    case rel=>exact ⟨HJ4,HK4⟩
  · clear hp hR
    have hneq:=zn6;go_wp2
    go_end0
    exact ⟨rfl,⟨gk,HJ.out⟩,HK.out⟩
open Go.RowKit Go.Shelf
attribute [local go_sem] Oper.semAt_some
abbrev W8:= { l:List UInt8 // l.length=8 }
def wordQ (l:List UInt8)(i:Nat):W8:=⟨(l.drop (8*i)++ [0,0,0,0,0,0,0,0]).take 8,by simp⟩
theorem zcx (l:List UInt8)(i:Nat)(h:8*i+8≤l.length):(wordQ l i).1=(l.drop (8*i)).take 8:=by
 show List.take 8 (l.drop (8*i)++ [0,0,0,0,0,0,0,0])=_
 rw[List.take_append_of_le_length (by simp; omega)]
def z15 (l:List UInt8):List W8:=(List.range (l.length/8)).map (wordQ l)
theorem z2m (l:List UInt8):(z15 l).length=l.length/8:=by simp[z15]
theorem zaf (l:List UInt8)(k:Nat):(List.range (k+1)).map (wordQ l)=(List.range k).map (wordQ l)++ [wordQ l k]:=by rw[List.range_succ,List.map_append]; rfl
theorem zpt (l:List UInt8)(k:Nat)(h:k≤l.length/8):(List.range k).map (wordQ l) <+: z15 l:=by
 obtain ⟨j,hj⟩:∃j,l.length/8=k+j:=⟨l.length/8-k,by omega⟩
 rw[z15,hj,List.range_add,List.map_append];exact List.prefix_append _ _
def zkl (Bn:Nat)(A B:World):Prop:=B.heap[Bn]? =A.heap[Bn]?
theorem zak {w w':World}(h:Below w.heap.size w w'):w.grownBy w' none:=⟨h.os,h.tape,h.output,h.size,fun k hk _=>h.block k hk⟩
theorem zm1 (n:Nat)(_hn:1≤n)(l Bn:Nat)(s:ByteArray)(hs:s.size≤maxLen)(J Jx:List W8→World→Prop)(W:World)(hJ:AbidesFrom W.heap.size J)
 (hY:∀pre x W1,J pre W1→pre.length<s.size/8→YieldAt Fence.wide (n-1) Tryz.prog l #[.agg (wd x.1)] W1 fun e W' =>
  (e= .returned (.bool true)∧J (pre++ [x]) W'∧zkl Bn W1 W')∨(e= .returned (.bool false)∧Jx (pre++ [x]) W'))
 (hBn:W.heap[Bn]? =some (.cells #[.string s] 9 (0,0))) (h0:J [] W) :
 CallsIn Fence.wide n Tryz.prog 138 #[.func (.yield l) #[] #[],.pointer (some ⟨Bn,0,none⟩)] W fun e W'=>(∃v,e= .returned v) ∧
  ((∃ys,ys=z15 s.data.toList∧J ys W')∨(∃pre,pre <+: z15 s.data.toList∧Jx pre W')):=by
 have hs':=hs;unfold maxLen at hs'
 have hsl:s.data.toList.length=s.size:=by simp
 have HSL:=hid hsl;clear hsl;have hBlt:=(Array.getElem?_eq_some_iff.1 hBn).1;have hc0:=Boxed.cell (t:=9) hBn;refine callsIn_of_wp Tryz.func138 rfl trivial ?_ rfl
 simp only[Tryz.ntmps138,List.size_toArray,List.length_cons,List.length_nil,Nat.reduceAdd,Nat.reduceSub,Array.replicate_succ,Array.replicate_zero,List.push_toArray,List.append_toArray,List.nil_append,List.cons_append]
 gi_wp2
 gi_loopw [3,7] (fun _ i wr=>∃k:Nat,k≤s.size/8∧i= .int .i64 k∧J ((List.range k).map (wordQ s.data.toList)) wr∧Hid (wr.heap[Bn]? =some (.cells #[.string s] 9 (0,0)))) (fun _ i _=>s.size/8-(intOf i).toNat)
 case atStart=>exact ⟨0,by omega,rfl,h0,hBn⟩
 case round =>
  obtain ⟨k,hk,rfl,hJs,HB⟩:=hrel
  by_cases hk1:k<s.size/8
  · have hcell:=Boxed.cell (t:=9) HB.out
    have hlt1:decide ((k:Int)<(s.size:Int)/8)=true:=by simp; omega
    gi_wp2_with fail
    have hwq:=zcx s.data.toList k (by rw[HSL.out]; omega);have HWQ:=hid hwq;clear hwq;refine ⟨trivial,(callsIn_wide.2 (zbz s k _ hs (by omega) (by omega))).mono ?_⟩;rintro e w1 ⟨rfl,hb1⟩;rw[Int.toNat_natCast,← HWQ.out];have hJ1:=hJ _ _ _ none hJs (zak hb1) (fun r e=>by cases e);have HB1:Hid (w1.heap[Bn]? =some (.cells #[.string s] 9 (0,0))):=hid ((hb1.block Bn (Array.getElem?_eq_some_iff.1 HB.out).1).trans HB.out);obtain ⟨fn,tmps,assign,body,hy,hR⟩:=hY _ (wordQ s.data.toList k) w1 hJ1 (by simpa using hk1);clear hb1 hcell;generalize hx:wd (wordQ s.data.toList k).1=x at hy ⊢;have HX:=hid hx;clear hx
    gi_wp2
    refine hR.mono ?_;rintro e W3 (⟨rfl,hJ3,hk3⟩ | ⟨rfl,hJx3⟩)
    · gi_wp2
      go_roundw
      case rel=>exact ⟨k+1,by omega,by go_num,by rw[zaf]; exact hJ3,hk3.trans HB1.out⟩
      case measure=>simp[intOf]; omega
    · gi_wp2
      refine bodyPost_ret (results_none rfl _ _ _) rfl ?_;exact ⟨⟨_,rfl⟩,.inr ⟨_,by rw[← zaf]; exact zpt _ _ (by rw[HSL.out]; omega),hJx3⟩⟩
  · obtain rfl:k=s.size/8:=by omega
    have hlt1:decide (((s.size/8:Nat):Int)<(s.size:Int)/8)=false:=by simp
    gi_wp2
    go_end0
    exact ⟨⟨_,rfl⟩,.inl ⟨_,by rw[z15,HSL.out],hJs⟩⟩
theorem za3 (n:Nat)(hn:1≤n)(Bn:Nat)(s:ByteArray)(hs:s.size≤maxLen)(w:World)(hBn:w.heap[Bn]? =some (.cells #[.string s] 9 (0,0))) :
 SeqStopsK Fence.wide n Tryz.prog 138 #[.pointer (some ⟨Bn,0,none⟩)] (fun x:W8=> #[Value.agg (wd x.1)]) (zkl Bn) (fun ys=>ys=z15 s.data.toList) (fun pre=>pre <+: z15 s.data.toList) (s.size/8) w:=fun l J Jx W hW hJ _ hY h0 =>
 zm1 n hn l Bn s hs J Jx W hJ hY ((hW.block Bn (Array.getElem?_eq_some_iff.1 hBn).1).trans hBn) h0
end Go.Proofs.YtlbfffokkhccaaaGreatDoor
namespace Go.Proofs.YtlbfffokkhccaaaGreatDoor
open Go.RowKit Go.Shelf
attribute [local go_sem] Oper.semAt_some
theorem zin {w:World}{B:Nat}{x:W8}{T:TypeId}(h:w.heap[B]? =some (.cells (wd x.1) T (0,0))) :
 ∃b0 b1 b2 b3 b4 b5 b6 b7:UInt8,x.1= [b0,b1,b2,b3,b4,b5,b6,b7] ∧
  w.cell? ⟨B,0,none⟩=some (.int .u8 b0.toNat)∧w.cell? ⟨B,1,none⟩=some (.int .u8 b1.toNat)∧w.cell? ⟨B,2,none⟩=some (.int .u8 b2.toNat)∧w.cell? ⟨B,3,none⟩=some (.int .u8 b3.toNat) ∧
  w.cell? ⟨B,4,none⟩=some (.int .u8 b4.toNat)∧w.cell? ⟨B,5,none⟩=some (.int .u8 b5.toNat)∧w.cell? ⟨B,6,none⟩=some (.int .u8 b6.toNat)∧w.cell? ⟨B,7,none⟩=some (.int .u8 b7.toNat):=by
 obtain ⟨b0,b1,b2,b3,b4,b5,b6,b7,hx⟩:=len8 x.2;rw[hx,wd8] at h;refine ⟨b0,b1,b2,b3,b4,b5,b6,b7,hx,?_,?_,?_,?_,?_,?_,?_,?_⟩
 all_goals (rw[cell_of_row _ _ _ _ _ _ h]; rfl)
theorem zfc (n:Nat)(s:ByteArray)(w:World) :
 CallsIn Fence.wide n Tryz.prog 96 #[.string s] w fun e w'=>e= .returned (.func (.func 138) #[] #[.pointer (some ⟨w.heap.size,0,none⟩)])∧w'=w.alloc (.cells #[.string s] 9):=by
 refine callsIn_of_wp Tryz.func96 rfl trivial ?_ rfl
 simp only[Tryz.ntmps96,List.size_toArray,List.length_cons,List.length_nil,Nat.reduceAdd,Nat.reduceSub,Array.replicate_succ,Array.replicate_zero,List.push_toArray,List.append_toArray,List.nil_append,List.cons_append]
 gi_wp2
 go_ret;exact ⟨rfl,rfl⟩
theorem zs4:(Tryz.prog.info? 87).map (fun i=>(i.zero,i.size,i.bytes))=some (some (.agg #[.int .u8 0,.int .u8 0,.int .u8 0,.int .u8 0,.int .u8 0,.int .u8 0,.int .u8 0,.int .u8 0]),8,8):=by kernel_rfl
theorem zkf (w:World)(xs:Array Value)(t:TypeId):∀j u,xs.toList[j]? =some u→(w.alloc (.cells xs t)).cell? (Addr.add ⟨w.heap.size,0,none⟩ j)=some u:=fun j u h=>by
 rw[show Addr.add ⟨w.heap.size,0,none⟩ j=⟨w.heap.size,j,none⟩ by cases j <;> simp[Addr.add],cell_of_row _ _ _ _ _ _ (heap_alloc_new w _)]
 simpa using h
def wl (l:List W8):List (List UInt8):=l.map (·.1)
theorem z9w (l:List W8):(wl l).length=l.length:=by simp[wl]
theorem zb7 (l:List W8):Wds (wl l):=fun x hx=>by
 obtain ⟨y,_,rfl⟩:=List.mem_map.1 hx;exact y.2
theorem zqz (l:List W8)(x:W8):(wl (l++ [x])).flatten=(wl l).flatten++x.1:=by simp[wl]
def Coll (B:Nat)(v:Value)(l:List W8)(W:World):Prop:=W.ownsRow B 87 8 v l.length (Lib.byteCells (wl l).flatten)
theorem tne:114≠87:=by decide
theorem ze0 (s:ByteArray)(w:World)(hs:s.size≤1600)(Bn:Nat)(hBn:Boxed w Bn 9 (.string s)) :
 CallsIn Fence.wide 5 Tryz.prog 137 #[.slice none 0 0,.func (.func 138) #[] #[.pointer (some ⟨Bn,0,none⟩)]] w fun e w'=>∃v,e= .returned v∧Coll w.heap.size v (z15 s.data.toList) w'∧Below w.heap.size w w':=by
 have hsl:s.data.toList.length=s.size:=by simp
 obtain ⟨i0,hi,hz0,hz1,hz2⟩:=info_parts zs4;refine callsIn_of_wp_marks Tryz.func137 rfl trivial ?_ rfl
 simp only[Tryz.ntmps137,List.size_toArray,List.length_cons,List.length_nil,Nat.reduceAdd,Nat.reduceSub,Array.replicate_succ,Array.replicate_zero,List.push_toArray,List.append_toArray,List.nil_append,List.cons_append]
 gi_wp2_with fail
 have hbn:=hBn.lt;have bS:=Boxed.new w 114 (.slice none 0 0);have bT:=hBn.alloc (.cells #[.slice none 0 0] 114);have hB0:Below w.heap.size w (w.alloc (.cells #[.slice none 0 0] 114)):=(Below.refl _ w).alloc (Nat.le_refl _) _
 have hsz:(w.alloc (.cells #[.slice none 0 0] 114)).heap.size=w.heap.size+1:=by simp
 obtain ⟨W0,hW0⟩:∃W0,(w.alloc (.cells #[.slice none 0 0] 114))=W0:=⟨_,rfl⟩
 rw[hW0] at bS bT hB0 hsz ⊢;clear hW0
 refine wpIn_rangeFunc_ownH rfl (by decide) (gf:=138) (lb:= #[.pointer (some ⟨Bn,0,none⟩)]) rfl trivial (enters_of Tryz.func138 (by kernel_rfl) rfl)
  (za3 4 (by decide) Bn s (by unfold maxLen; omega) W0 bT) (fun h k=>k.trans h) (fun W l o o' hl h _ _=>(grownBy_putObj' W l o').block _ (by have:=(Array.getElem?_eq_some_iff.1 h).1; omega) (by intro e; cases e; omega)) (Below.refl _ _) (fun _=>rfl)
  (fun pre W=>(∃v,Boxed W w.heap.size 114 v∧W.ownsRow w.heap.size 87 8 v pre.length (Lib.byteCells (wl pre).flatten)∧True)∧Below w.heap.size w W)
  (fun _ _ _=>False)
  (OwnFrom.and (Own.from (holdsRow_own w.heap.size w.heap.size 114 87 8 (fun pre:List W8=>pre.length) (fun pre=>Lib.byteCells (wl pre).flatten) (fun _ _=>True)) _) (ownFrom_below (Nat.le_refl _) (by omega)))
  (fun _ _ _ _ _ hs _ _=>hs)
  ⟨⟨_,bS,⟨rfl,.inl ⟨rfl,rfl⟩⟩,trivial⟩,hB0⟩
  (fun x a' W=>∃Bx,w.heap.size<Bx∧W.heap[Bx]? =some (.cells (wd x.1) 87 (0,0))∧a'= { tmps:= #[.slice none 0 0,.func (.func 138) #[] #[.pointer (some ⟨Bn,0,none⟩)],.pointer (some ⟨w.heap.size,0,none⟩),undef,.slice none 0 0,.pointer (some ⟨Bx,0,none⟩),.func (.func 138) #[] #[.pointer (some ⟨Bn,0,none⟩)],.agg (wd x.1),undef,undef,undef,undef,undef],defers:= [] })
  (fun x a' _ X Y row hs hg hr=>by
   obtain ⟨Bx,h1,h2,h3⟩:=hs;refine ⟨Bx,h1,(hg.block Bx (Array.getElem?_eq_some_iff.1 h2).1 (fun e=>?_)).trans h2,h3⟩;obtain ⟨_,o,ho,hcl⟩:=hr Bx e.symm
   rw[h2] at ho; cases ho; cases hcl)
  ?assign ?body ?done ?stop
 case assign =>
  rintro l pre x W K ⟨⟨v,bV,hrow,_⟩,hB1⟩ hK;obtain ⟨b0,b1,b2,b3,b4,b5,b6,b7,hx⟩:=len8 x.2
  simp only[hx,wd8] at hK ⊢
  gi_wp2
  exact hK _ _ ((KeepsOthers.alloc _ _).from _) (Below.heap_alloc W _ _ (Nat.lt_of_lt_of_le hbn hB1.size)) ⟨⟨v,bV.alloc _,hrow.alloc _,trivial⟩,hB1.alloc hB1.size _⟩ ⟨W.heap.size,bV.lt,heap_alloc_new W _,rfl⟩
 case body =>
  rintro l pre x a' W hl ⟨r,hr⟩ ⟨⟨v,bV,hrow,_⟩,hB1⟩ ⟨Bx,hBx,bX,rfl⟩ hlt;obtain ⟨b0,b1,b2,b3,b4,b5,b6,b7,hx,c0,c1,c2,c3,c4,c5,c6,c7⟩:=zin bX;have cV:=bV.cell;have fV:=bV.frozen
  have hp:pre.length≤200:=by omega
  have hn0:=hB1.size;have HX:=hid hx;have hsn:=zqz pre x
  have hap:∀(w1:World) (v':Value),w1.ownsRow w.heap.size 87 8 v' (pre.length+1) (Lib.byteCells (wl pre).flatten++ [.int .u8 b0.toNat,.int .u8 b1.toNat,.int .u8 b2.toNat,.int .u8 b3.toNat,.int .u8 b4.toNat,.int .u8 b5.toNat,.int .u8 b6.toNat,.int .u8 b7.toNat])→w1.ownsRow w.heap.size 87 8 v' (pre++ [x]).length (Lib.byteCells (wl (pre++ [x])).flatten):=fun _ _ h=>by
   rw[hsn,hx,List.length_append,List.length_singleton]
   simpa [Lib.byteCells] using h
  have HAP:=hid hap;clear hsn hap hx
  gi_wp2_with (gi_at_builtin; go_must (refine wpListIn_append_own _ rfl (.tmp 8) (.tmp 10) 114 rfl w.heap.size 87 i0 _ 8 8 Tryz.underlying114 hi hz0 hz1 hz2 rfl (by decide) v _ _ rfl (hrow.alloc _) ⟨W.heap.size,0,none⟩ 1 1 [.int .u8 b0.toNat,.int .u8 b1.toNat,.int .u8 b2.toNat,.int .u8 b3.toNat,.int .u8 b4.toNat,.int .u8 b5.toNat,.int .u8 b6.toNat,.int .u8 b7.toNat] rfl rfl (zkf W #[_,_,_,_,_,_,_,_] _) (by simp[Value.oneCell']) (by unfold maxLen; omega) (by omega) (by simp; omega) ?_); intro v' w1 hown' hgrow _; obtain ⟨h1,h2,h3,h4,h5⟩:=bV.appended tne hrow hn0 (Nat.le_refl _) hown' hgrow; have e1:=h1.cell; have e2:=h1.frozen; obtain ⟨g',cap',rfl⟩:=ownsRow_succ hown')
  have H2:=hid h2;have H3:=hid (HAP.out _ _ h3);clear h2 h3 hown' hgrow
  gi_wp2
  exact ⟨h4.from _,h5.block _ hbn,⟨_,H2.out,H3.out,trivial⟩,hB1.trans h5⟩
 case done =>
  rintro D zs W hD rfl ⟨⟨v,bV,hrow,_⟩,hB1⟩ hK;have cE:=bV.cell
  gi_wp2
  refine ⟨by simp,.inl ⟨_,_,rfl,run_takeDeferred hK,?_⟩⟩;exact ⟨_,results_tmp rfl _ _ _,v,rfl,ownsRow_putObj hrow _ hK rfl,hB1.trans (belowK_b (w:=w) (Nat.le_refl _) W D _ _ (by omega) hK rfl rfl)⟩
 case stop =>
  rintro D c pre W _ _ h _;exact h.elim
theorem zjf (s:ByteArray)(w:World)(hs:s.size≤1600)(Bn:Nat)(hBn:Boxed w Bn 9 (.string s)) :
 CallsIn Fence.wide 6 Tryz.prog 95 #[.func (.func 138) #[] #[.pointer (some ⟨Bn,0,none⟩)]] w fun e w'=>∃v,e= .returned v∧Coll w.heap.size v (z15 s.data.toList) w'∧Below w.heap.size w w':=by
 have HA:=hid (ze0 s w hs Bn hBn);refine callsIn_of_wp Tryz.func95 rfl trivial ?_ rfl
 simp only[Tryz.ntmps95,List.size_toArray,List.length_cons,List.length_nil,Nat.reduceAdd,Nat.reduceSub,Array.replicate_succ,Array.replicate_zero,List.push_toArray,List.append_toArray,List.nil_append,List.cons_append]
 gi_wp2_with fail
 refine ⟨trivial,HA.out.mono ?_⟩;rintro e w1 ⟨v,rfl,h1,h2⟩
 gi_wp2
 go_ret;exact ⟨v,rfl,h1,h2⟩
end Go.Proofs.YtlbfffokkhccaaaGreatDoor
namespace Go.Proofs.YtlbfffokkhccaaaGreatDoor
open Go.RowKit
def packB (l:List UInt8):List UInt8:=if z1d l.length then packW (wl (z15 l)) else []
theorem Coll.ws {B:Nat}{v:Value}{l:List W8}{W:World}(h:Coll B v l W):∃A cap,v= .slice A (wl l).length cap∧∀b,W.heap.size≤b→WS (b+1) b W v (wl l):=by
 have hr:=h
 rcases hr.2 with ⟨rfl,h0⟩ | ⟨g,cap,cur,rfl,hB,hg,h1,h2,h3,h4⟩
 · have hl:wl l= []:=by rw[List.eq_nil_of_length_eq_zero h0]; rfl
   exact ⟨none,0,by rw[hl]; rfl,fun b hb=>by rw[hl]; exact WS.empty _ _ _ _ _ (by omega)⟩
 · have hlt:=(Array.getElem?_eq_some_iff.1 hg).1
   refine ⟨some ⟨g,0,none⟩,cap,by rw[z9w],fun b hb=>⟨some ⟨g,0,none⟩,cap,by rw[z9w],by rw[z9w]; exact h1,by unfold maxLen at h2; omega,zb7 l,.inr ⟨g,0,rfl,by omega,by omega,fun j u hu=>?_⟩⟩⟩;rw[Nat.zero_add,cell_of_row _ _ _ _ _ _ hg];rw[← h4,List.getElem?_take] at hu
   split at hu
   · simpa using hu
   · cases hu
theorem ze8 (s:ByteArray)(w:World)(hs:s.size≤maxLen) :
 Calls Tryz.prog 50 #[.string s] w fun e w'=>e= .returned (.string ⟨(packB s.data.toList).toArray⟩)∧Below w.heap.size w w':=by
 have hsl:s.data.toList.length=s.size:=by simp
 cases hw:z1d s.size
 · have hT:packB s.data.toList= []:=by rw[packB,hsl,hw,if_neg (by simp)]
   rw[hT];clear hsl hT;go_enter Tryz.func50,Tryz.ntmps50
   go_wp2_with (go_at_call 48; refine (z2w _ _ hs).mono ?_; rintro e w' ⟨rfl,rfl⟩)
   go_ret;exact ⟨rfl,Below.refl _ _⟩
 · have hT:packB s.data.toList=packW (wl (z15 s.data.toList)):=by rw[packB,hsl,hw,if_pos rfl]
   have hw8:s.size%8=0∧s.size≤1600:=by simpa [z1d] using hw
   have hwl:(wl (z15 s.data.toList)).length≤200:=by rw[z9w,z2m,hsl]; omega
   have hpl:=zc3 (zb7 (z15 s.data.toList));rw[hT];have HCo:=hid (fun Wx h=>callsIn_wide.1 (zjf s Wx hw8.2 w.heap.size h));clear hsl hT hw8;generalize hws:z15 s.data.toList=wq at HCo hwl hpl ⊢
   obtain ⟨R,hR⟩:∃R,packW (wl wq)=R:=⟨_,rfl⟩
   rw[hR] at hpl ⊢;have HR:=hid hR;have HWl:=hid hwl;have HRl:Hid (R.length≤100000):=hid (by omega);clear hws hR hwl hpl;go_enter Tryz.func50,Tryz.ntmps50
   go_wp2_with (first | (go_at_call 48; refine (z2w _ _ hs).mono ?_; rintro e w' ⟨rfl,rfl⟩; rw[hw]) | (go_at_call 96; refine (callsIn_wide.1 (zfc 5 s _)).mono ?_; rintro e w' ⟨rfl,rfl⟩))
   refine (HCo.out _ (Boxed.new w 9 (.string s))).mono ?_;rintro e w1 ⟨v,rfl,hcoll,hb1⟩;obtain ⟨A,cap,rfl,hws⟩:=hcoll.ws;have hWS:=hws w1.heap.size (Nat.le_refl _);have hbb1:Below w.heap.size w w1:=((Below.refl _ w).alloc (Nat.le_refl _) (.cells #[.string s] 9)).trans (hb1.mono (by simp));clear hws hcoll hb1;generalize hn:(wl wq).length=n at hWS HWl;have HN:=hid hn;have h0:=heap_alloc_new w1 (.cells #[.pointer none,.slice none 0 0,.slice A n cap] 154);have hb0:Below w1.heap.size w1 (w1.alloc (.cells #[.pointer none,.slice none 0 0,.slice A n cap] 154)):=(Below.refl _ _).alloc (Nat.le_refl _) _
   obtain ⟨w2,hw2⟩:∃w2,w1.alloc (.cells #[.pointer none,.slice none 0 0,.slice A n cap] 154)=w2:=⟨_,rfl⟩
   have hsz:w2.heap.size=w1.heap.size+1:=by rw[← hw2]; simp
   rw[hw2] at h0 hb0
   have hU:PS (w1.heap.size+1) w1.heap.size [] (.slice A n cap) (wl wq) w2:=by
    refine ⟨BF.fresh (w1.heap.size+1) h0,?_⟩;obtain ⟨A',cap',e1,e2,e3,e4,e5⟩:=hWS;refine ⟨A',cap',e1,e2,e3,e4,e5.imp id ?_⟩;rintro ⟨g,o,ha,hg,hne,hr⟩;exact ⟨g,o,ha,hg,hne,fun j u hu=>(hb0.cell (p:=⟨g,o+j,none⟩) (show g<w1.heap.size by omega)).trans (hr j u hu)⟩
   have hrun:=zpp R (w1.heap.size+1) w1.heap.size _ (pTag w1.heap.size) w2 ⟨[],_,_,hU,by rw[hn]; exact HWl.out,.inl ⟨rfl,by rw[List.nil_append]; exact HR.out,Nat.le_refl _⟩⟩ (by omega) HRl.out;have HRun:=hid hrun;have HW2:=hid hw2;have HB0:=hid (hbb1.trans (hb0.mono hbb1.size));have HLe:=hid hbb1.size;clear h0 hb0 hU hrun hw2 hWS hbb1 hn;unfold pTag at HRun
   go_wp2_with fail
   rw[HW2.out];refine HRun.out.mono ?_;rintro e w3 ⟨rfl,⟨k,hj⟩,hk⟩;have HK:=hid (HB0.out.trans (hk.below (Nat.le_trans HLe.out (Nat.le_succ _)) HLe.out));have hB2:=hk.size;obtain ⟨v',ws',hp⟩:=hj.ended;have HS:=hid (z8z 154 (w1.heap.size+1) w1.heap.size R [v'] w3 hp.1 (by omega));clear hj hp hk
   go_wp2_with fail
   refine HS.out.mono ?_;rintro e w4 ⟨rfl,hb3⟩;have HB3:=hid (HK.out.trans (hb3.mono (Nat.le_trans HLe.out (Nat.le_succ _))));clear hb3;go_wp2;go_ret;exact ⟨rfl,HB3.out⟩
end Go.Proofs.YtlbfffokkhccaaaGreatDoor
