/- Texts of the proof of the law FnRecordCanon, side by side: part 21. -/
import Derived.Test.YtblcibgphccfkaaGreatDoorMRecordCanon20
set_option maxHeartbeats 8000000
set_option maxRecDepth 100000
open Go.Lib (hid)
namespace Go.Proofs.YtblcibgphccfkaaGreatDoor
open Go.RowKit
def DataP (R g:Nat)(v1 v2:Value)(a:Nat)(s':PS)(w:World)(e:Ending)(w':World):Prop :=
 e= .returned (.int .i64 (a:Int))∧Sl w' R g v1 v2 s'∧Below R w w'∧Fr g g w w'
def partF (k t:Nat)(s:LS):LS:=⟨s.words+1,fun i=>if t<i∧i≤k then 2^i*s.words+1 else s.hole i⟩
theorem z2o (k:Nat)(s:LS):partF k k s=⟨s.words+1,s.hole⟩:=by
 unfold partF
 congr 1
 funext i
 rw[if_neg (by omega)]
theorem z48 (k:Nat)(s:LS):partF k 0 s=zfg k s:=rfl
theorem z39 (k t:Nat)(s:LS)(h:t+1≤k):(⟨(partF k (t+1) s).words,upd (partF k (t+1) s).hole (t+1) (2^(t+1)*s.words+1)⟩:LS)=partF k t s:=by
 unfold partF
 congr 1
 funext i
 unfold upd
 by_cases hi:i=t+1
 · subst hi; rw[if_pos rfl,if_pos ⟨by omega,h⟩]
 · rw[if_neg hi]
   dsimp only
   by_cases hc:t+1<i∧i≤k
   · rw[if_pos hc,if_pos ⟨by omega,hc.2⟩]
   · rw[if_neg hc,if_neg (by omega)]
theorem zag (R g:Nat)(v1 v2:Value)(s:PS)(hbd:LBd 40 s.ls)(k:Nat)(c:Int)(w:World)(hc:c+k=6)(hk:k≤6)(h:Sl w R g v1 v2 s) :
 Calls Tryz.prog 101 #[.pointer (some ⟨g,0,none⟩),.int .i64 c] w (DataP R g v1 v2 (roomF k s.ls).1 { s with ls:=(roomF k s.ls).2 } w):=by
 have HR:=hid (zeo R g v1 v2 s hbd k c w hc hk h);have HM:=hid (z4r s.ls k);have HN:=hid (zbu s.ls k);have HBA:=hid (fun a=>zix hbd k a hk);have hw40:=hbd.1
 cases hh:holeF k s.ls with
 | mk o t =>
  unfold HoleP at HR;rw[hh] at HR;rw[hh] at HM HN;have HHH:=hid hh;clear h hbd
  cases o with
  | some a =>
   have ha:=HBA.out a (by rw[hh]);clear hh
   simp only[optI] at HR
   go_enter Tryz.func101,Tryz.ntmps101
   go_wp2_with fail
   refine HR.out.mono ?_;rintro e w1 ⟨rfl,hs1,hb1,hf1⟩;have HS1:=hid hs1;have HB1:=hid hb1;have HF1:=hid hf1;clear hs1 hb1 hf1;go_wp2;go_ret;rw[DataP,HM.out];exact ⟨rfl,HS1.out,HB1.out,HF1.out⟩
  | none =>
   have ht:t=s.ls:=HN.out rfl;subst ht;clear hh
   simp only[optI] at HR
   have hk7:(k=0∧c=6)∨(k=1∧c=5)∨(k=2∧c=4)∨(k=3∧c=3)∨(k=4∧c=2)∨(k=5∧c=1)∨(k=6∧c=0):=by omega
   rcases hk7 with ⟨rfl,rfl⟩ | ⟨rfl,rfl⟩ | ⟨rfl,rfl⟩ | ⟨rfl,rfl⟩ | ⟨rfl,rfl⟩ | ⟨rfl,rfl⟩ | ⟨rfl,rfl⟩
   · go_enter Tryz.func101,Tryz.ntmps101
     go_wp2_with fail
     refine HR.out.mono ?_;rintro e w1 ⟨rfl,hs1,hb1,hf1⟩;have hs2:=hs1.set_ 0 (.int .i64 ((s.ls.words:Int)+1)) { s with ls:=⟨s.ls.words+1,s.ls.hole⟩ } (by simp[z0u]) rfl;have q0:=hs1.cells.1;have f0:=z03 hs1.row 0;have HS2:=hid hs2;have HB2:=hid (hs1.set_below hb1 0 (.int .i64 ((s.ls.words:Int)+1)));have HF2:=hid (hf1.trans (Fr.set g g 0 w1 (.int .i64 ((s.ls.words:Int)+1))));clear hs1 hb1 hf1 hs2;go_wp2
     go_loopw [6,7] (fun rst i wr=>∃t:Nat,i= .int .i64 (6-(t:Int))∧t≤6∧Hid (t≤0)∧rst= .int .i64 (((2^t*s.ls.words+1:Nat)):Int)∧Hid (Sl wr R g v1 v2 { s with ls:=partF 0 t s.ls })∧Hid (Below R w wr)∧Hid (Fr g g w wr)) (fun _ i _=>(6-intOf i).toNat)
     case atStart=>exact ⟨0,by go_num,by decide,by exact hid (Nat.le_refl _),by go_num,by rw[z2o]; exact HS2,HB2,HF2⟩
     case round =>
      obtain ⟨t,rfl,ht6,HTK,rfl,HS,HB,HF⟩:=hrel
      by_cases ht0:t=0
      · subst ht0
        go_wp2;go_ret;rw[DataP,HM.out];exact ⟨z15 (by show _=((2^0*s.ls.words:Nat):Int); omega),by have:=HS.out; rw[z48] at this; exact this,HB.out,HF.out⟩
      · obtain ⟨u,rfl⟩:∃u,t=u+1:=⟨t-1,by omega⟩
        have hci:(6-((u+1:Nat):Int))+((u+1:Nat):Int)=6:=by omega
        have hc0:0≤(6-((u+1:Nat):Int)):=by omega
        have hc5:(6-((u+1:Nat):Int))<6:=by omega
        have hl1:=z47 hci hc0 { s with ls:=partF 0 (u+1) s.ls } v1 v2
        have hcn:(6-((u+1:Nat):Int))+1=6-(u:Int):=by omega
        have HCN:=hid hcn;have HCI:=hid hci;have HPS:=hid (z39 0 u s.ls HTK.out)
        have hpw:2^(u+1)=2*2^u:=by rw[Nat.pow_succ,Nat.mul_comm]
        have hp5:2^u≤2^5:=Nat.pow_le_pow_right (by decide) (by omega)
        have hrb:2^(u+1)*s.ls.words+1≤4000:=by
         have h1:=Nat.mul_le_mul hp5 hw40;rw[hpw,Nat.mul_assoc]
         simp only[show (2:Nat)^5=32 from rfl] at h1
         omega
        have hnx:(((2^(u+1)*s.ls.words+1:Nat):Int)+1)/2=((2^u*s.ls.words+1:Nat):Int):=by
         rw[hpw,Nat.mul_assoc]; omega
        have HNX:=hid hnx;have hcell1:=cell_of_row wr g (2+(6-((u+1:Nat):Int)).toNat) _ _ _ HS.out.row;rw[hl1.1] at hcell1;have hfz1:=z03 HS.out.row (2+(6-((u+1:Nat):Int)).toNat);have hs3:=HS.out.set_ (2+(6-((u+1:Nat):Int)).toNat) (.int .i64 ((2^(u+1)*s.ls.words+1:Nat):Int)) _ (hl1.2 _) rfl;rw[HPS.out] at hs3;have HS3:=hid hs3;have HB3:=hid (HS.out.set_below HB.out (2+(6-((u+1:Nat):Int)).toNat) (.int .i64 ((2^(u+1)*s.ls.words+1:Nat):Int)));have HF3:=hid (HF.out.trans (Fr.set g g (2+(6-((u+1:Nat):Int)).toNat) wr (.int .i64 ((2^(u+1)*s.ls.words+1:Nat):Int))));have HU:=hid (show u≤0 by have:=HTK.out; omega)
        have hu5:u≤5:=by omega
        clear hs3 hl1 hci hcn hpw hp5 hnx ht0 ht6
        have hr0:(0:Int)≤((2^(u+1)*s.ls.words+1:Nat):Int):=by omega
        have hr1:((2^(u+1)*s.ls.words+1:Nat):Int)≤4000:=by omega
        have hcu:=HCN.out;have HCU:=hid hcu;clear hrb hcu;generalize ((2^(u+1)*s.ls.words+1:Nat):Int)=rr at *;generalize (6-((u+1:Nat):Int))=cc at *;generalize (((partF 0 (u+1) s.ls).hole (u+1):Nat):Int)=hv at *;go_wp2
        go_roundw
        case rel=>exact ⟨u,by rw[HCU.out],by omega,HU,by rw[HNX.out],HS3,HB3,HF3⟩
        case measure=>have:=HCU.out; simp[intOf]; omega
   · go_enter Tryz.func101,Tryz.ntmps101
     go_wp2_with fail
     refine HR.out.mono ?_;rintro e w1 ⟨rfl,hs1,hb1,hf1⟩;have hs2:=hs1.set_ 0 (.int .i64 ((s.ls.words:Int)+1)) { s with ls:=⟨s.ls.words+1,s.ls.hole⟩ } (by simp[z0u]) rfl;have q0:=hs1.cells.1;have f0:=z03 hs1.row 0;have HS2:=hid hs2;have HB2:=hid (hs1.set_below hb1 0 (.int .i64 ((s.ls.words:Int)+1)));have HF2:=hid (hf1.trans (Fr.set g g 0 w1 (.int .i64 ((s.ls.words:Int)+1))));clear hs1 hb1 hf1 hs2;go_wp2
     go_loopw [6,7] (fun rst i wr=>∃t:Nat,i= .int .i64 (6-(t:Int))∧t≤6∧Hid (t≤1)∧rst= .int .i64 (((2^t*s.ls.words+1:Nat)):Int)∧Hid (Sl wr R g v1 v2 { s with ls:=partF 1 t s.ls })∧Hid (Below R w wr)∧Hid (Fr g g w wr)) (fun _ i _=>(6-intOf i).toNat)
     case atStart=>exact ⟨1,by go_num,by decide,by exact hid (Nat.le_refl _),by go_num,by rw[z2o]; exact HS2,HB2,HF2⟩
     case round =>
      obtain ⟨t,rfl,ht6,HTK,rfl,HS,HB,HF⟩:=hrel
      by_cases ht0:t=0
      · subst ht0
        go_wp2;go_ret;rw[DataP,HM.out];exact ⟨z15 (by show _=((2^1*s.ls.words:Nat):Int); omega),by have:=HS.out; rw[z48] at this; exact this,HB.out,HF.out⟩
      · obtain ⟨u,rfl⟩:∃u,t=u+1:=⟨t-1,by omega⟩
        have hci:(6-((u+1:Nat):Int))+((u+1:Nat):Int)=6:=by omega
        have hc0:0≤(6-((u+1:Nat):Int)):=by omega
        have hc5:(6-((u+1:Nat):Int))<6:=by omega
        have hl1:=z47 hci hc0 { s with ls:=partF 1 (u+1) s.ls } v1 v2
        have hcn:(6-((u+1:Nat):Int))+1=6-(u:Int):=by omega
        have HCN:=hid hcn;have HCI:=hid hci;have HPS:=hid (z39 1 u s.ls HTK.out)
        have hpw:2^(u+1)=2*2^u:=by rw[Nat.pow_succ,Nat.mul_comm]
        have hp5:2^u≤2^5:=Nat.pow_le_pow_right (by decide) (by omega)
        have hrb:2^(u+1)*s.ls.words+1≤4000:=by
         have h1:=Nat.mul_le_mul hp5 hw40;rw[hpw,Nat.mul_assoc]
         simp only[show (2:Nat)^5=32 from rfl] at h1
         omega
        have hnx:(((2^(u+1)*s.ls.words+1:Nat):Int)+1)/2=((2^u*s.ls.words+1:Nat):Int):=by
         rw[hpw,Nat.mul_assoc]; omega
        have HNX:=hid hnx;have hcell1:=cell_of_row wr g (2+(6-((u+1:Nat):Int)).toNat) _ _ _ HS.out.row;rw[hl1.1] at hcell1;have hfz1:=z03 HS.out.row (2+(6-((u+1:Nat):Int)).toNat);have hs3:=HS.out.set_ (2+(6-((u+1:Nat):Int)).toNat) (.int .i64 ((2^(u+1)*s.ls.words+1:Nat):Int)) _ (hl1.2 _) rfl;rw[HPS.out] at hs3;have HS3:=hid hs3;have HB3:=hid (HS.out.set_below HB.out (2+(6-((u+1:Nat):Int)).toNat) (.int .i64 ((2^(u+1)*s.ls.words+1:Nat):Int)));have HF3:=hid (HF.out.trans (Fr.set g g (2+(6-((u+1:Nat):Int)).toNat) wr (.int .i64 ((2^(u+1)*s.ls.words+1:Nat):Int))));have HU:=hid (show u≤1 by have:=HTK.out; omega)
        have hu5:u≤5:=by omega
        clear hs3 hl1 hci hcn hpw hp5 hnx ht0 ht6
        have hr0:(0:Int)≤((2^(u+1)*s.ls.words+1:Nat):Int):=by omega
        have hr1:((2^(u+1)*s.ls.words+1:Nat):Int)≤4000:=by omega
        have hcu:=HCN.out;have HCU:=hid hcu;clear hrb hcu;generalize ((2^(u+1)*s.ls.words+1:Nat):Int)=rr at *;generalize (6-((u+1:Nat):Int))=cc at *;generalize (((partF 1 (u+1) s.ls).hole (u+1):Nat):Int)=hv at *;go_wp2
        go_roundw
        case rel=>exact ⟨u,by rw[HCU.out],by omega,HU,by rw[HNX.out],HS3,HB3,HF3⟩
        case measure=>have:=HCU.out; simp[intOf]; omega
   · go_enter Tryz.func101,Tryz.ntmps101
     go_wp2_with fail
     refine HR.out.mono ?_;rintro e w1 ⟨rfl,hs1,hb1,hf1⟩;have hs2:=hs1.set_ 0 (.int .i64 ((s.ls.words:Int)+1)) { s with ls:=⟨s.ls.words+1,s.ls.hole⟩ } (by simp[z0u]) rfl;have q0:=hs1.cells.1;have f0:=z03 hs1.row 0;have HS2:=hid hs2;have HB2:=hid (hs1.set_below hb1 0 (.int .i64 ((s.ls.words:Int)+1)));have HF2:=hid (hf1.trans (Fr.set g g 0 w1 (.int .i64 ((s.ls.words:Int)+1))));clear hs1 hb1 hf1 hs2;go_wp2
     go_loopw [6,7] (fun rst i wr=>∃t:Nat,i= .int .i64 (6-(t:Int))∧t≤6∧Hid (t≤2)∧rst= .int .i64 (((2^t*s.ls.words+1:Nat)):Int)∧Hid (Sl wr R g v1 v2 { s with ls:=partF 2 t s.ls })∧Hid (Below R w wr)∧Hid (Fr g g w wr)) (fun _ i _=>(6-intOf i).toNat)
     case atStart=>exact ⟨2,by go_num,by decide,by exact hid (Nat.le_refl _),by go_num,by rw[z2o]; exact HS2,HB2,HF2⟩
     case round =>
      obtain ⟨t,rfl,ht6,HTK,rfl,HS,HB,HF⟩:=hrel
      by_cases ht0:t=0
      · subst ht0
        go_wp2;go_ret;rw[DataP,HM.out];exact ⟨z15 (by show _=((2^2*s.ls.words:Nat):Int); omega),by have:=HS.out; rw[z48] at this; exact this,HB.out,HF.out⟩
      · obtain ⟨u,rfl⟩:∃u,t=u+1:=⟨t-1,by omega⟩
        have hci:(6-((u+1:Nat):Int))+((u+1:Nat):Int)=6:=by omega
        have hc0:0≤(6-((u+1:Nat):Int)):=by omega
        have hc5:(6-((u+1:Nat):Int))<6:=by omega
        have hl1:=z47 hci hc0 { s with ls:=partF 2 (u+1) s.ls } v1 v2
        have hcn:(6-((u+1:Nat):Int))+1=6-(u:Int):=by omega
        have HCN:=hid hcn;have HCI:=hid hci;have HPS:=hid (z39 2 u s.ls HTK.out)
        have hpw:2^(u+1)=2*2^u:=by rw[Nat.pow_succ,Nat.mul_comm]
        have hp5:2^u≤2^5:=Nat.pow_le_pow_right (by decide) (by omega)
        have hrb:2^(u+1)*s.ls.words+1≤4000:=by
         have h1:=Nat.mul_le_mul hp5 hw40;rw[hpw,Nat.mul_assoc]
         simp only[show (2:Nat)^5=32 from rfl] at h1
         omega
        have hnx:(((2^(u+1)*s.ls.words+1:Nat):Int)+1)/2=((2^u*s.ls.words+1:Nat):Int):=by
         rw[hpw,Nat.mul_assoc]; omega
        have HNX:=hid hnx;have hcell1:=cell_of_row wr g (2+(6-((u+1:Nat):Int)).toNat) _ _ _ HS.out.row;rw[hl1.1] at hcell1;have hfz1:=z03 HS.out.row (2+(6-((u+1:Nat):Int)).toNat);have hs3:=HS.out.set_ (2+(6-((u+1:Nat):Int)).toNat) (.int .i64 ((2^(u+1)*s.ls.words+1:Nat):Int)) _ (hl1.2 _) rfl;rw[HPS.out] at hs3;have HS3:=hid hs3;have HB3:=hid (HS.out.set_below HB.out (2+(6-((u+1:Nat):Int)).toNat) (.int .i64 ((2^(u+1)*s.ls.words+1:Nat):Int)));have HF3:=hid (HF.out.trans (Fr.set g g (2+(6-((u+1:Nat):Int)).toNat) wr (.int .i64 ((2^(u+1)*s.ls.words+1:Nat):Int))));have HU:=hid (show u≤2 by have:=HTK.out; omega)
        have hu5:u≤5:=by omega
        clear hs3 hl1 hci hcn hpw hp5 hnx ht0 ht6
        have hr0:(0:Int)≤((2^(u+1)*s.ls.words+1:Nat):Int):=by omega
        have hr1:((2^(u+1)*s.ls.words+1:Nat):Int)≤4000:=by omega
        have hcu:=HCN.out;have HCU:=hid hcu;clear hrb hcu;generalize ((2^(u+1)*s.ls.words+1:Nat):Int)=rr at *;generalize (6-((u+1:Nat):Int))=cc at *;generalize (((partF 2 (u+1) s.ls).hole (u+1):Nat):Int)=hv at *;go_wp2
        go_roundw
        case rel=>exact ⟨u,by rw[HCU.out],by omega,HU,by rw[HNX.out],HS3,HB3,HF3⟩
        case measure=>have:=HCU.out; simp[intOf]; omega
   · go_enter Tryz.func101,Tryz.ntmps101
     go_wp2_with fail
     refine HR.out.mono ?_;rintro e w1 ⟨rfl,hs1,hb1,hf1⟩;have hs2:=hs1.set_ 0 (.int .i64 ((s.ls.words:Int)+1)) { s with ls:=⟨s.ls.words+1,s.ls.hole⟩ } (by simp[z0u]) rfl;have q0:=hs1.cells.1;have f0:=z03 hs1.row 0;have HS2:=hid hs2;have HB2:=hid (hs1.set_below hb1 0 (.int .i64 ((s.ls.words:Int)+1)));have HF2:=hid (hf1.trans (Fr.set g g 0 w1 (.int .i64 ((s.ls.words:Int)+1))));clear hs1 hb1 hf1 hs2;go_wp2
     go_loopw [6,7] (fun rst i wr=>∃t:Nat,i= .int .i64 (6-(t:Int))∧t≤6∧Hid (t≤3)∧rst= .int .i64 (((2^t*s.ls.words+1:Nat)):Int)∧Hid (Sl wr R g v1 v2 { s with ls:=partF 3 t s.ls })∧Hid (Below R w wr)∧Hid (Fr g g w wr)) (fun _ i _=>(6-intOf i).toNat)
     case atStart=>exact ⟨3,by go_num,by decide,by exact hid (Nat.le_refl _),by go_num,by rw[z2o]; exact HS2,HB2,HF2⟩
     case round =>
      obtain ⟨t,rfl,ht6,HTK,rfl,HS,HB,HF⟩:=hrel
      by_cases ht0:t=0
      · subst ht0
        go_wp2;go_ret;rw[DataP,HM.out];exact ⟨z15 (by show _=((2^3*s.ls.words:Nat):Int); omega),by have:=HS.out; rw[z48] at this; exact this,HB.out,HF.out⟩
      · obtain ⟨u,rfl⟩:∃u,t=u+1:=⟨t-1,by omega⟩
        have hci:(6-((u+1:Nat):Int))+((u+1:Nat):Int)=6:=by omega
        have hc0:0≤(6-((u+1:Nat):Int)):=by omega
        have hc5:(6-((u+1:Nat):Int))<6:=by omega
        have hl1:=z47 hci hc0 { s with ls:=partF 3 (u+1) s.ls } v1 v2
        have hcn:(6-((u+1:Nat):Int))+1=6-(u:Int):=by omega
        have HCN:=hid hcn;have HCI:=hid hci;have HPS:=hid (z39 3 u s.ls HTK.out)
        have hpw:2^(u+1)=2*2^u:=by rw[Nat.pow_succ,Nat.mul_comm]
        have hp5:2^u≤2^5:=Nat.pow_le_pow_right (by decide) (by omega)
        have hrb:2^(u+1)*s.ls.words+1≤4000:=by
         have h1:=Nat.mul_le_mul hp5 hw40;rw[hpw,Nat.mul_assoc]
         simp only[show (2:Nat)^5=32 from rfl] at h1
         omega
        have hnx:(((2^(u+1)*s.ls.words+1:Nat):Int)+1)/2=((2^u*s.ls.words+1:Nat):Int):=by
         rw[hpw,Nat.mul_assoc]; omega
        have HNX:=hid hnx;have hcell1:=cell_of_row wr g (2+(6-((u+1:Nat):Int)).toNat) _ _ _ HS.out.row;rw[hl1.1] at hcell1;have hfz1:=z03 HS.out.row (2+(6-((u+1:Nat):Int)).toNat);have hs3:=HS.out.set_ (2+(6-((u+1:Nat):Int)).toNat) (.int .i64 ((2^(u+1)*s.ls.words+1:Nat):Int)) _ (hl1.2 _) rfl;rw[HPS.out] at hs3;have HS3:=hid hs3;have HB3:=hid (HS.out.set_below HB.out (2+(6-((u+1:Nat):Int)).toNat) (.int .i64 ((2^(u+1)*s.ls.words+1:Nat):Int)));have HF3:=hid (HF.out.trans (Fr.set g g (2+(6-((u+1:Nat):Int)).toNat) wr (.int .i64 ((2^(u+1)*s.ls.words+1:Nat):Int))));have HU:=hid (show u≤3 by have:=HTK.out; omega)
        have hu5:u≤5:=by omega
        clear hs3 hl1 hci hcn hpw hp5 hnx ht0 ht6
        have hr0:(0:Int)≤((2^(u+1)*s.ls.words+1:Nat):Int):=by omega
        have hr1:((2^(u+1)*s.ls.words+1:Nat):Int)≤4000:=by omega
        have hcu:=HCN.out;have HCU:=hid hcu;clear hrb hcu;generalize ((2^(u+1)*s.ls.words+1:Nat):Int)=rr at *;generalize (6-((u+1:Nat):Int))=cc at *;generalize (((partF 3 (u+1) s.ls).hole (u+1):Nat):Int)=hv at *;go_wp2
        go_roundw
        case rel=>exact ⟨u,by rw[HCU.out],by omega,HU,by rw[HNX.out],HS3,HB3,HF3⟩
        case measure=>have:=HCU.out; simp[intOf]; omega
   · go_enter Tryz.func101,Tryz.ntmps101
     go_wp2_with fail
     refine HR.out.mono ?_;rintro e w1 ⟨rfl,hs1,hb1,hf1⟩;have hs2:=hs1.set_ 0 (.int .i64 ((s.ls.words:Int)+1)) { s with ls:=⟨s.ls.words+1,s.ls.hole⟩ } (by simp[z0u]) rfl;have q0:=hs1.cells.1;have f0:=z03 hs1.row 0;have HS2:=hid hs2;have HB2:=hid (hs1.set_below hb1 0 (.int .i64 ((s.ls.words:Int)+1)));have HF2:=hid (hf1.trans (Fr.set g g 0 w1 (.int .i64 ((s.ls.words:Int)+1))));clear hs1 hb1 hf1 hs2;go_wp2
     go_loopw [6,7] (fun rst i wr=>∃t:Nat,i= .int .i64 (6-(t:Int))∧t≤6∧Hid (t≤4)∧rst= .int .i64 (((2^t*s.ls.words+1:Nat)):Int)∧Hid (Sl wr R g v1 v2 { s with ls:=partF 4 t s.ls })∧Hid (Below R w wr)∧Hid (Fr g g w wr)) (fun _ i _=>(6-intOf i).toNat)
     case atStart=>exact ⟨4,by go_num,by decide,by exact hid (Nat.le_refl _),by go_num,by rw[z2o]; exact HS2,HB2,HF2⟩
     case round =>
      obtain ⟨t,rfl,ht6,HTK,rfl,HS,HB,HF⟩:=hrel
      by_cases ht0:t=0
      · subst ht0
        go_wp2;go_ret;rw[DataP,HM.out];exact ⟨z15 (by show _=((2^4*s.ls.words:Nat):Int); omega),by have:=HS.out; rw[z48] at this; exact this,HB.out,HF.out⟩
      · obtain ⟨u,rfl⟩:∃u,t=u+1:=⟨t-1,by omega⟩
        have hci:(6-((u+1:Nat):Int))+((u+1:Nat):Int)=6:=by omega
        have hc0:0≤(6-((u+1:Nat):Int)):=by omega
        have hc5:(6-((u+1:Nat):Int))<6:=by omega
        have hl1:=z47 hci hc0 { s with ls:=partF 4 (u+1) s.ls } v1 v2
        have hcn:(6-((u+1:Nat):Int))+1=6-(u:Int):=by omega
        have HCN:=hid hcn;have HCI:=hid hci;have HPS:=hid (z39 4 u s.ls HTK.out)
        have hpw:2^(u+1)=2*2^u:=by rw[Nat.pow_succ,Nat.mul_comm]
        have hp5:2^u≤2^5:=Nat.pow_le_pow_right (by decide) (by omega)
        have hrb:2^(u+1)*s.ls.words+1≤4000:=by
         have h1:=Nat.mul_le_mul hp5 hw40;rw[hpw,Nat.mul_assoc]
         simp only[show (2:Nat)^5=32 from rfl] at h1
         omega
        have hnx:(((2^(u+1)*s.ls.words+1:Nat):Int)+1)/2=((2^u*s.ls.words+1:Nat):Int):=by
         rw[hpw,Nat.mul_assoc]; omega
        have HNX:=hid hnx;have hcell1:=cell_of_row wr g (2+(6-((u+1:Nat):Int)).toNat) _ _ _ HS.out.row;rw[hl1.1] at hcell1;have hfz1:=z03 HS.out.row (2+(6-((u+1:Nat):Int)).toNat);have hs3:=HS.out.set_ (2+(6-((u+1:Nat):Int)).toNat) (.int .i64 ((2^(u+1)*s.ls.words+1:Nat):Int)) _ (hl1.2 _) rfl;rw[HPS.out] at hs3;have HS3:=hid hs3;have HB3:=hid (HS.out.set_below HB.out (2+(6-((u+1:Nat):Int)).toNat) (.int .i64 ((2^(u+1)*s.ls.words+1:Nat):Int)));have HF3:=hid (HF.out.trans (Fr.set g g (2+(6-((u+1:Nat):Int)).toNat) wr (.int .i64 ((2^(u+1)*s.ls.words+1:Nat):Int))));have HU:=hid (show u≤4 by have:=HTK.out; omega)
        have hu5:u≤5:=by omega
        clear hs3 hl1 hci hcn hpw hp5 hnx ht0 ht6
        have hr0:(0:Int)≤((2^(u+1)*s.ls.words+1:Nat):Int):=by omega
        have hr1:((2^(u+1)*s.ls.words+1:Nat):Int)≤4000:=by omega
        have hcu:=HCN.out;have HCU:=hid hcu;clear hrb hcu;generalize ((2^(u+1)*s.ls.words+1:Nat):Int)=rr at *;generalize (6-((u+1:Nat):Int))=cc at *;generalize (((partF 4 (u+1) s.ls).hole (u+1):Nat):Int)=hv at *;go_wp2
        go_roundw
        case rel=>exact ⟨u,by rw[HCU.out],by omega,HU,by rw[HNX.out],HS3,HB3,HF3⟩
        case measure=>have:=HCU.out; simp[intOf]; omega
   · go_enter Tryz.func101,Tryz.ntmps101
     go_wp2_with fail
     refine HR.out.mono ?_;rintro e w1 ⟨rfl,hs1,hb1,hf1⟩;have hs2:=hs1.set_ 0 (.int .i64 ((s.ls.words:Int)+1)) { s with ls:=⟨s.ls.words+1,s.ls.hole⟩ } (by simp[z0u]) rfl;have q0:=hs1.cells.1;have f0:=z03 hs1.row 0;have HS2:=hid hs2;have HB2:=hid (hs1.set_below hb1 0 (.int .i64 ((s.ls.words:Int)+1)));have HF2:=hid (hf1.trans (Fr.set g g 0 w1 (.int .i64 ((s.ls.words:Int)+1))));clear hs1 hb1 hf1 hs2;go_wp2
     go_loopw [6,7] (fun rst i wr=>∃t:Nat,i= .int .i64 (6-(t:Int))∧t≤6∧Hid (t≤5)∧rst= .int .i64 (((2^t*s.ls.words+1:Nat)):Int)∧Hid (Sl wr R g v1 v2 { s with ls:=partF 5 t s.ls })∧Hid (Below R w wr)∧Hid (Fr g g w wr)) (fun _ i _=>(6-intOf i).toNat)
     case atStart=>exact ⟨5,by go_num,by decide,by exact hid (Nat.le_refl _),by go_num,by rw[z2o]; exact HS2,HB2,HF2⟩
     case round =>
      obtain ⟨t,rfl,ht6,HTK,rfl,HS,HB,HF⟩:=hrel
      by_cases ht0:t=0
      · subst ht0
        go_wp2;go_ret;rw[DataP,HM.out];exact ⟨z15 (by show _=((2^5*s.ls.words:Nat):Int); omega),by have:=HS.out; rw[z48] at this; exact this,HB.out,HF.out⟩
      · obtain ⟨u,rfl⟩:∃u,t=u+1:=⟨t-1,by omega⟩
        have hci:(6-((u+1:Nat):Int))+((u+1:Nat):Int)=6:=by omega
        have hc0:0≤(6-((u+1:Nat):Int)):=by omega
        have hc5:(6-((u+1:Nat):Int))<6:=by omega
        have hl1:=z47 hci hc0 { s with ls:=partF 5 (u+1) s.ls } v1 v2
        have hcn:(6-((u+1:Nat):Int))+1=6-(u:Int):=by omega
        have HCN:=hid hcn;have HCI:=hid hci;have HPS:=hid (z39 5 u s.ls HTK.out)
        have hpw:2^(u+1)=2*2^u:=by rw[Nat.pow_succ,Nat.mul_comm]
        have hp5:2^u≤2^5:=Nat.pow_le_pow_right (by decide) (by omega)
        have hrb:2^(u+1)*s.ls.words+1≤4000:=by
         have h1:=Nat.mul_le_mul hp5 hw40;rw[hpw,Nat.mul_assoc]
         simp only[show (2:Nat)^5=32 from rfl] at h1
         omega
        have hnx:(((2^(u+1)*s.ls.words+1:Nat):Int)+1)/2=((2^u*s.ls.words+1:Nat):Int):=by
         rw[hpw,Nat.mul_assoc]; omega
        have HNX:=hid hnx;have hcell1:=cell_of_row wr g (2+(6-((u+1:Nat):Int)).toNat) _ _ _ HS.out.row;rw[hl1.1] at hcell1;have hfz1:=z03 HS.out.row (2+(6-((u+1:Nat):Int)).toNat);have hs3:=HS.out.set_ (2+(6-((u+1:Nat):Int)).toNat) (.int .i64 ((2^(u+1)*s.ls.words+1:Nat):Int)) _ (hl1.2 _) rfl;rw[HPS.out] at hs3;have HS3:=hid hs3;have HB3:=hid (HS.out.set_below HB.out (2+(6-((u+1:Nat):Int)).toNat) (.int .i64 ((2^(u+1)*s.ls.words+1:Nat):Int)));have HF3:=hid (HF.out.trans (Fr.set g g (2+(6-((u+1:Nat):Int)).toNat) wr (.int .i64 ((2^(u+1)*s.ls.words+1:Nat):Int))));have HU:=hid (show u≤5 by have:=HTK.out; omega)
        have hu5:u≤5:=by omega
        clear hs3 hl1 hci hcn hpw hp5 hnx ht0 ht6
        have hr0:(0:Int)≤((2^(u+1)*s.ls.words+1:Nat):Int):=by omega
        have hr1:((2^(u+1)*s.ls.words+1:Nat):Int)≤4000:=by omega
        have hcu:=HCN.out;have HCU:=hid hcu;clear hrb hcu;generalize ((2^(u+1)*s.ls.words+1:Nat):Int)=rr at *;generalize (6-((u+1:Nat):Int))=cc at *;generalize (((partF 5 (u+1) s.ls).hole (u+1):Nat):Int)=hv at *;go_wp2
        go_roundw
        case rel=>exact ⟨u,by rw[HCU.out],by omega,HU,by rw[HNX.out],HS3,HB3,HF3⟩
        case measure=>have:=HCU.out; simp[intOf]; omega
   · go_enter Tryz.func101,Tryz.ntmps101
     go_wp2_with fail
     refine HR.out.mono ?_;rintro e w1 ⟨rfl,hs1,hb1,hf1⟩;have hs2:=hs1.set_ 0 (.int .i64 ((s.ls.words:Int)+1)) { s with ls:=⟨s.ls.words+1,s.ls.hole⟩ } (by simp[z0u]) rfl;have q0:=hs1.cells.1;have f0:=z03 hs1.row 0;have HS2:=hid hs2;have HB2:=hid (hs1.set_below hb1 0 (.int .i64 ((s.ls.words:Int)+1)));have HF2:=hid (hf1.trans (Fr.set g g 0 w1 (.int .i64 ((s.ls.words:Int)+1))));clear hs1 hb1 hf1 hs2;go_wp2
     go_loopw [6,7] (fun rst i wr=>∃t:Nat,i= .int .i64 (6-(t:Int))∧t≤6∧Hid (t≤6)∧rst= .int .i64 (((2^t*s.ls.words+1:Nat)):Int)∧Hid (Sl wr R g v1 v2 { s with ls:=partF 6 t s.ls })∧Hid (Below R w wr)∧Hid (Fr g g w wr)) (fun _ i _=>(6-intOf i).toNat)
     case atStart=>exact ⟨6,by go_num,by decide,by exact hid (Nat.le_refl _),by go_num,by rw[z2o]; exact HS2,HB2,HF2⟩
     case round =>
      obtain ⟨t,rfl,ht6,HTK,rfl,HS,HB,HF⟩:=hrel
      by_cases ht0:t=0
      · subst ht0
        go_wp2;go_ret;rw[DataP,HM.out];exact ⟨z15 (by show _=((2^6*s.ls.words:Nat):Int); omega),by have:=HS.out; rw[z48] at this; exact this,HB.out,HF.out⟩
      · obtain ⟨u,rfl⟩:∃u,t=u+1:=⟨t-1,by omega⟩
        have hci:(6-((u+1:Nat):Int))+((u+1:Nat):Int)=6:=by omega
        have hc0:0≤(6-((u+1:Nat):Int)):=by omega
        have hc5:(6-((u+1:Nat):Int))<6:=by omega
        have hl1:=z47 hci hc0 { s with ls:=partF 6 (u+1) s.ls } v1 v2
        have hcn:(6-((u+1:Nat):Int))+1=6-(u:Int):=by omega
        have HCN:=hid hcn;have HCI:=hid hci;have HPS:=hid (z39 6 u s.ls HTK.out)
        have hpw:2^(u+1)=2*2^u:=by rw[Nat.pow_succ,Nat.mul_comm]
        have hp5:2^u≤2^5:=Nat.pow_le_pow_right (by decide) (by omega)
        have hrb:2^(u+1)*s.ls.words+1≤4000:=by
         have h1:=Nat.mul_le_mul hp5 hw40;rw[hpw,Nat.mul_assoc]
         simp only[show (2:Nat)^5=32 from rfl] at h1
         omega
        have hnx:(((2^(u+1)*s.ls.words+1:Nat):Int)+1)/2=((2^u*s.ls.words+1:Nat):Int):=by
         rw[hpw,Nat.mul_assoc]; omega
        have HNX:=hid hnx;have hcell1:=cell_of_row wr g (2+(6-((u+1:Nat):Int)).toNat) _ _ _ HS.out.row;rw[hl1.1] at hcell1;have hfz1:=z03 HS.out.row (2+(6-((u+1:Nat):Int)).toNat);have hs3:=HS.out.set_ (2+(6-((u+1:Nat):Int)).toNat) (.int .i64 ((2^(u+1)*s.ls.words+1:Nat):Int)) _ (hl1.2 _) rfl;rw[HPS.out] at hs3;have HS3:=hid hs3;have HB3:=hid (HS.out.set_below HB.out (2+(6-((u+1:Nat):Int)).toNat) (.int .i64 ((2^(u+1)*s.ls.words+1:Nat):Int)));have HF3:=hid (HF.out.trans (Fr.set g g (2+(6-((u+1:Nat):Int)).toNat) wr (.int .i64 ((2^(u+1)*s.ls.words+1:Nat):Int))));have HU:=hid (show u≤6 by have:=HTK.out; omega)
        have hu5:u≤5:=by omega
        clear hs3 hl1 hci hcn hpw hp5 hnx ht0 ht6
        have hr0:(0:Int)≤((2^(u+1)*s.ls.words+1:Nat):Int):=by omega
        have hr1:((2^(u+1)*s.ls.words+1:Nat):Int)≤4000:=by omega
        have hcu:=HCN.out;have HCU:=hid hcu;clear hrb hcu;generalize ((2^(u+1)*s.ls.words+1:Nat):Int)=rr at *;generalize (6-((u+1:Nat):Int))=cc at *;generalize (((partF 6 (u+1) s.ls).hole (u+1):Nat):Int)=hv at *;go_wp2
        go_roundw
        case rel=>exact ⟨u,by rw[HCU.out],by omega,HU,by rw[HNX.out],HS3,HB3,HF3⟩
        case measure=>have:=HCU.out; simp[intOf]; omega
end Go.Proofs.YtblcibgphccfkaaGreatDoor
