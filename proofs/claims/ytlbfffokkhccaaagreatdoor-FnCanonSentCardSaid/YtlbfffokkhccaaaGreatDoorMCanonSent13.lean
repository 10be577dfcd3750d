/- Texts of the proof of the law FnCanonSent, side by side: part 13. -/
import Derived.RegionTactic
import Derived.BigRegion
import Derived.Test.YtlbfffokkhccaaaGreatDoorMCanonSent12
set_option maxHeartbeats 8000000
set_option maxRecDepth 100000
open Go.Lib (hid)
namespace Go.Proofs.YtlbfffokkhccaaaGreatDoor
open Go.RowKit
theorem sz4 (n:Int):(⟨(leB n 4).toArray⟩:ByteArray).size=4:=by rw[show (⟨(leB n 4).toArray⟩:ByteArray).size=(leB n 4).length by simp[ByteArray.size],z07]
theorem zoa (n:Int):(leB n 8).take 4=leB n 4:=by
 have h:=zcp n 4 4;rw[show (4+4:Nat)=8 from rfl] at h;rw[h,List.take_append_of_le_length (by rw[z07]; omega),List.take_of_length_le (by rw[z07]; omega)]
theorem z4o (n:Int)(w:World)(h0:0≤n)(h1:n≤1099511627776) :
 Calls Tryz.prog 92 #[.int .i64 n] w fun e w'=>e= .returned (.string ⟨(leB n 4).toArray⟩)∧Below w.heap.size w w':=by
 have e1:IntKind.u64.wrap n=n:=by rw[IntKind.wrap_u64]; omega
 have hcut:(⟨(leB n 8).toArray⟩:ByteArray).extract 0 4=⟨(leB n 4).toArray⟩:=by
  apply z61; rw[Lib.extract_data]; simp[zoa]
 have hsz:(⟨(leB n 8).toArray⟩:ByteArray).size=8:=by simp[ByteArray.size,z07]
 have HC:=hid hcut;clear hcut;go_enter Tryz.func92,Tryz.ntmps92
 go_wp2_with fail
 refine (z5o n _ h0 (by omega)).mono ?_;rintro e w1 ⟨rfl,hb1⟩
 go_wp2_with fail
 refine (zc0 (leB n 8) _ (z07 n 8)).mono ?_;rintro e w2 ⟨rfl,hb2⟩;generalize (⟨(leB n 8).toArray⟩:ByteArray)=u at HC hsz ⊢
 have g1:(4:Int)≤(u.size:Int):=by omega
 have HS:=hid hsz;have hc:=HC.out;clear hsz;go_wp2;go_ret;exact ⟨rfl,hb1.trans (hb2.mono hb1.size)⟩
def numsL (ss:List ByteArray):List UInt8:=ss.flatMap fun s=>leB ((s.size/8:Nat):Int) 4
def bodyL (ss:List ByteArray):List UInt8:=ss.flatMap fun s=>s.data.toList
def fillL (n:Nat):List UInt8:=if n%2=0 then leB 0 4 else []
def z11 (ss:List ByteArray):List UInt8:=if frOk ss=true then leB ((ss.length:Int)-1) 4++numsL ss++fillL ss.length++bodyL ss else []
theorem zb8 (ss:List ByteArray)(k:Nat)(h:k<ss.length):numsL (ss.take (k+1))=numsL (ss.take k)++leB (((ss[k]).size/8:Nat):Int) 4:=by
 rw[List.take_succ_eq_append_getElem h,numsL,numsL,List.flatMap_append,List.flatMap_cons,List.flatMap_nil,List.append_nil]
theorem z5n (ss:List ByteArray)(k:Nat)(h:k<ss.length):bodyL (ss.take (k+1))=bodyL (ss.take k)++(ss[k]).data.toList:=by
 rw[List.take_succ_eq_append_getElem h,bodyL,bodyL,List.flatMap_append,List.flatMap_cons,List.flatMap_nil,List.append_nil]
theorem z14:∀ss:List ByteArray,(numsL ss).length=4*ss.length
 | []=>rfl
 | s :: r=>by rw[numsL,List.flatMap_cons,List.length_append,z07,← numsL,z14 r,List.length_cons]; omega
theorem z23:∀ss:List ByteArray,(bodyL ss).length=tot ss
 | []=>rfl
 | s :: r=>by rw[bodyL,List.flatMap_cons,List.length_append,← bodyL,z23 r]; simp[tot]
theorem z3w (n:Nat):(fillL n).length≤4:=by unfold fillL; split <;> simp[z07]
theorem z6n (n:Nat)(w:World)(h:n≤1000) :
 Calls Tryz.prog 94 #[.int .i64 n] w fun e w'=>e= .returned (.int .i64 (((n/2+1)*8:Nat):Int))∧w=w':=by
 go_enter Tryz.func94,Tryz.ntmps94;go_wp2;go_ret;exact ⟨z2n (by omega),rfl⟩
theorem z5h {ss:List ByteArray}(h:frOk ss=true):(1≤ss.length∧ss.length≤6)∧tot ss≤1600:=by
 simp only[frOk,Bool.and_eq_true,decide_eq_true_eq] at h
 exact ⟨h.1,h.2.2⟩
theorem za1 (s:ByteArray):Lib.strCells s=Lib.byteCells s.data.toList:=rfl
theorem z6o (a b:List UInt8):Lib.byteCells a++Lib.byteCells b=Lib.byteCells (a++b):=by simp[Lib.byteCells]
theorem zch (l:List UInt8):Lib.strCells ⟨l.toArray⟩=Lib.byteCells l:=by simp[Lib.strCells,Lib.byteCells]
theorem z6a (ss:List ByteArray)(k:Nat)(h:k<ss.length):(ss[k]).size≤tot ss:=by
 have h1:=z8b ss k h;have h2:=z1u ss (k+1);omega
theorem z85 (A:Option Addr)(cap:Nat)(ss:List ByteArray)(w:World)(h:Strs w A ss)(hok:frOk ss=true) :
 Calls Tryz.prog 49 #[.slice A ss.length cap] w fun e w'=>e= .returned (.string ⟨(z11 ss).toArray⟩)∧Below w.heap.size w w':=by
 obtain ⟨⟨hn1,hn6⟩,htot⟩:=z5h hok
 have HFO:Hid (∀w:World,Strs w A ss→Calls Tryz.prog 17 #[.slice A ss.length cap] w fun e w'=>e= .returned (.bool true)∧w=w'):=hid (fun w h=>by
  have:=z3t A cap ss w h (by omega)
  rw[hok] at this; exact this)
 have hfin:z11 ss=leB ((ss.length:Int)-1) 4++numsL ss++fillL ss.length++bodyL ss:=by rw[z11,if_pos hok]
 have HF:=hid hfin;obtain ⟨a,rfl,hlt,hcells⟩:=h.2.resolve_left (by intro h0; rw[h0] at hn1; simp at hn1);have HCells:=hid hcells;have H:=hid h;clear hfin hok h hcells;go_enter Tryz.func49,Tryz.ntmps49
 go_wp2_with fail
 refine (HFO.out _ H.out).mono ?_;rintro e w' ⟨rfl,rfl⟩
 go_wp2_with fail
 refine (z4o _ _ (by omega) (by omega)).mono ?_;rintro e w1 ⟨rfl,hb1⟩
 have HB0:Hid (Bld (w.heap.size+1) w.heap.size [] w1∧Below w.heap.size w w1∧w.heap.size+1≤w1.heap.size):=by
  refine ⟨Bld.fresh _ ((hb1.block _ (by simp)).trans (heap_alloc_new w _)),((Below.refl _ w).alloc (Nat.le_refl _) _).trans (hb1.mono (by simp)),?_⟩;have:=hb1.size
  simpa using this
 clear hb1
 go_wp2_with fail
 refine (z1k _ _ _ _ _ HB0.out.1 (by simp) (by rw[sz4]; omega) HB0.out.2.2).mono ?_;rintro e w2 ⟨rfl,h2,k2⟩
 have HB:Hid (Bld (w.heap.size+1) w.heap.size (Lib.byteCells (leB ((ss.length:Int)-1) 4)) w2∧Below w.heap.size w w2∧w.heap.size+1≤w2.heap.size):=by
  refine ⟨?_,HB0.out.2.1.trans (k2.below (by omega) (Nat.le_refl _)),Nat.le_trans HB0.out.2.2 k2.size⟩;rw[zch] at h2;exact h2
 clear h2 k2 HB0
 go_wp2_with fail
 go_loopw [5,18] (fun _ i wr=>∃k:Nat,k≤ss.length∧i= .int .i64 k∧Hid (Bld (w.heap.size+1) w.heap.size (Lib.byteCells (leB ((ss.length:Int)-1) 4++numsL (ss.take k))) wr∧Below w.heap.size w wr∧w.heap.size+1≤wr.heap.size)) (fun _ i _=>ss.length-(intOf i).toNat)
 case atStart=>exact ⟨0,by omega,rfl,by simpa [numsL] using HB.out.1,HB.out.2⟩
 case round =>
  obtain ⟨k,hk,rfl,HR⟩:=hrel
  by_cases hk1:k<ss.length
  · have hc:=(HR.out.2.1.cell (p:=a.add k) (by rw[z3k]; exact hlt)).trans (HCells.out k hk1)
    have hsz:=z6a ss k hk1;have hnt:=zb8 ss k hk1;have HNT:=hid hnt
    obtain ⟨s,hs⟩:∃s,ss[k]=s:=⟨_,rfl⟩
    rw[hs] at hc hsz;have HS:=hid hs
    have hnl:(numsL (ss.take k)).length≤4*ss.length:=by rw[z14,List.length_take]; omega
    clear hnt hs
    go_wp2_with fail
    refine (z4o _ _ (by omega) (by omega)).mono ?_;rintro e w3 ⟨rfl,hb3⟩;have hBld3:Bld (w.heap.size+1) w.heap.size (Lib.byteCells (leB ((ss.length:Int)-1) 4++numsL (ss.take k))) w3:=z9r HR.out.1 hb3;have HB3:=hid hBld3;have HB4:=hid (HR.out.2.1.trans (hb3.mono (by have:=HR.out.2.2; omega)));have HB5:=hid (Nat.le_trans HR.out.2.2 hb3.size);clear hBld3 hb3
    go_wp2_with fail
    refine (z1k _ _ _ _ _ HB3.out (by rw[Lib.byteCells_length,List.length_append,z07]; omega) (by rw[sz4]; omega) HB5.out).mono ?_;rintro e w4 ⟨rfl,h4,k4⟩
    have HN:Hid (Bld (w.heap.size+1) w.heap.size (Lib.byteCells (leB ((ss.length:Int)-1) 4++numsL (ss.take (k+1)))) w4∧Below w.heap.size w w4∧w.heap.size+1≤w4.heap.size):=by
     refine ⟨?_,HB4.out.trans (k4.below (by omega) (Nat.le_refl _)),Nat.le_trans HB5.out k4.size⟩;rw[zch,z6o] at h4;rw[HNT.out,← List.append_assoc,HS.out];exact h4
    clear h4 k4;go_wp2
    go_roundw
    case rel=>exact ⟨k+1,by omega,by go_num,HN⟩
    case measure=>simp[intOf]; omega
  · obtain rfl:k=ss.length:=by omega
    clear hk1 hk HB
    have hlen:(Lib.byteCells (leB ((ss.length:Int)-1) 4++numsL (ss.take ss.length))).length=4+4*ss.length:=by
     rw[Lib.byteCells_length,List.length_append,z07,z14,List.take_length]
    have HLen:=hid hlen;clear hlen
    go_wp2_with fail
    refine (zs2 _ _ _ _ HR.out.1).mono ?_;rintro e w' ⟨rfl,rfl⟩;rw[HLen.out]
    go_wp2_with fail
    refine (z6n ss.length _ (by omega)).mono ?_;rintro e w' ⟨rfl,rfl⟩
    by_cases hp:ss.length%2=0
    · have hlt1:((4+4*ss.length:Nat):Int)<(((ss.length/2+1)*8:Nat):Int):=by omega
      have hlt2:decide (4+4*ss.length<(ss.length/2+1)*8)=true:=by simp; omega
      go_wp2_with fail
      refine (z4o _ _ (by omega) (by omega)).mono ?_;rintro e w3 ⟨rfl,hb3⟩;have hBld3:=z9r HR.out.1 hb3;have HB3:=hid hBld3;have HB4:=hid (HR.out.2.1.trans (hb3.mono (by have:=HR.out.2.2; omega)));have HB5:=hid (Nat.le_trans HR.out.2.2 hb3.size);clear hBld3 hb3
      go_wp2_with fail
      refine (z1k _ _ _ _ _ HB3.out (by rw[HLen.out]; omega) (by rw[sz4]; omega) HB5.out).mono ?_;rintro e w4 ⟨rfl,h4,k4⟩
      have HM:Hid (Bld (w.heap.size+1) w.heap.size (Lib.byteCells (leB ((ss.length:Int)-1) 4++numsL ss++fillL ss.length)) w4∧Below w.heap.size w w4∧w.heap.size+1≤w4.heap.size):=by
       refine ⟨?_,HB4.out.trans (k4.below (by omega) (Nat.le_refl _)),Nat.le_trans HB5.out k4.size⟩;rw[zch,z6o,List.take_length] at h4;rw[fillL,if_pos hp];exact h4
      clear h4 k4 hlt1 hlt2
      go_wp2_with fail
      go_loopw [7,37] (fun _ i wr=>∃k:Nat,k≤ss.length∧i= .int .i64 k∧Hid (Bld (w.heap.size+1) w.heap.size (Lib.byteCells (leB ((ss.length:Int)-1) 4++numsL ss++fillL ss.length++bodyL (ss.take k))) wr∧Below w.heap.size w wr∧w.heap.size+1≤wr.heap.size)) (fun _ i _=>ss.length-(intOf i).toNat)
      case atStart=>exact ⟨0,by omega,rfl,by simpa [bodyL] using HM.out.1,HM.out.2⟩
      case round =>
       obtain ⟨k,hk,rfl,HR⟩:=hrel
       by_cases hk1:k<ss.length
       · have hc:=(HR.out.2.1.cell (p:=a.add k) (by rw[z3k]; exact hlt)).trans (HCells.out k hk1)
         have hsz:=z6a ss k hk1;have hbt:=z5n ss k hk1;have HBT:=hid hbt
         obtain ⟨s,hs⟩:∃s,ss[k]=s:=⟨_,rfl⟩
         rw[hs] at hc hsz;have HS:=hid hs
         have hbl:(bodyL (ss.take k)).length≤1600:=by rw[z23]; have:=z1u ss k; omega
         have hnl:=z14 ss;have hfl:=z3w ss.length
         have hlen:(Lib.byteCells (leB ((ss.length:Int)-1) 4++numsL ss++fillL ss.length++bodyL (ss.take k))).length≤1099511627776:=by
          rw[Lib.byteCells_length,List.length_append,List.length_append,List.length_append,z07]; omega
         clear hbt hs hbl hnl hfl
         go_wp2_with fail
         refine (z1k _ _ _ _ _ HR.out.1 hlen (by omega) HR.out.2.2).mono ?_;rintro e w4 ⟨rfl,h4,k4⟩
         have HN:Hid (Bld (w.heap.size+1) w.heap.size (Lib.byteCells (leB ((ss.length:Int)-1) 4++numsL ss++fillL ss.length++bodyL (ss.take (k+1)))) w4∧Below w.heap.size w w4∧w.heap.size+1≤w4.heap.size):=by
          refine ⟨?_,HR.out.2.1.trans (k4.below (by omega) (Nat.le_refl _)),Nat.le_trans HR.out.2.2 k4.size⟩;rw[za1,z6o] at h4;rw[HBT.out,← List.append_assoc,HS.out];exact h4
         clear h4 k4 hlen;go_wp2
         go_roundw
         case rel=>exact ⟨k+1,by omega,by go_num,HN⟩
         case measure=>simp[intOf]; omega
       · obtain rfl:k=ss.length:=by omega
         have hbd:Bld (w.heap.size+1) w.heap.size (Lib.byteCells (z11 ss)) wr:=by
          rw[HF.out];have:=HR.out.1
          rwa [List.take_length] at this
         have HBD:=hid hbd;clear hbd
         go_wp2_with fail
         refine (z7p w.heap.size w.heap.size (z11 ss) wr (HBD.out.is (by omega) (Nat.le_refl _)) (by have:=HR.out.2.2; omega)).mono ?_;rintro e w5 ⟨rfl,b5⟩;have B5:=hid (HR.out.2.1.trans b5);clear b5;go_wp2;go_ret;exact ⟨rfl,B5.out⟩
    · have hlt1:¬((4+4*ss.length:Nat):Int)<(((ss.length/2+1)*8:Nat):Int):=by omega
      have hlt2:decide (4+4*ss.length<(ss.length/2+1)*8)=false:=by simp; omega
      have HM:Hid (Bld (w.heap.size+1) w.heap.size (Lib.byteCells (leB ((ss.length:Int)-1) 4++numsL ss++fillL ss.length)) wr∧Below w.heap.size w wr∧w.heap.size+1≤wr.heap.size):=by
       refine ⟨?_,HR.out.2⟩;have h4:=HR.out.1;rw[List.take_length] at h4;rw[fillL,if_neg hp,List.append_nil];exact h4
      go_wp2_with fail
      go_loopw [7,37] (fun _ i wr=>∃k:Nat,k≤ss.length∧i= .int .i64 k∧Hid (Bld (w.heap.size+1) w.heap.size (Lib.byteCells (leB ((ss.length:Int)-1) 4++numsL ss++fillL ss.length++bodyL (ss.take k))) wr∧Below w.heap.size w wr∧w.heap.size+1≤wr.heap.size)) (fun _ i _=>ss.length-(intOf i).toNat)
      case atStart=>exact ⟨0,by omega,rfl,by simpa [bodyL] using HM.out.1,HM.out.2⟩
      case round =>
       obtain ⟨k,hk,rfl,HR⟩:=hrel
       by_cases hk1:k<ss.length
       · have hc:=(HR.out.2.1.cell (p:=a.add k) (by rw[z3k]; exact hlt)).trans (HCells.out k hk1)
         have hsz:=z6a ss k hk1;have hbt:=z5n ss k hk1;have HBT:=hid hbt
         obtain ⟨s,hs⟩:∃s,ss[k]=s:=⟨_,rfl⟩
         rw[hs] at hc hsz;have HS:=hid hs
         have hbl:(bodyL (ss.take k)).length≤1600:=by rw[z23]; have:=z1u ss k; omega
         have hnl:=z14 ss;have hfl:=z3w ss.length
         have hlen:(Lib.byteCells (leB ((ss.length:Int)-1) 4++numsL ss++fillL ss.length++bodyL (ss.take k))).length≤1099511627776:=by
          rw[Lib.byteCells_length,List.length_append,List.length_append,List.length_append,z07]; omega
         clear hbt hs hbl hnl hfl
         go_wp2_with fail
         refine (z1k _ _ _ _ _ HR.out.1 hlen (by omega) HR.out.2.2).mono ?_;rintro e w4 ⟨rfl,h4,k4⟩
         have HN:Hid (Bld (w.heap.size+1) w.heap.size (Lib.byteCells (leB ((ss.length:Int)-1) 4++numsL ss++fillL ss.length++bodyL (ss.take (k+1)))) w4∧Below w.heap.size w w4∧w.heap.size+1≤w4.heap.size):=by
          refine ⟨?_,HR.out.2.1.trans (k4.below (by omega) (Nat.le_refl _)),Nat.le_trans HR.out.2.2 k4.size⟩;rw[za1,z6o] at h4;rw[HBT.out,← List.append_assoc,HS.out];exact h4
         clear h4 k4 hlen;go_wp2
         go_roundw
         case rel=>exact ⟨k+1,by omega,by go_num,HN⟩
         case measure=>simp[intOf]; omega
       · obtain rfl:k=ss.length:=by omega
         have hbd:Bld (w.heap.size+1) w.heap.size (Lib.byteCells (z11 ss)) wr:=by
          rw[HF.out];have:=HR.out.1
          rwa [List.take_length] at this
         have HBD:=hid hbd;clear hbd
         go_wp2_with fail
         refine (z7p w.heap.size w.heap.size (z11 ss) wr (HBD.out.is (by omega) (Nat.le_refl _)) (by have:=HR.out.2.2; omega)).mono ?_;rintro e w5 ⟨rfl,b5⟩;have B5:=hid (HR.out.2.1.trans b5);clear b5;go_wp2;go_ret;exact ⟨rfl,B5.out⟩
def FG (s:ByteArray)(w:World)(e:Ending)(w':World):Prop :=
 ∃v,e= .returned (.tuple #[v,.int .i64 (fg s).1])∧w'.ownsRow w.heap.size 9 1 v (fg s).2.length ((fg s).2.map Value.string)∧Below w.heap.size w w'
theorem FG.none {s:ByteArray}{w w':World}{c:Int}(h:fg s=(c,[]))(hb:Below w.heap.size w w'):FG s w (.returned (.tuple #[.slice none 0 0,.int .i64 c])) w' :=
 ⟨_,by rw[h],by rw[h]; exact World.ownsRow_nil _ _ _ _,hb⟩
theorem z88 (s:ByteArray)(w:World)(hs:s.size≤1099511627776) :
 Calls Tryz.prog 55 #[.string s] w (FG s w):=by
 have hpost:∃P:Ending→World→Prop,P=FG s w:=⟨_,rfl⟩
 obtain ⟨P,hP⟩:=hpost;rw[← hP];have HP:=hid hP;clear hP
 by_cases h4:s.size<4
 · have h4':((s.size:Nat):Int)<4:=by omega
   have hf:=fg0 h4;have HF:=hid hf;clear hf;go_enter Tryz.func55,Tryz.ntmps55;go_wp2;rw[HP.out];exact FG.none HF.out (Below.refl _ _)
 have h4:4≤s.size:=by omega
 have h4':¬((s.size:Nat):Int)<4:=by omega
 have hg:=gN_lt s.data.toList 0
 obtain ⟨n,hn⟩:∃n,gN s.data.toList 0+1=n:=⟨_,rfl⟩
 have hG:((gN s.data.toList 0:Nat):Int)+1=(n:Int):=by omega
 have hn1:1≤n:=by omega
 have HN:=hid hn;have HGN:=hid hG
 have hGN:Hid (∀w:World,Calls Tryz.prog 104 #[.string s,.int .i64 0] w fun e w'=>e= .returned (.int .i64 ((n:Int)-1))∧Below w.heap.size w w'):=hid (fun w=>by
  have:=z6y s 0 w (by unfold maxLen; omega) (by omega);rw[show ((gN s.data.toList 0:Nat):Int)=(n:Int)-1 by omega] at this
  exact this)
 have hnl:n≤4294967296:=by omega
 clear hg hn hG;go_enter Tryz.func55,Tryz.ntmps55
 go_wp2_with fail
 refine (hGN.out _).mono ?_;rintro e w1 ⟨rfl,hb1⟩;have HB1:=hid hb1;clear hb1
 by_cases h6:6<n
 · have h6':(6:Int)<(n:Int)-1+1:=by omega
   go_wp2;rw[HP.out];exact FG.none (fg1 HN.out h4 h6) HB1.out
 have h6':¬(6:Int)<(n:Int)-1+1:=by omega
 have h6:n≤6:=by omega
 have he:(n:Int)-1+1=n:=by omega
 have HE:=hid he;clear he
 go_wp2_with fail
 refine (z6n n _ (by omega)).mono ?_;rintro e w' ⟨rfl,rfl⟩
 obtain ⟨hd,hhd⟩:∃hd,z1a n=hd:=⟨_,rfl⟩
 have hhd2:(n/2+1)*8=hd:=hhd;rw[hhd2]
 have hdl:hd≤32∧8≤hd:=by omega
 obtain ⟨hdl,hd8⟩:=hdl;have HHD:=hid hhd;clear hhd hhd2
 by_cases hsh:s.size<hd
 · have h7:((s.size:Nat):Int)<(hd:Int):=by omega
   go_wp2;rw[HP.out];exact FG.none (fg2 HN.out h4 h6 (by rw[HHD.out]; exact hsh)) HB1.out
 have hsh:hd≤s.size:=by omega
 have h7:¬((s.size:Nat):Int)<(hd:Int):=by omega
 have hxs:(s.extract 0 hd).size=z1a n:=by rw[HHD.out]; simp; omega
 have hxl:(s.extract 0 hd).data.toList=s.data.toList.take hd:=by rw[Lib.extract_data]; simp
 have HFS:Hid (∀w:World,Calls Tryz.prog 105 #[.string (s.extract 0 hd),.int .i64 n] w (FSz (s.extract 0 hd) n w)):=hid (fun w=>zal _ n w hn1 h6 hxs)
 have hsz:szs (s.extract 0 hd).data.toList n=szs s.data.toList n:=by
  refine zn4 n (fun j hj=>?_);rw[hxl,List.getElem?_take_of_lt (by have:=HHD.out; unfold z1a at this; omega)]
 have hfz:fgZ (s.extract 0 hd).data.toList n=fgZ s.data.toList n:=by
  rw[fgZ,fgZ,hxl,HHD.out,List.take_take,Nat.min_self]
 have HSZ:=hid hsz;have HFZ:=hid hfz;clear hxs hxl hsz hfz
 go_wp2_with fail
 refine (HFS.out _).mono ?_;rintro e w2 ⟨v,rfl,hown,hb2⟩;rw[HSZ.out,HFZ.out];rw[HSZ.out] at hown;have HB2:=hid (HB1.out.trans (hb2.mono HB1.out.size));obtain ⟨A,cp,rfl⟩:=z8m hown;have HON:=hid (Ones.own hown);clear hown hb2
 by_cases hbad:fgZ s.data.toList n=false∨200<(szs s.data.toList n).sum
 · have hb:(fgZ s.data.toList n&&decide ((szs s.data.toList n).sum≤200))=false:=by
    rcases hbad with h | h
    · rw[h]; rfl
    · rw[decide_eq_false (by omega)]; simp
   rw[hb];clear hb;have HBAD:=hid hbad;clear hbad;go_wp2;rw[HP.out];exact FG.none (fg3 HN.out h4 h6 (by rw[HHD.out]; exact hsh) HBAD.out) HB2.out
 have hz1:fgZ s.data.toList n=true:=by
  cases h:fgZ s.data.toList n
  · exact absurd (.inl h) hbad
  · rfl
 have hz2:(szs s.data.toList n).sum≤200:=by omega
 rw[hz1,decide_eq_true hz2];have HZ1:=hid hz1;have HZ2:=hid hz2;have hzl:=z5j s.data.toList n
 have HCS:Hid (∀w:World,Ones w A (z39 (szs s.data.toList n))→Calls Tryz.prog 106 #[.string s,.int .i64 hd,.slice A n cp] w (fun e w'=>if s.size<hd+8*(szs s.data.toList n).sum then CutNo w e w' else zlj s hd (szs s.data.toList n) w e w')):=hid (fun w h=>by
  have:=z9p s hd A cp (szs s.data.toList n) w hs hsh (by omega) hz2 h;rw[hzl] at this
  exact this)
 have HZL:=hid hzl;clear hbad hz1 hz2 hzl
 go_wp2_with fail
 refine (HCS.out _ HON.out).mono ?_
 intro e w3 h3
 by_cases hlt:s.size<hd+8*(szs s.data.toList n).sum
 · rw[if_pos hlt] at h3
   obtain ⟨rfl,hb3⟩:=h3;have HL:=hid hlt;have HB3:=hid (HB2.out.trans (hb3.mono HB2.out.size));clear hlt hb3;go_wp2;rw[HP.out];exact FG.none (fg4 HN.out h4 h6 (by rw[HHD.out]; exact hsh) HZ1.out HZ2.out (by rw[HHD.out]; exact HL.out)) HB3.out
 · rw[if_neg hlt] at h3
   obtain ⟨v,rfl,ho3,hb3⟩:=h3;have HO3:=hid ho3;have hf:=fg5 HN.out h4 h6 (by rw[HHD.out]; exact hsh) HZ1.out HZ2.out (by rw[HHD.out]; omega);rw[HHD.out] at hf;have HF:=hid hf;have HB3:=hid (HB2.out.trans (hb3.mono HB2.out.size));have HBW:=hid HB2.out.size;clear hlt hb3 ho3 hf;go_wp2;rw[HP.out];refine ⟨v,by rw[HF.out]; rfl,?_,HB3.out⟩;rw[HF.out]
   show World.ownsRow w3 w.heap.size _ 1 v (cutB s hd (szs s.data.toList n)).length _
   rw[z94];exact ⟨HO3.out.1,HO3.out.2.imp (fun x=>x) (fun ⟨g,cap,cur,hv,hg,r⟩=>⟨g,cap,cur,hv,Nat.le_trans HBW.out hg,r⟩)⟩
abbrev wrT:TypeId:=124
abbrev stT:TypeId:=9
abbrev strS (s:List UInt8):Value:= .string ⟨s.toArray⟩
def Sb (w:World)(base b size:Nat)(ss:Segs)(bad:Bool)(P:Nat→Prop):Prop :=
 ∃v,w.heap[b]? =some (.cells #[v,.int .i64 size,.bool bad] wrT (0,0))∧w.ownsRow base stT 1 v ss.length (ss.map strS)∧base≤b∧P b∧∀k,v.ownBlock=some k→P k
theorem Sb.low {w w':World}{base b size:Nat}{ss:Segs}{bad:Bool}{P:Nat→Prop}(h:Sb w base b size ss bad P)(hb:Below w.heap.size w w'):Sb w' base b size ss bad P:=by
 obtain ⟨v,h1,h2,h3,h4⟩:=h;exact ⟨v,(hb.block _ (z00 h1)).trans h1,z13 h2 (fun k hk=>hb.block k (h2.lt k hk).2),h3,h4⟩
theorem Sb.weak {w:World}{base b size:Nat}{ss:Segs}{bad:Bool}{P Q:Nat→Prop}(h:Sb w base b size ss bad P)(hQ:∀k,P k→Q k):Sb w base b size ss bad Q:=by
 obtain ⟨v,h1,h2,h3,h4,h5⟩:=h;exact ⟨v,h1,h2,h3,hQ _ h4,fun k hk=>hQ _ (h5 k hk)⟩
theorem Sb.tight {w:World}{base b size:Nat}{ss:Segs}{bad:Bool}{P:Nat→Prop}(h:Sb w base b size ss bad P):Sb w base b size ss bad (fun k=>P k∧base≤k∧k<w.heap.size):=by
 obtain ⟨v,h1,h2,h3,h4,h5⟩:=h;exact ⟨v,h1,h2,h3,⟨h4,h3,z00 h1⟩,fun k hk=>⟨h5 k hk,h2.lt k hk⟩⟩
theorem Sb.base {w:World}{base b size:Nat}{ss:Segs}{bad:Bool}{P:Nat→Prop}(h:Sb w base b size ss bad P):base≤b∧b<w.heap.size:=by
 obtain ⟨v,h1,h2,h3,h4,h5⟩:=h;exact ⟨h3,z00 h1⟩
theorem KP.drew {P:Nat→Prop}{w w':World}(h:KP P w w'):KP P w w'.drew:=⟨h.os,h.tape,h.output,h.size,h.block⟩
theorem Sb.drew {w:World}{base b size:Nat}{ss:Segs}{bad:Bool}{P:Nat→Prop}(h:Sb w base b size ss bad P):Sb w.drew base b size ss bad P:=h.low (Below.refl _ _).drew
theorem z9i {ss:Segs}{i:Nat}(hi:i<ss.length):sgS ss i=ss[i]:=by unfold sgS; rw[List.getElem?_eq_getElem hi]; rfl
theorem Sb.open_ {w:World}{base b size:Nat}{ss:Segs}{bad:Bool}{P:Nat→Prop}(h:Sb w base b size ss bad P)(h1:1≤ss.length):∃r cap,w.heap[b]? =some (.cells #[.slice (some ⟨r,0,none⟩) ss.length cap,.int .i64 size,.bool bad] wrT (0,0))∧(P r∧r<w.heap.size∧r≠b) ∧
 (∀i,i<ss.length→w.cell? ⟨r,i,none⟩=some (strS (sgS ss i))∧w.frozen? ⟨r,i,none⟩=false) ∧
 ∀i s,i<ss.length→Sb (w.setCell ⟨r,i,none⟩ (strS s)) base b size (ss.set i s) bad P:=by
 obtain ⟨v,hb,ho,hl,hP,hv⟩:=h;obtain ⟨r,cap,cur,rfl,e2,e3,e4,e5,e6,e7⟩:=z2s ho h1;have hne:r≠b:=ne_T e3 hb (by decide);refine ⟨r,cap,hb,⟨hv r rfl,z00 e3,hne⟩,fun i hi=>⟨?_,z02 e3 i⟩,fun i s hi=>?_⟩
 · have:=ho.cells (g:=r) rfl i (strS (sgS ss i)) (by rw[List.getElem?_map,List.getElem?_eq_getElem hi,z9i hi]; rfl)
   rwa [z1r] at this
 · refine ⟨_,(Below.heap_setCell w ⟨r,i,none⟩ _ b (fun e=>hne e.symm)).trans hb,?_,hl,hP,hv⟩
   have:=ho.stored (g:=r) (cap:=cap) i (strS s);rw[List.length_set,List.map_set];exact this.1
theorem Sb.bad_ {w:World}{base b size:Nat}{ss:Segs}{bad:Bool}{P:Nat→Prop}(h:Sb w base b size ss bad P):Sb (w.setCell ⟨b,2,none⟩ (.bool true)) base b size ss true P:=by
 obtain ⟨v,hb,ho,hl,hP,hv⟩:=h;refine ⟨v,z08 hb 2 _,z13 ho (fun k hk=>Below.heap_setCell w ⟨b,2,none⟩ _ k ?_),hl,hP,hv⟩;obtain ⟨c,hc⟩:=own_T ho hk;exact ne_T hc hb (by decide)
open Go.RowKit Go.Deep
def PutQ (base b size:Nat)(ss:Segs)(i a:Nat)(t:List UInt8)(P:Nat→Prop)(w:World)(e:Ending)(w':World):Prop :=
 e= .returned (.tuple #[])∧KP P w w'∧Sb w' base b size (putS ss i a t) false P
theorem zsm (s t:List UInt8)(p:Nat)(h:p+t.length≤s.length):((⟨s.toArray⟩:ByteArray).extract 0 p++(⟨t.toArray⟩:ByteArray))++(⟨s.toArray⟩:ByteArray).extract (p+t.length) s.length=⟨(spl s p t).toArray⟩:=by
 apply z61
 rw[ByteArray.data_append,ByteArray.data_append,Array.toList_append,Array.toList_append,Lib.extract_data,Lib.extract_data];unfold spl
 simp
 rw[List.take_of_length_le (by rw[List.length_drop]; exact Nat.le_refl _)]
theorem z3d (base b size:Nat)(ss:Segs)(P:Nat→Prop)(w:World)(h:Sb w base b size ss false P)(i a:Nat)(t:List UInt8)(hi:i<ss.length)(ha:8*a+t.length≤(sgS ss i).length)(hl:(sgS ss i).length≤100000) :
 Calls Tryz.prog 124 #[.pointer (some ⟨b,0,none⟩),.int .i64 (i:Int),.int .i64 (a:Int),.string ⟨t.toArray⟩] w (PutQ base b size ss i a t P w):=by
 obtain ⟨r,cap,hb,⟨hPr,hrl,hrb⟩,hc,hst⟩:=h.open_ (by omega);obtain ⟨c0,c1,c2⟩:=z0k hb;obtain ⟨hci,hfi⟩:=hc i hi;have hfin:=hst i (spl (sgS ss i) (8*a) t) hi;have hba:=zsm (sgS ss i) t (8*a) ha
 have hts:(⟨t.toArray⟩:ByteArray).size=t.length:=by simp[ByteArray.size]
 have hss:(⟨(sgS ss i).toArray⟩:ByteArray).size=(sgS ss i).length:=by simp[ByteArray.size]
 have hlt:(i:Int)<(ss.length:Int):=by omega
 have HF:=hid hfin;have HPR:=hid hPr
 obtain ⟨s,hs⟩:∃s,sgS ss i=s:=⟨_,rfl⟩
 rw[hs] at hci hfin hba hss ha hl HF;have HS:=hid hs
 obtain ⟨S,hS⟩:∃S:ByteArray,S=⟨s.toArray⟩:=⟨_,rfl⟩
 obtain ⟨T,hT⟩:∃T:ByteArray,T=⟨t.toArray⟩:=⟨_,rfl⟩
 unfold strS at hci;rw[← hS] at hci hss hba;rw[← hT] at hts hba ⊢
 have hx1:(0:Int)≤8*(a:Int):=by omega
 have hx2:8*(a:Int)≤(S.size:Int):=by rw[hss]; omega
 have hx3:(0:Int)≤8*(a:Int)+(T.size:Int):=by omega
 have hx4:8*(a:Int)+(T.size:Int)≤(S.size:Int):=by rw[hss,hts]; omega
 have hN1:(8*(a:Int)).toNat=8*a:=by omega
 have hN2:(8*(a:Int)+(T.size:Int)).toNat=8*a+T.size:=by omega
 have hT5:T.size≤100000:=by omega
 have hS5:S.size≤100000:=by omega
 have hsz1:(S.extract 0 (8*a)).size≤100000:=by rw[ByteArray.size_extract]; omega
 have HFIN:Hid (∀W:World,W=w.setCell ⟨r,i,none⟩ (.string ((S.extract 0 (8*a)++T)++S.extract (8*a+T.size) S.size))→KP P w W∧Sb W base b size (putS ss i a t) false P):=hid (fun W hW=>by
  subst hW;rw[hts,hss,hba];refine ⟨KP.set HPR.out _ _ _,?_⟩;have:=HF.out;unfold putS;rw[HS.out]
  exact this)
 have HSS:=hid hss;have HTS:=hid hts;clear hfin hba hs hS hT hss hts hc hst ha;go_enter Tryz.func124,Tryz.ntmps124
 go_wp2_with fail
 go_region
 obtain ⟨k1,k2⟩:=HFIN.out _ rfl
 go_end0
 exact ⟨rfl,k1.drew,k2.drew⟩
def ztk (base b size:Nat)(ss:Segs)(i k:Nat)(P:Nat→Prop)(w:World)(e:Ending)(w':World):Prop :=
 e= .returned (.int .i64 (wn (sgS ss i):Nat))∧KP P w w'∧Sb w' base b size (growB ss i k) false P
theorem z8r (base b size:Nat)(ss:Segs)(P:Nat→Prop)(w:World)(h:Sb w base b size ss false P)(i k:Nat)(hi:i<ss.length)(hk:k≤10000)(hl:(sgS ss i).length≤100000) :
 Calls Tryz.prog 127 #[.pointer (some ⟨b,0,none⟩),.int .i64 (i:Int),.int .i64 (k:Int)] w (ztk base b size ss i k P w):=by
 obtain ⟨r,cap,hb,⟨hPr,hrl,hrb⟩,hc,hst⟩:=h.open_ (by omega);obtain ⟨c0,c1,c2⟩:=z0k hb;obtain ⟨hci,hfi⟩:=hc i hi
 have hss:(⟨(sgS ss i).toArray⟩:ByteArray).size=(sgS ss i).length:=by simp[ByteArray.size]
 have hlt:(i:Int)<(ss.length:Int):=by omega
 have HH:=hid h;have HB:=hid hb;have HC:=hid hci;have HPR:=hid hPr
 obtain ⟨s,hs⟩:∃s,sgS ss i=s:=⟨_,rfl⟩
 rw[hs] at hci hss hl HC;have HS:=hid hs
 obtain ⟨S,hS⟩:∃S:ByteArray,S=⟨s.toArray⟩:=⟨_,rfl⟩
 unfold strS at hci HC;rw[← hS] at hci hss HC;have HSV:=hid hS
 have hn8:(8*(k:Int)).toNat=8*k:=by omega
 have HM:=hid (fun W=>z3g ⟨#[0]⟩ (8*(k:Int)) W (by omega) (by omega) (by decide) (by show 1*_≤_; omega))
 obtain ⟨Z,hZ⟩:∃Z:ByteArray,Z=⟨(zer k).toArray⟩:=⟨_,rfl⟩
 have hzz:(⟨(repL (⟨#[0]⟩:ByteArray).data.toList (8*(k:Int)).toNat).toArray⟩:ByteArray)=Z:=by
  rw[hZ,hn8]
  congr 2
  unfold zer;generalize 8*k=q
  induction q with
  | zero=>rfl
  | succ q ih=>rw[List.replicate_succ,← ih]; rfl
 have hzs:Z.size=8*k:=by rw[hZ]; simp[ByteArray.size,z0t]
 have HZV:=hid hZ
 have hS5:S.size≤100000:=by omega
 have hZ5:Z.size≤100000:=by omega
 have hcc:¬9223372036854775807<S.size+Z.size:=by omega
 have HE:Hid (((S.size:Int)/8)=((wn (sgS ss i):Nat):Int)):=hid (by rw[HS.out]; unfold wn; rw[hss]; omega)
 have hHM:∀W,Calls Tryz.prog 68 #[.string ⟨#[0]⟩,.int .i64 (8*(k:Int))] W fun e w'=>e= .returned (.string Z)∧W=w':=fun W=>by
  have:=HM.out W;rw[hzz] at this;exact this
 have HHM:=hid hHM
 have HFIN:Hid (∀W:World,W=w.setCell ⟨r,i,none⟩ (.string (S++Z))→KP P w W.drew∧Sb W.drew base b size (growB ss i k) false P):=hid (fun W hW=>by
  subst hW;have h1:=hst i (s++zer k) hi
  have e:(⟨(s++zer k).toArray⟩:ByteArray)=S++Z:=by
   rw[hS,hZ]; apply z61; rw[ByteArray.data_append]; simp
  unfold strS at h1;rw[e] at h1;refine ⟨(KP.set HPR.out _ _ _).drew,?_⟩;unfold growB;rw[HS.out]
  exact h1.drew)
 have hw8k:IntKind.i64.wrap (8*(k:Int))=8*(k:Int):=by rw[IntKind.wrap_i64]; omega
 clear hHM hzz hzs hS hZ hn8 hs h hb hc hst HM hss;go_enter Tryz.func127,Tryz.ntmps127
 go_wp2_with fail
 refine wp_region_still_tail 17 (by kernel_rfl) (by kernel_rfl) ?_
 simp only[List.take_succ_cons,List.take_zero,List.drop_succ_cons,List.drop_zero]
 repeat still_step
 refine wpStill_step (fun K hK=>?_)
 go_simp
 refine ⟨_,(HHM.out _).mono (fun e w' h=>⟨h.1,h.2.symm⟩),hK _ ?_⟩;clear hK K
 repeat still_step
 refine wpStill_nil ?_
 change wpList _ _ _ _ _ w.drew
 have q0:w.drew.cell? ⟨b,0,none⟩=some (.slice (some ⟨r,0,none⟩) ss.length cap):=c0;have q1:w.drew.cell? ⟨r,i,none⟩=some (.string S):=hci;have q2:w.drew.frozen? ⟨r,i,none⟩=false:=hfi;have HFIN2:Hid (∀W:World,W=w.drew.setCell ⟨r,i,none⟩ (.string (S++Z))→KP P w W∧Sb W base b size (growB ss i k) false P):=hid (fun W hW=>by subst hW; exact HFIN.out _ rfl);clear c0 c1 c2 hci hfi HFIN;generalize w.drew=w2 at *;go_wp2;obtain ⟨k1,k2⟩:=HFIN2.out _ rfl;go_ret;exact ⟨z2n HE.out,k1,k2⟩
end Go.Proofs.YtlbfffokkhccaaaGreatDoor
namespace Go.Proofs.YtlbfffokkhccaaaGreatDoor
open Go.RowKit
theorem in_wi (c:Int):inB c 0 12800=wiB c 12801:=by unfold inB wiB; rw[Bool.eq_iff_iff]; simp; omega
theorem zpr (m:Nat)(s c:Int)(d:ByteArray)(A B:Option Addr)(lp cp ci:Nat)(is:List Nd)(w:World)(S:Nat→Prop)(_hn:NdsAt w S m B is)(hdm:d.size≤maxLen)(_hlm:is.length≤2000000)(_hpm:lp≤2000000)(hs0:0≤s)(hs5:s≤5)(hw:wiB c 12801=true) :
 Calls Tryz.prog 123 #[.agg #[.int .i64 2,.string d,.slice A lp cp,.int .i64 s,.int .i64 c,.slice B is.length ci]] w fun e w'=>e= .returned (.bool (listB 2 s c d lp is.length (z0c is)))∧Below w.heap.size w w':=by
 obtain ⟨hc0,hc1⟩:=z8q hw;have HLN:Hid (listB 2 s c d lp is.length (z0c is)=(bitsB d (c*bz s)&&(decide (lp=0)&&decide (is.length=0)))):=hid (by unfold listB; rw[hw,if_pos ⟨hs0,hs5⟩]; simp);have HS7:Hid (inB s 0 7=true):=hid (by simp[inB]; omega);have HW:Hid (inB c 0 12800=true):=hid (by rw[in_wi]; exact hw);have HPL:=hid (fun W=>zjy 2 s c d A B lp cp is.length ci W hs0 hs5 hc0 (by omega) hdm)
 have z6:(s==6)=false:=by simp; omega
 have z7:(s==7)=false:=by simp; omega
 clear _hn hw hdm _hlm _hpm hs0 hs5 hc0 hc1;generalize bitsB d (c*bz s)=bb at *
 by_cases hp:lp=0
 · have hpb:((lp:Int)==0)=true:=by rw[hp]; rfl
   by_cases hi:is.length=0
   · have hib:((is.length:Int)==0)=true:=by rw[hi]; rfl
     have HX:Hid (listB 2 s c d lp is.length (z0c is)=bb):=hid (by rw[HLN.out,hp,hi]; simp);clear hp hi;go_enter Tryz.func123,Tryz.ntmps123
     go_wp2_with (first | (go_at_call 39; go_must (refine (z34 _ _ _ _).mono ?_); rintro e w1 ⟨rfl,rfl⟩; first | rw[HS7.out] | rw[HW.out]) | (go_at_call 162; go_must (with_reducible refine (HPL.out _).mono ?_); rintro e w2 ⟨rfl,hb2⟩))
     go_ret;exact ⟨by rw[HX.out]; rfl,((Below.refl _ _).alloc (Nat.le_refl _) _).trans (hb2.mono (by simp))⟩
   · have hib:((is.length:Int)==0)=false:=by rw[beq_eq_false_iff_ne]; omega
     have HX:Hid (listB 2 s c d lp is.length (z0c is)=false):=hid (by rw[HLN.out]; simp[hi]);clear hp hi;go_enter Tryz.func123,Tryz.ntmps123
     go_wp2_with (go_at_call 39; go_must (refine (z34 _ _ _ _).mono ?_); rintro e w1 ⟨rfl,rfl⟩; first | rw[HS7.out] | rw[HW.out])
     go_ret;exact ⟨by rw[HX.out]; rfl,(Below.refl _ _).alloc (Nat.le_refl _) _⟩
 · have hpb:((lp:Int)==0)=false:=by rw[beq_eq_false_iff_ne]; omega
   have HX:Hid (listB 2 s c d lp is.length (z0c is)=false):=hid (by rw[HLN.out]; simp[hp]);clear hp;go_enter Tryz.func123,Tryz.ntmps123
   go_wp2_with (go_at_call 39; go_must (refine (z34 _ _ _ _).mono ?_); rintro e w1 ⟨rfl,rfl⟩; first | rw[HS7.out] | rw[HW.out])
   go_ret;exact ⟨by rw[HX.out]; rfl,(Below.refl _ _).alloc (Nat.le_refl _) _⟩
theorem zoj (m:Nat)(c:Int)(d:ByteArray)(A B:Option Addr)(lp cp ci:Nat)(is:List Nd)(w:World)(S:Nat→Prop)(_hn:NdsAt w S m B is)(_hdm:d.size≤maxLen)(_hlm:is.length≤2000000)(_hpm:lp≤2000000)(hw:wiB c 12801=true) :
 Calls Tryz.prog 123 #[.agg #[.int .i64 2,.string d,.slice A lp cp,.int .i64 6,.int .i64 c,.slice B is.length ci]] w fun e w'=>e= .returned (.bool (listB 2 6 c d lp is.length (z0c is)))∧Below w.heap.size w w':=by
 have HLN:Hid (listB 2 6 c d lp is.length (z0c is)=decide (d.size=0∧(lp:Int)=c∧is.length=0)):=hid (by unfold listB; rw[hw,Bool.eq_iff_iff]; simp);have hse:=z1p d;have HS7:Hid (inB 6 0 7=true):=hid (by decide);have HW:Hid (inB c 0 12800=true):=hid (by rw[in_wi]; exact hw);clear hw _hn;go_enter Tryz.func123,Tryz.ntmps123
 go_wp2_with (go_at_call 39; go_must (refine (z34 _ _ _ _).mono ?_); rintro e w1 ⟨rfl,rfl⟩; first | rw[HS7.out] | rw[HW.out])
 all_goals go_ret
 all_goals refine ⟨z0j ?_,(Below.refl _ _).alloc (Nat.le_refl _) _⟩
 all_goals (rw[HLN.out,Bool.eq_iff_iff]; simp_all)
theorem znr (m:Nat)(c:Int)(d:ByteArray)(A B:Option Addr)(lp cp ci:Nat)(is:List Nd)(w:World)(S:Nat→Prop)(hn:NdsAt w S m B is)(_hdm:d.size≤maxLen)(hlm:is.length≤2000000)(_hpm:lp≤2000000)(hw:wiB c 12801=true) :
 Calls Tryz.prog 123 #[.agg #[.int .i64 2,.string d,.slice A lp cp,.int .i64 7,.int .i64 c,.slice B is.length ci]] w fun e w'=>e= .returned (.bool (listB 2 7 c d lp is.length (z0c is)))∧Below w.heap.size w w':=by
 have HLN:Hid (listB 2 7 c d lp is.length (z0c is)=(decide (d.size=0∧lp=0∧(is.length:Int)=c)&&z0c is)):=hid (by unfold listB; rw[hw,Bool.eq_iff_iff]; simp[and_assoc]);have HFALSE:Hid (z0c is=false→listB 2 7 c d lp is.length (z0c is)=false):=hid (fun h=>by rw[HLN.out,h,Bool.and_false]);have hse:=z1p d;have HS7:Hid (inB 7 0 7=true):=hid (by decide);have HW:Hid (inB c 0 12800=true):=hid (by rw[in_wi]; exact hw);have hba:=(Below.refl w.heap.size w).alloc (Nat.le_refl _) (.cells #[.int .i64 2,.string d,.slice A lp cp,.int .i64 7,.int .i64 c,.slice B is.length ci] nodeT);have HF:=hid (NdsAt.succ _ _ _ (hn.below hba));have HBW:=hid hba;have HR:=hid (heap_alloc_new w (.cells #[.int .i64 2,.string d,.slice A lp cp,.int .i64 7,.int .i64 c,.slice B is.length ci] nodeT))
 have hsz:w.heap.size<(w.alloc (.cells #[.int .i64 2,.string d,.slice A lp cp,.int .i64 7,.int .i64 c,.slice B is.length ci] nodeT)).heap.size:=by simp
 clear hw hn hba;go_enter Tryz.func123,Tryz.ntmps123
 go_wp2_with (go_at_call 39; go_must (refine (z34 _ _ _ _).mono ?_); rintro e w1 ⟨rfl,rfl⟩; first | rw[HS7.out] | rw[HW.out])
 generalize w.alloc (.cells #[.int .i64 2,.string d,.slice A lp cp,.int .i64 7,.int .i64 c,.slice B is.length ci] nodeT)=W at *
 go_loopw [3] (fun i wr=>∃k:Nat,i= .int .i64 k∧k≤is.length∧Hid ((is.take k).all (fun n=>itemB n (is.headD default))=true)∧Hid (Below W.heap.size W wr)) (fun i _=>is.length-(intOf i).toNat)
 case atStart=>exact ⟨0,rfl,by omega,hid rfl,hid (Below.refl _ _)⟩
 case round =>
  obtain ⟨k,rfl,hk,HA,HB⟩:=hrel;have hrw:=(HB.out.block _ hsz).trans HR.out;obtain ⟨e0,e1,e2,e3,e4,e5⟩:=z01 hrw
  by_cases hlt:k<is.length
  · clear e0 e1 e2 e3 e4
    obtain ⟨x,hd,rfl,hc,hn⟩:=(HF.out.below HB.out).at_ hlt;obtain ⟨x',hd0,hxx,hc0,hn0⟩:=(HF.out.below HB.out).at_ (k:=0) (by omega);obtain rfl:x=x':=Option.some.inj hxx;rw[z6r] at hc0;have HFL:=hid (fun h=>z80 hlt h);have HTR:=hid (fun h=>za8 hlt HA.out h)
    have h0l:0<is.length:=by omega
    rw[zcs h0l] at hc0;generalize is.headD default=hdn at hc0 HFL HTR;generalize is[k]=n at hc HFL HTR;obtain ⟨c0,c1,c2,c3,c4,c5⟩:=hc;obtain ⟨-,d1,d2, -, -, -⟩:=hc0;have HI:=hid (fun W=>z7y n.kind n.size n.count n.data hd.A hd.B n.ptrs.length hd.a n.items.length hd.b W);clear hn hn0 hrw
    go_wp2_with fail
    have q0:=cell_regrown c0;have q1:=cell_regrown c1;have q2:=cell_regrown c2;have q3:=cell_regrown c3;have q4:=cell_regrown c4;have q5:=cell_regrown c5;have e5':=cell_regrown e5;have p1:=cell_regrown d1;have p2:=cell_regrown d2;cases hst:z1z n.kind n.data n.size n.count n.items.length
    · have HX:=hid (HFALSE.out (HFL.out (by simp[itemB,hst])))
      rw[hst] at HI;refine wp_region_quiet_below (by kernel_rfl) (by kernel_rfl) ?_
      repeat (first | go_big_quiet_step ((go_at_call 122; with_reducible exact Calls.regrown_of (HI.out _))) | quiet_step ((go_at_call 122; with_reducible exact Calls.regrown_of (HI.out _))))
      refine wpQuiet_nil ?_
      intro _ hw'
      obtain ⟨⟨dq,osq⟩,hw''⟩:=hw';subst hw'';have HB2:=hid (HB.out.trans ((below_regrown wr dq osq).mono HB.out.size));clear q0 q1 q2 q3 q4 q5 e5 e5' p1 p2 d1 d2 c0 c1 c2 c3 c4 c5;generalize «Sort».grow (redrawn wr dq) osq=W2 at *;go_wp2;go_ret;exact ⟨by rw[HX.out]; rfl,HBW.out.trans (HB2.out.mono HBW.out.size)⟩
    · rw[hst] at HI
      by_cases hz:n.data.size=hdn.data.size
      · have HZ:=hid hz
        have hzb:((n.data.size:Int)==(hdn.data.size:Int))=true:=by rw[hz]; simp
        have hzn:((n.data.size:Int) != (hdn.data.size:Int))=false:=by rw[hz]; simp
        clear hz
        by_cases hp:n.ptrs.length=hdn.ptrs.length
        · have HX:=hid (HTR.out (by simp[itemB,hst,HZ.out,hp]))
          have hpn:((n.ptrs.length:Int) != (hdn.ptrs.length:Int))=false:=by rw[hp]; simp
          clear hp;refine wp_region_quiet_below (by kernel_rfl) (by kernel_rfl) ?_
          repeat (first | go_big_quiet_step ((go_at_call 122; with_reducible exact Calls.regrown_of (HI.out _))) | quiet_step ((go_at_call 122; with_reducible exact Calls.regrown_of (HI.out _))))
          refine wpQuiet_nil ?_
          intro _ hw'
          obtain ⟨⟨dq,osq⟩,hw''⟩:=hw';subst hw'';have HB2:=hid (HB.out.trans ((below_regrown wr dq osq).mono HB.out.size));clear q0 q1 q2 q3 q4 q5 e5 e5' p1 p2 d1 d2 c0 c1 c2 c3 c4 c5;generalize «Sort».grow (redrawn wr dq) osq=W2 at *;go_wp2
          go_roundw
          case rel=>exact ⟨k+1,by go_num,by omega,HX,HB2⟩
          case measure=>simp[intOf]; omega
        · have HX:=hid (HFALSE.out (HFL.out (by simp[itemB,hst,HZ.out,hp])))
          have hpn:((n.ptrs.length:Int) != (hdn.ptrs.length:Int))=true:=by simp; omega
          clear hp;refine wp_region_quiet_below (by kernel_rfl) (by kernel_rfl) ?_
          repeat (first | go_big_quiet_step ((go_at_call 122; with_reducible exact Calls.regrown_of (HI.out _))) | quiet_step ((go_at_call 122; with_reducible exact Calls.regrown_of (HI.out _))))
          refine wpQuiet_nil ?_
          intro _ hw'
          obtain ⟨⟨dq,osq⟩,hw''⟩:=hw';subst hw'';have HB2:=hid (HB.out.trans ((below_regrown wr dq osq).mono HB.out.size));clear q0 q1 q2 q3 q4 q5 e5 e5' p1 p2 d1 d2 c0 c1 c2 c3 c4 c5;generalize «Sort».grow (redrawn wr dq) osq=W2 at *;go_wp2;go_ret;exact ⟨by rw[HX.out]; rfl,HBW.out.trans (HB2.out.mono HBW.out.size)⟩
      · have HX:=hid (HFALSE.out (HFL.out (by simp[itemB,hst,hz])))
        have hzb:((n.data.size:Int)==(hdn.data.size:Int))=false:=by simp; omega
        have hzn:((n.data.size:Int) != (hdn.data.size:Int))=true:=by simp; omega
        refine wp_region_quiet_below (by kernel_rfl) (by kernel_rfl) ?_
        repeat (first | go_big_quiet_step ((go_at_call 122; with_reducible exact Calls.regrown_of (HI.out _))) | quiet_step ((go_at_call 122; with_reducible exact Calls.regrown_of (HI.out _))))
        refine wpQuiet_nil ?_
        intro _ hw'
        obtain ⟨⟨dq,osq⟩,hw''⟩:=hw';subst hw'';have HB2:=hid (HB.out.trans ((below_regrown wr dq osq).mono HB.out.size));clear q0 q1 q2 q3 q4 q5 e5 e5' p1 p2 d1 d2 c0 c1 c2 c3 c4 c5;generalize «Sort».grow (redrawn wr dq) osq=W2 at *;go_wp2;go_ret;exact ⟨by rw[HX.out]; rfl,HBW.out.trans (HB2.out.mono HBW.out.size)⟩
  · obtain rfl:k=is.length:=by omega
    rw[List.take_of_length_le (Nat.le_refl _)] at HA;have HIB:Hid (z0c is=true):=hid HA.out;have HX:Hid (listB 2 7 c d lp is.length (z0c is)=decide (d.size=0∧lp=0∧(is.length:Int)=c)):=hid (by rw[HLN.out,HIB.out,Bool.and_true]);have HBE:=hid (HBW.out.trans (HB.out.mono HBW.out.size));go_wp2
    all_goals go_ret
    all_goals refine ⟨?_,HBE.out⟩
    all_goals rw[HX.out]
    all_goals exact z0j (by rw[Bool.eq_iff_iff]; simp_all)
theorem zp1 (m:Nat)(k s c:Int)(d:ByteArray)(A B:Option Addr)(lp cp ci:Nat)(is:List Nd)(w:World)(S:Nat→Prop)(hn:NdsAt w S m B is)(hdm:d.size≤maxLen)(hlm:is.length≤2000000)(hpm:lp≤2000000) :
 Calls Tryz.prog 123 #[.agg #[.int .i64 k,.string d,.slice A lp cp,.int .i64 s,.int .i64 c,.slice B is.length ci]] w fun e w'=>e= .returned (.bool (listB k s c d lp is.length (z0c is)))∧Below w.heap.size w w':=by
 by_cases hk:k=2
 · subst hk
   by_cases hs:0≤s∧s≤7
   · cases hw:wiB c 12801
     · have HX:Hid (listB 2 s c d lp is.length (z0c is)=false):=hid (by unfold listB; rw[hw]; simp)
       have HS7:Hid (inB s 0 7=true):=hid (by simp[inB]; omega);have HW:Hid (inB c 0 12800=false):=hid (by rw[in_wi]; exact hw);clear hw hn hs;go_enter Tryz.func123,Tryz.ntmps123
       go_wp2_with (go_at_call 39; go_must (refine (z34 _ _ _ _).mono ?_); rintro e w1 ⟨rfl,rfl⟩; first | rw[HS7.out] | rw[HW.out])
       go_ret;exact ⟨by rw[HX.out]; rfl,(Below.refl _ _).alloc (Nat.le_refl _) _⟩
     · by_cases h5:s≤5
       · exact zpr m s c d A B lp cp ci is w S hn hdm hlm hpm hs.1 h5 hw
       · have h67:s=6∨s=7:=by omega
         rcases h67 with rfl | rfl
         · exact zoj m c d A B lp cp ci is w S hn hdm hlm hpm hw
         · exact znr m c d A B lp cp ci is w S hn hdm hlm hpm hw
   · have HX:Hid (listB 2 s c d lp is.length (z0c is)=false):=hid (by unfold listB; rw[if_neg (by omega),if_neg (by omega),if_neg (by omega)]; simp)
     have HS7:Hid (inB s 0 7=false):=hid (by simp[inB]; omega);have HW:=HS7;clear hn hs;go_enter Tryz.func123,Tryz.ntmps123
     go_wp2_with (go_at_call 39; go_must (refine (z34 _ _ _ _).mono ?_); rintro e w1 ⟨rfl,rfl⟩; first | rw[HS7.out] | rw[HW.out])
     go_ret;exact ⟨by rw[HX.out]; rfl,(Below.refl _ _).alloc (Nat.le_refl _) _⟩
 · have HX:Hid (listB k s c d lp is.length (z0c is)=false):=hid (by unfold listB; simp[hk])
   clear hn;go_enter Tryz.func123,Tryz.ntmps123;go_wp2;go_ret;exact ⟨by rw[HX.out]; rfl,(Below.refl _ _).alloc (Nat.le_refl _) _⟩
end Go.Proofs.YtlbfffokkhccaaaGreatDoor
