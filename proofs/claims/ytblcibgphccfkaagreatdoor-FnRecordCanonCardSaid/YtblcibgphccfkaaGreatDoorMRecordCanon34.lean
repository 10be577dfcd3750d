/- Texts of the proof of the law FnRecordCanon, side by side: part 34. -/
import Derived.Test.YtblcibgphccfkaaGreatDoorMRecordCanon33
set_option maxHeartbeats 8000000
set_option maxRecDepth 100000
open Go.Lib (hid)
namespace Go.Proofs.YtblcibgphccfkaaGreatDoor
open Go.RowKit Go.Deep
theorem zgn (f:Fld)(v:Vl)(h:Hd)(m:Nat)(w:World)(S:Nat→Prop)(hz:1≤f.size∧f.size≤6)(hn:NdAt w S m v.nd h)(htn:totN m v.nd≤2000000) :
 Calls Tryz.prog 51 #[.agg #[.int .i64 f.size,.bool f.choice,.int .i64 f.els],.agg #[.int .i64 v.num,.int .i64 v.nd.kind,.string v.nd.data,.slice h.A v.nd.ptrs.length h.a,.int .i64 v.nd.size,.int .i64 v.nd.count,.slice h.B v.nd.items.length h.b]] w fun e w'=>e= .returned (.bool (valB f v))∧Below w.heap.size w w':=by
 have q0:=z0j w (.cells #[.int .i64 f.size,.bool f.choice,.int .i64 f.els] 41);have q1:=z0m q0 (.cells #[.int .i64 v.num,.int .i64 v.nd.kind,.string v.nd.data,.slice h.A v.nd.ptrs.length h.a,.int .i64 v.nd.size,.int .i64 v.nd.count,.slice h.B v.nd.items.length h.b] valT);have r0:=z02 (heap_alloc_new w (.cells #[.int .i64 f.size,.bool f.choice,.int .i64 f.els] 41)) (.cells #[.int .i64 v.num,.int .i64 v.nd.kind,.string v.nd.data,.slice h.A v.nd.ptrs.length h.a,.int .i64 v.nd.size,.int .i64 v.nd.count,.slice h.B v.nd.items.length h.b] valT);have r1:=z0s q0 #[.int .i64 v.num,.int .i64 v.nd.kind,.string v.nd.data,.slice h.A v.nd.ptrs.length h.a,.int .i64 v.nd.size,.int .i64 v.nd.count,.slice h.B v.nd.items.length h.b] valT;have HB0:=hid q1.2;have HNO:=hid (fun (W:World) (hW:Below w.heap.size w W)=>z3m m v.nd h W S (hn.below hW) htn);have HFT:=hid (fun W:World=>z4w f.size v.num W hz.1 hz.2);have R0:=hid r0;have R1:=hid r1;obtain ⟨z,fc,el⟩:=f;obtain ⟨x,n⟩:=v
 dsimp only at *
 obtain ⟨a0,a1,a2⟩:=z29 r0;obtain ⟨b0,b1,b2,b3,b4,b5,b6⟩:=z09 r1;clear q0 q1 r0 r1 hn htn
 by_cases h6:z=6
 · subst h6
   by_cases hx:x=0
   · have HX:Hid (valB ⟨6,fc,el⟩ ⟨x,n⟩=z0l n):=hid (by unfold valB; rw[if_pos rfl]; simp[hx])
     subst hx;go_enter Tryz.func51,Tryz.ntmps51
     go_wp2_with fail
     refine (HNO.out _ HB0.out).mono ?_;rintro e w1 ⟨rfl,hb1⟩;have HB1:=hid (HB0.out.trans (hb1.mono HB0.out.size));clear hb1;go_wp2;go_ret;exact ⟨by rw[HX.out]; rfl,HB1.out⟩
   · have HX:Hid (valB ⟨6,fc,el⟩ ⟨x,n⟩=false):=hid (by unfold valB; rw[if_pos rfl]; simp[hx])
     have hx0:(x==0)=false:=by simpa using hx
     clear hx;go_enter Tryz.func51,Tryz.ntmps51
     go_wp2_with fail
     go_ret;exact ⟨by rw[HX.out]; rfl,HB0.out⟩
 · have hz6:(z==6)=false:=by simpa using h6
   have hv:valB ⟨z,fc,el⟩ ⟨x,n⟩=(fitB z x&&(decide (n.kind=0)&&z0l n)):=by unfold valB; rw[if_neg h6]
   have HV:=hid hv;clear hv h6
   by_cases hk:n.kind=0
   · have hk0:(n.kind==0)=true:=by simpa using hk
     cases hno:z0l n
     · have HX:Hid (valB ⟨z,fc,el⟩ ⟨x,n⟩=false):=hid (by rw[HV.out,hno,Bool.and_false,Bool.and_false])
       rw[hno] at HNO;clear hk hno;go_enter Tryz.func51,Tryz.ntmps51
       go_wp2_with fail
       refine (HNO.out _ HB0.out).mono ?_;rintro e w1 ⟨rfl,hb1⟩;have HB1:=hid (HB0.out.trans (hb1.mono HB0.out.size));clear hb1;go_wp2;go_ret;exact ⟨by rw[HX.out]; rfl,HB1.out⟩
     · have HX:Hid (valB ⟨z,fc,el⟩ ⟨x,n⟩=fitB z x):=hid (by rw[HV.out,hno,decide_eq_true hk,Bool.and_true,Bool.and_true])
       rw[hno] at HNO;clear hk hno;go_enter Tryz.func51,Tryz.ntmps51
       go_wp2_with fail
       refine (HNO.out _ HB0.out).mono ?_;rintro e w1 ⟨rfl,hb1⟩;have HB1:=hid (HB0.out.trans (hb1.mono HB0.out.size));clear a0 a1 a2 b0 b1 b2 b3 b4 b5 b6;obtain ⟨a0,a1,a2⟩:=z29 ((hb1.block _ (z00 R0.out)).trans R0.out);obtain ⟨b0,b1,b2,b3,b4,b5,b6⟩:=z09 ((hb1.block _ (z00 R1.out)).trans R1.out);clear hb1
       go_wp2_with fail
       refine (HFT.out _).mono ?_;rintro e w2 ⟨rfl,hb2⟩;have HB2:=hid (HB1.out.trans (hb2.mono HB1.out.size));clear hb2;go_wp2;go_ret;exact ⟨by rw[HX.out]; rfl,HB2.out⟩
   · have HX:Hid (valB ⟨z,fc,el⟩ ⟨x,n⟩=false):=hid (by rw[HV.out,decide_eq_false hk,Bool.false_and,Bool.and_false])
     have hk0:(n.kind==0)=false:=by simpa using hk
     clear hk;go_enter Tryz.func51,Tryz.ntmps51
     go_wp2_with fail
     go_ret;exact ⟨by rw[HX.out]; rfl,HB0.out⟩
end Go.Proofs.YtblcibgphccfkaaGreatDoor
namespace Go.Proofs.YtblcibgphccfkaaGreatDoor
open Go.RowKit
theorem z8p (n:Int)(k:Nat)(hk:k≤8)(w:World) :
 Calls Tryz.prog 78 #[.int .i64 n,.int .i64 k] w fun e w'=>e= .returned (.string ⟨(leB n k).toArray⟩)∧Below w.heap.size w w' :=
 z5i n k w (by omega) (by omega)
open Go.RowKit Go.Deep
theorem zdo (fc:Bool)(el:Int)(D:ByteArray)(s:Nat)(n X9:Int)(hX9:xorI n el=X9)(w:World)(hd:D.size≤1600)(hb:X9=0∨X9=1)(hs:s<8*D.size) :
 Calls Tryz.prog 80 #[.agg #[.int .i64 1,.bool fc,.int .i64 el],.string D,.int .i64 (s:Int),.int .i64 n] w fun e w'=>e= .returned (.string ⟨(z5v D.data.toList s X9.toNat).toArray⟩)∧Below w.heap.size w w':=by
 have HB0:=hid ((Below.refl w.heap.size w).alloc (Nat.le_refl _) (.cells #[.int .i64 1,.bool fc,.int .i64 el] 41));have HC:=hid (fun W:World=>zc9 D s X9 W hd hs hb);have hxe:bits .xor .i64 n el=X9:=hX9;clear hb hX9;go_enter Tryz.func80,Tryz.ntmps80
 go_wp2_with fail
 refine (HC.out _).mono ?_;rintro e w1 ⟨rfl,hb1⟩;have HB1:=hid (HB0.out.trans (hb1.mono HB0.out.size));clear hb1;go_wp2;go_ret;exact ⟨rfl,HB1.out⟩
theorem zd4 (z:Int)(hz:z=2∨z=3∨z=4∨z=5)(fc:Bool)(el:Int)(D:ByteArray)(s q a:Nat)(hq:wdF z=(q:Int))(ha:(s:Int)*(q:Int)=(a:Int))(n X9:Int)(hX9:xorI n el=X9)(w:World)(hd:D.size≤1600)(hin:a+q≤D.size) :
 Calls Tryz.prog 80 #[.agg #[.int .i64 z,.bool fc,.int .i64 el],.string D,.int .i64 (s:Int),.int .i64 n] w fun e w'=>e= .returned (.string ⟨(putL D.data.toList a (leB X9 q)).toArray⟩)∧Below w.heap.size w w':=by
 have hfin:=z9s D a (leB X9 q) q (z2s X9 q) hin;rw[← hfin];clear hfin
 have hq8:q≤8∧1≤q:=by have:=zdy z; omega
 have HB0:=hid ((Below.refl w.heap.size w).alloc (Nat.le_refl _) (.cells #[.int .i64 z,.bool fc,.int .i64 el] 41));have HR0:=hid (heap_alloc_new w (.cells #[.int .i64 z,.bool fc,.int .i64 el] 41));have HL:=hid (fun W:World=>z4u z W (by omega) (by omega));rw[z9p hz,hq] at HL
 have hdv:(8*(q:Int)).tdiv 8=(q:Int):=by rw[Int.tdiv_eq_ediv_of_nonneg (by omega)]; omega
 have hz1:(z==1)=false:=by simp; omega
 have HXE:Hid (bits .xor .i64 n el=X9):=hid hX9
 have ha1:((s:Int)+1)*(q:Int)=(a:Int)+(q:Int):=by rw[Int.add_mul,ha]; omega
 have e1:IntKind.i64.wrap (a:Int)=(a:Int):=by rw[IntKind.wrap_i64]; omega
 have e2:IntKind.i64.wrap ((a:Int)+(q:Int))=(a:Int)+(q:Int):=by rw[IntKind.wrap_i64]; omega
 have hsb:(s:Int)≤1600:=by
  have:(s:Int)*1≤(s:Int)*(q:Int):=Int.mul_le_mul_of_nonneg_left (by omega) (by omega);omega
 have HDV:=hid hdv;have HA:=hid (And.intro ha (And.intro ha1 (And.intro e1 e2)))
 have e3:IntKind.i64.wrap ((s:Int)+1)=(s:Int)+1:=by rw[IntKind.wrap_i64]; omega
 have HE3:=hid e3
 have g0:(0:Int)≤(a:Int):=by omega
 have g1:(a:Int)≤(D.size:Int):=by omega
 have g2:(0:Int)≤(a:Int)+(q:Int):=by omega
 have g3:(a:Int)+(q:Int)≤(D.size:Int):=by omega
 have g4:((a:Int)+(q:Int)).toNat=a+q:=by omega
 have gm:min a D.size=a:=by omega
 have hbl:=z2s X9 q
 have f1:¬9223372036854775807<a+q:=by omega
 have f3:¬9223372036854775807<D.size:=by omega
 have f2:¬9223372036854775807<a+q+(D.size-(a+q)):=by omega
 have hq8':=hq8.1;clear hq ha hX9 hdv ha1 e1 e2 e3 hz hsb hq8;go_enter Tryz.func80,Tryz.ntmps80
 go_wp2_with fail
 refine (HL.out _).mono ?_;rintro e w2 ⟨rfl,hb2⟩;have HB2:=hid (HB0.out.trans (hb2.mono HB0.out.size));have hr2:=(hb2.block _ (z00 HR0.out)).trans HR0.out;obtain ⟨q0,q1,q2⟩:=z29 hr2;have q2d:w2.drew.cell? ⟨w.heap.size,2,none⟩=some (.int .i64 el):=q2;clear hb2 hr2 q0 q1;have hdv:=HDV.out
 go_wp2_with fail
 clear hdv;obtain ⟨ha,ha1,e1,e2⟩:=HA.out;have e3:=HE3.out;have hxe:=HXE.out
 go_region_law (first | (go_simp; go_at_call 78; refine (z8p X9 q hq8' _).mono ?_; rintro e w5 ⟨rfl,hb5⟩))
 all_goals
  clear ha ha1 e1 e2 e3 hxe g0 g1 g2 g3 g4 gm f1 f2 f3;have hB:Hid (Below w.heap.size w w5):=hid (HB2.out.drew.trans (hb5.mono (by simpa using HB2.out.size)));clear hb5;go_wp2;go_ret;exact ⟨rfl,hB.out⟩
end Go.Proofs.YtblcibgphccfkaaGreatDoor
