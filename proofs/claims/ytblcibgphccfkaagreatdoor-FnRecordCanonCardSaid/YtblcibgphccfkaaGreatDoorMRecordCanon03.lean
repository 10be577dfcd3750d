/- Texts of the proof of the law FnRecordCanon, side by side: part 3. -/
import Derived.Test.YtblcibgphccfkaaGreatDoorMRecordCanon02
set_option maxHeartbeats 8000000
set_option maxRecDepth 100000
open Go.Lib (hid)
namespace Go.Proofs.YtblcibgphccfkaaGreatDoor
open Go.RowKit
def listB (k s c:Int)(d:ByteArray)(lp li:Nat)(ib:Bool):Bool :=
 decide (k=2)&&(wiB c 12801&&(if 0≤s∧s≤5 then bitsB d (c*bz s)&&(decide (lp=0)&&decide (li=0)) else if s=6 then decide (d.size=0)&&(decide ((lp:Int)=c)&&decide (li=0)) else if s=7 then decide (d.size=0)&&(decide (lp=0)&&(decide ((li:Int)=c)&&ib)) else false))
def listN (n:Nd):Bool:=listB n.kind n.size n.count n.data n.ptrs.length n.items.length (z0i n.items)
theorem z8t {n b:Int}(h:wiB n b=true):0≤n∧n<b:=by simpa [wiB] using h
theorem zk9 (m:Nat)(c:Int)(d:ByteArray)(A B:Option Addr)(lp cp ci:Nat)(is:List Nd)(w:World)(S:Nat→Prop)(_hn:NdsAt w S m B is)(hdm:d.size≤maxLen)(_hlm:is.length≤2000000)(hpm:lp≤2000000)(hw:wiB c 12801=true) :
 Calls Tryz.prog 121 #[.agg #[.int .i64 2,.string d,.slice A lp cp,.int .i64 0,.int .i64 c,.slice B is.length ci]] w fun e w'=>e= .returned (.bool (listB 2 0 c d lp is.length (z0i is)))∧Below w.heap.size w w':=by
 obtain ⟨hc0,hc1⟩:=z8t hw
 have hb0:0≤(0:Int)∧(0:Int)≤10000000:=by omega
 have HBI:Hid (∀W:World,Calls Tryz.prog 140 #[.string d,.int .i64 0] W fun e w'=>e= .returned (.bool (bitsB d 0))∧Below W.heap.size W w'):=hid fun W=>z55 d 0 W hb0.1 hb0.2 hdm
 have HSZ:Hid (∀W:World,Calls Tryz.prog 105 #[.int .i64 0] W fun e w'=>e= .returned (.int .i64 0)∧Below W.heap.size W w'):=hid fun W=>(z35 0 W (by decide) (by decide)).mono (by rintro e w' ⟨rfl,rfl⟩; exact ⟨rfl,Below.refl _ _⟩)
 have HLN:Hid (∀lp:Nat,listB 2 0 c d lp is.length (z0i is)=(bitsB d 0&&(decide (lp=0)&&decide (is.length=0)))):=hid (by intro lp; unfold listB; rw[hw]; simp[show bz 0=0 from rfl]);have HW:=hid hw;have HDM:=hid hdm;clear _hn hw hdm;cases hbi:bitsB d 0
 · rw[hbi] at HBI HLN
   have HX:Hid (listB 2 0 c d lp is.length (z0i is)=false):=hid (by rw[HLN.out]; rfl);clear hbi;go_enter Tryz.func121,Tryz.ntmps121
   go_wp2_with (go_at_call 27; go_must (refine (z18 _ _ _).mono ?_); rintro e w1 ⟨rfl,rfl⟩; rw[HW.out])
   have HR:=hid (heap_alloc_new w (.cells #[.int .i64 2,.string d,.slice A lp cp,.int .i64 0,.int .i64 c,.slice B is.length ci] nodeT));have HBA:=hid ((Below.refl w.heap.size w).alloc (Nat.le_refl _) (.cells #[.int .i64 2,.string d,.slice A lp cp,.int .i64 0,.int .i64 c,.slice B is.length ci] nodeT));generalize w.alloc (.cells #[.int .i64 2,.string d,.slice A lp cp,.int .i64 0,.int .i64 c,.slice B is.length ci] nodeT)=W at *;obtain ⟨e0,e1,e2,e3,e4,e5⟩:=z04 HR.out;have q1:=cell_regrown e1;have q2:=cell_regrown e2;have q3:=cell_regrown e3;have q4:=cell_regrown e4;have q5:=cell_regrown e5;refine wp_region_quiet_below (by kernel_rfl) (by kernel_rfl) ?_
   repeat (first | go_big_quiet_step (first | (go_at_call 105; with_reducible exact Calls.regrown_of (HSZ.out _)) | (go_at_call 140; with_reducible exact Calls.regrown_of (HBI.out _))) | quiet_step (first | (go_at_call 105; with_reducible exact Calls.regrown_of (HSZ.out _)) | (go_at_call 140; with_reducible exact Calls.regrown_of (HBI.out _))))
   refine wpQuiet_nil ?_
   intro _ hw'
   obtain ⟨⟨dq,osq⟩,hw''⟩:=hw';subst hw'';have HB2:=hid (HBA.out.trans ((below_regrown W dq osq).mono HBA.out.size));clear q1 q2 q3 q4 q5 e0 e1 e2 e3 e4 e5;generalize «Sort».grow (redrawn W dq) osq=W2 at *;go_wp2;go_ret;exact ⟨by rw[HX.out]; rfl,HB2.out⟩
 · rw[hbi] at HBI HLN
   by_cases hp:lp=0
   · subst hp
     have HX:Hid (listB 2 0 c d 0 is.length (z0i is)=decide (is.length=0)):=hid (by rw[HLN.out]; simp);clear hbi;go_enter Tryz.func121,Tryz.ntmps121
     go_wp2_with (go_at_call 27; go_must (refine (z18 _ _ _).mono ?_); rintro e w1 ⟨rfl,rfl⟩; rw[HW.out])
     have HR:=hid (heap_alloc_new w (.cells #[.int .i64 2,.string d,.slice A 0 cp,.int .i64 0,.int .i64 c,.slice B is.length ci] nodeT));have HBA:=hid ((Below.refl w.heap.size w).alloc (Nat.le_refl _) (.cells #[.int .i64 2,.string d,.slice A 0 cp,.int .i64 0,.int .i64 c,.slice B is.length ci] nodeT));generalize w.alloc (.cells #[.int .i64 2,.string d,.slice A 0 cp,.int .i64 0,.int .i64 c,.slice B is.length ci] nodeT)=W at *;obtain ⟨e0,e1,e2,e3,e4,e5⟩:=z04 HR.out;have q1:=cell_regrown e1;have q2:=cell_regrown e2;have q3:=cell_regrown e3;have q4:=cell_regrown e4;have q5:=cell_regrown e5;refine wp_region_quiet_below (by kernel_rfl) (by kernel_rfl) ?_
     repeat (first | go_big_quiet_step (first | (go_at_call 105; with_reducible exact Calls.regrown_of (HSZ.out _)) | (go_at_call 140; with_reducible exact Calls.regrown_of (HBI.out _))) | quiet_step (first | (go_at_call 105; with_reducible exact Calls.regrown_of (HSZ.out _)) | (go_at_call 140; with_reducible exact Calls.regrown_of (HBI.out _))))
     refine wpQuiet_nil ?_
     intro _ hw'
     obtain ⟨⟨dq,osq⟩,hw''⟩:=hw';subst hw'';have HB2:=hid (HBA.out.trans ((below_regrown W dq osq).mono HBA.out.size));clear q1 q2 q3 q4 q5 e0 e1 e2 e3 e4 e5;generalize «Sort».grow (redrawn W dq) osq=W2 at *;go_wp2;go_ret;exact ⟨by rw[HX.out]; exact z0f (by rw[Bool.eq_iff_iff]; simp),HB2.out⟩
   · have hpb:((lp:Int)==0)=false:=by simp; omega
     have HX:Hid (listB 2 0 c d lp is.length (z0i is)=false):=hid (by rw[HLN.out]; simp[hp]);clear hbi;go_enter Tryz.func121,Tryz.ntmps121
     go_wp2_with (go_at_call 27; go_must (refine (z18 _ _ _).mono ?_); rintro e w1 ⟨rfl,rfl⟩; rw[HW.out])
     have HR:=hid (heap_alloc_new w (.cells #[.int .i64 2,.string d,.slice A lp cp,.int .i64 0,.int .i64 c,.slice B is.length ci] nodeT));have HBA:=hid ((Below.refl w.heap.size w).alloc (Nat.le_refl _) (.cells #[.int .i64 2,.string d,.slice A lp cp,.int .i64 0,.int .i64 c,.slice B is.length ci] nodeT));generalize w.alloc (.cells #[.int .i64 2,.string d,.slice A lp cp,.int .i64 0,.int .i64 c,.slice B is.length ci] nodeT)=W at *;obtain ⟨e0,e1,e2,e3,e4,e5⟩:=z04 HR.out;have q1:=cell_regrown e1;have q2:=cell_regrown e2;have q3:=cell_regrown e3;have q4:=cell_regrown e4;have q5:=cell_regrown e5;refine wp_region_quiet_below (by kernel_rfl) (by kernel_rfl) ?_
     repeat (first | go_big_quiet_step (first | (go_at_call 105; with_reducible exact Calls.regrown_of (HSZ.out _)) | (go_at_call 140; with_reducible exact Calls.regrown_of (HBI.out _))) | quiet_step (first | (go_at_call 105; with_reducible exact Calls.regrown_of (HSZ.out _)) | (go_at_call 140; with_reducible exact Calls.regrown_of (HBI.out _))))
     refine wpQuiet_nil ?_
     intro _ hw'
     obtain ⟨⟨dq,osq⟩,hw''⟩:=hw';subst hw'';have HB2:=hid (HBA.out.trans ((below_regrown W dq osq).mono HBA.out.size));clear q1 q2 q3 q4 q5 e0 e1 e2 e3 e4 e5;generalize «Sort».grow (redrawn W dq) osq=W2 at *;go_wp2;go_ret;exact ⟨by rw[HX.out]; rfl,HB2.out⟩
theorem zjc (m:Nat)(c:Int)(d:ByteArray)(A B:Option Addr)(lp cp ci:Nat)(is:List Nd)(w:World)(S:Nat→Prop)(_hn:NdsAt w S m B is)(hdm:d.size≤maxLen)(_hlm:is.length≤2000000)(hpm:lp≤2000000)(hw:wiB c 12801=true) :
 Calls Tryz.prog 121 #[.agg #[.int .i64 2,.string d,.slice A lp cp,.int .i64 1,.int .i64 c,.slice B is.length ci]] w fun e w'=>e= .returned (.bool (listB 2 1 c d lp is.length (z0i is)))∧Below w.heap.size w w':=by
 obtain ⟨hc0,hc1⟩:=z8t hw
 have hb0:0≤(c:Int)∧(c:Int)≤10000000:=by omega
 have HBI:Hid (∀W:World,Calls Tryz.prog 140 #[.string d,.int .i64 c] W fun e w'=>e= .returned (.bool (bitsB d c))∧Below W.heap.size W w'):=hid fun W=>z55 d c W hb0.1 hb0.2 hdm
 have HSZ:Hid (∀W:World,Calls Tryz.prog 105 #[.int .i64 1] W fun e w'=>e= .returned (.int .i64 1)∧Below W.heap.size W w'):=hid fun W=>(z35 1 W (by decide) (by decide)).mono (by rintro e w' ⟨rfl,rfl⟩; exact ⟨rfl,Below.refl _ _⟩)
 have HLN:Hid (∀lp:Nat,listB 2 1 c d lp is.length (z0i is)=(bitsB d c&&(decide (lp=0)&&decide (is.length=0)))):=hid (by intro lp; unfold listB; rw[hw]; simp[show bz 1=1 from rfl]);have HW:=hid hw;have HDM:=hid hdm;clear _hn hw hdm;cases hbi:bitsB d c
 · rw[hbi] at HBI HLN
   have HX:Hid (listB 2 1 c d lp is.length (z0i is)=false):=hid (by rw[HLN.out]; rfl);clear hbi;go_enter Tryz.func121,Tryz.ntmps121
   go_wp2_with (go_at_call 27; go_must (refine (z18 _ _ _).mono ?_); rintro e w1 ⟨rfl,rfl⟩; rw[HW.out])
   have HR:=hid (heap_alloc_new w (.cells #[.int .i64 2,.string d,.slice A lp cp,.int .i64 1,.int .i64 c,.slice B is.length ci] nodeT));have HBA:=hid ((Below.refl w.heap.size w).alloc (Nat.le_refl _) (.cells #[.int .i64 2,.string d,.slice A lp cp,.int .i64 1,.int .i64 c,.slice B is.length ci] nodeT));generalize w.alloc (.cells #[.int .i64 2,.string d,.slice A lp cp,.int .i64 1,.int .i64 c,.slice B is.length ci] nodeT)=W at *;obtain ⟨e0,e1,e2,e3,e4,e5⟩:=z04 HR.out;have q1:=cell_regrown e1;have q2:=cell_regrown e2;have q3:=cell_regrown e3;have q4:=cell_regrown e4;have q5:=cell_regrown e5;refine wp_region_quiet_below (by kernel_rfl) (by kernel_rfl) ?_
   repeat (first | go_big_quiet_step (first | (go_at_call 105; with_reducible exact Calls.regrown_of (HSZ.out _)) | (go_at_call 140; with_reducible exact Calls.regrown_of (HBI.out _))) | quiet_step (first | (go_at_call 105; with_reducible exact Calls.regrown_of (HSZ.out _)) | (go_at_call 140; with_reducible exact Calls.regrown_of (HBI.out _))))
   refine wpQuiet_nil ?_
   intro _ hw'
   obtain ⟨⟨dq,osq⟩,hw''⟩:=hw';subst hw'';have HB2:=hid (HBA.out.trans ((below_regrown W dq osq).mono HBA.out.size));clear q1 q2 q3 q4 q5 e0 e1 e2 e3 e4 e5;generalize «Sort».grow (redrawn W dq) osq=W2 at *;go_wp2;go_ret;exact ⟨by rw[HX.out]; rfl,HB2.out⟩
 · rw[hbi] at HBI HLN
   by_cases hp:lp=0
   · subst hp
     have HX:Hid (listB 2 1 c d 0 is.length (z0i is)=decide (is.length=0)):=hid (by rw[HLN.out]; simp);clear hbi;go_enter Tryz.func121,Tryz.ntmps121
     go_wp2_with (go_at_call 27; go_must (refine (z18 _ _ _).mono ?_); rintro e w1 ⟨rfl,rfl⟩; rw[HW.out])
     have HR:=hid (heap_alloc_new w (.cells #[.int .i64 2,.string d,.slice A 0 cp,.int .i64 1,.int .i64 c,.slice B is.length ci] nodeT));have HBA:=hid ((Below.refl w.heap.size w).alloc (Nat.le_refl _) (.cells #[.int .i64 2,.string d,.slice A 0 cp,.int .i64 1,.int .i64 c,.slice B is.length ci] nodeT));generalize w.alloc (.cells #[.int .i64 2,.string d,.slice A 0 cp,.int .i64 1,.int .i64 c,.slice B is.length ci] nodeT)=W at *;obtain ⟨e0,e1,e2,e3,e4,e5⟩:=z04 HR.out;have q1:=cell_regrown e1;have q2:=cell_regrown e2;have q3:=cell_regrown e3;have q4:=cell_regrown e4;have q5:=cell_regrown e5;refine wp_region_quiet_below (by kernel_rfl) (by kernel_rfl) ?_
     repeat (first | go_big_quiet_step (first | (go_at_call 105; with_reducible exact Calls.regrown_of (HSZ.out _)) | (go_at_call 140; with_reducible exact Calls.regrown_of (HBI.out _))) | quiet_step (first | (go_at_call 105; with_reducible exact Calls.regrown_of (HSZ.out _)) | (go_at_call 140; with_reducible exact Calls.regrown_of (HBI.out _))))
     refine wpQuiet_nil ?_
     intro _ hw'
     obtain ⟨⟨dq,osq⟩,hw''⟩:=hw';subst hw'';have HB2:=hid (HBA.out.trans ((below_regrown W dq osq).mono HBA.out.size));clear q1 q2 q3 q4 q5 e0 e1 e2 e3 e4 e5;generalize «Sort».grow (redrawn W dq) osq=W2 at *;go_wp2;go_ret;exact ⟨by rw[HX.out]; exact z0f (by rw[Bool.eq_iff_iff]; simp),HB2.out⟩
   · have hpb:((lp:Int)==0)=false:=by simp; omega
     have HX:Hid (listB 2 1 c d lp is.length (z0i is)=false):=hid (by rw[HLN.out]; simp[hp]);clear hbi;go_enter Tryz.func121,Tryz.ntmps121
     go_wp2_with (go_at_call 27; go_must (refine (z18 _ _ _).mono ?_); rintro e w1 ⟨rfl,rfl⟩; rw[HW.out])
     have HR:=hid (heap_alloc_new w (.cells #[.int .i64 2,.string d,.slice A lp cp,.int .i64 1,.int .i64 c,.slice B is.length ci] nodeT));have HBA:=hid ((Below.refl w.heap.size w).alloc (Nat.le_refl _) (.cells #[.int .i64 2,.string d,.slice A lp cp,.int .i64 1,.int .i64 c,.slice B is.length ci] nodeT));generalize w.alloc (.cells #[.int .i64 2,.string d,.slice A lp cp,.int .i64 1,.int .i64 c,.slice B is.length ci] nodeT)=W at *;obtain ⟨e0,e1,e2,e3,e4,e5⟩:=z04 HR.out;have q1:=cell_regrown e1;have q2:=cell_regrown e2;have q3:=cell_regrown e3;have q4:=cell_regrown e4;have q5:=cell_regrown e5;refine wp_region_quiet_below (by kernel_rfl) (by kernel_rfl) ?_
     repeat (first | go_big_quiet_step (first | (go_at_call 105; with_reducible exact Calls.regrown_of (HSZ.out _)) | (go_at_call 140; with_reducible exact Calls.regrown_of (HBI.out _))) | quiet_step (first | (go_at_call 105; with_reducible exact Calls.regrown_of (HSZ.out _)) | (go_at_call 140; with_reducible exact Calls.regrown_of (HBI.out _))))
     refine wpQuiet_nil ?_
     intro _ hw'
     obtain ⟨⟨dq,osq⟩,hw''⟩:=hw';subst hw'';have HB2:=hid (HBA.out.trans ((below_regrown W dq osq).mono HBA.out.size));clear q1 q2 q3 q4 q5 e0 e1 e2 e3 e4 e5;generalize «Sort».grow (redrawn W dq) osq=W2 at *;go_wp2;go_ret;exact ⟨by rw[HX.out]; rfl,HB2.out⟩
theorem zk6 (m:Nat)(c:Int)(d:ByteArray)(A B:Option Addr)(lp cp ci:Nat)(is:List Nd)(w:World)(S:Nat→Prop)(_hn:NdsAt w S m B is)(hdm:d.size≤maxLen)(_hlm:is.length≤2000000)(hpm:lp≤2000000)(hw:wiB c 12801=true) :
 Calls Tryz.prog 121 #[.agg #[.int .i64 2,.string d,.slice A lp cp,.int .i64 2,.int .i64 c,.slice B is.length ci]] w fun e w'=>e= .returned (.bool (listB 2 2 c d lp is.length (z0i is)))∧Below w.heap.size w w':=by
 obtain ⟨hc0,hc1⟩:=z8t hw
 have hb0:0≤((c*8):Int)∧((c*8):Int)≤10000000:=by omega
 have HBI:Hid (∀W:World,Calls Tryz.prog 140 #[.string d,.int .i64 (c*8)] W fun e w'=>e= .returned (.bool (bitsB d (c*8)))∧Below W.heap.size W w'):=hid fun W=>z55 d (c*8) W hb0.1 hb0.2 hdm
 have HSZ:Hid (∀W:World,Calls Tryz.prog 105 #[.int .i64 2] W fun e w'=>e= .returned (.int .i64 8)∧Below W.heap.size W w'):=hid fun W=>(z35 2 W (by decide) (by decide)).mono (by rintro e w' ⟨rfl,rfl⟩; exact ⟨rfl,Below.refl _ _⟩)
 have HLN:Hid (∀lp:Nat,listB 2 2 c d lp is.length (z0i is)=(bitsB d (c*8)&&(decide (lp=0)&&decide (is.length=0)))):=hid (by intro lp; unfold listB; rw[hw]; simp[show bz 2=8 from rfl]);have HW:=hid hw;have HDM:=hid hdm;clear _hn hw hdm;cases hbi:bitsB d (c*8)
 · rw[hbi] at HBI HLN
   have HX:Hid (listB 2 2 c d lp is.length (z0i is)=false):=hid (by rw[HLN.out]; rfl);clear hbi;go_enter Tryz.func121,Tryz.ntmps121
   go_wp2_with (go_at_call 27; go_must (refine (z18 _ _ _).mono ?_); rintro e w1 ⟨rfl,rfl⟩; rw[HW.out])
   have HR:=hid (heap_alloc_new w (.cells #[.int .i64 2,.string d,.slice A lp cp,.int .i64 2,.int .i64 c,.slice B is.length ci] nodeT));have HBA:=hid ((Below.refl w.heap.size w).alloc (Nat.le_refl _) (.cells #[.int .i64 2,.string d,.slice A lp cp,.int .i64 2,.int .i64 c,.slice B is.length ci] nodeT));generalize w.alloc (.cells #[.int .i64 2,.string d,.slice A lp cp,.int .i64 2,.int .i64 c,.slice B is.length ci] nodeT)=W at *;obtain ⟨e0,e1,e2,e3,e4,e5⟩:=z04 HR.out;have q1:=cell_regrown e1;have q2:=cell_regrown e2;have q3:=cell_regrown e3;have q4:=cell_regrown e4;have q5:=cell_regrown e5;refine wp_region_quiet_below (by kernel_rfl) (by kernel_rfl) ?_
   repeat (first | go_big_quiet_step (first | (go_at_call 105; with_reducible exact Calls.regrown_of (HSZ.out _)) | (go_at_call 140; with_reducible exact Calls.regrown_of (HBI.out _))) | quiet_step (first | (go_at_call 105; with_reducible exact Calls.regrown_of (HSZ.out _)) | (go_at_call 140; with_reducible exact Calls.regrown_of (HBI.out _))))
   refine wpQuiet_nil ?_
   intro _ hw'
   obtain ⟨⟨dq,osq⟩,hw''⟩:=hw';subst hw'';have HB2:=hid (HBA.out.trans ((below_regrown W dq osq).mono HBA.out.size));clear q1 q2 q3 q4 q5 e0 e1 e2 e3 e4 e5;generalize «Sort».grow (redrawn W dq) osq=W2 at *;go_wp2;go_ret;exact ⟨by rw[HX.out]; rfl,HB2.out⟩
 · rw[hbi] at HBI HLN
   by_cases hp:lp=0
   · subst hp
     have HX:Hid (listB 2 2 c d 0 is.length (z0i is)=decide (is.length=0)):=hid (by rw[HLN.out]; simp);clear hbi;go_enter Tryz.func121,Tryz.ntmps121
     go_wp2_with (go_at_call 27; go_must (refine (z18 _ _ _).mono ?_); rintro e w1 ⟨rfl,rfl⟩; rw[HW.out])
     have HR:=hid (heap_alloc_new w (.cells #[.int .i64 2,.string d,.slice A 0 cp,.int .i64 2,.int .i64 c,.slice B is.length ci] nodeT));have HBA:=hid ((Below.refl w.heap.size w).alloc (Nat.le_refl _) (.cells #[.int .i64 2,.string d,.slice A 0 cp,.int .i64 2,.int .i64 c,.slice B is.length ci] nodeT));generalize w.alloc (.cells #[.int .i64 2,.string d,.slice A 0 cp,.int .i64 2,.int .i64 c,.slice B is.length ci] nodeT)=W at *;obtain ⟨e0,e1,e2,e3,e4,e5⟩:=z04 HR.out;have q1:=cell_regrown e1;have q2:=cell_regrown e2;have q3:=cell_regrown e3;have q4:=cell_regrown e4;have q5:=cell_regrown e5;refine wp_region_quiet_below (by kernel_rfl) (by kernel_rfl) ?_
     repeat (first | go_big_quiet_step (first | (go_at_call 105; with_reducible exact Calls.regrown_of (HSZ.out _)) | (go_at_call 140; with_reducible exact Calls.regrown_of (HBI.out _))) | quiet_step (first | (go_at_call 105; with_reducible exact Calls.regrown_of (HSZ.out _)) | (go_at_call 140; with_reducible exact Calls.regrown_of (HBI.out _))))
     refine wpQuiet_nil ?_
     intro _ hw'
     obtain ⟨⟨dq,osq⟩,hw''⟩:=hw';subst hw'';have HB2:=hid (HBA.out.trans ((below_regrown W dq osq).mono HBA.out.size));clear q1 q2 q3 q4 q5 e0 e1 e2 e3 e4 e5;generalize «Sort».grow (redrawn W dq) osq=W2 at *;go_wp2;go_ret;exact ⟨by rw[HX.out]; exact z0f (by rw[Bool.eq_iff_iff]; simp),HB2.out⟩
   · have hpb:((lp:Int)==0)=false:=by simp; omega
     have HX:Hid (listB 2 2 c d lp is.length (z0i is)=false):=hid (by rw[HLN.out]; simp[hp]);clear hbi;go_enter Tryz.func121,Tryz.ntmps121
     go_wp2_with (go_at_call 27; go_must (refine (z18 _ _ _).mono ?_); rintro e w1 ⟨rfl,rfl⟩; rw[HW.out])
     have HR:=hid (heap_alloc_new w (.cells #[.int .i64 2,.string d,.slice A lp cp,.int .i64 2,.int .i64 c,.slice B is.length ci] nodeT));have HBA:=hid ((Below.refl w.heap.size w).alloc (Nat.le_refl _) (.cells #[.int .i64 2,.string d,.slice A lp cp,.int .i64 2,.int .i64 c,.slice B is.length ci] nodeT));generalize w.alloc (.cells #[.int .i64 2,.string d,.slice A lp cp,.int .i64 2,.int .i64 c,.slice B is.length ci] nodeT)=W at *;obtain ⟨e0,e1,e2,e3,e4,e5⟩:=z04 HR.out;have q1:=cell_regrown e1;have q2:=cell_regrown e2;have q3:=cell_regrown e3;have q4:=cell_regrown e4;have q5:=cell_regrown e5;refine wp_region_quiet_below (by kernel_rfl) (by kernel_rfl) ?_
     repeat (first | go_big_quiet_step (first | (go_at_call 105; with_reducible exact Calls.regrown_of (HSZ.out _)) | (go_at_call 140; with_reducible exact Calls.regrown_of (HBI.out _))) | quiet_step (first | (go_at_call 105; with_reducible exact Calls.regrown_of (HSZ.out _)) | (go_at_call 140; with_reducible exact Calls.regrown_of (HBI.out _))))
     refine wpQuiet_nil ?_
     intro _ hw'
     obtain ⟨⟨dq,osq⟩,hw''⟩:=hw';subst hw'';have HB2:=hid (HBA.out.trans ((below_regrown W dq osq).mono HBA.out.size));clear q1 q2 q3 q4 q5 e0 e1 e2 e3 e4 e5;generalize «Sort».grow (redrawn W dq) osq=W2 at *;go_wp2;go_ret;exact ⟨by rw[HX.out]; rfl,HB2.out⟩
theorem zjn (m:Nat)(c:Int)(d:ByteArray)(A B:Option Addr)(lp cp ci:Nat)(is:List Nd)(w:World)(S:Nat→Prop)(_hn:NdsAt w S m B is)(hdm:d.size≤maxLen)(_hlm:is.length≤2000000)(hpm:lp≤2000000)(hw:wiB c 12801=true) :
 Calls Tryz.prog 121 #[.agg #[.int .i64 2,.string d,.slice A lp cp,.int .i64 3,.int .i64 c,.slice B is.length ci]] w fun e w'=>e= .returned (.bool (listB 2 3 c d lp is.length (z0i is)))∧Below w.heap.size w w':=by
 obtain ⟨hc0,hc1⟩:=z8t hw
 have hb0:0≤((c*16):Int)∧((c*16):Int)≤10000000:=by omega
 have HBI:Hid (∀W:World,Calls Tryz.prog 140 #[.string d,.int .i64 (c*16)] W fun e w'=>e= .returned (.bool (bitsB d (c*16)))∧Below W.heap.size W w'):=hid fun W=>z55 d (c*16) W hb0.1 hb0.2 hdm
 have HSZ:Hid (∀W:World,Calls Tryz.prog 105 #[.int .i64 3] W fun e w'=>e= .returned (.int .i64 16)∧Below W.heap.size W w'):=hid fun W=>(z35 3 W (by decide) (by decide)).mono (by rintro e w' ⟨rfl,rfl⟩; exact ⟨rfl,Below.refl _ _⟩)
 have HLN:Hid (∀lp:Nat,listB 2 3 c d lp is.length (z0i is)=(bitsB d (c*16)&&(decide (lp=0)&&decide (is.length=0)))):=hid (by intro lp; unfold listB; rw[hw]; simp[show bz 3=16 from rfl]);have HW:=hid hw;have HDM:=hid hdm;clear _hn hw hdm;cases hbi:bitsB d (c*16)
 · rw[hbi] at HBI HLN
   have HX:Hid (listB 2 3 c d lp is.length (z0i is)=false):=hid (by rw[HLN.out]; rfl);clear hbi;go_enter Tryz.func121,Tryz.ntmps121
   go_wp2_with (go_at_call 27; go_must (refine (z18 _ _ _).mono ?_); rintro e w1 ⟨rfl,rfl⟩; rw[HW.out])
   have HR:=hid (heap_alloc_new w (.cells #[.int .i64 2,.string d,.slice A lp cp,.int .i64 3,.int .i64 c,.slice B is.length ci] nodeT));have HBA:=hid ((Below.refl w.heap.size w).alloc (Nat.le_refl _) (.cells #[.int .i64 2,.string d,.slice A lp cp,.int .i64 3,.int .i64 c,.slice B is.length ci] nodeT));generalize w.alloc (.cells #[.int .i64 2,.string d,.slice A lp cp,.int .i64 3,.int .i64 c,.slice B is.length ci] nodeT)=W at *;obtain ⟨e0,e1,e2,e3,e4,e5⟩:=z04 HR.out;have q1:=cell_regrown e1;have q2:=cell_regrown e2;have q3:=cell_regrown e3;have q4:=cell_regrown e4;have q5:=cell_regrown e5;refine wp_region_quiet_below (by kernel_rfl) (by kernel_rfl) ?_
   repeat (first | go_big_quiet_step (first | (go_at_call 105; with_reducible exact Calls.regrown_of (HSZ.out _)) | (go_at_call 140; with_reducible exact Calls.regrown_of (HBI.out _))) | quiet_step (first | (go_at_call 105; with_reducible exact Calls.regrown_of (HSZ.out _)) | (go_at_call 140; with_reducible exact Calls.regrown_of (HBI.out _))))
   refine wpQuiet_nil ?_
   intro _ hw'
   obtain ⟨⟨dq,osq⟩,hw''⟩:=hw';subst hw'';have HB2:=hid (HBA.out.trans ((below_regrown W dq osq).mono HBA.out.size));clear q1 q2 q3 q4 q5 e0 e1 e2 e3 e4 e5;generalize «Sort».grow (redrawn W dq) osq=W2 at *;go_wp2;go_ret;exact ⟨by rw[HX.out]; rfl,HB2.out⟩
 · rw[hbi] at HBI HLN
   by_cases hp:lp=0
   · subst hp
     have HX:Hid (listB 2 3 c d 0 is.length (z0i is)=decide (is.length=0)):=hid (by rw[HLN.out]; simp);clear hbi;go_enter Tryz.func121,Tryz.ntmps121
     go_wp2_with (go_at_call 27; go_must (refine (z18 _ _ _).mono ?_); rintro e w1 ⟨rfl,rfl⟩; rw[HW.out])
     have HR:=hid (heap_alloc_new w (.cells #[.int .i64 2,.string d,.slice A 0 cp,.int .i64 3,.int .i64 c,.slice B is.length ci] nodeT));have HBA:=hid ((Below.refl w.heap.size w).alloc (Nat.le_refl _) (.cells #[.int .i64 2,.string d,.slice A 0 cp,.int .i64 3,.int .i64 c,.slice B is.length ci] nodeT));generalize w.alloc (.cells #[.int .i64 2,.string d,.slice A 0 cp,.int .i64 3,.int .i64 c,.slice B is.length ci] nodeT)=W at *;obtain ⟨e0,e1,e2,e3,e4,e5⟩:=z04 HR.out;have q1:=cell_regrown e1;have q2:=cell_regrown e2;have q3:=cell_regrown e3;have q4:=cell_regrown e4;have q5:=cell_regrown e5;refine wp_region_quiet_below (by kernel_rfl) (by kernel_rfl) ?_
     repeat (first | go_big_quiet_step (first | (go_at_call 105; with_reducible exact Calls.regrown_of (HSZ.out _)) | (go_at_call 140; with_reducible exact Calls.regrown_of (HBI.out _))) | quiet_step (first | (go_at_call 105; with_reducible exact Calls.regrown_of (HSZ.out _)) | (go_at_call 140; with_reducible exact Calls.regrown_of (HBI.out _))))
     refine wpQuiet_nil ?_
     intro _ hw'
     obtain ⟨⟨dq,osq⟩,hw''⟩:=hw';subst hw'';have HB2:=hid (HBA.out.trans ((below_regrown W dq osq).mono HBA.out.size));clear q1 q2 q3 q4 q5 e0 e1 e2 e3 e4 e5;generalize «Sort».grow (redrawn W dq) osq=W2 at *;go_wp2;go_ret;exact ⟨by rw[HX.out]; exact z0f (by rw[Bool.eq_iff_iff]; simp),HB2.out⟩
   · have hpb:((lp:Int)==0)=false:=by simp; omega
     have HX:Hid (listB 2 3 c d lp is.length (z0i is)=false):=hid (by rw[HLN.out]; simp[hp]);clear hbi;go_enter Tryz.func121,Tryz.ntmps121
     go_wp2_with (go_at_call 27; go_must (refine (z18 _ _ _).mono ?_); rintro e w1 ⟨rfl,rfl⟩; rw[HW.out])
     have HR:=hid (heap_alloc_new w (.cells #[.int .i64 2,.string d,.slice A lp cp,.int .i64 3,.int .i64 c,.slice B is.length ci] nodeT));have HBA:=hid ((Below.refl w.heap.size w).alloc (Nat.le_refl _) (.cells #[.int .i64 2,.string d,.slice A lp cp,.int .i64 3,.int .i64 c,.slice B is.length ci] nodeT));generalize w.alloc (.cells #[.int .i64 2,.string d,.slice A lp cp,.int .i64 3,.int .i64 c,.slice B is.length ci] nodeT)=W at *;obtain ⟨e0,e1,e2,e3,e4,e5⟩:=z04 HR.out;have q1:=cell_regrown e1;have q2:=cell_regrown e2;have q3:=cell_regrown e3;have q4:=cell_regrown e4;have q5:=cell_regrown e5;refine wp_region_quiet_below (by kernel_rfl) (by kernel_rfl) ?_
     repeat (first | go_big_quiet_step (first | (go_at_call 105; with_reducible exact Calls.regrown_of (HSZ.out _)) | (go_at_call 140; with_reducible exact Calls.regrown_of (HBI.out _))) | quiet_step (first | (go_at_call 105; with_reducible exact Calls.regrown_of (HSZ.out _)) | (go_at_call 140; with_reducible exact Calls.regrown_of (HBI.out _))))
     refine wpQuiet_nil ?_
     intro _ hw'
     obtain ⟨⟨dq,osq⟩,hw''⟩:=hw';subst hw'';have HB2:=hid (HBA.out.trans ((below_regrown W dq osq).mono HBA.out.size));clear q1 q2 q3 q4 q5 e0 e1 e2 e3 e4 e5;generalize «Sort».grow (redrawn W dq) osq=W2 at *;go_wp2;go_ret;exact ⟨by rw[HX.out]; rfl,HB2.out⟩
theorem zjk (m:Nat)(c:Int)(d:ByteArray)(A B:Option Addr)(lp cp ci:Nat)(is:List Nd)(w:World)(S:Nat→Prop)(_hn:NdsAt w S m B is)(hdm:d.size≤maxLen)(_hlm:is.length≤2000000)(hpm:lp≤2000000)(hw:wiB c 12801=true) :
 Calls Tryz.prog 121 #[.agg #[.int .i64 2,.string d,.slice A lp cp,.int .i64 4,.int .i64 c,.slice B is.length ci]] w fun e w'=>e= .returned (.bool (listB 2 4 c d lp is.length (z0i is)))∧Below w.heap.size w w':=by
 obtain ⟨hc0,hc1⟩:=z8t hw
 have hb0:0≤((c*32):Int)∧((c*32):Int)≤10000000:=by omega
 have HBI:Hid (∀W:World,Calls Tryz.prog 140 #[.string d,.int .i64 (c*32)] W fun e w'=>e= .returned (.bool (bitsB d (c*32)))∧Below W.heap.size W w'):=hid fun W=>z55 d (c*32) W hb0.1 hb0.2 hdm
 have HSZ:Hid (∀W:World,Calls Tryz.prog 105 #[.int .i64 4] W fun e w'=>e= .returned (.int .i64 32)∧Below W.heap.size W w'):=hid fun W=>(z35 4 W (by decide) (by decide)).mono (by rintro e w' ⟨rfl,rfl⟩; exact ⟨rfl,Below.refl _ _⟩)
 have HLN:Hid (∀lp:Nat,listB 2 4 c d lp is.length (z0i is)=(bitsB d (c*32)&&(decide (lp=0)&&decide (is.length=0)))):=hid (by intro lp; unfold listB; rw[hw]; simp[show bz 4=32 from rfl]);have HW:=hid hw;have HDM:=hid hdm;clear _hn hw hdm;cases hbi:bitsB d (c*32)
 · rw[hbi] at HBI HLN
   have HX:Hid (listB 2 4 c d lp is.length (z0i is)=false):=hid (by rw[HLN.out]; rfl);clear hbi;go_enter Tryz.func121,Tryz.ntmps121
   go_wp2_with (go_at_call 27; go_must (refine (z18 _ _ _).mono ?_); rintro e w1 ⟨rfl,rfl⟩; rw[HW.out])
   have HR:=hid (heap_alloc_new w (.cells #[.int .i64 2,.string d,.slice A lp cp,.int .i64 4,.int .i64 c,.slice B is.length ci] nodeT));have HBA:=hid ((Below.refl w.heap.size w).alloc (Nat.le_refl _) (.cells #[.int .i64 2,.string d,.slice A lp cp,.int .i64 4,.int .i64 c,.slice B is.length ci] nodeT));generalize w.alloc (.cells #[.int .i64 2,.string d,.slice A lp cp,.int .i64 4,.int .i64 c,.slice B is.length ci] nodeT)=W at *;obtain ⟨e0,e1,e2,e3,e4,e5⟩:=z04 HR.out;have q1:=cell_regrown e1;have q2:=cell_regrown e2;have q3:=cell_regrown e3;have q4:=cell_regrown e4;have q5:=cell_regrown e5;refine wp_region_quiet_below (by kernel_rfl) (by kernel_rfl) ?_
   repeat (first | go_big_quiet_step (first | (go_at_call 105; with_reducible exact Calls.regrown_of (HSZ.out _)) | (go_at_call 140; with_reducible exact Calls.regrown_of (HBI.out _))) | quiet_step (first | (go_at_call 105; with_reducible exact Calls.regrown_of (HSZ.out _)) | (go_at_call 140; with_reducible exact Calls.regrown_of (HBI.out _))))
   refine wpQuiet_nil ?_
   intro _ hw'
   obtain ⟨⟨dq,osq⟩,hw''⟩:=hw';subst hw'';have HB2:=hid (HBA.out.trans ((below_regrown W dq osq).mono HBA.out.size));clear q1 q2 q3 q4 q5 e0 e1 e2 e3 e4 e5;generalize «Sort».grow (redrawn W dq) osq=W2 at *;go_wp2;go_ret;exact ⟨by rw[HX.out]; rfl,HB2.out⟩
 · rw[hbi] at HBI HLN
   by_cases hp:lp=0
   · subst hp
     have HX:Hid (listB 2 4 c d 0 is.length (z0i is)=decide (is.length=0)):=hid (by rw[HLN.out]; simp);clear hbi;go_enter Tryz.func121,Tryz.ntmps121
     go_wp2_with (go_at_call 27; go_must (refine (z18 _ _ _).mono ?_); rintro e w1 ⟨rfl,rfl⟩; rw[HW.out])
     have HR:=hid (heap_alloc_new w (.cells #[.int .i64 2,.string d,.slice A 0 cp,.int .i64 4,.int .i64 c,.slice B is.length ci] nodeT));have HBA:=hid ((Below.refl w.heap.size w).alloc (Nat.le_refl _) (.cells #[.int .i64 2,.string d,.slice A 0 cp,.int .i64 4,.int .i64 c,.slice B is.length ci] nodeT));generalize w.alloc (.cells #[.int .i64 2,.string d,.slice A 0 cp,.int .i64 4,.int .i64 c,.slice B is.length ci] nodeT)=W at *;obtain ⟨e0,e1,e2,e3,e4,e5⟩:=z04 HR.out;have q1:=cell_regrown e1;have q2:=cell_regrown e2;have q3:=cell_regrown e3;have q4:=cell_regrown e4;have q5:=cell_regrown e5;refine wp_region_quiet_below (by kernel_rfl) (by kernel_rfl) ?_
     repeat (first | go_big_quiet_step (first | (go_at_call 105; with_reducible exact Calls.regrown_of (HSZ.out _)) | (go_at_call 140; with_reducible exact Calls.regrown_of (HBI.out _))) | quiet_step (first | (go_at_call 105; with_reducible exact Calls.regrown_of (HSZ.out _)) | (go_at_call 140; with_reducible exact Calls.regrown_of (HBI.out _))))
     refine wpQuiet_nil ?_
     intro _ hw'
     obtain ⟨⟨dq,osq⟩,hw''⟩:=hw';subst hw'';have HB2:=hid (HBA.out.trans ((below_regrown W dq osq).mono HBA.out.size));clear q1 q2 q3 q4 q5 e0 e1 e2 e3 e4 e5;generalize «Sort».grow (redrawn W dq) osq=W2 at *;go_wp2;go_ret;exact ⟨by rw[HX.out]; exact z0f (by rw[Bool.eq_iff_iff]; simp),HB2.out⟩
   · have hpb:((lp:Int)==0)=false:=by simp; omega
     have HX:Hid (listB 2 4 c d lp is.length (z0i is)=false):=hid (by rw[HLN.out]; simp[hp]);clear hbi;go_enter Tryz.func121,Tryz.ntmps121
     go_wp2_with (go_at_call 27; go_must (refine (z18 _ _ _).mono ?_); rintro e w1 ⟨rfl,rfl⟩; rw[HW.out])
     have HR:=hid (heap_alloc_new w (.cells #[.int .i64 2,.string d,.slice A lp cp,.int .i64 4,.int .i64 c,.slice B is.length ci] nodeT));have HBA:=hid ((Below.refl w.heap.size w).alloc (Nat.le_refl _) (.cells #[.int .i64 2,.string d,.slice A lp cp,.int .i64 4,.int .i64 c,.slice B is.length ci] nodeT));generalize w.alloc (.cells #[.int .i64 2,.string d,.slice A lp cp,.int .i64 4,.int .i64 c,.slice B is.length ci] nodeT)=W at *;obtain ⟨e0,e1,e2,e3,e4,e5⟩:=z04 HR.out;have q1:=cell_regrown e1;have q2:=cell_regrown e2;have q3:=cell_regrown e3;have q4:=cell_regrown e4;have q5:=cell_regrown e5;refine wp_region_quiet_below (by kernel_rfl) (by kernel_rfl) ?_
     repeat (first | go_big_quiet_step (first | (go_at_call 105; with_reducible exact Calls.regrown_of (HSZ.out _)) | (go_at_call 140; with_reducible exact Calls.regrown_of (HBI.out _))) | quiet_step (first | (go_at_call 105; with_reducible exact Calls.regrown_of (HSZ.out _)) | (go_at_call 140; with_reducible exact Calls.regrown_of (HBI.out _))))
     refine wpQuiet_nil ?_
     intro _ hw'
     obtain ⟨⟨dq,osq⟩,hw''⟩:=hw';subst hw'';have HB2:=hid (HBA.out.trans ((below_regrown W dq osq).mono HBA.out.size));clear q1 q2 q3 q4 q5 e0 e1 e2 e3 e4 e5;generalize «Sort».grow (redrawn W dq) osq=W2 at *;go_wp2;go_ret;exact ⟨by rw[HX.out]; rfl,HB2.out⟩
theorem zl3 (m:Nat)(c:Int)(d:ByteArray)(A B:Option Addr)(lp cp ci:Nat)(is:List Nd)(w:World)(S:Nat→Prop)(_hn:NdsAt w S m B is)(hdm:d.size≤maxLen)(_hlm:is.length≤2000000)(hpm:lp≤2000000)(hw:wiB c 12801=true) :
 Calls Tryz.prog 121 #[.agg #[.int .i64 2,.string d,.slice A lp cp,.int .i64 5,.int .i64 c,.slice B is.length ci]] w fun e w'=>e= .returned (.bool (listB 2 5 c d lp is.length (z0i is)))∧Below w.heap.size w w':=by
 obtain ⟨hc0,hc1⟩:=z8t hw
 have hb0:0≤((c*64):Int)∧((c*64):Int)≤10000000:=by omega
 have HBI:Hid (∀W:World,Calls Tryz.prog 140 #[.string d,.int .i64 (c*64)] W fun e w'=>e= .returned (.bool (bitsB d (c*64)))∧Below W.heap.size W w'):=hid fun W=>z55 d (c*64) W hb0.1 hb0.2 hdm
 have HSZ:Hid (∀W:World,Calls Tryz.prog 105 #[.int .i64 5] W fun e w'=>e= .returned (.int .i64 64)∧Below W.heap.size W w'):=hid fun W=>(z35 5 W (by decide) (by decide)).mono (by rintro e w' ⟨rfl,rfl⟩; exact ⟨rfl,Below.refl _ _⟩)
 have HLN:Hid (∀lp:Nat,listB 2 5 c d lp is.length (z0i is)=(bitsB d (c*64)&&(decide (lp=0)&&decide (is.length=0)))):=hid (by intro lp; unfold listB; rw[hw]; simp[show bz 5=64 from rfl]);have HW:=hid hw;have HDM:=hid hdm;clear _hn hw hdm;cases hbi:bitsB d (c*64)
 · rw[hbi] at HBI HLN
   have HX:Hid (listB 2 5 c d lp is.length (z0i is)=false):=hid (by rw[HLN.out]; rfl);clear hbi;go_enter Tryz.func121,Tryz.ntmps121
   go_wp2_with (go_at_call 27; go_must (refine (z18 _ _ _).mono ?_); rintro e w1 ⟨rfl,rfl⟩; rw[HW.out])
   have HR:=hid (heap_alloc_new w (.cells #[.int .i64 2,.string d,.slice A lp cp,.int .i64 5,.int .i64 c,.slice B is.length ci] nodeT));have HBA:=hid ((Below.refl w.heap.size w).alloc (Nat.le_refl _) (.cells #[.int .i64 2,.string d,.slice A lp cp,.int .i64 5,.int .i64 c,.slice B is.length ci] nodeT));generalize w.alloc (.cells #[.int .i64 2,.string d,.slice A lp cp,.int .i64 5,.int .i64 c,.slice B is.length ci] nodeT)=W at *;obtain ⟨e0,e1,e2,e3,e4,e5⟩:=z04 HR.out;have q1:=cell_regrown e1;have q2:=cell_regrown e2;have q3:=cell_regrown e3;have q4:=cell_regrown e4;have q5:=cell_regrown e5;refine wp_region_quiet_below (by kernel_rfl) (by kernel_rfl) ?_
   repeat (first | go_big_quiet_step (first | (go_at_call 105; with_reducible exact Calls.regrown_of (HSZ.out _)) | (go_at_call 140; with_reducible exact Calls.regrown_of (HBI.out _))) | quiet_step (first | (go_at_call 105; with_reducible exact Calls.regrown_of (HSZ.out _)) | (go_at_call 140; with_reducible exact Calls.regrown_of (HBI.out _))))
   refine wpQuiet_nil ?_
   intro _ hw'
   obtain ⟨⟨dq,osq⟩,hw''⟩:=hw';subst hw'';have HB2:=hid (HBA.out.trans ((below_regrown W dq osq).mono HBA.out.size));clear q1 q2 q3 q4 q5 e0 e1 e2 e3 e4 e5;generalize «Sort».grow (redrawn W dq) osq=W2 at *;go_wp2;go_ret;exact ⟨by rw[HX.out]; rfl,HB2.out⟩
 · rw[hbi] at HBI HLN
   by_cases hp:lp=0
   · subst hp
     have HX:Hid (listB 2 5 c d 0 is.length (z0i is)=decide (is.length=0)):=hid (by rw[HLN.out]; simp);clear hbi;go_enter Tryz.func121,Tryz.ntmps121
     go_wp2_with (go_at_call 27; go_must (refine (z18 _ _ _).mono ?_); rintro e w1 ⟨rfl,rfl⟩; rw[HW.out])
     have HR:=hid (heap_alloc_new w (.cells #[.int .i64 2,.string d,.slice A 0 cp,.int .i64 5,.int .i64 c,.slice B is.length ci] nodeT));have HBA:=hid ((Below.refl w.heap.size w).alloc (Nat.le_refl _) (.cells #[.int .i64 2,.string d,.slice A 0 cp,.int .i64 5,.int .i64 c,.slice B is.length ci] nodeT));generalize w.alloc (.cells #[.int .i64 2,.string d,.slice A 0 cp,.int .i64 5,.int .i64 c,.slice B is.length ci] nodeT)=W at *;obtain ⟨e0,e1,e2,e3,e4,e5⟩:=z04 HR.out;have q1:=cell_regrown e1;have q2:=cell_regrown e2;have q3:=cell_regrown e3;have q4:=cell_regrown e4;have q5:=cell_regrown e5;refine wp_region_quiet_below (by kernel_rfl) (by kernel_rfl) ?_
     repeat (first | go_big_quiet_step (first | (go_at_call 105; with_reducible exact Calls.regrown_of (HSZ.out _)) | (go_at_call 140; with_reducible exact Calls.regrown_of (HBI.out _))) | quiet_step (first | (go_at_call 105; with_reducible exact Calls.regrown_of (HSZ.out _)) | (go_at_call 140; with_reducible exact Calls.regrown_of (HBI.out _))))
     refine wpQuiet_nil ?_
     intro _ hw'
     obtain ⟨⟨dq,osq⟩,hw''⟩:=hw';subst hw'';have HB2:=hid (HBA.out.trans ((below_regrown W dq osq).mono HBA.out.size));clear q1 q2 q3 q4 q5 e0 e1 e2 e3 e4 e5;generalize «Sort».grow (redrawn W dq) osq=W2 at *;go_wp2;go_ret;exact ⟨by rw[HX.out]; exact z0f (by rw[Bool.eq_iff_iff]; simp),HB2.out⟩
   · have hpb:((lp:Int)==0)=false:=by simp; omega
     have HX:Hid (listB 2 5 c d lp is.length (z0i is)=false):=hid (by rw[HLN.out]; simp[hp]);clear hbi;go_enter Tryz.func121,Tryz.ntmps121
     go_wp2_with (go_at_call 27; go_must (refine (z18 _ _ _).mono ?_); rintro e w1 ⟨rfl,rfl⟩; rw[HW.out])
     have HR:=hid (heap_alloc_new w (.cells #[.int .i64 2,.string d,.slice A lp cp,.int .i64 5,.int .i64 c,.slice B is.length ci] nodeT));have HBA:=hid ((Below.refl w.heap.size w).alloc (Nat.le_refl _) (.cells #[.int .i64 2,.string d,.slice A lp cp,.int .i64 5,.int .i64 c,.slice B is.length ci] nodeT));generalize w.alloc (.cells #[.int .i64 2,.string d,.slice A lp cp,.int .i64 5,.int .i64 c,.slice B is.length ci] nodeT)=W at *;obtain ⟨e0,e1,e2,e3,e4,e5⟩:=z04 HR.out;have q1:=cell_regrown e1;have q2:=cell_regrown e2;have q3:=cell_regrown e3;have q4:=cell_regrown e4;have q5:=cell_regrown e5;refine wp_region_quiet_below (by kernel_rfl) (by kernel_rfl) ?_
     repeat (first | go_big_quiet_step (first | (go_at_call 105; with_reducible exact Calls.regrown_of (HSZ.out _)) | (go_at_call 140; with_reducible exact Calls.regrown_of (HBI.out _))) | quiet_step (first | (go_at_call 105; with_reducible exact Calls.regrown_of (HSZ.out _)) | (go_at_call 140; with_reducible exact Calls.regrown_of (HBI.out _))))
     refine wpQuiet_nil ?_
     intro _ hw'
     obtain ⟨⟨dq,osq⟩,hw''⟩:=hw';subst hw'';have HB2:=hid (HBA.out.trans ((below_regrown W dq osq).mono HBA.out.size));clear q1 q2 q3 q4 q5 e0 e1 e2 e3 e4 e5;generalize «Sort».grow (redrawn W dq) osq=W2 at *;go_wp2;go_ret;exact ⟨by rw[HX.out]; rfl,HB2.out⟩
theorem zjl (m:Nat)(c:Int)(d:ByteArray)(A B:Option Addr)(lp cp ci:Nat)(is:List Nd)(w:World)(S:Nat→Prop)(_hn:NdsAt w S m B is)(_hdm:d.size≤maxLen)(_hlm:is.length≤2000000)(_hpm:lp≤2000000)(hw:wiB c 12801=true) :
 Calls Tryz.prog 121 #[.agg #[.int .i64 2,.string d,.slice A lp cp,.int .i64 6,.int .i64 c,.slice B is.length ci]] w fun e w'=>e= .returned (.bool (listB 2 6 c d lp is.length (z0i is)))∧Below w.heap.size w w':=by
 have HLN:Hid (listB 2 6 c d lp is.length (z0i is)=decide (d.size=0∧(lp:Int)=c∧is.length=0)):=hid (by unfold listB; rw[hw,Bool.eq_iff_iff]; simp);have hse:=z1t d;have HW:=hid hw;clear hw _hn;go_enter Tryz.func121,Tryz.ntmps121
 go_wp2_with (go_at_call 27; go_must (refine (z18 _ _ _).mono ?_); rintro e w1 ⟨rfl,rfl⟩; rw[HW.out])
 all_goals go_ret
 all_goals refine ⟨z0f ?_,(Below.refl _ _).alloc (Nat.le_refl _) _⟩
 all_goals (rw[HLN.out,Bool.eq_iff_iff]; simp_all)
theorem zl9 (m:Nat)(c:Int)(d:ByteArray)(A B:Option Addr)(lp cp ci:Nat)(is:List Nd)(w:World)(S:Nat→Prop)(hn:NdsAt w S m B is)(_hdm:d.size≤maxLen)(hlm:is.length≤2000000)(_hpm:lp≤2000000)(hw:wiB c 12801=true) :
 Calls Tryz.prog 121 #[.agg #[.int .i64 2,.string d,.slice A lp cp,.int .i64 7,.int .i64 c,.slice B is.length ci]] w fun e w'=>e= .returned (.bool (listB 2 7 c d lp is.length (z0i is)))∧Below w.heap.size w w':=by
 have HLN:Hid (listB 2 7 c d lp is.length (z0i is)=(decide (d.size=0∧lp=0∧(is.length:Int)=c)&&z0i is)):=hid (by unfold listB; rw[hw,Bool.eq_iff_iff]; simp[and_assoc]);have hse:=z1t d;have HAR:Hid (∀W:World,Below w.heap.size w W→Calls Tryz.prog 141 #[.slice B is.length ci] W fun e w'=>e= .returned (.bool (z0i is))∧Below W.heap.size W w'):=hid (fun W hb=>zfy m B ci is W S (NdsAt.succ _ _ _ (hn.below hb)) hlm);have HW:=hid hw;generalize z0i is=ib at *;clear hw hn;go_enter Tryz.func121,Tryz.ntmps121
 go_wp2_with (first | (go_at_call 27; go_must (refine (z18 _ _ _).mono ?_); rintro e w1 ⟨rfl,rfl⟩; rw[HW.out]) | (go_at_call 141; go_must (refine (HAR.out _ ((Below.refl _ _).alloc (Nat.le_refl _) _)).mono ?_); rintro e w2 ⟨rfl,hb2⟩))
 all_goals go_ret
 all_goals first | refine ⟨z0f ?_,((Below.refl _ _).alloc (Nat.le_refl _) _).trans (hb2.mono (by simp))⟩ | refine ⟨z0f ?_,(Below.refl _ _).alloc (Nat.le_refl _) _⟩
 all_goals (rw[HLN.out,Bool.eq_iff_iff]; simp_all)
theorem zka (m:Nat)(k s c:Int)(d:ByteArray)(A B:Option Addr)(lp cp ci:Nat)(is:List Nd)(w:World)(S:Nat→Prop)(hn:NdsAt w S m B is)(hdm:d.size≤maxLen)(hlm:is.length≤2000000)(hpm:lp≤2000000) :
 Calls Tryz.prog 121 #[.agg #[.int .i64 k,.string d,.slice A lp cp,.int .i64 s,.int .i64 c,.slice B is.length ci]] w fun e w'=>e= .returned (.bool (listB k s c d lp is.length (z0i is)))∧Below w.heap.size w w':=by
 by_cases hk:k=2
 · subst hk
   cases hw:wiB c 12801
   · have HX:Hid (listB 2 s c d lp is.length (z0i is)=false):=hid (by unfold listB; rw[hw]; simp)
     have HW:=hid hw;clear hw hn;go_enter Tryz.func121,Tryz.ntmps121
     go_wp2_with (go_at_call 27; go_must (refine (z18 _ _ _).mono ?_); rintro e w1 ⟨rfl,rfl⟩; rw[HW.out])
     go_ret;exact ⟨by rw[HX.out]; rfl,(Below.refl _ _).alloc (Nat.le_refl _) _⟩
   · have hs:s=0∨s=1∨s=2∨s=3∨s=4∨s=5∨s=6∨s=7∨(s<0∨7<s):=by omega
     rcases hs with rfl | rfl | rfl | rfl | rfl | rfl | rfl | rfl | hs
     · exact zk9 m c d A B lp cp ci is w S hn hdm hlm hpm hw
     · exact zjc m c d A B lp cp ci is w S hn hdm hlm hpm hw
     · exact zk6 m c d A B lp cp ci is w S hn hdm hlm hpm hw
     · exact zjn m c d A B lp cp ci is w S hn hdm hlm hpm hw
     · exact zjk m c d A B lp cp ci is w S hn hdm hlm hpm hw
     · exact zl3 m c d A B lp cp ci is w S hn hdm hlm hpm hw
     · exact zjl m c d A B lp cp ci is w S hn hdm hlm hpm hw
     · exact zl9 m c d A B lp cp ci is w S hn hdm hlm hpm hw
     · have HX:Hid (listB 2 s c d lp is.length (z0i is)=false):=hid (by unfold listB; rw[if_neg (by omega),if_neg (by omega),if_neg (by omega)]; simp)
       have z0:s≠0:=by omega
       have z1:s≠1:=by omega
       have z2:s≠2:=by omega
       have z3:s≠3:=by omega
       have z4:s≠4:=by omega
       have z5:s≠5:=by omega
       have z6:s≠6:=by omega
       have z7:s≠7:=by omega
       have HW:=hid hw;clear hw hs hn;go_enter Tryz.func121,Tryz.ntmps121
       go_wp2_with (go_at_call 27; go_must (refine (z18 _ _ _).mono ?_); rintro e w1 ⟨rfl,rfl⟩; rw[HW.out])
       go_ret;exact ⟨by rw[HX.out]; rfl,(Below.refl _ _).alloc (Nat.le_refl _) _⟩
 · have HX:Hid (listB k s c d lp is.length (z0i is)=false):=hid (by unfold listB; simp[hk])
   clear hn;go_enter Tryz.func121,Tryz.ntmps121;go_wp2;go_ret;exact ⟨by rw[HX.out]; rfl,(Below.refl _ _).alloc (Nat.le_refl _) _⟩
end Go.Proofs.YtblcibgphccfkaaGreatDoor
