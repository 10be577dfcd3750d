/- Texts of the proof of the law FnCanonSent, side by side: part 1. -/
import Derived.Test.YtlbfffokkhccaaaGreatDoorMCanonSent00
set_option maxHeartbeats 8000000
set_option maxRecDepth 100000
open Go.Lib (hid)
namespace Go.Proofs.YtlbfffokkhccaaaGreatDoor
open Go.RowKit
def listB (k s c:Int)(d:ByteArray)(lp li:Nat)(ib:Bool):Bool :=
 decide (k=2)&&(wiB c 12801&&(if 0≤s∧s≤5 then bitsB d (c*bz s)&&(decide (lp=0)&&decide (li=0)) else if s=6 then decide (d.size=0)&&(decide ((lp:Int)=c)&&decide (li=0)) else if s=7 then decide (d.size=0)&&(decide (lp=0)&&(decide ((li:Int)=c)&&ib)) else false))
def listN (n:Nd):Bool:=listB n.kind n.size n.count n.data n.ptrs.length n.items.length (z0c n.items)
theorem z8q {n b:Int}(h:wiB n b=true):0≤n∧n<b:=by simpa [wiB] using h
theorem zps (m:Nat)(c:Int)(d:ByteArray)(A B:Option Addr)(lp cp ci:Nat)(is:List Nd)(w:World)(S:Nat→Prop)(_hn:NdsAt w S m B is)(hdm:d.size≤maxLen)(_hlm:is.length≤2000000)(hpm:lp≤2000000)(hw:wiB c 12801=true) :
 Calls Tryz.prog 159 #[.agg #[.int .i64 2,.string d,.slice A lp cp,.int .i64 0,.int .i64 c,.slice B is.length ci]] w fun e w'=>e= .returned (.bool (listB 2 0 c d lp is.length (z0c is)))∧Below w.heap.size w w':=by
 obtain ⟨hc0,hc1⟩:=z8q hw
 have hb0:0≤(0:Int)∧(0:Int)≤10000000:=by omega
 have HBI:Hid (∀W:World,Calls Tryz.prog 186 #[.string d,.int .i64 0] W fun e w'=>e= .returned (.bool (bitsB d 0))∧Below W.heap.size W w'):=hid fun W=>z5r d 0 W hb0.1 hb0.2 hdm
 have HSZ:Hid (∀W:World,Calls Tryz.prog 170 #[.int .i64 0] W fun e w'=>e= .returned (.int .i64 0)∧Below W.heap.size W w'):=hid fun W=>(z32 0 W (by decide) (by decide)).mono (by rintro e w' ⟨rfl,rfl⟩; exact ⟨rfl,Below.refl _ _⟩)
 have HLN:Hid (∀lp:Nat,listB 2 0 c d lp is.length (z0c is)=(bitsB d 0&&(decide (lp=0)&&decide (is.length=0)))):=hid (by intro lp; unfold listB; rw[hw]; simp[show bz 0=0 from rfl]);have HW:=hid hw;have HDM:=hid hdm;clear _hn hw hdm;cases hbi:bitsB d 0
 · rw[hbi] at HBI HLN
   have HX:Hid (listB 2 0 c d lp is.length (z0c is)=false):=hid (by rw[HLN.out]; rfl);clear hbi;go_enter Tryz.func159,Tryz.ntmps159
   go_wp2_with (go_at_call 43; go_must (refine (z0v _ _ _).mono ?_); rintro e w1 ⟨rfl,rfl⟩; rw[HW.out])
   have HR:=hid (heap_alloc_new w (.cells #[.int .i64 2,.string d,.slice A lp cp,.int .i64 0,.int .i64 c,.slice B is.length ci] nodeT));have HBA:=hid ((Below.refl w.heap.size w).alloc (Nat.le_refl _) (.cells #[.int .i64 2,.string d,.slice A lp cp,.int .i64 0,.int .i64 c,.slice B is.length ci] nodeT));generalize w.alloc (.cells #[.int .i64 2,.string d,.slice A lp cp,.int .i64 0,.int .i64 c,.slice B is.length ci] nodeT)=W at *;obtain ⟨e0,e1,e2,e3,e4,e5⟩:=z01 HR.out;have q1:=cell_regrown e1;have q2:=cell_regrown e2;have q3:=cell_regrown e3;have q4:=cell_regrown e4;have q5:=cell_regrown e5;refine wp_region_quiet_below (by kernel_rfl) (by kernel_rfl) ?_
   repeat (first | go_big_quiet_step (first | (go_at_call 170; with_reducible exact Calls.regrown_of (HSZ.out _)) | (go_at_call 186; with_reducible exact Calls.regrown_of (HBI.out _))) | quiet_step (first | (go_at_call 170; with_reducible exact Calls.regrown_of (HSZ.out _)) | (go_at_call 186; with_reducible exact Calls.regrown_of (HBI.out _))))
   refine wpQuiet_nil ?_
   intro _ hw'
   obtain ⟨⟨dq,osq⟩,hw''⟩:=hw';subst hw'';have HB2:=hid (HBA.out.trans ((below_regrown W dq osq).mono HBA.out.size));clear q1 q2 q3 q4 q5 e0 e1 e2 e3 e4 e5;generalize «Sort».grow (redrawn W dq) osq=W2 at *;go_wp2;go_ret;exact ⟨by rw[HX.out]; rfl,HB2.out⟩
 · rw[hbi] at HBI HLN
   by_cases hp:lp=0
   · subst hp
     have HX:Hid (listB 2 0 c d 0 is.length (z0c is)=decide (is.length=0)):=hid (by rw[HLN.out]; simp);clear hbi;go_enter Tryz.func159,Tryz.ntmps159
     go_wp2_with (go_at_call 43; go_must (refine (z0v _ _ _).mono ?_); rintro e w1 ⟨rfl,rfl⟩; rw[HW.out])
     have HR:=hid (heap_alloc_new w (.cells #[.int .i64 2,.string d,.slice A 0 cp,.int .i64 0,.int .i64 c,.slice B is.length ci] nodeT));have HBA:=hid ((Below.refl w.heap.size w).alloc (Nat.le_refl _) (.cells #[.int .i64 2,.string d,.slice A 0 cp,.int .i64 0,.int .i64 c,.slice B is.length ci] nodeT));generalize w.alloc (.cells #[.int .i64 2,.string d,.slice A 0 cp,.int .i64 0,.int .i64 c,.slice B is.length ci] nodeT)=W at *;obtain ⟨e0,e1,e2,e3,e4,e5⟩:=z01 HR.out;have q1:=cell_regrown e1;have q2:=cell_regrown e2;have q3:=cell_regrown e3;have q4:=cell_regrown e4;have q5:=cell_regrown e5;refine wp_region_quiet_below (by kernel_rfl) (by kernel_rfl) ?_
     repeat (first | go_big_quiet_step (first | (go_at_call 170; with_reducible exact Calls.regrown_of (HSZ.out _)) | (go_at_call 186; with_reducible exact Calls.regrown_of (HBI.out _))) | quiet_step (first | (go_at_call 170; with_reducible exact Calls.regrown_of (HSZ.out _)) | (go_at_call 186; with_reducible exact Calls.regrown_of (HBI.out _))))
     refine wpQuiet_nil ?_
     intro _ hw'
     obtain ⟨⟨dq,osq⟩,hw''⟩:=hw';subst hw'';have HB2:=hid (HBA.out.trans ((below_regrown W dq osq).mono HBA.out.size));clear q1 q2 q3 q4 q5 e0 e1 e2 e3 e4 e5;generalize «Sort».grow (redrawn W dq) osq=W2 at *;go_wp2;go_ret;exact ⟨by rw[HX.out]; exact z0j (by rw[Bool.eq_iff_iff]; simp),HB2.out⟩
   · have hpb:((lp:Int)==0)=false:=by simp; omega
     have HX:Hid (listB 2 0 c d lp is.length (z0c is)=false):=hid (by rw[HLN.out]; simp[hp]);clear hbi;go_enter Tryz.func159,Tryz.ntmps159
     go_wp2_with (go_at_call 43; go_must (refine (z0v _ _ _).mono ?_); rintro e w1 ⟨rfl,rfl⟩; rw[HW.out])
     have HR:=hid (heap_alloc_new w (.cells #[.int .i64 2,.string d,.slice A lp cp,.int .i64 0,.int .i64 c,.slice B is.length ci] nodeT));have HBA:=hid ((Below.refl w.heap.size w).alloc (Nat.le_refl _) (.cells #[.int .i64 2,.string d,.slice A lp cp,.int .i64 0,.int .i64 c,.slice B is.length ci] nodeT));generalize w.alloc (.cells #[.int .i64 2,.string d,.slice A lp cp,.int .i64 0,.int .i64 c,.slice B is.length ci] nodeT)=W at *;obtain ⟨e0,e1,e2,e3,e4,e5⟩:=z01 HR.out;have q1:=cell_regrown e1;have q2:=cell_regrown e2;have q3:=cell_regrown e3;have q4:=cell_regrown e4;have q5:=cell_regrown e5;refine wp_region_quiet_below (by kernel_rfl) (by kernel_rfl) ?_
     repeat (first | go_big_quiet_step (first | (go_at_call 170; with_reducible exact Calls.regrown_of (HSZ.out _)) | (go_at_call 186; with_reducible exact Calls.regrown_of (HBI.out _))) | quiet_step (first | (go_at_call 170; with_reducible exact Calls.regrown_of (HSZ.out _)) | (go_at_call 186; with_reducible exact Calls.regrown_of (HBI.out _))))
     refine wpQuiet_nil ?_
     intro _ hw'
     obtain ⟨⟨dq,osq⟩,hw''⟩:=hw';subst hw'';have HB2:=hid (HBA.out.trans ((below_regrown W dq osq).mono HBA.out.size));clear q1 q2 q3 q4 q5 e0 e1 e2 e3 e4 e5;generalize «Sort».grow (redrawn W dq) osq=W2 at *;go_wp2;go_ret;exact ⟨by rw[HX.out]; rfl,HB2.out⟩
theorem zoi (m:Nat)(c:Int)(d:ByteArray)(A B:Option Addr)(lp cp ci:Nat)(is:List Nd)(w:World)(S:Nat→Prop)(_hn:NdsAt w S m B is)(hdm:d.size≤maxLen)(_hlm:is.length≤2000000)(hpm:lp≤2000000)(hw:wiB c 12801=true) :
 Calls Tryz.prog 159 #[.agg #[.int .i64 2,.string d,.slice A lp cp,.int .i64 1,.int .i64 c,.slice B is.length ci]] w fun e w'=>e= .returned (.bool (listB 2 1 c d lp is.length (z0c is)))∧Below w.heap.size w w':=by
 obtain ⟨hc0,hc1⟩:=z8q hw
 have hb0:0≤(c:Int)∧(c:Int)≤10000000:=by omega
 have HBI:Hid (∀W:World,Calls Tryz.prog 186 #[.string d,.int .i64 c] W fun e w'=>e= .returned (.bool (bitsB d c))∧Below W.heap.size W w'):=hid fun W=>z5r d c W hb0.1 hb0.2 hdm
 have HSZ:Hid (∀W:World,Calls Tryz.prog 170 #[.int .i64 1] W fun e w'=>e= .returned (.int .i64 1)∧Below W.heap.size W w'):=hid fun W=>(z32 1 W (by decide) (by decide)).mono (by rintro e w' ⟨rfl,rfl⟩; exact ⟨rfl,Below.refl _ _⟩)
 have HLN:Hid (∀lp:Nat,listB 2 1 c d lp is.length (z0c is)=(bitsB d c&&(decide (lp=0)&&decide (is.length=0)))):=hid (by intro lp; unfold listB; rw[hw]; simp[show bz 1=1 from rfl]);have HW:=hid hw;have HDM:=hid hdm;clear _hn hw hdm;cases hbi:bitsB d c
 · rw[hbi] at HBI HLN
   have HX:Hid (listB 2 1 c d lp is.length (z0c is)=false):=hid (by rw[HLN.out]; rfl);clear hbi;go_enter Tryz.func159,Tryz.ntmps159
   go_wp2_with (go_at_call 43; go_must (refine (z0v _ _ _).mono ?_); rintro e w1 ⟨rfl,rfl⟩; rw[HW.out])
   have HR:=hid (heap_alloc_new w (.cells #[.int .i64 2,.string d,.slice A lp cp,.int .i64 1,.int .i64 c,.slice B is.length ci] nodeT));have HBA:=hid ((Below.refl w.heap.size w).alloc (Nat.le_refl _) (.cells #[.int .i64 2,.string d,.slice A lp cp,.int .i64 1,.int .i64 c,.slice B is.length ci] nodeT));generalize w.alloc (.cells #[.int .i64 2,.string d,.slice A lp cp,.int .i64 1,.int .i64 c,.slice B is.length ci] nodeT)=W at *;obtain ⟨e0,e1,e2,e3,e4,e5⟩:=z01 HR.out;have q1:=cell_regrown e1;have q2:=cell_regrown e2;have q3:=cell_regrown e3;have q4:=cell_regrown e4;have q5:=cell_regrown e5;refine wp_region_quiet_below (by kernel_rfl) (by kernel_rfl) ?_
   repeat (first | go_big_quiet_step (first | (go_at_call 170; with_reducible exact Calls.regrown_of (HSZ.out _)) | (go_at_call 186; with_reducible exact Calls.regrown_of (HBI.out _))) | quiet_step (first | (go_at_call 170; with_reducible exact Calls.regrown_of (HSZ.out _)) | (go_at_call 186; with_reducible exact Calls.regrown_of (HBI.out _))))
   refine wpQuiet_nil ?_
   intro _ hw'
   obtain ⟨⟨dq,osq⟩,hw''⟩:=hw';subst hw'';have HB2:=hid (HBA.out.trans ((below_regrown W dq osq).mono HBA.out.size));clear q1 q2 q3 q4 q5 e0 e1 e2 e3 e4 e5;generalize «Sort».grow (redrawn W dq) osq=W2 at *;go_wp2;go_ret;exact ⟨by rw[HX.out]; rfl,HB2.out⟩
 · rw[hbi] at HBI HLN
   by_cases hp:lp=0
   · subst hp
     have HX:Hid (listB 2 1 c d 0 is.length (z0c is)=decide (is.length=0)):=hid (by rw[HLN.out]; simp);clear hbi;go_enter Tryz.func159,Tryz.ntmps159
     go_wp2_with (go_at_call 43; go_must (refine (z0v _ _ _).mono ?_); rintro e w1 ⟨rfl,rfl⟩; rw[HW.out])
     have HR:=hid (heap_alloc_new w (.cells #[.int .i64 2,.string d,.slice A 0 cp,.int .i64 1,.int .i64 c,.slice B is.length ci] nodeT));have HBA:=hid ((Below.refl w.heap.size w).alloc (Nat.le_refl _) (.cells #[.int .i64 2,.string d,.slice A 0 cp,.int .i64 1,.int .i64 c,.slice B is.length ci] nodeT));generalize w.alloc (.cells #[.int .i64 2,.string d,.slice A 0 cp,.int .i64 1,.int .i64 c,.slice B is.length ci] nodeT)=W at *;obtain ⟨e0,e1,e2,e3,e4,e5⟩:=z01 HR.out;have q1:=cell_regrown e1;have q2:=cell_regrown e2;have q3:=cell_regrown e3;have q4:=cell_regrown e4;have q5:=cell_regrown e5;refine wp_region_quiet_below (by kernel_rfl) (by kernel_rfl) ?_
     repeat (first | go_big_quiet_step (first | (go_at_call 170; with_reducible exact Calls.regrown_of (HSZ.out _)) | (go_at_call 186; with_reducible exact Calls.regrown_of (HBI.out _))) | quiet_step (first | (go_at_call 170; with_reducible exact Calls.regrown_of (HSZ.out _)) | (go_at_call 186; with_reducible exact Calls.regrown_of (HBI.out _))))
     refine wpQuiet_nil ?_
     intro _ hw'
     obtain ⟨⟨dq,osq⟩,hw''⟩:=hw';subst hw'';have HB2:=hid (HBA.out.trans ((below_regrown W dq osq).mono HBA.out.size));clear q1 q2 q3 q4 q5 e0 e1 e2 e3 e4 e5;generalize «Sort».grow (redrawn W dq) osq=W2 at *;go_wp2;go_ret;exact ⟨by rw[HX.out]; exact z0j (by rw[Bool.eq_iff_iff]; simp),HB2.out⟩
   · have hpb:((lp:Int)==0)=false:=by simp; omega
     have HX:Hid (listB 2 1 c d lp is.length (z0c is)=false):=hid (by rw[HLN.out]; simp[hp]);clear hbi;go_enter Tryz.func159,Tryz.ntmps159
     go_wp2_with (go_at_call 43; go_must (refine (z0v _ _ _).mono ?_); rintro e w1 ⟨rfl,rfl⟩; rw[HW.out])
     have HR:=hid (heap_alloc_new w (.cells #[.int .i64 2,.string d,.slice A lp cp,.int .i64 1,.int .i64 c,.slice B is.length ci] nodeT));have HBA:=hid ((Below.refl w.heap.size w).alloc (Nat.le_refl _) (.cells #[.int .i64 2,.string d,.slice A lp cp,.int .i64 1,.int .i64 c,.slice B is.length ci] nodeT));generalize w.alloc (.cells #[.int .i64 2,.string d,.slice A lp cp,.int .i64 1,.int .i64 c,.slice B is.length ci] nodeT)=W at *;obtain ⟨e0,e1,e2,e3,e4,e5⟩:=z01 HR.out;have q1:=cell_regrown e1;have q2:=cell_regrown e2;have q3:=cell_regrown e3;have q4:=cell_regrown e4;have q5:=cell_regrown e5;refine wp_region_quiet_below (by kernel_rfl) (by kernel_rfl) ?_
     repeat (first | go_big_quiet_step (first | (go_at_call 170; with_reducible exact Calls.regrown_of (HSZ.out _)) | (go_at_call 186; with_reducible exact Calls.regrown_of (HBI.out _))) | quiet_step (first | (go_at_call 170; with_reducible exact Calls.regrown_of (HSZ.out _)) | (go_at_call 186; with_reducible exact Calls.regrown_of (HBI.out _))))
     refine wpQuiet_nil ?_
     intro _ hw'
     obtain ⟨⟨dq,osq⟩,hw''⟩:=hw';subst hw'';have HB2:=hid (HBA.out.trans ((below_regrown W dq osq).mono HBA.out.size));clear q1 q2 q3 q4 q5 e0 e1 e2 e3 e4 e5;generalize «Sort».grow (redrawn W dq) osq=W2 at *;go_wp2;go_ret;exact ⟨by rw[HX.out]; rfl,HB2.out⟩
theorem zox (m:Nat)(c:Int)(d:ByteArray)(A B:Option Addr)(lp cp ci:Nat)(is:List Nd)(w:World)(S:Nat→Prop)(_hn:NdsAt w S m B is)(hdm:d.size≤maxLen)(_hlm:is.length≤2000000)(hpm:lp≤2000000)(hw:wiB c 12801=true) :
 Calls Tryz.prog 159 #[.agg #[.int .i64 2,.string d,.slice A lp cp,.int .i64 2,.int .i64 c,.slice B is.length ci]] w fun e w'=>e= .returned (.bool (listB 2 2 c d lp is.length (z0c is)))∧Below w.heap.size w w':=by
 obtain ⟨hc0,hc1⟩:=z8q hw
 have hb0:0≤((c*8):Int)∧((c*8):Int)≤10000000:=by omega
 have HBI:Hid (∀W:World,Calls Tryz.prog 186 #[.string d,.int .i64 (c*8)] W fun e w'=>e= .returned (.bool (bitsB d (c*8)))∧Below W.heap.size W w'):=hid fun W=>z5r d (c*8) W hb0.1 hb0.2 hdm
 have HSZ:Hid (∀W:World,Calls Tryz.prog 170 #[.int .i64 2] W fun e w'=>e= .returned (.int .i64 8)∧Below W.heap.size W w'):=hid fun W=>(z32 2 W (by decide) (by decide)).mono (by rintro e w' ⟨rfl,rfl⟩; exact ⟨rfl,Below.refl _ _⟩)
 have HLN:Hid (∀lp:Nat,listB 2 2 c d lp is.length (z0c is)=(bitsB d (c*8)&&(decide (lp=0)&&decide (is.length=0)))):=hid (by intro lp; unfold listB; rw[hw]; simp[show bz 2=8 from rfl]);have HW:=hid hw;have HDM:=hid hdm;clear _hn hw hdm;cases hbi:bitsB d (c*8)
 · rw[hbi] at HBI HLN
   have HX:Hid (listB 2 2 c d lp is.length (z0c is)=false):=hid (by rw[HLN.out]; rfl);clear hbi;go_enter Tryz.func159,Tryz.ntmps159
   go_wp2_with (go_at_call 43; go_must (refine (z0v _ _ _).mono ?_); rintro e w1 ⟨rfl,rfl⟩; rw[HW.out])
   have HR:=hid (heap_alloc_new w (.cells #[.int .i64 2,.string d,.slice A lp cp,.int .i64 2,.int .i64 c,.slice B is.length ci] nodeT));have HBA:=hid ((Below.refl w.heap.size w).alloc (Nat.le_refl _) (.cells #[.int .i64 2,.string d,.slice A lp cp,.int .i64 2,.int .i64 c,.slice B is.length ci] nodeT));generalize w.alloc (.cells #[.int .i64 2,.string d,.slice A lp cp,.int .i64 2,.int .i64 c,.slice B is.length ci] nodeT)=W at *;obtain ⟨e0,e1,e2,e3,e4,e5⟩:=z01 HR.out;have q1:=cell_regrown e1;have q2:=cell_regrown e2;have q3:=cell_regrown e3;have q4:=cell_regrown e4;have q5:=cell_regrown e5;refine wp_region_quiet_below (by kernel_rfl) (by kernel_rfl) ?_
   repeat (first | go_big_quiet_step (first | (go_at_call 170; with_reducible exact Calls.regrown_of (HSZ.out _)) | (go_at_call 186; with_reducible exact Calls.regrown_of (HBI.out _))) | quiet_step (first | (go_at_call 170; with_reducible exact Calls.regrown_of (HSZ.out _)) | (go_at_call 186; with_reducible exact Calls.regrown_of (HBI.out _))))
   refine wpQuiet_nil ?_
   intro _ hw'
   obtain ⟨⟨dq,osq⟩,hw''⟩:=hw';subst hw'';have HB2:=hid (HBA.out.trans ((below_regrown W dq osq).mono HBA.out.size));clear q1 q2 q3 q4 q5 e0 e1 e2 e3 e4 e5;generalize «Sort».grow (redrawn W dq) osq=W2 at *;go_wp2;go_ret;exact ⟨by rw[HX.out]; rfl,HB2.out⟩
 · rw[hbi] at HBI HLN
   by_cases hp:lp=0
   · subst hp
     have HX:Hid (listB 2 2 c d 0 is.length (z0c is)=decide (is.length=0)):=hid (by rw[HLN.out]; simp);clear hbi;go_enter Tryz.func159,Tryz.ntmps159
     go_wp2_with (go_at_call 43; go_must (refine (z0v _ _ _).mono ?_); rintro e w1 ⟨rfl,rfl⟩; rw[HW.out])
     have HR:=hid (heap_alloc_new w (.cells #[.int .i64 2,.string d,.slice A 0 cp,.int .i64 2,.int .i64 c,.slice B is.length ci] nodeT));have HBA:=hid ((Below.refl w.heap.size w).alloc (Nat.le_refl _) (.cells #[.int .i64 2,.string d,.slice A 0 cp,.int .i64 2,.int .i64 c,.slice B is.length ci] nodeT));generalize w.alloc (.cells #[.int .i64 2,.string d,.slice A 0 cp,.int .i64 2,.int .i64 c,.slice B is.length ci] nodeT)=W at *;obtain ⟨e0,e1,e2,e3,e4,e5⟩:=z01 HR.out;have q1:=cell_regrown e1;have q2:=cell_regrown e2;have q3:=cell_regrown e3;have q4:=cell_regrown e4;have q5:=cell_regrown e5;refine wp_region_quiet_below (by kernel_rfl) (by kernel_rfl) ?_
     repeat (first | go_big_quiet_step (first | (go_at_call 170; with_reducible exact Calls.regrown_of (HSZ.out _)) | (go_at_call 186; with_reducible exact Calls.regrown_of (HBI.out _))) | quiet_step (first | (go_at_call 170; with_reducible exact Calls.regrown_of (HSZ.out _)) | (go_at_call 186; with_reducible exact Calls.regrown_of (HBI.out _))))
     refine wpQuiet_nil ?_
     intro _ hw'
     obtain ⟨⟨dq,osq⟩,hw''⟩:=hw';subst hw'';have HB2:=hid (HBA.out.trans ((below_regrown W dq osq).mono HBA.out.size));clear q1 q2 q3 q4 q5 e0 e1 e2 e3 e4 e5;generalize «Sort».grow (redrawn W dq) osq=W2 at *;go_wp2;go_ret;exact ⟨by rw[HX.out]; exact z0j (by rw[Bool.eq_iff_iff]; simp),HB2.out⟩
   · have hpb:((lp:Int)==0)=false:=by simp; omega
     have HX:Hid (listB 2 2 c d lp is.length (z0c is)=false):=hid (by rw[HLN.out]; simp[hp]);clear hbi;go_enter Tryz.func159,Tryz.ntmps159
     go_wp2_with (go_at_call 43; go_must (refine (z0v _ _ _).mono ?_); rintro e w1 ⟨rfl,rfl⟩; rw[HW.out])
     have HR:=hid (heap_alloc_new w (.cells #[.int .i64 2,.string d,.slice A lp cp,.int .i64 2,.int .i64 c,.slice B is.length ci] nodeT));have HBA:=hid ((Below.refl w.heap.size w).alloc (Nat.le_refl _) (.cells #[.int .i64 2,.string d,.slice A lp cp,.int .i64 2,.int .i64 c,.slice B is.length ci] nodeT));generalize w.alloc (.cells #[.int .i64 2,.string d,.slice A lp cp,.int .i64 2,.int .i64 c,.slice B is.length ci] nodeT)=W at *;obtain ⟨e0,e1,e2,e3,e4,e5⟩:=z01 HR.out;have q1:=cell_regrown e1;have q2:=cell_regrown e2;have q3:=cell_regrown e3;have q4:=cell_regrown e4;have q5:=cell_regrown e5;refine wp_region_quiet_below (by kernel_rfl) (by kernel_rfl) ?_
     repeat (first | go_big_quiet_step (first | (go_at_call 170; with_reducible exact Calls.regrown_of (HSZ.out _)) | (go_at_call 186; with_reducible exact Calls.regrown_of (HBI.out _))) | quiet_step (first | (go_at_call 170; with_reducible exact Calls.regrown_of (HSZ.out _)) | (go_at_call 186; with_reducible exact Calls.regrown_of (HBI.out _))))
     refine wpQuiet_nil ?_
     intro _ hw'
     obtain ⟨⟨dq,osq⟩,hw''⟩:=hw';subst hw'';have HB2:=hid (HBA.out.trans ((below_regrown W dq osq).mono HBA.out.size));clear q1 q2 q3 q4 q5 e0 e1 e2 e3 e4 e5;generalize «Sort».grow (redrawn W dq) osq=W2 at *;go_wp2;go_ret;exact ⟨by rw[HX.out]; rfl,HB2.out⟩
theorem zo9 (m:Nat)(c:Int)(d:ByteArray)(A B:Option Addr)(lp cp ci:Nat)(is:List Nd)(w:World)(S:Nat→Prop)(_hn:NdsAt w S m B is)(hdm:d.size≤maxLen)(_hlm:is.length≤2000000)(hpm:lp≤2000000)(hw:wiB c 12801=true) :
 Calls Tryz.prog 159 #[.agg #[.int .i64 2,.string d,.slice A lp cp,.int .i64 3,.int .i64 c,.slice B is.length ci]] w fun e w'=>e= .returned (.bool (listB 2 3 c d lp is.length (z0c is)))∧Below w.heap.size w w':=by
 obtain ⟨hc0,hc1⟩:=z8q hw
 have hb0:0≤((c*16):Int)∧((c*16):Int)≤10000000:=by omega
 have HBI:Hid (∀W:World,Calls Tryz.prog 186 #[.string d,.int .i64 (c*16)] W fun e w'=>e= .returned (.bool (bitsB d (c*16)))∧Below W.heap.size W w'):=hid fun W=>z5r d (c*16) W hb0.1 hb0.2 hdm
 have HSZ:Hid (∀W:World,Calls Tryz.prog 170 #[.int .i64 3] W fun e w'=>e= .returned (.int .i64 16)∧Below W.heap.size W w'):=hid fun W=>(z32 3 W (by decide) (by decide)).mono (by rintro e w' ⟨rfl,rfl⟩; exact ⟨rfl,Below.refl _ _⟩)
 have HLN:Hid (∀lp:Nat,listB 2 3 c d lp is.length (z0c is)=(bitsB d (c*16)&&(decide (lp=0)&&decide (is.length=0)))):=hid (by intro lp; unfold listB; rw[hw]; simp[show bz 3=16 from rfl]);have HW:=hid hw;have HDM:=hid hdm;clear _hn hw hdm;cases hbi:bitsB d (c*16)
 · rw[hbi] at HBI HLN
   have HX:Hid (listB 2 3 c d lp is.length (z0c is)=false):=hid (by rw[HLN.out]; rfl);clear hbi;go_enter Tryz.func159,Tryz.ntmps159
   go_wp2_with (go_at_call 43; go_must (refine (z0v _ _ _).mono ?_); rintro e w1 ⟨rfl,rfl⟩; rw[HW.out])
   have HR:=hid (heap_alloc_new w (.cells #[.int .i64 2,.string d,.slice A lp cp,.int .i64 3,.int .i64 c,.slice B is.length ci] nodeT));have HBA:=hid ((Below.refl w.heap.size w).alloc (Nat.le_refl _) (.cells #[.int .i64 2,.string d,.slice A lp cp,.int .i64 3,.int .i64 c,.slice B is.length ci] nodeT));generalize w.alloc (.cells #[.int .i64 2,.string d,.slice A lp cp,.int .i64 3,.int .i64 c,.slice B is.length ci] nodeT)=W at *;obtain ⟨e0,e1,e2,e3,e4,e5⟩:=z01 HR.out;have q1:=cell_regrown e1;have q2:=cell_regrown e2;have q3:=cell_regrown e3;have q4:=cell_regrown e4;have q5:=cell_regrown e5;refine wp_region_quiet_below (by kernel_rfl) (by kernel_rfl) ?_
   repeat (first | go_big_quiet_step (first | (go_at_call 170; with_reducible exact Calls.regrown_of (HSZ.out _)) | (go_at_call 186; with_reducible exact Calls.regrown_of (HBI.out _))) | quiet_step (first | (go_at_call 170; with_reducible exact Calls.regrown_of (HSZ.out _)) | (go_at_call 186; with_reducible exact Calls.regrown_of (HBI.out _))))
   refine wpQuiet_nil ?_
   intro _ hw'
   obtain ⟨⟨dq,osq⟩,hw''⟩:=hw';subst hw'';have HB2:=hid (HBA.out.trans ((below_regrown W dq osq).mono HBA.out.size));clear q1 q2 q3 q4 q5 e0 e1 e2 e3 e4 e5;generalize «Sort».grow (redrawn W dq) osq=W2 at *;go_wp2;go_ret;exact ⟨by rw[HX.out]; rfl,HB2.out⟩
 · rw[hbi] at HBI HLN
   by_cases hp:lp=0
   · subst hp
     have HX:Hid (listB 2 3 c d 0 is.length (z0c is)=decide (is.length=0)):=hid (by rw[HLN.out]; simp);clear hbi;go_enter Tryz.func159,Tryz.ntmps159
     go_wp2_with (go_at_call 43; go_must (refine (z0v _ _ _).mono ?_); rintro e w1 ⟨rfl,rfl⟩; rw[HW.out])
     have HR:=hid (heap_alloc_new w (.cells #[.int .i64 2,.string d,.slice A 0 cp,.int .i64 3,.int .i64 c,.slice B is.length ci] nodeT));have HBA:=hid ((Below.refl w.heap.size w).alloc (Nat.le_refl _) (.cells #[.int .i64 2,.string d,.slice A 0 cp,.int .i64 3,.int .i64 c,.slice B is.length ci] nodeT));generalize w.alloc (.cells #[.int .i64 2,.string d,.slice A 0 cp,.int .i64 3,.int .i64 c,.slice B is.length ci] nodeT)=W at *;obtain ⟨e0,e1,e2,e3,e4,e5⟩:=z01 HR.out;have q1:=cell_regrown e1;have q2:=cell_regrown e2;have q3:=cell_regrown e3;have q4:=cell_regrown e4;have q5:=cell_regrown e5;refine wp_region_quiet_below (by kernel_rfl) (by kernel_rfl) ?_
     repeat (first | go_big_quiet_step (first | (go_at_call 170; with_reducible exact Calls.regrown_of (HSZ.out _)) | (go_at_call 186; with_reducible exact Calls.regrown_of (HBI.out _))) | quiet_step (first | (go_at_call 170; with_reducible exact Calls.regrown_of (HSZ.out _)) | (go_at_call 186; with_reducible exact Calls.regrown_of (HBI.out _))))
     refine wpQuiet_nil ?_
     intro _ hw'
     obtain ⟨⟨dq,osq⟩,hw''⟩:=hw';subst hw'';have HB2:=hid (HBA.out.trans ((below_regrown W dq osq).mono HBA.out.size));clear q1 q2 q3 q4 q5 e0 e1 e2 e3 e4 e5;generalize «Sort».grow (redrawn W dq) osq=W2 at *;go_wp2;go_ret;exact ⟨by rw[HX.out]; exact z0j (by rw[Bool.eq_iff_iff]; simp),HB2.out⟩
   · have hpb:((lp:Int)==0)=false:=by simp; omega
     have HX:Hid (listB 2 3 c d lp is.length (z0c is)=false):=hid (by rw[HLN.out]; simp[hp]);clear hbi;go_enter Tryz.func159,Tryz.ntmps159
     go_wp2_with (go_at_call 43; go_must (refine (z0v _ _ _).mono ?_); rintro e w1 ⟨rfl,rfl⟩; rw[HW.out])
     have HR:=hid (heap_alloc_new w (.cells #[.int .i64 2,.string d,.slice A lp cp,.int .i64 3,.int .i64 c,.slice B is.length ci] nodeT));have HBA:=hid ((Below.refl w.heap.size w).alloc (Nat.le_refl _) (.cells #[.int .i64 2,.string d,.slice A lp cp,.int .i64 3,.int .i64 c,.slice B is.length ci] nodeT));generalize w.alloc (.cells #[.int .i64 2,.string d,.slice A lp cp,.int .i64 3,.int .i64 c,.slice B is.length ci] nodeT)=W at *;obtain ⟨e0,e1,e2,e3,e4,e5⟩:=z01 HR.out;have q1:=cell_regrown e1;have q2:=cell_regrown e2;have q3:=cell_regrown e3;have q4:=cell_regrown e4;have q5:=cell_regrown e5;refine wp_region_quiet_below (by kernel_rfl) (by kernel_rfl) ?_
     repeat (first | go_big_quiet_step (first | (go_at_call 170; with_reducible exact Calls.regrown_of (HSZ.out _)) | (go_at_call 186; with_reducible exact Calls.regrown_of (HBI.out _))) | quiet_step (first | (go_at_call 170; with_reducible exact Calls.regrown_of (HSZ.out _)) | (go_at_call 186; with_reducible exact Calls.regrown_of (HBI.out _))))
     refine wpQuiet_nil ?_
     intro _ hw'
     obtain ⟨⟨dq,osq⟩,hw''⟩:=hw';subst hw'';have HB2:=hid (HBA.out.trans ((below_regrown W dq osq).mono HBA.out.size));clear q1 q2 q3 q4 q5 e0 e1 e2 e3 e4 e5;generalize «Sort».grow (redrawn W dq) osq=W2 at *;go_wp2;go_ret;exact ⟨by rw[HX.out]; rfl,HB2.out⟩
theorem zp2 (m:Nat)(c:Int)(d:ByteArray)(A B:Option Addr)(lp cp ci:Nat)(is:List Nd)(w:World)(S:Nat→Prop)(_hn:NdsAt w S m B is)(hdm:d.size≤maxLen)(_hlm:is.length≤2000000)(hpm:lp≤2000000)(hw:wiB c 12801=true) :
 Calls Tryz.prog 159 #[.agg #[.int .i64 2,.string d,.slice A lp cp,.int .i64 4,.int .i64 c,.slice B is.length ci]] w fun e w'=>e= .returned (.bool (listB 2 4 c d lp is.length (z0c is)))∧Below w.heap.size w w':=by
 obtain ⟨hc0,hc1⟩:=z8q hw
 have hb0:0≤((c*32):Int)∧((c*32):Int)≤10000000:=by omega
 have HBI:Hid (∀W:World,Calls Tryz.prog 186 #[.string d,.int .i64 (c*32)] W fun e w'=>e= .returned (.bool (bitsB d (c*32)))∧Below W.heap.size W w'):=hid fun W=>z5r d (c*32) W hb0.1 hb0.2 hdm
 have HSZ:Hid (∀W:World,Calls Tryz.prog 170 #[.int .i64 4] W fun e w'=>e= .returned (.int .i64 32)∧Below W.heap.size W w'):=hid fun W=>(z32 4 W (by decide) (by decide)).mono (by rintro e w' ⟨rfl,rfl⟩; exact ⟨rfl,Below.refl _ _⟩)
 have HLN:Hid (∀lp:Nat,listB 2 4 c d lp is.length (z0c is)=(bitsB d (c*32)&&(decide (lp=0)&&decide (is.length=0)))):=hid (by intro lp; unfold listB; rw[hw]; simp[show bz 4=32 from rfl]);have HW:=hid hw;have HDM:=hid hdm;clear _hn hw hdm;cases hbi:bitsB d (c*32)
 · rw[hbi] at HBI HLN
   have HX:Hid (listB 2 4 c d lp is.length (z0c is)=false):=hid (by rw[HLN.out]; rfl);clear hbi;go_enter Tryz.func159,Tryz.ntmps159
   go_wp2_with (go_at_call 43; go_must (refine (z0v _ _ _).mono ?_); rintro e w1 ⟨rfl,rfl⟩; rw[HW.out])
   have HR:=hid (heap_alloc_new w (.cells #[.int .i64 2,.string d,.slice A lp cp,.int .i64 4,.int .i64 c,.slice B is.length ci] nodeT));have HBA:=hid ((Below.refl w.heap.size w).alloc (Nat.le_refl _) (.cells #[.int .i64 2,.string d,.slice A lp cp,.int .i64 4,.int .i64 c,.slice B is.length ci] nodeT));generalize w.alloc (.cells #[.int .i64 2,.string d,.slice A lp cp,.int .i64 4,.int .i64 c,.slice B is.length ci] nodeT)=W at *;obtain ⟨e0,e1,e2,e3,e4,e5⟩:=z01 HR.out;have q1:=cell_regrown e1;have q2:=cell_regrown e2;have q3:=cell_regrown e3;have q4:=cell_regrown e4;have q5:=cell_regrown e5;refine wp_region_quiet_below (by kernel_rfl) (by kernel_rfl) ?_
   repeat (first | go_big_quiet_step (first | (go_at_call 170; with_reducible exact Calls.regrown_of (HSZ.out _)) | (go_at_call 186; with_reducible exact Calls.regrown_of (HBI.out _))) | quiet_step (first | (go_at_call 170; with_reducible exact Calls.regrown_of (HSZ.out _)) | (go_at_call 186; with_reducible exact Calls.regrown_of (HBI.out _))))
   refine wpQuiet_nil ?_
   intro _ hw'
   obtain ⟨⟨dq,osq⟩,hw''⟩:=hw';subst hw'';have HB2:=hid (HBA.out.trans ((below_regrown W dq osq).mono HBA.out.size));clear q1 q2 q3 q4 q5 e0 e1 e2 e3 e4 e5;generalize «Sort».grow (redrawn W dq) osq=W2 at *;go_wp2;go_ret;exact ⟨by rw[HX.out]; rfl,HB2.out⟩
 · rw[hbi] at HBI HLN
   by_cases hp:lp=0
   · subst hp
     have HX:Hid (listB 2 4 c d 0 is.length (z0c is)=decide (is.length=0)):=hid (by rw[HLN.out]; simp);clear hbi;go_enter Tryz.func159,Tryz.ntmps159
     go_wp2_with (go_at_call 43; go_must (refine (z0v _ _ _).mono ?_); rintro e w1 ⟨rfl,rfl⟩; rw[HW.out])
     have HR:=hid (heap_alloc_new w (.cells #[.int .i64 2,.string d,.slice A 0 cp,.int .i64 4,.int .i64 c,.slice B is.length ci] nodeT));have HBA:=hid ((Below.refl w.heap.size w).alloc (Nat.le_refl _) (.cells #[.int .i64 2,.string d,.slice A 0 cp,.int .i64 4,.int .i64 c,.slice B is.length ci] nodeT));generalize w.alloc (.cells #[.int .i64 2,.string d,.slice A 0 cp,.int .i64 4,.int .i64 c,.slice B is.length ci] nodeT)=W at *;obtain ⟨e0,e1,e2,e3,e4,e5⟩:=z01 HR.out;have q1:=cell_regrown e1;have q2:=cell_regrown e2;have q3:=cell_regrown e3;have q4:=cell_regrown e4;have q5:=cell_regrown e5;refine wp_region_quiet_below (by kernel_rfl) (by kernel_rfl) ?_
     repeat (first | go_big_quiet_step (first | (go_at_call 170; with_reducible exact Calls.regrown_of (HSZ.out _)) | (go_at_call 186; with_reducible exact Calls.regrown_of (HBI.out _))) | quiet_step (first | (go_at_call 170; with_reducible exact Calls.regrown_of (HSZ.out _)) | (go_at_call 186; with_reducible exact Calls.regrown_of (HBI.out _))))
     refine wpQuiet_nil ?_
     intro _ hw'
     obtain ⟨⟨dq,osq⟩,hw''⟩:=hw';subst hw'';have HB2:=hid (HBA.out.trans ((below_regrown W dq osq).mono HBA.out.size));clear q1 q2 q3 q4 q5 e0 e1 e2 e3 e4 e5;generalize «Sort».grow (redrawn W dq) osq=W2 at *;go_wp2;go_ret;exact ⟨by rw[HX.out]; exact z0j (by rw[Bool.eq_iff_iff]; simp),HB2.out⟩
   · have hpb:((lp:Int)==0)=false:=by simp; omega
     have HX:Hid (listB 2 4 c d lp is.length (z0c is)=false):=hid (by rw[HLN.out]; simp[hp]);clear hbi;go_enter Tryz.func159,Tryz.ntmps159
     go_wp2_with (go_at_call 43; go_must (refine (z0v _ _ _).mono ?_); rintro e w1 ⟨rfl,rfl⟩; rw[HW.out])
     have HR:=hid (heap_alloc_new w (.cells #[.int .i64 2,.string d,.slice A lp cp,.int .i64 4,.int .i64 c,.slice B is.length ci] nodeT));have HBA:=hid ((Below.refl w.heap.size w).alloc (Nat.le_refl _) (.cells #[.int .i64 2,.string d,.slice A lp cp,.int .i64 4,.int .i64 c,.slice B is.length ci] nodeT));generalize w.alloc (.cells #[.int .i64 2,.string d,.slice A lp cp,.int .i64 4,.int .i64 c,.slice B is.length ci] nodeT)=W at *;obtain ⟨e0,e1,e2,e3,e4,e5⟩:=z01 HR.out;have q1:=cell_regrown e1;have q2:=cell_regrown e2;have q3:=cell_regrown e3;have q4:=cell_regrown e4;have q5:=cell_regrown e5;refine wp_region_quiet_below (by kernel_rfl) (by kernel_rfl) ?_
     repeat (first | go_big_quiet_step (first | (go_at_call 170; with_reducible exact Calls.regrown_of (HSZ.out _)) | (go_at_call 186; with_reducible exact Calls.regrown_of (HBI.out _))) | quiet_step (first | (go_at_call 170; with_reducible exact Calls.regrown_of (HSZ.out _)) | (go_at_call 186; with_reducible exact Calls.regrown_of (HBI.out _))))
     refine wpQuiet_nil ?_
     intro _ hw'
     obtain ⟨⟨dq,osq⟩,hw''⟩:=hw';subst hw'';have HB2:=hid (HBA.out.trans ((below_regrown W dq osq).mono HBA.out.size));clear q1 q2 q3 q4 q5 e0 e1 e2 e3 e4 e5;generalize «Sort».grow (redrawn W dq) osq=W2 at *;go_wp2;go_ret;exact ⟨by rw[HX.out]; rfl,HB2.out⟩
theorem znl (m:Nat)(c:Int)(d:ByteArray)(A B:Option Addr)(lp cp ci:Nat)(is:List Nd)(w:World)(S:Nat→Prop)(_hn:NdsAt w S m B is)(hdm:d.size≤maxLen)(_hlm:is.length≤2000000)(hpm:lp≤2000000)(hw:wiB c 12801=true) :
 Calls Tryz.prog 159 #[.agg #[.int .i64 2,.string d,.slice A lp cp,.int .i64 5,.int .i64 c,.slice B is.length ci]] w fun e w'=>e= .returned (.bool (listB 2 5 c d lp is.length (z0c is)))∧Below w.heap.size w w':=by
 obtain ⟨hc0,hc1⟩:=z8q hw
 have hb0:0≤((c*64):Int)∧((c*64):Int)≤10000000:=by omega
 have HBI:Hid (∀W:World,Calls Tryz.prog 186 #[.string d,.int .i64 (c*64)] W fun e w'=>e= .returned (.bool (bitsB d (c*64)))∧Below W.heap.size W w'):=hid fun W=>z5r d (c*64) W hb0.1 hb0.2 hdm
 have HSZ:Hid (∀W:World,Calls Tryz.prog 170 #[.int .i64 5] W fun e w'=>e= .returned (.int .i64 64)∧Below W.heap.size W w'):=hid fun W=>(z32 5 W (by decide) (by decide)).mono (by rintro e w' ⟨rfl,rfl⟩; exact ⟨rfl,Below.refl _ _⟩)
 have HLN:Hid (∀lp:Nat,listB 2 5 c d lp is.length (z0c is)=(bitsB d (c*64)&&(decide (lp=0)&&decide (is.length=0)))):=hid (by intro lp; unfold listB; rw[hw]; simp[show bz 5=64 from rfl]);have HW:=hid hw;have HDM:=hid hdm;clear _hn hw hdm;cases hbi:bitsB d (c*64)
 · rw[hbi] at HBI HLN
   have HX:Hid (listB 2 5 c d lp is.length (z0c is)=false):=hid (by rw[HLN.out]; rfl);clear hbi;go_enter Tryz.func159,Tryz.ntmps159
   go_wp2_with (go_at_call 43; go_must (refine (z0v _ _ _).mono ?_); rintro e w1 ⟨rfl,rfl⟩; rw[HW.out])
   have HR:=hid (heap_alloc_new w (.cells #[.int .i64 2,.string d,.slice A lp cp,.int .i64 5,.int .i64 c,.slice B is.length ci] nodeT));have HBA:=hid ((Below.refl w.heap.size w).alloc (Nat.le_refl _) (.cells #[.int .i64 2,.string d,.slice A lp cp,.int .i64 5,.int .i64 c,.slice B is.length ci] nodeT));generalize w.alloc (.cells #[.int .i64 2,.string d,.slice A lp cp,.int .i64 5,.int .i64 c,.slice B is.length ci] nodeT)=W at *;obtain ⟨e0,e1,e2,e3,e4,e5⟩:=z01 HR.out;have q1:=cell_regrown e1;have q2:=cell_regrown e2;have q3:=cell_regrown e3;have q4:=cell_regrown e4;have q5:=cell_regrown e5;refine wp_region_quiet_below (by kernel_rfl) (by kernel_rfl) ?_
   repeat (first | go_big_quiet_step (first | (go_at_call 170; with_reducible exact Calls.regrown_of (HSZ.out _)) | (go_at_call 186; with_reducible exact Calls.regrown_of (HBI.out _))) | quiet_step (first | (go_at_call 170; with_reducible exact Calls.regrown_of (HSZ.out _)) | (go_at_call 186; with_reducible exact Calls.regrown_of (HBI.out _))))
   refine wpQuiet_nil ?_
   intro _ hw'
   obtain ⟨⟨dq,osq⟩,hw''⟩:=hw';subst hw'';have HB2:=hid (HBA.out.trans ((below_regrown W dq osq).mono HBA.out.size));clear q1 q2 q3 q4 q5 e0 e1 e2 e3 e4 e5;generalize «Sort».grow (redrawn W dq) osq=W2 at *;go_wp2;go_ret;exact ⟨by rw[HX.out]; rfl,HB2.out⟩
 · rw[hbi] at HBI HLN
   by_cases hp:lp=0
   · subst hp
     have HX:Hid (listB 2 5 c d 0 is.length (z0c is)=decide (is.length=0)):=hid (by rw[HLN.out]; simp);clear hbi;go_enter Tryz.func159,Tryz.ntmps159
     go_wp2_with (go_at_call 43; go_must (refine (z0v _ _ _).mono ?_); rintro e w1 ⟨rfl,rfl⟩; rw[HW.out])
     have HR:=hid (heap_alloc_new w (.cells #[.int .i64 2,.string d,.slice A 0 cp,.int .i64 5,.int .i64 c,.slice B is.length ci] nodeT));have HBA:=hid ((Below.refl w.heap.size w).alloc (Nat.le_refl _) (.cells #[.int .i64 2,.string d,.slice A 0 cp,.int .i64 5,.int .i64 c,.slice B is.length ci] nodeT));generalize w.alloc (.cells #[.int .i64 2,.string d,.slice A 0 cp,.int .i64 5,.int .i64 c,.slice B is.length ci] nodeT)=W at *;obtain ⟨e0,e1,e2,e3,e4,e5⟩:=z01 HR.out;have q1:=cell_regrown e1;have q2:=cell_regrown e2;have q3:=cell_regrown e3;have q4:=cell_regrown e4;have q5:=cell_regrown e5;refine wp_region_quiet_below (by kernel_rfl) (by kernel_rfl) ?_
     repeat (first | go_big_quiet_step (first | (go_at_call 170; with_reducible exact Calls.regrown_of (HSZ.out _)) | (go_at_call 186; with_reducible exact Calls.regrown_of (HBI.out _))) | quiet_step (first | (go_at_call 170; with_reducible exact Calls.regrown_of (HSZ.out _)) | (go_at_call 186; with_reducible exact Calls.regrown_of (HBI.out _))))
     refine wpQuiet_nil ?_
     intro _ hw'
     obtain ⟨⟨dq,osq⟩,hw''⟩:=hw';subst hw'';have HB2:=hid (HBA.out.trans ((below_regrown W dq osq).mono HBA.out.size));clear q1 q2 q3 q4 q5 e0 e1 e2 e3 e4 e5;generalize «Sort».grow (redrawn W dq) osq=W2 at *;go_wp2;go_ret;exact ⟨by rw[HX.out]; exact z0j (by rw[Bool.eq_iff_iff]; simp),HB2.out⟩
   · have hpb:((lp:Int)==0)=false:=by simp; omega
     have HX:Hid (listB 2 5 c d lp is.length (z0c is)=false):=hid (by rw[HLN.out]; simp[hp]);clear hbi;go_enter Tryz.func159,Tryz.ntmps159
     go_wp2_with (go_at_call 43; go_must (refine (z0v _ _ _).mono ?_); rintro e w1 ⟨rfl,rfl⟩; rw[HW.out])
     have HR:=hid (heap_alloc_new w (.cells #[.int .i64 2,.string d,.slice A lp cp,.int .i64 5,.int .i64 c,.slice B is.length ci] nodeT));have HBA:=hid ((Below.refl w.heap.size w).alloc (Nat.le_refl _) (.cells #[.int .i64 2,.string d,.slice A lp cp,.int .i64 5,.int .i64 c,.slice B is.length ci] nodeT));generalize w.alloc (.cells #[.int .i64 2,.string d,.slice A lp cp,.int .i64 5,.int .i64 c,.slice B is.length ci] nodeT)=W at *;obtain ⟨e0,e1,e2,e3,e4,e5⟩:=z01 HR.out;have q1:=cell_regrown e1;have q2:=cell_regrown e2;have q3:=cell_regrown e3;have q4:=cell_regrown e4;have q5:=cell_regrown e5;refine wp_region_quiet_below (by kernel_rfl) (by kernel_rfl) ?_
     repeat (first | go_big_quiet_step (first | (go_at_call 170; with_reducible exact Calls.regrown_of (HSZ.out _)) | (go_at_call 186; with_reducible exact Calls.regrown_of (HBI.out _))) | quiet_step (first | (go_at_call 170; with_reducible exact Calls.regrown_of (HSZ.out _)) | (go_at_call 186; with_reducible exact Calls.regrown_of (HBI.out _))))
     refine wpQuiet_nil ?_
     intro _ hw'
     obtain ⟨⟨dq,osq⟩,hw''⟩:=hw';subst hw'';have HB2:=hid (HBA.out.trans ((below_regrown W dq osq).mono HBA.out.size));clear q1 q2 q3 q4 q5 e0 e1 e2 e3 e4 e5;generalize «Sort».grow (redrawn W dq) osq=W2 at *;go_wp2;go_ret;exact ⟨by rw[HX.out]; rfl,HB2.out⟩
theorem zo1 (m:Nat)(c:Int)(d:ByteArray)(A B:Option Addr)(lp cp ci:Nat)(is:List Nd)(w:World)(S:Nat→Prop)(_hn:NdsAt w S m B is)(_hdm:d.size≤maxLen)(_hlm:is.length≤2000000)(_hpm:lp≤2000000)(hw:wiB c 12801=true) :
 Calls Tryz.prog 159 #[.agg #[.int .i64 2,.string d,.slice A lp cp,.int .i64 6,.int .i64 c,.slice B is.length ci]] w fun e w'=>e= .returned (.bool (listB 2 6 c d lp is.length (z0c is)))∧Below w.heap.size w w':=by
 have HLN:Hid (listB 2 6 c d lp is.length (z0c is)=decide (d.size=0∧(lp:Int)=c∧is.length=0)):=hid (by unfold listB; rw[hw,Bool.eq_iff_iff]; simp);have hse:=z1p d;have HW:=hid hw;clear hw _hn;go_enter Tryz.func159,Tryz.ntmps159
 go_wp2_with (go_at_call 43; go_must (refine (z0v _ _ _).mono ?_); rintro e w1 ⟨rfl,rfl⟩; rw[HW.out])
 all_goals go_ret
 all_goals refine ⟨z0j ?_,(Below.refl _ _).alloc (Nat.le_refl _) _⟩
 all_goals (rw[HLN.out,Bool.eq_iff_iff]; simp_all)
theorem zoc (m:Nat)(c:Int)(d:ByteArray)(A B:Option Addr)(lp cp ci:Nat)(is:List Nd)(w:World)(S:Nat→Prop)(hn:NdsAt w S m B is)(_hdm:d.size≤maxLen)(hlm:is.length≤2000000)(_hpm:lp≤2000000)(hw:wiB c 12801=true) :
 Calls Tryz.prog 159 #[.agg #[.int .i64 2,.string d,.slice A lp cp,.int .i64 7,.int .i64 c,.slice B is.length ci]] w fun e w'=>e= .returned (.bool (listB 2 7 c d lp is.length (z0c is)))∧Below w.heap.size w w':=by
 have HLN:Hid (listB 2 7 c d lp is.length (z0c is)=(decide (d.size=0∧lp=0∧(is.length:Int)=c)&&z0c is)):=hid (by unfold listB; rw[hw,Bool.eq_iff_iff]; simp[and_assoc]);have hse:=z1p d;have HAR:Hid (∀W:World,Below w.heap.size w W→Calls Tryz.prog 187 #[.slice B is.length ci] W fun e w'=>e= .returned (.bool (z0c is))∧Below W.heap.size W w'):=hid (fun W hb=>zjm m B ci is W S (NdsAt.succ _ _ _ (hn.below hb)) hlm);have HW:=hid hw;generalize z0c is=ib at *;clear hw hn;go_enter Tryz.func159,Tryz.ntmps159
 go_wp2_with (first | (go_at_call 43; go_must (refine (z0v _ _ _).mono ?_); rintro e w1 ⟨rfl,rfl⟩; rw[HW.out]) | (go_at_call 187; go_must (refine (HAR.out _ ((Below.refl _ _).alloc (Nat.le_refl _) _)).mono ?_); rintro e w2 ⟨rfl,hb2⟩))
 all_goals go_ret
 all_goals first | refine ⟨z0j ?_,((Below.refl _ _).alloc (Nat.le_refl _) _).trans (hb2.mono (by simp))⟩ | refine ⟨z0j ?_,(Below.refl _ _).alloc (Nat.le_refl _) _⟩
 all_goals (rw[HLN.out,Bool.eq_iff_iff]; simp_all)
theorem zo6 (m:Nat)(k s c:Int)(d:ByteArray)(A B:Option Addr)(lp cp ci:Nat)(is:List Nd)(w:World)(S:Nat→Prop)(hn:NdsAt w S m B is)(hdm:d.size≤maxLen)(hlm:is.length≤2000000)(hpm:lp≤2000000) :
 Calls Tryz.prog 159 #[.agg #[.int .i64 k,.string d,.slice A lp cp,.int .i64 s,.int .i64 c,.slice B is.length ci]] w fun e w'=>e= .returned (.bool (listB k s c d lp is.length (z0c is)))∧Below w.heap.size w w':=by
 by_cases hk:k=2
 · subst hk
   cases hw:wiB c 12801
   · have HX:Hid (listB 2 s c d lp is.length (z0c is)=false):=hid (by unfold listB; rw[hw]; simp)
     have HW:=hid hw;clear hw hn;go_enter Tryz.func159,Tryz.ntmps159
     go_wp2_with (go_at_call 43; go_must (refine (z0v _ _ _).mono ?_); rintro e w1 ⟨rfl,rfl⟩; rw[HW.out])
     go_ret;exact ⟨by rw[HX.out]; rfl,(Below.refl _ _).alloc (Nat.le_refl _) _⟩
   · have hs:s=0∨s=1∨s=2∨s=3∨s=4∨s=5∨s=6∨s=7∨(s<0∨7<s):=by omega
     rcases hs with rfl | rfl | rfl | rfl | rfl | rfl | rfl | rfl | hs
     · exact zps m c d A B lp cp ci is w S hn hdm hlm hpm hw
     · exact zoi m c d A B lp cp ci is w S hn hdm hlm hpm hw
     · exact zox m c d A B lp cp ci is w S hn hdm hlm hpm hw
     · exact zo9 m c d A B lp cp ci is w S hn hdm hlm hpm hw
     · exact zp2 m c d A B lp cp ci is w S hn hdm hlm hpm hw
     · exact znl m c d A B lp cp ci is w S hn hdm hlm hpm hw
     · exact zo1 m c d A B lp cp ci is w S hn hdm hlm hpm hw
     · exact zoc m c d A B lp cp ci is w S hn hdm hlm hpm hw
     · have HX:Hid (listB 2 s c d lp is.length (z0c is)=false):=hid (by unfold listB; rw[if_neg (by omega),if_neg (by omega),if_neg (by omega)]; simp)
       have z0:s≠0:=by omega
       have z1:s≠1:=by omega
       have z2:s≠2:=by omega
       have z3:s≠3:=by omega
       have z4:s≠4:=by omega
       have z5:s≠5:=by omega
       have z6:s≠6:=by omega
       have z7:s≠7:=by omega
       have HW:=hid hw;clear hw hs hn;go_enter Tryz.func159,Tryz.ntmps159
       go_wp2_with (go_at_call 43; go_must (refine (z0v _ _ _).mono ?_); rintro e w1 ⟨rfl,rfl⟩; rw[HW.out])
       go_ret;exact ⟨by rw[HX.out]; rfl,(Below.refl _ _).alloc (Nat.le_refl _) _⟩
 · have HX:Hid (listB k s c d lp is.length (z0c is)=false):=hid (by unfold listB; simp[hk])
   clear hn;go_enter Tryz.func159,Tryz.ntmps159;go_wp2;go_ret;exact ⟨by rw[HX.out]; rfl,(Below.refl _ _).alloc (Nat.le_refl _) _⟩
def noneN (n:Nd):Bool:=noneB n.data n.ptrs.length n.size n.count n.items.length
def strN (n:Nd):Bool:=z1z n.kind n.data n.size n.count n.items.length
def formN (n:Nd):Bool:=decide (n.kind=0)&&noneN n||(strN n||listN n)
abbrev boxN (n:Nd)(h:Hd):Obj:= .cells #[.int .i64 n.kind,.string n.data,.slice h.A n.ptrs.length h.a,.int .i64 n.size,.int .i64 n.count,.slice h.B n.items.length h.b] nodeT (0,0)
theorem zj5 (m:Nat)(n:Nd)(h:Hd)(w:World)(S:Nat→Prop)(hn:NdAt w S m n h)(hlm:n.items.length≤2000000)(hpm:n.ptrs.length≤2000000) :
 Calls Tryz.prog 116 #[.agg #[.int .i64 n.kind,.string n.data,.slice h.A n.ptrs.length h.a,.int .i64 n.size,.int .i64 n.count,.slice h.B n.items.length h.b]] w fun e w'=>e= .returned (.bool (formN n))∧Below w.heap.size w w':=by
 have hba:=(Below.refl w.heap.size w).alloc (Nat.le_refl _) (.cells #[.int .i64 n.kind,.string n.data,.slice h.A n.ptrs.length h.a,.int .i64 n.size,.int .i64 n.count,.slice h.B n.items.length h.b] nodeT);have hr:=heap_alloc_new w (.cells #[.int .i64 n.kind,.string n.data,.slice h.A n.ptrs.length h.a,.int .i64 n.size,.int .i64 n.count,.slice h.B n.items.length h.b] nodeT)
 have hsz:w.heap.size<(w.alloc (.cells #[.int .i64 n.kind,.string n.data,.slice h.A n.ptrs.length h.a,.int .i64 n.size,.int .i64 n.count,.slice h.B n.items.length h.b] nodeT)).heap.size:=by simp
 have HN:=hid hn
 have HNO:Hid (∀W:World,Calls Tryz.prog 157 #[.agg #[.int .i64 n.kind,.string n.data,.slice h.A n.ptrs.length h.a,.int .i64 n.size,.int .i64 n.count,.slice h.B n.items.length h.b]] W fun e w'=>e= .returned (.bool (noneN n))∧Below W.heap.size W w'):=hid fun W=>z6j _ _ _ _ _ _ _ _ _ _ W
 have HST:Hid (∀W:World,Calls Tryz.prog 158 #[.agg #[.int .i64 n.kind,.string n.data,.slice h.A n.ptrs.length h.a,.int .i64 n.size,.int .i64 n.count,.slice h.B n.items.length h.b]] W fun e w'=>e= .returned (.bool (strN n))∧Below W.heap.size W w'):=hid fun W=>z7x _ _ _ _ _ _ _ _ _ _ W
 have HLI:Hid (∀W:World,Below w.heap.size w W→Calls Tryz.prog 159 #[.agg #[.int .i64 n.kind,.string n.data,.slice h.A n.ptrs.length h.a,.int .i64 n.size,.int .i64 n.count,.slice h.B n.items.length h.b]] W fun e w'=>e= .returned (.bool (listN n))∧Below W.heap.size W w'):=hid fun W hb=>zo6 m _ _ _ _ _ _ _ _ _ _ W S (hn.2.2.below hb) hn.1 hlm hpm
 have HF:Hid (formN n=(decide (n.kind=0)&&noneN n||(strN n||listN n))):=hid rfl;generalize noneN n=bn at *;generalize strN n=bs at *;generalize listN n=bl at *;generalize formN n=bf at *;have HBA:=hid hba;have HR:=hid hr;clear hn hba hr
 by_cases hk:n.kind=0
 · have hkb:(n.kind==0)=true:=by rw[hk]; rfl
   have hkd:decide (n.kind=0)=true:=by simpa using hk
   rw[hkd] at HF;clear hkd hk;go_enter Tryz.func116,Tryz.ntmps116
   go_wp2_with fail
   refine (HNO.out _).mono ?_;rintro e w1 ⟨rfl,hb1⟩;have HB1:=hid (HBA.out.trans (hb1.mono HBA.out.size));have hr1:=(hb1.block w.heap.size hsz).trans HR.out;have hlt1:=z00 hr1;have HR1:=hid hr1;obtain ⟨a0,a1,a2,a3,a4,a5⟩:=z01 hr1;clear hr1 hb1;cases bn
   · go_wp2_with fail
     clear a0 a1 a2 a3 a4 a5;refine (HST.out _).mono ?_;rintro e w2 ⟨rfl,hb2⟩;have HB2:=hid (HB1.out.trans (hb2.mono (by have:=(HB1.out).size; omega)));have hr2:=(hb2.block w.heap.size hlt1).trans HR1.out;have hlt2:=z00 hr2;have HR2:=hid hr2;obtain ⟨c0,c1,c2,c3,c4,c5⟩:=z01 hr2;clear hr2 hb2;cases bs
     · go_wp2_with fail
       refine (HLI.out _ HB2.out).mono ?_;rintro e w3 ⟨rfl,hb3⟩;have HB3:=hid (HB2.out.trans (hb3.mono HB2.out.size));clear hb3;go_wp2;go_ret;exact ⟨by rw[HF.out]; exact z0j (by simp),HB3.out⟩
     · go_wp2
       go_ret;exact ⟨by rw[HF.out]; exact z0j (by simp),HB2.out⟩
   · go_wp2
     go_ret;exact ⟨by rw[HF.out]; exact z0j (by simp),HB1.out⟩
 · have hkb:(n.kind==0)=false:=by simpa using hk
   have hkd:decide (n.kind=0)=false:=by simpa using hk
   rw[hkd] at HF;clear hkd hk;go_enter Tryz.func116,Tryz.ntmps116
   go_wp2_with fail
   refine (HST.out _).mono ?_;rintro e w2 ⟨rfl,hb2⟩;have HB2:=hid (HBA.out.trans (hb2.mono (by have:=(HBA.out).size; omega)));have hr2:=(hb2.block w.heap.size hsz).trans HR.out;have hlt2:=z00 hr2;have HR2:=hid hr2;obtain ⟨c0,c1,c2,c3,c4,c5⟩:=z01 hr2;clear hr2 hb2;cases bs
   · go_wp2_with fail
     refine (HLI.out _ HB2.out).mono ?_;rintro e w3 ⟨rfl,hb3⟩;have HB3:=hid (HB2.out.trans (hb3.mono HB2.out.size));clear hb3;go_wp2;go_ret;exact ⟨by rw[HF.out]; exact z0j (by simp),HB3.out⟩
   · go_wp2
     go_ret;exact ⟨by rw[HF.out]; exact z0j (by simp),HB2.out⟩
def ownB (n:Nd):Nat:=(n.data.size+7)/8+n.ptrs.length
def ownN (n:Nd):Nat:=ownB n+(if n.kind=2∧n.size=7 then 1 else 0)+(n.items.map ownB).sum
theorem zgk (l:List Nd)(k:Nat)(h:k<l.length):((l.take (k+1)).map ownB).sum=((l.take k).map ownB).sum+ownB l[k]:=z0w l ownB k h
theorem zc8 (n:Nd)(h:Hd)(w:World)(hk:n.kind=1)(hi:n.items.length=0)(h1:n.data.size≤4000000)(h2:n.ptrs.length≤2000000) :
 Calls Tryz.prog 70 #[.agg #[.int .i64 n.kind,.string n.data,.slice h.A n.ptrs.length h.a,.int .i64 n.size,.int .i64 n.count,.slice h.B n.items.length h.b]] w fun e w'=>e= .returned (.int .i64 (ownB n:Nat))∧Below w.heap.size w w':=by
 have HE:Hid (((ownB n:Nat):Int)=((n.data.size:Int)+7)/8+n.ptrs.length):=hid (by unfold ownB; omega);go_enter Tryz.func70,Tryz.ntmps70;go_wp2
 go_loopw [3,29] (fun q i wr=>q= .int .i64 (((n.data.size:Int)+8-1)/8+n.ptrs.length)∧i= .int .i64 0∧Hid (Below w.heap.size w wr)) (fun _ _ _=>0)
 case atStart=>exact ⟨rfl,rfl,hid ((Below.refl _ _).alloc (Nat.le_refl _) _)⟩
 case round =>
  obtain ⟨rfl,rfl,HB⟩:=hrel;go_wp2;go_ret;refine ⟨by rw[HE.out]; exact z2n (by omega),HB.out⟩
theorem z0d {n:Nd}(h:formN n=true) :
 (n.kind=0∧n.data.size=0∧n.ptrs.length=0∧n.size=0∧n.count=0∧n.items.length=0) ∨
 (n.kind=1∧(n.data.size:Int)%8=0∧n.size=0∧n.count=0∧n.items.length=0) ∨
 (n.kind=2∧(0≤n.count∧n.count<12801)∧((0≤n.size∧n.size≤5∧bitsB n.data (n.count*bz n.size)=true∧n.ptrs.length=0∧n.items.length=0)∨(n.size=6∧n.data.size=0∧(n.ptrs.length:Int)=n.count∧n.items.length=0)∨(n.size=7∧n.data.size=0∧n.ptrs.length=0∧(n.items.length:Int)=n.count∧z0c n.items=true))):=by
 unfold formN noneN strN listN at h;rw[Bool.or_eq_true,Bool.or_eq_true] at h
 rcases h with h | h | h
 · left; simpa [noneB,and_assoc] using h
 · right; left; simpa [z1z] using h
 · right; right
   unfold listB at h;rw[Bool.and_eq_true,Bool.and_eq_true] at h;obtain ⟨h1,h2,h3⟩:=h;refine ⟨by simpa using h1,by simpa [wiB] using h2,?_⟩
   split at h3
   · rename_i hs
     left
     refine ⟨hs.1,hs.2,?_⟩
     simpa using h3
   · split at h3
     · rename_i hs
       right; left
       refine ⟨hs,?_⟩
       simpa using h3
     · split at h3
       · rename_i hs
         right; right
         refine ⟨hs,?_⟩
         simpa [and_assoc] using h3
       · cases h3
theorem zmn {l:List Nd}(h:z0c l=true):∀n∈l,n.kind=1∧(n.data.size:Int)%8=0∧n.items.length=0:=by
 intro n hn
 have:=List.all_eq_true.1 h n hn;unfold itemB at this;rw[Bool.and_eq_true] at this;have h1:=this.1
 simp[z1z] at h1
 exact ⟨h1.1,h1.2.1,by simpa using h1.2.2.2.2⟩
theorem zdk {n:Nd}(h:formN n=true):∀x∈n.items,x.kind=1∧(x.data.size:Int)%8=0∧x.items.length=0:=by
 intro x hx
 have hne:n.items.length≠0:=by
  intro h0
  rw[List.eq_nil_of_length_eq_zero h0] at hx;cases hx
 rcases z0d h with h | h | ⟨_,_,h | h | h⟩
 · omega
 · omega
 · omega
 · omega
 · exact zmn h.2.2.2.2 x hx
theorem NdsAt.mem {w:World}{S:Nat→Prop}{m:Nat}{A:Option Addr}{l:List Nd}(h:NdsAt w S (m+1) A l):∀n∈l,∃h,NdAt w S m n h:=by
 obtain ⟨_,q,rfl,_,hr⟩:=h
 intro n hn
 obtain ⟨r,hr1,rfl⟩:=List.mem_map.1 hn;exact ⟨r.2,hr r hr1⟩
theorem z91 {w:World}{S:Nat→Prop}{m:Nat}{A:Option Addr}{l:List Nd}(h:NdsAt w S m A l):l.length≤totL m l:=by
 cases m with
 | zero=>rw[h.zero]; simp
 | succ m=>exact zd7 m l
theorem zr5 {w:World}{S:Nat→Prop}{m:Nat}{n:Nd}{h:Hd}(hn:NdAt w S m n h):ownB n≤totN m n:=by
 have:=z91 hn.2.1;unfold ownB totN;omega
theorem z62 (l:List Nd)(f g:Nd→Nat)(h:∀n∈l,f n≤g n):(l.map f).sum≤(l.map g).sum:=by
 induction l with
 | nil=>simp
 | cons a t ih =>
  have h1:=h a (List.mem_cons_self);have h2:=ih (fun n hn=>h n (List.mem_cons_of_mem _ hn))
  simp only[List.map_cons,List.sum_cons]
  omega
theorem zfr {w:World}{S:Nat→Prop}{m:Nat}{A:Option Addr}{l:List Nd}(h:NdsAt w S m A l):(l.map ownB).sum≤totL m l:=by
 cases m with
 | zero=>rw[h.zero]; simp
 | succ m =>
  rw[z0q]
  refine z62 l _ _ fun n hn=>?_
  obtain ⟨hd,h1⟩:=h.mem n hn;have:=zr5 h1;omega
theorem zau {w:World}{S:Nat→Prop}{m:Nat}{A:Option Addr}{l:List Nd}(h:NdsAt w S m A l):∀n∈l,n.data.size≤totL m l∧n.ptrs.length≤totL m l:=by
 intro n hn
 cases m with
 | zero=>rw[h.zero] at hn; cases hn
 | succ m =>
  obtain ⟨hd,h1⟩:=h.mem n hn;obtain ⟨k,hk,rfl⟩:=List.mem_iff_getElem.1 hn;have:=z1y (m:=m) hk;have hl:=z91 h1.2.1;unfold totN at this;omega
theorem z30 (m:Nat)(n:Nd)(h:Hd)(w:World)(S:Nat→Prop)(hn:NdAt w S m n h)(hf:formN n=true)(ht:totN m n≤2000000) :
 Calls Tryz.prog 70 #[.agg #[.int .i64 n.kind,.string n.data,.slice h.A n.ptrs.length h.a,.int .i64 n.size,.int .i64 n.count,.slice h.B n.items.length h.b]] w fun e w'=>e= .returned (.int .i64 (ownN n:Nat))∧Below w.heap.size w w':=by
 obtain ⟨qA,qa,qB,qb⟩:=h
 dsimp only at hn ⊢
 have hds:n.data.size≤2000000:=by unfold totN at ht; omega
 have hpl:n.ptrs.length≤2000000:=z12 hn.2.1 (by unfold totN at ht; omega);have hil:n.items.length≤2000000:=z12 hn.2.2 (by unfold totN at ht; omega)
 obtain ⟨base,hbase⟩:∃b:Nat,b=ownB n+(if n.kind=2∧n.size=7 then 1 else 0):=⟨_,rfl⟩
 have hob:ownB n≤3000000:=by unfold ownB; omega
 have hbl:base≤3000001:=by rw[hbase]; split <;> omega
 have HIT:Hid (∀k (hk:k<n.items.length),(n.items[k]).kind=1∧(n.items[k]).items.length=0∧(n.items[k]).data.size≤2000000∧(n.items[k]).ptrs.length≤2000000):=hid fun k hk=>by
  obtain ⟨h1,h2,h3⟩:=zdk hf _ (List.getElem_mem hk);obtain ⟨h4,h5⟩:=zau hn.2.2 _ (List.getElem_mem hk);unfold totN at ht;exact ⟨h1,h3,by omega,by omega⟩
 have HSUM:Hid (∀k,((n.items.take k).map ownB).sum≤2000000):=hid fun k=>by
  have h1:=z18 n.items ownB k;have h2:=zfr hn.2.2;unfold totN at ht;omega
 have HE:Hid (ownN n=base+(n.items.map ownB).sum):=hid (by rw[hbase]; rfl);have HBE:=hid (show (((ownB n:Nat)):Int)=((n.data.size:Int)+8-1)/8+n.ptrs.length by unfold ownB; omega);have HBASE:=hid hbase;have HN:=hid (NdsAt.succ _ _ _ hn.2.2);have HB0:=hid ((Below.refl w.heap.size w).alloc (Nat.le_refl _) (.cells #[.int .i64 n.kind,.string n.data,.slice qA n.ptrs.length qa,.int .i64 n.size,.int .i64 n.count,.slice qB n.items.length qb] nodeT));clear hn hf ht hbase
 by_cases hk2:n.kind=2∧n.size=7
 all_goals
  go_enter Tryz.func70,Tryz.ntmps70;go_wp2
  all_goals
   go_loopw [3,29] (fun q i wr=>∃(k:Nat) (z:Int),q= .int .i64 z∧i= .int .i64 k∧k≤n.items.length∧0≤z∧z≤6000000∧Hid (z=((base+((n.items.take k).map ownB).sum:Nat):Int))∧Hid (Below w.heap.size w wr)) (fun _ i _=>n.items.length-(intOf i).toNat)
   case atStart =>
    have hb:=HBASE.out;have hbe:=HBE.out
    first | rw[if_pos hk2] at hb | rw[if_neg hk2] at hb
    refine ⟨0,_,rfl,rfl,by omega,by omega,by omega,hid ?_,hid ((Below.refl _ _).alloc (Nat.le_refl _) _)⟩;rw[List.take_zero,List.map_nil,List.sum_nil];omega
   case round =>
    obtain ⟨k,z,rfl,rfl,hk,hz0,hz,HZ,HB⟩:=hrel
    by_cases hlt:k<n.items.length
    · obtain ⟨x,hd,rfl,hc, -⟩:=(HN.out.below HB.out).at_ hlt
      obtain ⟨i1,i2,i3,i4⟩:=HIT.out k hlt;have HS:=hid (zgk n.items k hlt);generalize n.items[k]=y at hc i1 i2 i3 i4 HS;have HO:=hid (fun W=>zc8 y hd W i1 i2 (by omega) i4)
      have hyb:ownB y≤3000000:=by unfold ownB; omega
      have hz2:z+(ownB y:Int)≤6000000:=by have:=HZ.out; have:=HS.out; have:=HSUM.out (k+1); omega
      generalize ownB y=v at *;obtain ⟨d0,d1,d2,d3,d4,d5⟩:=hc;clear i1 i2 i3 i4
      go_wp2_with fail
      refine (HO.out _).mono ?_;rintro e w2 ⟨rfl,hb2⟩;have HB2:=hid ((HB.out.alloc HB.out.size _).trans (hb2.mono (by have:=HB.out.size; simp; omega)));clear hb2;go_wp2
      go_roundw
      case rel=>exact ⟨k+1,_,rfl,by go_num,by omega,by omega,hz2,hid (by rw[HZ.out,HS.out]; omega),HB2⟩
      case measure=>simp[intOf]; omega
    · obtain rfl:k=n.items.length:=by omega
      rw[List.take_of_length_le (Nat.le_refl _)] at HZ;go_wp2;go_ret;exact ⟨by rw[HE.out,← HZ.out]; rfl,HB.out⟩
end Go.Proofs.YtlbfffokkhccaaaGreatDoor
