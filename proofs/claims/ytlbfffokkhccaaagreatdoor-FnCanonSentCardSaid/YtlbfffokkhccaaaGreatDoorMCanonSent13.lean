/- Texts of the proof of the law FnCanonSent, side by side: part 13. -/
import Derived.Test.YtlbfffokkhccaaaGreatDoorMCanonSent12
set_option maxHeartbeats 8000000
set_option maxRecDepth 100000
open Go.Lib (hid)
namespace Go.Proofs.YtlbfffokkhccaaaGreatDoor
open Go.RowKit
theorem in_wi (c:Int):inB c 0 12800=wiB c 12801:=by unfold inB wiB; rw[Bool.eq_iff_iff]; simp; omega
theorem zno (m:Nat)(s c:Int)(d:ByteArray)(A B:Option Addr)(lp cp ci:Nat)(is:List Nd)(w:World)(S:Nat→Prop)(_hn:NdsAt w S m B is)(hdm:d.size≤maxLen)(_hlm:is.length≤2000000)(_hpm:lp≤2000000)(hs0:0≤s)(hs5:s≤5)(hw:wiB c 12801=true) :
 Calls Tryz.prog 123 #[.agg #[.int .i64 2,.string d,.slice A lp cp,.int .i64 s,.int .i64 c,.slice B is.length ci]] w fun e w'=>e= .returned (.bool (listB 2 s c d lp is.length (z0c is)))∧Below w.heap.size w w':=by
 obtain ⟨hc0,hc1⟩:=z92 hw;have HLN:Hid (listB 2 s c d lp is.length (z0c is)=(bitsB d (c*bz s)&&(decide (lp=0)&&decide (is.length=0)))):=hid (by unfold listB; rw[hw,if_pos ⟨hs0,hs5⟩]; simp);have HS7:Hid (inB s 0 7=true):=hid (by simp[inB]; omega);have HW:Hid (inB c 0 12800=true):=hid (by rw[in_wi]; exact hw);have HPL:=hid (fun W=>zk7 2 s c d A B lp cp is.length ci W hs0 hs5 hc0 (by omega) hdm)
 have z6:(s==6)=false:=by simp; omega
 have z7:(s==7)=false:=by simp; omega
 clear _hn hw hdm _hlm _hpm hs0 hs5 hc0 hc1;generalize bitsB d (c*bz s)=bb at *
 by_cases hp:lp=0
 · have hpb:((lp:Int)==0)=true:=by rw[hp]; rfl
   by_cases hi:is.length=0
   · have hib:((is.length:Int)==0)=true:=by rw[hi]; rfl
     have HX:Hid (listB 2 s c d lp is.length (z0c is)=bb):=hid (by rw[HLN.out,hp,hi]; simp);clear hp hi;go_enter Tryz.func123,Tryz.ntmps123
     go_wp2_with (first | (go_at_call 39; go_must (refine (z33 _ _ _ _).mono ?_); rintro e w1 ⟨rfl,rfl⟩; first | rw[HS7.out] | rw[HW.out]) | (go_at_call 162; go_must (with_reducible refine (HPL.out _).mono ?_); rintro e w2 ⟨rfl,hb2⟩))
     go_ret;exact ⟨by rw[HX.out]; rfl,((Below.refl _ _).alloc (Nat.le_refl _) _).trans (hb2.mono (by simp))⟩
   · have hib:((is.length:Int)==0)=false:=by rw[beq_eq_false_iff_ne]; omega
     have HX:Hid (listB 2 s c d lp is.length (z0c is)=false):=hid (by rw[HLN.out]; simp[hi]);clear hp hi;go_enter Tryz.func123,Tryz.ntmps123
     go_wp2_with (go_at_call 39; go_must (refine (z33 _ _ _ _).mono ?_); rintro e w1 ⟨rfl,rfl⟩; first | rw[HS7.out] | rw[HW.out])
     go_ret;exact ⟨by rw[HX.out]; rfl,(Below.refl _ _).alloc (Nat.le_refl _) _⟩
 · have hpb:((lp:Int)==0)=false:=by rw[beq_eq_false_iff_ne]; omega
   have HX:Hid (listB 2 s c d lp is.length (z0c is)=false):=hid (by rw[HLN.out]; simp[hp]);clear hp;go_enter Tryz.func123,Tryz.ntmps123
   go_wp2_with (go_at_call 39; go_must (refine (z33 _ _ _ _).mono ?_); rintro e w1 ⟨rfl,rfl⟩; first | rw[HS7.out] | rw[HW.out])
   go_ret;exact ⟨by rw[HX.out]; rfl,(Below.refl _ _).alloc (Nat.le_refl _) _⟩
theorem zpv (m:Nat)(c:Int)(d:ByteArray)(A B:Option Addr)(lp cp ci:Nat)(is:List Nd)(w:World)(S:Nat→Prop)(_hn:NdsAt w S m B is)(_hdm:d.size≤maxLen)(_hlm:is.length≤2000000)(_hpm:lp≤2000000)(hw:wiB c 12801=true) :
 Calls Tryz.prog 123 #[.agg #[.int .i64 2,.string d,.slice A lp cp,.int .i64 6,.int .i64 c,.slice B is.length ci]] w fun e w'=>e= .returned (.bool (listB 2 6 c d lp is.length (z0c is)))∧Below w.heap.size w w':=by
 have HLN:Hid (listB 2 6 c d lp is.length (z0c is)=decide (d.size=0∧(lp:Int)=c∧is.length=0)):=hid (by unfold listB; rw[hw,Bool.eq_iff_iff]; simp);have hse:=z1o d;have HS7:Hid (inB 6 0 7=true):=hid (by decide);have HW:Hid (inB c 0 12800=true):=hid (by rw[in_wi]; exact hw);clear hw _hn;go_enter Tryz.func123,Tryz.ntmps123
 go_wp2_with (go_at_call 39; go_must (refine (z33 _ _ _ _).mono ?_); rintro e w1 ⟨rfl,rfl⟩; first | rw[HS7.out] | rw[HW.out])
 all_goals go_ret
 all_goals refine ⟨z0j ?_,(Below.refl _ _).alloc (Nat.le_refl _) _⟩
 all_goals (rw[HLN.out,Bool.eq_iff_iff]; simp_all)
theorem zon (m:Nat)(c:Int)(d:ByteArray)(A B:Option Addr)(lp cp ci:Nat)(is:List Nd)(w:World)(S:Nat→Prop)(hn:NdsAt w S m B is)(_hdm:d.size≤maxLen)(hlm:is.length≤2000000)(_hpm:lp≤2000000)(hw:wiB c 12801=true) :
 Calls Tryz.prog 123 #[.agg #[.int .i64 2,.string d,.slice A lp cp,.int .i64 7,.int .i64 c,.slice B is.length ci]] w fun e w'=>e= .returned (.bool (listB 2 7 c d lp is.length (z0c is)))∧Below w.heap.size w w':=by
 have HLN:Hid (listB 2 7 c d lp is.length (z0c is)=(decide (d.size=0∧lp=0∧(is.length:Int)=c)&&z0c is)):=hid (by unfold listB; rw[hw,Bool.eq_iff_iff]; simp[and_assoc]);have HFALSE:Hid (z0c is=false→listB 2 7 c d lp is.length (z0c is)=false):=hid (fun h=>by rw[HLN.out,h,Bool.and_false]);have hse:=z1o d;have HS7:Hid (inB 7 0 7=true):=hid (by decide);have HW:Hid (inB c 0 12800=true):=hid (by rw[in_wi]; exact hw);have hba:=(Below.refl w.heap.size w).alloc (Nat.le_refl _) (.cells #[.int .i64 2,.string d,.slice A lp cp,.int .i64 7,.int .i64 c,.slice B is.length ci] nodeT);have HF:=hid (NdsAt.succ _ _ _ (hn.below hba));have HBW:=hid hba;have HR:=hid (heap_alloc_new w (.cells #[.int .i64 2,.string d,.slice A lp cp,.int .i64 7,.int .i64 c,.slice B is.length ci] nodeT))
 have hsz:w.heap.size<(w.alloc (.cells #[.int .i64 2,.string d,.slice A lp cp,.int .i64 7,.int .i64 c,.slice B is.length ci] nodeT)).heap.size:=by simp
 clear hw hn hba;go_enter Tryz.func123,Tryz.ntmps123
 go_wp2_with (go_at_call 39; go_must (refine (z33 _ _ _ _).mono ?_); rintro e w1 ⟨rfl,rfl⟩; first | rw[HS7.out] | rw[HW.out])
 generalize w.alloc (.cells #[.int .i64 2,.string d,.slice A lp cp,.int .i64 7,.int .i64 c,.slice B is.length ci] nodeT)=W at *
 go_loopw [3] (fun i wr=>∃k:Nat,i= .int .i64 k∧k≤is.length∧Hid ((is.take k).all (fun n=>itemB n (is.headD default))=true)∧Hid (Below W.heap.size W wr)) (fun i _=>is.length-(intOf i).toNat)
 case atStart=>exact ⟨0,rfl,by omega,hid rfl,hid (Below.refl _ _)⟩
 case round =>
  obtain ⟨k,rfl,hk,HA,HB⟩:=hrel;have hrw:=(HB.out.block _ hsz).trans HR.out;obtain ⟨e0,e1,e2,e3,e4,e5⟩:=z01 hrw
  by_cases hlt:k<is.length
  · clear e0 e1 e2 e3 e4
    obtain ⟨x,hd,rfl,hc,hn⟩:=(HF.out.below HB.out).at_ hlt;obtain ⟨x',hd0,hxx,hc0,hn0⟩:=(HF.out.below HB.out).at_ (k:=0) (by omega);obtain rfl:x=x':=Option.some.inj hxx;rw[z6n] at hc0;have HFL:=hid (fun h=>z7v hlt h);have HTR:=hid (fun h=>z8v hlt HA.out h)
    have h0l:0<is.length:=by omega
    rw[zco h0l] at hc0;generalize is.headD default=hdn at hc0 HFL HTR;generalize is[k]=n at hc HFL HTR;obtain ⟨c0,c1,c2,c3,c4,c5⟩:=hc;obtain ⟨-,d1,d2, -, -, -⟩:=hc0;have HI:=hid (fun W=>z7u n.kind n.size n.count n.data hd.A hd.B n.ptrs.length hd.a n.items.length hd.b W);clear hn hn0 hrw
    go_wp2_with fail
    have q0:=cell_regrown c0;have q1:=cell_regrown c1;have q2:=cell_regrown c2;have q3:=cell_regrown c3;have q4:=cell_regrown c4;have q5:=cell_regrown c5;have e5':=cell_regrown e5;have p1:=cell_regrown d1;have p2:=cell_regrown d2;cases hst:z1r n.kind n.data n.size n.count n.items.length
    · have HX:=hid (HFALSE.out (HFL.out (by simp[itemB,hst])))
      rw[hst] at HI;refine wp_region_quiet_below (by kernel_rfl) (by kernel_rfl) ?_
      repeat (first | go_big_quiet_step ((go_at_call 122; with_reducible exact Calls.regrown_of (HI.out _))) | quiet_step ((go_at_call 122; with_reducible exact Calls.regrown_of (HI.out _))))
      refine wpQuiet_nil ?_
      intro _ hw'
      obtain ⟨⟨dq,osq⟩,hw''⟩:=hw';subst hw'';have HB2:=hid (HB.out.trans ((below_regrown wr dq osq).mono HB.out.size));clear q0 q1 q2 q3 q4 q5 e5 e5' p1 p2 d1 d2 c0 c1 c2 c3 c4 c5;generalize «Sort».grow (redrawn wr dq) osq=W2 at *;go_wp2;go_ret;exact ⟨by rw[HX.out]; rfl,HBW.out.trans (HB2.out.mono HBW.out.size)⟩
    · rw[hst] at HI
      by_cases hz:n.data.size=hdn.data.size
      · have HZ:=hid hz
        have hzb:((n.data.size:Int)==(hdn.data.size:Int))=true:=by rw[hz]; simp
        have hzn:((n.data.size:Int) != (hdn.data.size:Int))=false:=by rw[hz]; simp
        clear hz
        by_cases hp:n.ptrs.length=hdn.ptrs.length
        · have HX:=hid (HTR.out (by simp[itemB,hst,HZ.out,hp]))
          have hpn:((n.ptrs.length:Int) != (hdn.ptrs.length:Int))=false:=by rw[hp]; simp
          clear hp;refine wp_region_quiet_below (by kernel_rfl) (by kernel_rfl) ?_
          repeat (first | go_big_quiet_step ((go_at_call 122; with_reducible exact Calls.regrown_of (HI.out _))) | quiet_step ((go_at_call 122; with_reducible exact Calls.regrown_of (HI.out _))))
          refine wpQuiet_nil ?_
          intro _ hw'
          obtain ⟨⟨dq,osq⟩,hw''⟩:=hw';subst hw'';have HB2:=hid (HB.out.trans ((below_regrown wr dq osq).mono HB.out.size));clear q0 q1 q2 q3 q4 q5 e5 e5' p1 p2 d1 d2 c0 c1 c2 c3 c4 c5;generalize «Sort».grow (redrawn wr dq) osq=W2 at *;go_wp2
          go_roundw
          case rel=>exact ⟨k+1,by go_num,by omega,HX,HB2⟩
          case measure=>simp[intOf]; omega
        · have HX:=hid (HFALSE.out (HFL.out (by simp[itemB,hst,HZ.out,hp])))
          have hpn:((n.ptrs.length:Int) != (hdn.ptrs.length:Int))=true:=by simp; omega
          clear hp;refine wp_region_quiet_below (by kernel_rfl) (by kernel_rfl) ?_
          repeat (first | go_big_quiet_step ((go_at_call 122; with_reducible exact Calls.regrown_of (HI.out _))) | quiet_step ((go_at_call 122; with_reducible exact Calls.regrown_of (HI.out _))))
          refine wpQuiet_nil ?_
          intro _ hw'
          obtain ⟨⟨dq,osq⟩,hw''⟩:=hw';subst hw'';have HB2:=hid (HB.out.trans ((below_regrown wr dq osq).mono HB.out.size));clear q0 q1 q2 q3 q4 q5 e5 e5' p1 p2 d1 d2 c0 c1 c2 c3 c4 c5;generalize «Sort».grow (redrawn wr dq) osq=W2 at *;go_wp2;go_ret;exact ⟨by rw[HX.out]; rfl,HBW.out.trans (HB2.out.mono HBW.out.size)⟩
      · have HX:=hid (HFALSE.out (HFL.out (by simp[itemB,hst,hz])))
        have hzb:((n.data.size:Int)==(hdn.data.size:Int))=false:=by simp; omega
        have hzn:((n.data.size:Int) != (hdn.data.size:Int))=true:=by simp; omega
        refine wp_region_quiet_below (by kernel_rfl) (by kernel_rfl) ?_
        repeat (first | go_big_quiet_step ((go_at_call 122; with_reducible exact Calls.regrown_of (HI.out _))) | quiet_step ((go_at_call 122; with_reducible exact Calls.regrown_of (HI.out _))))
        refine wpQuiet_nil ?_
        intro _ hw'
        obtain ⟨⟨dq,osq⟩,hw''⟩:=hw';subst hw'';have HB2:=hid (HB.out.trans ((below_regrown wr dq osq).mono HB.out.size));clear q0 q1 q2 q3 q4 q5 e5 e5' p1 p2 d1 d2 c0 c1 c2 c3 c4 c5;generalize «Sort».grow (redrawn wr dq) osq=W2 at *;go_wp2;go_ret;exact ⟨by rw[HX.out]; rfl,HBW.out.trans (HB2.out.mono HBW.out.size)⟩
  · obtain rfl:k=is.length:=by omega
    rw[List.take_of_length_le (Nat.le_refl _)] at HA;have HIB:Hid (z0c is=true):=hid HA.out;have HX:Hid (listB 2 7 c d lp is.length (z0c is)=decide (d.size=0∧lp=0∧(is.length:Int)=c)):=hid (by rw[HLN.out,HIB.out,Bool.and_true]);have HBE:=hid (HBW.out.trans (HB.out.mono HBW.out.size));go_wp2
    all_goals go_ret
    all_goals refine ⟨?_,HBE.out⟩
    all_goals rw[HX.out]
    all_goals exact z0j (by rw[Bool.eq_iff_iff]; simp_all)
theorem znq (m:Nat)(k s c:Int)(d:ByteArray)(A B:Option Addr)(lp cp ci:Nat)(is:List Nd)(w:World)(S:Nat→Prop)(hn:NdsAt w S m B is)(hdm:d.size≤maxLen)(hlm:is.length≤2000000)(hpm:lp≤2000000) :
 Calls Tryz.prog 123 #[.agg #[.int .i64 k,.string d,.slice A lp cp,.int .i64 s,.int .i64 c,.slice B is.length ci]] w fun e w'=>e= .returned (.bool (listB k s c d lp is.length (z0c is)))∧Below w.heap.size w w':=by
 by_cases hk:k=2
 · subst hk
   by_cases hs:0≤s∧s≤7
   · cases hw:wiB c 12801
     · have HX:Hid (listB 2 s c d lp is.length (z0c is)=false):=hid (by unfold listB; rw[hw]; simp)
       have HS7:Hid (inB s 0 7=true):=hid (by simp[inB]; omega);have HW:Hid (inB c 0 12800=false):=hid (by rw[in_wi]; exact hw);clear hw hn hs;go_enter Tryz.func123,Tryz.ntmps123
       go_wp2_with (go_at_call 39; go_must (refine (z33 _ _ _ _).mono ?_); rintro e w1 ⟨rfl,rfl⟩; first | rw[HS7.out] | rw[HW.out])
       go_ret;exact ⟨by rw[HX.out]; rfl,(Below.refl _ _).alloc (Nat.le_refl _) _⟩
     · by_cases h5:s≤5
       · exact zno m s c d A B lp cp ci is w S hn hdm hlm hpm hs.1 h5 hw
       · have h67:s=6∨s=7:=by omega
         rcases h67 with rfl | rfl
         · exact zpv m c d A B lp cp ci is w S hn hdm hlm hpm hw
         · exact zon m c d A B lp cp ci is w S hn hdm hlm hpm hw
   · have HX:Hid (listB 2 s c d lp is.length (z0c is)=false):=hid (by unfold listB; rw[if_neg (by omega),if_neg (by omega),if_neg (by omega)]; simp)
     have HS7:Hid (inB s 0 7=false):=hid (by simp[inB]; omega);have HW:=HS7;clear hn hs;go_enter Tryz.func123,Tryz.ntmps123
     go_wp2_with (go_at_call 39; go_must (refine (z33 _ _ _ _).mono ?_); rintro e w1 ⟨rfl,rfl⟩; first | rw[HS7.out] | rw[HW.out])
     go_ret;exact ⟨by rw[HX.out]; rfl,(Below.refl _ _).alloc (Nat.le_refl _) _⟩
 · have HX:Hid (listB k s c d lp is.length (z0c is)=false):=hid (by unfold listB; simp[hk])
   clear hn;go_enter Tryz.func123,Tryz.ntmps123;go_wp2;go_ret;exact ⟨by rw[HX.out]; rfl,(Below.refl _ _).alloc (Nat.le_refl _) _⟩
theorem NdsAt.at6 {w:World}{S:Nat→Prop}{m:Nat}{A:Option Addr}{l:List Nd}(h:NdsAt w S (m+1) A l){k:Nat}(hk:k<l.length) :
 ∃(x:Addr) (yA:Option Addr) (ya:Nat) (yB:Option Addr) (yb:Nat),A=some x∧NdCell w (x.add (k*6)) l[k] ⟨yA,ya,yB,yb⟩∧(l[k]).data.size≤maxLen∧NdsAt w S m yA (l[k]).ptrs∧NdsAt w S m yB (l[k]).items:=by
 obtain ⟨x,⟨yA,ya,yB,yb⟩,hx,hc,hn⟩:=h.at_ hk;exact ⟨x,yA,ya,yB,yb,hx,hc,hn.1,hn.2.1,hn.2.2⟩
theorem zdm {d:Nat}{n:Nd}(hk:n.kind=0):okN d n=noneN n:=by
 have h1:strN n=false:=by unfold strN z1r; rw[decide_eq_false]; omega
 have h2:listN n=false:=by unfold listN listB; rw[decide_eq_false (by omega)]; rfl
 have h3:formN n=noneN n:=by unfold formN; rw[h1,h2,decide_eq_true hk]; simp
 cases d <;> simp[okN,h3,hk]
theorem zo3 {j:Nat}{n:Nd}(hk:¬n.kind=0):okN (j+1) n=((strN n||listN n)&&(n.ptrs.all (okN j)&&n.items.all fun y=>y.ptrs.all (okN j))):=by
 have h3:formN n=(strN n||listN n):=by unfold formN; rw[decide_eq_false hk]; simp
 rw[okN,h3,decide_eq_false hk];unfold ptrsL;rw[Bool.false_or,List.all_append,List.all_flatMap]
theorem z5s (l:List Nd)(f:Nd→Bool)(k:Nat)(h:k<l.length)(h1:(l.take k).all f=true)(h2:f l[k]=true):(l.take (k+1)).all f=true:=by
 rw[List.take_succ_eq_append_getElem h,List.all_append,h1]
 simpa using h2
theorem z4h (l:List Nd)(f:Nd→Bool)(k:Nat)(h:k<l.length)(h2:f l[k]=false):l.all f=false:=by
 rw[List.all_eq_false];exact ⟨l[k],List.getElem_mem h,by rw[h2]; decide⟩
def L4O (d:Nat):Prop:=∀(m:Nat) (n:Nd) (h:Hd) (w:World) (S:Nat→Prop),NdAt w S m n h→totN m n≤2000000 →
 Calls Tryz.prog 77 #[.agg #[.int .i64 n.kind,.string n.data,.slice h.A n.ptrs.length h.a,.int .i64 n.size,.int .i64 n.count,.slice h.B n.items.length h.b],.int .i64 (d:Int)] w fun e w'=>e= .returned (.bool (okN d n))∧Below w.heap.size w w'
theorem zdn (d:Nat)(hd:d≤8)(ih:∀j,d=j+1→L4O j):L4O d:=by
 intro m n h w S hn ht
 obtain ⟨qA,qa,qB,qb⟩:=h
 dsimp only at hn ⊢
 have hpl:n.ptrs.length≤2000000:=z12 hn.2.1 (by unfold totN at ht; omega);have hil:n.items.length≤2000000:=z12 hn.2.2 (by unfold totN at ht; omega)
 obtain ⟨D,hD⟩:∃D:Int,D=(d:Int):=⟨_,rfl⟩
 rw[← hD]
 have hD8:0≤D∧D≤8:=by omega
 have HD:=hid hD;have HN:=hid hn;have HT:=hid ht;have HIH:=hid ih;have hba:=(Below.refl w.heap.size w).alloc (Nat.le_refl _) (.cells #[.int .i64 n.kind,.string n.data,.slice qA n.ptrs.length qa,.int .i64 n.size,.int .i64 n.count,.slice qB n.items.length qb] nodeT);have hr:=heap_alloc_new w (.cells #[.int .i64 n.kind,.string n.data,.slice qA n.ptrs.length qa,.int .i64 n.size,.int .i64 n.count,.slice qB n.items.length qb] nodeT)
 have hsz:w.heap.size<(w.alloc (.cells #[.int .i64 n.kind,.string n.data,.slice qA n.ptrs.length qa,.int .i64 n.size,.int .i64 n.count,.slice qB n.items.length qb] nodeT)).heap.size:=by simp
 have HBA:=hid hba;have HR:=hid hr;have hse:=z1o n.data;clear hn ht ih hD hba hr
 by_cases hk:n.kind=0
 · have hkb:(n.kind==0)=true:=by rw[hk]; rfl
   have HX:Hid (okN d n=decide (n.data.size=0∧n.ptrs.length=0∧n.size=0∧n.count=0∧n.items.length=0)):=hid (by rw[zdm hk,Bool.eq_iff_iff]; simp[noneN,noneB,and_assoc]);clear hk hsz;go_enter Tryz.func77,Tryz.ntmps77;go_wp2
   all_goals go_ret
   all_goals refine ⟨?_,(Below.refl _ _).alloc (Nat.le_refl _) _⟩
   all_goals rw[HX.out]
   all_goals exact z0j (by rw[Bool.eq_iff_iff]; simp_all)
 have hkb:(n.kind==0)=false:=by simpa using hk
 by_cases hd0:d=0
 · have hD1:decide (D<1)=true:=decide_eq_true (by have:=HD.out; omega)
   have HX:Hid (okN d n=false):=hid (by subst hd0; simp[okN,hk]);clear hk hsz;go_enter Tryz.func77,Tryz.ntmps77;go_wp2;go_ret;exact ⟨by rw[HX.out]; rfl,(Below.refl _ _).alloc (Nat.le_refl _) _⟩
 obtain ⟨j,rfl⟩:∃j,d=j+1:=⟨d-1,by omega⟩
 have hD1:decide (D<1)=false:=decide_eq_false (by have:=HD.out; omega);have HOK:=hid (zo3 (j:=j) hk);have HJ:=hid (HIH.out j rfl)
 have HST:Hid (∀W:World,Calls Tryz.prog 122 #[.agg #[.int .i64 n.kind,.string n.data,.slice qA n.ptrs.length qa,.int .i64 n.size,.int .i64 n.count,.slice qB n.items.length qb]] W fun e w'=>e= .returned (.bool (strN n))∧Below W.heap.size W w'):=hid fun W=>z7u _ _ _ _ _ _ _ _ _ _ W
 have HLI:Hid (∀W:World,Below w.heap.size w W→Calls Tryz.prog 123 #[.agg #[.int .i64 n.kind,.string n.data,.slice qA n.ptrs.length qa,.int .i64 n.size,.int .i64 n.count,.slice qB n.items.length qb]] W fun e w'=>e= .returned (.bool (listN n))∧Below W.heap.size W w'):=hid fun W hb=>znq m _ _ _ _ _ _ _ _ _ _ W S (HN.out.2.2.below hb) HN.out.1 hil hpl
 generalize strN n=bs at *;generalize listN n=bl at *;clear hk
 have hDj:D-1=(j:Int):=by have:=HD.out; omega
 cases bs
 · cases bl
   · have HX:Hid (okN (j+1) n=false):=hid (by rw[HOK.out]; rfl)
     clear HOK;go_enter Tryz.func77,Tryz.ntmps77
     go_wp2_with fail
     refine (HST.out _).mono ?_;rintro e w1 ⟨rfl,hb1⟩;have hr1:=(hb1.block w.heap.size hsz).trans HR.out;have HB1:=hid (HBA.out.trans (hb1.mono HBA.out.size));obtain ⟨a0,a1,a2,a3,a4,a5⟩:=z01 hr1;clear hr1 hb1
     go_wp2_with fail
     refine (HLI.out _ HB1.out).mono ?_;rintro e w2 ⟨rfl,hb2⟩;have HB2:=hid (HB1.out.trans (hb2.mono HB1.out.size));clear hb2;go_wp2;go_ret;exact ⟨by rw[HX.out]; rfl,HB2.out⟩
   · have HP0:Hid (n.ptrs.all (okN j)=false→okN (j+1) n=false):=hid (fun h=>by rw[HOK.out,h]; simp)
     have HP1:Hid ((n.items.all fun y=>y.ptrs.all (okN j))=false→okN (j+1) n=false):=hid (fun h=>by rw[HOK.out,h]; simp);have HGOOD:Hid (n.ptrs.all (okN j)=true→(n.items.all fun y=>y.ptrs.all (okN j))=true→okN (j+1) n=true):=hid (fun h h'=>by rw[HOK.out,h,h']; rfl);clear HOK;go_enter Tryz.func77,Tryz.ntmps77
     go_wp2_with fail
     refine (HST.out _).mono ?_;rintro e w1 ⟨rfl,hb1⟩;have hr1:=(hb1.block w.heap.size hsz).trans HR.out;have HR1:=hid hr1;have HB1:=hid (HBA.out.trans (hb1.mono HBA.out.size));obtain ⟨a0,a1,a2,a3,a4,a5⟩:=z01 hr1;clear hr1 hb1
     go_wp2_with fail
     refine (HLI.out _ HB1.out).mono ?_;rintro e w2 ⟨rfl,hb2⟩;clear a0 a1 a2 a3 a4 a5;have hr2:=(hb2.block w.heap.size (z00 HR1.out)).trans HR1.out;have HR2:=hid hr2;have HB2:=hid (HB1.out.trans (hb2.mono HB1.out.size));obtain ⟨a0,a1,a2,a3,a4,a5⟩:=z01 hr2;clear hr2 hb2;go_wp2
     go_loopw [5] (fun i wr=>∃k:Nat,i= .int .i64 k∧k≤n.ptrs.length∧Hid ((n.ptrs.take k).all (okN j)=true)∧Hid (Below w.heap.size w wr∧wr.heap[w.heap.size]? =some (.cells #[.int .i64 n.kind,.string n.data,.slice qA n.ptrs.length qa,.int .i64 n.size,.int .i64 n.count,.slice qB n.items.length qb] nodeT (0,0)))) (fun i _=>n.ptrs.length-(intOf i).toNat)
     case atStart=>exact ⟨0,rfl,by omega,hid rfl,hid ⟨HB2.out,HR2.out⟩⟩
     case round =>
      obtain ⟨k,rfl,hk,HA,HB⟩:=hrel;obtain ⟨hbr,hrr⟩:=HB.out;clear a0 a1 a2 a3 a4 a5;obtain ⟨a0,a1,a2,a3,a4,a5⟩:=z01 hrr
      by_cases hlt:k<n.ptrs.length
      · obtain ⟨m',rfl⟩:=HN.out.2.1.pred hlt
        obtain ⟨x,yA,ya,yB,yb,rfl,hc0,hdy,hny,hniy⟩:=HN.out.2.1.at6 hlt;have hc:=z0u hbr _ _ _ hc0;have HTK:=hid (fun h=>z5s n.ptrs (okN j) k hlt HA.out h);have HBD:=hid (fun h=>HP0.out (z4h n.ptrs (okN j) k hlt h))
        have htp:totN m' n.ptrs[k]≤2000000:=by have:=z1z (m:=m') hlt; have:=HT.out; unfold totN at this; omega
        have HC:=hid (HJ.out m' n.ptrs[k] ⟨yA,ya,yB,yb⟩ wr S (NdAt.below ⟨hdy,hny,hniy⟩ hbr) htp)
        dsimp only at HC
        generalize n.ptrs[k]=y at hc HTK HBD HC;obtain ⟨c0,c1,c2,c3,c4,c5⟩:=hc
        dsimp only at c2 c5
        have HBR:=hid hbr;have HRR:=hid hrr;clear hbr hrr hc0 hdy hny hniy htp HB;cases hoy:okN j y
        all_goals
         rw[hoy] at HC;have HO:=hid hoy;clear hoy
         go_wp2_with fail
         refine HC.out.mono ?_;rintro e w3 ⟨rfl,hb3⟩;have HB3:=hid (And.intro (HBR.out.trans (hb3.mono HBR.out.size)) ((hb3.block w.heap.size (z00 HRR.out)).trans HRR.out));clear hb3
         first
         | (have HX:=hid (HBD.out HO.out)
            go_wp2;go_ret
            exact ⟨by rw[HX.out]; rfl,HB3.out.1⟩)
         | (have HX:=hid (HTK.out HO.out)
            go_wp2
            go_roundw
            case rel=>exact ⟨k+1,by go_num,by omega,HX,HB3⟩
            case measure=>simp[intOf]; omega)
      · obtain rfl:k=n.ptrs.length:=by omega
        rw[List.take_of_length_le (Nat.le_refl _)] at HA;have HBR:=hid hbr;have HRR:=hid hrr;clear hbr hrr HB;go_wp2
        go_loopw [6] (fun i wr=>∃k:Nat,i= .int .i64 k∧k≤n.items.length∧Hid (((n.items.take k).all fun y=>y.ptrs.all (okN j))=true)∧Hid (Below w.heap.size w wr∧wr.heap[w.heap.size]? =some (.cells #[.int .i64 n.kind,.string n.data,.slice qA n.ptrs.length qa,.int .i64 n.size,.int .i64 n.count,.slice qB n.items.length qb] nodeT (0,0)))) (fun i _=>n.items.length-(intOf i).toNat)
        case atStart=>exact ⟨0,rfl,by omega,hid rfl,hid ⟨HBR.out,HRR.out⟩⟩
        case round =>
         obtain ⟨k,rfl,hk,HAI,HB⟩:=hrel;obtain ⟨hbr,hrr⟩:=HB.out;clear a0 a1 a2 a3 a4 a5;obtain ⟨a0,a1,a2,a3,a4,a5⟩:=z01 hrr
         by_cases hlt:k<n.items.length
         · obtain ⟨m',rfl⟩:=HN.out.2.2.pred hlt
           obtain ⟨x,yA,ya,yB,yb,rfl,hc0,hdy,hny,hniy⟩:=HN.out.2.2.at6 hlt;have HTK:=hid (fun h=>z5s n.items (fun y=>y.ptrs.all (okN j)) k hlt HAI.out h);have HBD:=hid (fun h=>HP1.out (z4h n.items (fun y=>y.ptrs.all (okN j)) k hlt h));have HTP:Hid (totL m' (n.items[k]).ptrs≤2000000):=hid (by have:=z1z (m:=m') hlt; have:=HT.out; unfold totN at *; omega);have hypl:(n.items[k]).ptrs.length≤2000000:=z12 hny HTP.out;generalize n.items[k]=y at hc0 HTK HBD hny HTP hypl;have HC0:=hid hc0;have HNY:=hid hny;have HBR:=hid hbr;have HRR:=hid hrr;clear hbr hrr hc0 hdy hny hniy HB;go_wp2;clear a0 a1 a2 a3 a4 a5
           go_loopw [7] (fun i wr=>∃k:Nat,i= .int .i64 k∧k≤y.ptrs.length∧Hid ((y.ptrs.take k).all (okN j)=true)∧Hid (Below w.heap.size w wr∧wr.heap[w.heap.size]? =some (.cells #[.int .i64 n.kind,.string n.data,.slice qA n.ptrs.length qa,.int .i64 n.size,.int .i64 n.count,.slice (some x) n.items.length qb] nodeT (0,0)))) (fun i _=>y.ptrs.length-(intOf i).toNat)
           case atStart=>exact ⟨0,rfl,by omega,hid rfl,hid ⟨HBR.out,HRR.out⟩⟩
           case round =>
            obtain ⟨q,rfl,hq,HAQ,HB⟩:=hrel;obtain ⟨hbr,hrr⟩:=HB.out;obtain ⟨a0,a1,a2,a3,a4,a5⟩:=z01 hrr;have hc:=z0u hbr _ _ _ HC0.out;have hcb:=hc.lt;obtain ⟨-, -,d2, -, -, -⟩:=hc
            dsimp only at d2
            by_cases hqt:q<y.ptrs.length
            · obtain ⟨m'',rfl⟩:=HNY.out.pred hqt
              obtain ⟨x2,zA,za,zB,zb,rfl,hc2,hdz,hnz,hniz⟩:=HNY.out.at6 hqt;have hcz:=z0u hbr _ _ _ hc2;have HTQ:=hid (fun h=>z5s y.ptrs (okN j) q hqt HAQ.out h);have HBQ:=hid (fun h=>HBD.out (z4h y.ptrs (okN j) q hqt h))
              have htp:totN m'' y.ptrs[q]≤2000000:=by have:=z1z (m:=m'') hqt; have:=HTP.out; omega
              have HC:=hid (HJ.out m'' y.ptrs[q] ⟨zA,za,zB,zb⟩ wr S (NdAt.below ⟨hdz,hnz,hniz⟩ hbr) htp)
              dsimp only at HC
              generalize y.ptrs[q]=z at hcz HTQ HBQ HC;obtain ⟨c0,c1,c2,c3,c4,c5⟩:=hcz
              dsimp only at c2 c5
              have HBR:=hid hbr;have HRR:=hid hrr;clear hbr hrr hc2 hdz hnz hniz htp HB;cases hoz:okN j z
              all_goals
               rw[hoz] at HC;have HO:=hid hoz;clear hoz
               go_wp2_with fail
               refine HC.out.mono ?_;rintro e w3 ⟨rfl,hb3⟩;have HB3:=hid (And.intro (HBR.out.trans (hb3.mono HBR.out.size)) ((hb3.block w.heap.size (z00 HRR.out)).trans HRR.out));clear hb3
               first
               | (have HX:=hid (HBQ.out HO.out)
                  go_wp2;go_ret
                  exact ⟨by rw[HX.out]; rfl,HB3.out.1⟩)
               | (have HX:=hid (HTQ.out HO.out)
                  go_wp2
                  go_roundw
                  case rel=>exact ⟨q+1,by go_num,by omega,HX,HB3⟩
                  case measure=>simp[intOf]; omega)
            · obtain rfl:q=y.ptrs.length:=by omega
              rw[List.take_of_length_le (Nat.le_refl _)] at HAQ;have HX:=hid (HTK.out HAQ.out);have HBB:=hid (And.intro hbr hrr);clear hbr hrr HB;go_wp2
              go_roundw
              case rel=>exact ⟨k+1,by go_num,by omega,HX,HBB⟩
              case measure=>simp[intOf]; omega
         · obtain rfl:k=n.items.length:=by omega
           rw[List.take_of_length_le (Nat.le_refl _)] at HAI;have HX:=hid (HGOOD.out HA.out HAI.out);have HBR:=hid hbr;clear hbr hrr HB;go_wp2;go_ret;exact ⟨by rw[HX.out]; rfl,HBR.out⟩
 · have HP0:Hid (n.ptrs.all (okN j)=false→okN (j+1) n=false):=hid (fun h=>by rw[HOK.out,h]; simp)
   have HP1:Hid ((n.items.all fun y=>y.ptrs.all (okN j))=false→okN (j+1) n=false):=hid (fun h=>by rw[HOK.out,h]; simp);have HGOOD:Hid (n.ptrs.all (okN j)=true→(n.items.all fun y=>y.ptrs.all (okN j))=true→okN (j+1) n=true):=hid (fun h h'=>by rw[HOK.out,h,h']; rfl);clear HOK;go_enter Tryz.func77,Tryz.ntmps77
   go_wp2_with fail
   refine (HST.out _).mono ?_;rintro e w1 ⟨rfl,hb1⟩;have hr1:=(hb1.block w.heap.size hsz).trans HR.out;have HR1:=hid hr1;have HB1:=hid (HBA.out.trans (hb1.mono HBA.out.size));obtain ⟨a0,a1,a2,a3,a4,a5⟩:=z01 hr1;clear hr1 hb1;go_wp2
   go_loopw [5] (fun i wr=>∃k:Nat,i= .int .i64 k∧k≤n.ptrs.length∧Hid ((n.ptrs.take k).all (okN j)=true)∧Hid (Below w.heap.size w wr∧wr.heap[w.heap.size]? =some (.cells #[.int .i64 n.kind,.string n.data,.slice qA n.ptrs.length qa,.int .i64 n.size,.int .i64 n.count,.slice qB n.items.length qb] nodeT (0,0)))) (fun i _=>n.ptrs.length-(intOf i).toNat)
   case atStart=>exact ⟨0,rfl,by omega,hid rfl,hid ⟨HB1.out,HR1.out⟩⟩
   case round =>
    obtain ⟨k,rfl,hk,HA,HB⟩:=hrel;obtain ⟨hbr,hrr⟩:=HB.out;clear a0 a1 a2 a3 a4 a5;obtain ⟨a0,a1,a2,a3,a4,a5⟩:=z01 hrr
    by_cases hlt:k<n.ptrs.length
    · obtain ⟨m',rfl⟩:=HN.out.2.1.pred hlt
      obtain ⟨x,yA,ya,yB,yb,rfl,hc0,hdy,hny,hniy⟩:=HN.out.2.1.at6 hlt;have hc:=z0u hbr _ _ _ hc0;have HTK:=hid (fun h=>z5s n.ptrs (okN j) k hlt HA.out h);have HBD:=hid (fun h=>HP0.out (z4h n.ptrs (okN j) k hlt h))
      have htp:totN m' n.ptrs[k]≤2000000:=by have:=z1z (m:=m') hlt; have:=HT.out; unfold totN at this; omega
      have HC:=hid (HJ.out m' n.ptrs[k] ⟨yA,ya,yB,yb⟩ wr S (NdAt.below ⟨hdy,hny,hniy⟩ hbr) htp)
      dsimp only at HC
      generalize n.ptrs[k]=y at hc HTK HBD HC;obtain ⟨c0,c1,c2,c3,c4,c5⟩:=hc
      dsimp only at c2 c5
      have HBR:=hid hbr;have HRR:=hid hrr;clear hbr hrr hc0 hdy hny hniy htp HB;cases hoy:okN j y
      all_goals
       rw[hoy] at HC;have HO:=hid hoy;clear hoy
       go_wp2_with fail
       refine HC.out.mono ?_;rintro e w3 ⟨rfl,hb3⟩;have HB3:=hid (And.intro (HBR.out.trans (hb3.mono HBR.out.size)) ((hb3.block w.heap.size (z00 HRR.out)).trans HRR.out));clear hb3
       first
       | (have HX:=hid (HBD.out HO.out)
          go_wp2;go_ret
          exact ⟨by rw[HX.out]; rfl,HB3.out.1⟩)
       | (have HX:=hid (HTK.out HO.out)
          go_wp2
          go_roundw
          case rel=>exact ⟨k+1,by go_num,by omega,HX,HB3⟩
          case measure=>simp[intOf]; omega)
    · obtain rfl:k=n.ptrs.length:=by omega
      rw[List.take_of_length_le (Nat.le_refl _)] at HA;have HBR:=hid hbr;have HRR:=hid hrr;clear hbr hrr HB;go_wp2
      go_loopw [6] (fun i wr=>∃k:Nat,i= .int .i64 k∧k≤n.items.length∧Hid (((n.items.take k).all fun y=>y.ptrs.all (okN j))=true)∧Hid (Below w.heap.size w wr∧wr.heap[w.heap.size]? =some (.cells #[.int .i64 n.kind,.string n.data,.slice qA n.ptrs.length qa,.int .i64 n.size,.int .i64 n.count,.slice qB n.items.length qb] nodeT (0,0)))) (fun i _=>n.items.length-(intOf i).toNat)
      case atStart=>exact ⟨0,rfl,by omega,hid rfl,hid ⟨HBR.out,HRR.out⟩⟩
      case round =>
       obtain ⟨k,rfl,hk,HAI,HB⟩:=hrel;obtain ⟨hbr,hrr⟩:=HB.out;clear a0 a1 a2 a3 a4 a5;obtain ⟨a0,a1,a2,a3,a4,a5⟩:=z01 hrr
       by_cases hlt:k<n.items.length
       · obtain ⟨m',rfl⟩:=HN.out.2.2.pred hlt
         obtain ⟨x,yA,ya,yB,yb,rfl,hc0,hdy,hny,hniy⟩:=HN.out.2.2.at6 hlt;have HTK:=hid (fun h=>z5s n.items (fun y=>y.ptrs.all (okN j)) k hlt HAI.out h);have HBD:=hid (fun h=>HP1.out (z4h n.items (fun y=>y.ptrs.all (okN j)) k hlt h));have HTP:Hid (totL m' (n.items[k]).ptrs≤2000000):=hid (by have:=z1z (m:=m') hlt; have:=HT.out; unfold totN at *; omega);have hypl:(n.items[k]).ptrs.length≤2000000:=z12 hny HTP.out;generalize n.items[k]=y at hc0 HTK HBD hny HTP hypl;have HC0:=hid hc0;have HNY:=hid hny;have HBR:=hid hbr;have HRR:=hid hrr;clear hbr hrr hc0 hdy hny hniy HB;go_wp2;clear a0 a1 a2 a3 a4 a5
         go_loopw [7] (fun i wr=>∃k:Nat,i= .int .i64 k∧k≤y.ptrs.length∧Hid ((y.ptrs.take k).all (okN j)=true)∧Hid (Below w.heap.size w wr∧wr.heap[w.heap.size]? =some (.cells #[.int .i64 n.kind,.string n.data,.slice qA n.ptrs.length qa,.int .i64 n.size,.int .i64 n.count,.slice (some x) n.items.length qb] nodeT (0,0)))) (fun i _=>y.ptrs.length-(intOf i).toNat)
         case atStart=>exact ⟨0,rfl,by omega,hid rfl,hid ⟨HBR.out,HRR.out⟩⟩
         case round =>
          obtain ⟨q,rfl,hq,HAQ,HB⟩:=hrel;obtain ⟨hbr,hrr⟩:=HB.out;obtain ⟨a0,a1,a2,a3,a4,a5⟩:=z01 hrr;have hc:=z0u hbr _ _ _ HC0.out;have hcb:=hc.lt;obtain ⟨-, -,d2, -, -, -⟩:=hc
          dsimp only at d2
          by_cases hqt:q<y.ptrs.length
          · obtain ⟨m'',rfl⟩:=HNY.out.pred hqt
            obtain ⟨x2,zA,za,zB,zb,rfl,hc2,hdz,hnz,hniz⟩:=HNY.out.at6 hqt;have hcz:=z0u hbr _ _ _ hc2;have HTQ:=hid (fun h=>z5s y.ptrs (okN j) q hqt HAQ.out h);have HBQ:=hid (fun h=>HBD.out (z4h y.ptrs (okN j) q hqt h))
            have htp:totN m'' y.ptrs[q]≤2000000:=by have:=z1z (m:=m'') hqt; have:=HTP.out; omega
            have HC:=hid (HJ.out m'' y.ptrs[q] ⟨zA,za,zB,zb⟩ wr S (NdAt.below ⟨hdz,hnz,hniz⟩ hbr) htp)
            dsimp only at HC
            generalize y.ptrs[q]=z at hcz HTQ HBQ HC;obtain ⟨c0,c1,c2,c3,c4,c5⟩:=hcz
            dsimp only at c2 c5
            have HBR:=hid hbr;have HRR:=hid hrr;clear hbr hrr hc2 hdz hnz hniz htp HB;cases hoz:okN j z
            all_goals
             rw[hoz] at HC;have HO:=hid hoz;clear hoz
             go_wp2_with fail
             refine HC.out.mono ?_;rintro e w3 ⟨rfl,hb3⟩;have HB3:=hid (And.intro (HBR.out.trans (hb3.mono HBR.out.size)) ((hb3.block w.heap.size (z00 HRR.out)).trans HRR.out));clear hb3
             first
             | (have HX:=hid (HBQ.out HO.out)
                go_wp2;go_ret
                exact ⟨by rw[HX.out]; rfl,HB3.out.1⟩)
             | (have HX:=hid (HTQ.out HO.out)
                go_wp2
                go_roundw
                case rel=>exact ⟨q+1,by go_num,by omega,HX,HB3⟩
                case measure=>simp[intOf]; omega)
          · obtain rfl:q=y.ptrs.length:=by omega
            rw[List.take_of_length_le (Nat.le_refl _)] at HAQ;have HX:=hid (HTK.out HAQ.out);have HBB:=hid (And.intro hbr hrr);clear hbr hrr HB;go_wp2
            go_roundw
            case rel=>exact ⟨k+1,by go_num,by omega,HX,HBB⟩
            case measure=>simp[intOf]; omega
       · obtain rfl:k=n.items.length:=by omega
         rw[List.take_of_length_le (Nat.le_refl _)] at HAI;have HX:=hid (HGOOD.out HA.out HAI.out);have HBR:=hid hbr;clear hbr hrr HB;go_wp2;go_ret;exact ⟨by rw[HX.out]; rfl,HBR.out⟩
theorem zh4:∀d,d≤8→L4O d
 | 0,h=>zdn 0 h (fun j hj=>by omega)
 | d+1,h=>zdn (d+1) h (fun j hj=>by
   obtain rfl:d=j:=by omega
   exact zh4 d (by omega))
theorem zen {B:Nat}{a w:World}(h:Below B a w)(n:Nat):Below B a (w.drewN n):=⟨h.os,h.tape,h.output,h.size,h.block⟩
theorem z8p (m:Nat)(n:Nd)(h:Hd)(w:World)(S:Nat→Prop)(hn:NdAt w S m n h)(hf:formN n=true)(ht:totN m n≤2000000) :
 Calls Tryz.prog 83 #[.agg #[.int .i64 n.kind,.string n.data,.slice h.A n.ptrs.length h.a,.int .i64 n.size,.int .i64 n.count,.slice h.B n.items.length h.b]] w fun e w'=>e= .returned (.int .i64 (ownN n:Nat))∧Below w.heap.size w w':=by
 obtain ⟨qA,qa,qB,qb⟩:=h
 dsimp only at hn ⊢
 have hds:n.data.size≤2000000:=by unfold totN at ht; omega
 have hpl:n.ptrs.length≤2000000:=z12 hn.2.1 (by unfold totN at ht; omega);have hil:n.items.length≤2000000:=z12 hn.2.2 (by unfold totN at ht; omega)
 rcases z0d hf with hc | hc | hc
 · have HX:Hid (ownN n=0):=hid (by unfold ownN ownB; rw[hc.2.1,hc.2.2.1,z06 hc.2.2.2.2.2,hc.1]; rfl)
   have k1:(n.kind==1)=false:=by rw[hc.1]; rfl
   have k2:(n.kind != 2)=true:=by rw[hc.1]; rfl
   clear hc hn ht hf;go_enter Tryz.func83,Tryz.ntmps83;go_wp2;go_ret;exact ⟨by rw[HX.out]; rfl,(Below.refl _ _).alloc (Nat.le_refl _) _⟩
 · have HX:Hid (((ownN n:Nat):Int)=(n.data.size:Int)/8+n.ptrs.length):=hid (by
    have:ownN n=ownB n:=by unfold ownN; rw[z06 hc.2.2.2.2,if_neg (by omega)]; simp
    rw[this]; unfold ownB; have:=hc.2.1; omega)
   have k1:(n.kind==1)=true:=by rw[hc.1]; rfl
   clear hc hn ht hf;go_enter Tryz.func83,Tryz.ntmps83;go_wp2;go_ret;exact ⟨by rw[HX.out]; rfl,(Below.refl _ _).alloc (Nat.le_refl _) _⟩
 · obtain ⟨hk,hcc,hc⟩:=hc
   have k1:(n.kind==1)=false:=by rw[hk]; rfl
   have k2:(n.kind != 2)=false:=by rw[hk]; rfl
   rcases hc with hc | hc | hc
   · have HX:Hid (((ownN n:Nat):Int)=((n.data.size:Int)+7)/8):=hid (by
      have:ownN n=ownB n:=by unfold ownN; rw[z06 hc.2.2.2.2,if_neg (by omega)]; simp
      rw[this]; unfold ownB; have:=hc.2.2.2.1; omega)
     have z6:(n.size==6)=false:=by rw[beq_eq_false_iff_ne]; omega
     have z7:(n.size==7)=false:=by rw[beq_eq_false_iff_ne]; omega
     clear hc hn ht hf hk;go_enter Tryz.func83,Tryz.ntmps83;go_wp2;go_ret;exact ⟨by rw[HX.out]; rfl,(Below.refl _ _).alloc (Nat.le_refl _) _⟩
   · have HX:Hid (((ownN n:Nat):Int)=n.count):=hid (by
      have:ownN n=ownB n:=by unfold ownN; rw[z06 hc.2.2.2,if_neg (by omega)]; simp
      rw[this]; unfold ownB; rw[hc.2.1]; have:=hc.2.2.1; omega)
     have z6:(n.size==6)=true:=by rw[hc.1]; rfl
     have z7:(n.size==7)=false:=by rw[hc.1]; rfl
     clear hc hn ht hf hk;go_enter Tryz.func83,Tryz.ntmps83;go_wp2;go_ret;exact ⟨by rw[HX.out]; rfl,(Below.refl _ _).alloc (Nat.le_refl _) _⟩
   · have HX:Hid (ownN n=1+(n.items.map ownB).sum):=hid (by unfold ownN; rw[if_pos ⟨hk,hc.1⟩]; unfold ownB; rw[hc.2.1,hc.2.2.1])
     have HIT:Hid (∀k (hk:k<n.items.length),((n.items[k]).data.size:Int)%8=0∧(n.items[k]).data.size≤2000000∧(n.items[k]).ptrs.length≤2000000):=hid fun k hk=>by
      obtain ⟨h1,h2,h3⟩:=zdr hf _ (List.getElem_mem hk);obtain ⟨h4,h5⟩:=zbu hn.2.2 _ (List.getElem_mem hk);unfold totN at ht;exact ⟨h2,by omega,by omega⟩
     have HSUM:Hid (∀k,((n.items.take k).map ownB).sum≤2000000):=hid fun k=>by
      have h1:=z18 n.items ownB k;have h2:=zfr hn.2.2;unfold totN at ht;omega
     have z7:(n.size==7)=true:=by rw[hc.1]; rfl
     have hba:=(Below.refl w.heap.size w).alloc (Nat.le_refl _) (.cells #[.int .i64 n.kind,.string n.data,.slice qA n.ptrs.length qa,.int .i64 n.size,.int .i64 n.count,.slice qB n.items.length qb] nodeT);have HN:=hid (NdsAt.succ _ _ _ (hn.2.2.below hba));have HBA:=hid hba;have HR:=hid (heap_alloc_new w (.cells #[.int .i64 n.kind,.string n.data,.slice qA n.ptrs.length qa,.int .i64 n.size,.int .i64 n.count,.slice qB n.items.length qb] nodeT))
     have hsz:w.heap.size<(w.alloc (.cells #[.int .i64 n.kind,.string n.data,.slice qA n.ptrs.length qa,.int .i64 n.size,.int .i64 n.count,.slice qB n.items.length qb] nodeT)).heap.size:=by simp
     clear hc hn ht hf hk hba;go_enter Tryz.func83,Tryz.ntmps83;go_wp2;generalize w.alloc (.cells #[.int .i64 n.kind,.string n.data,.slice qA n.ptrs.length qa,.int .i64 n.size,.int .i64 n.count,.slice qB n.items.length qb] nodeT)=W at *
     go_loopw [3,4] (fun q i wr=>∃(k:Nat) (z:Int),q= .int .i64 z∧i= .int .i64 k∧k≤n.items.length∧0≤z∧z≤6000000∧Hid (z=((1+((n.items.take k).map ownB).sum:Nat):Int))∧Hid (Below W.heap.size W wr)) (fun _ i _=>n.items.length-(intOf i).toNat)
     case atStart=>exact ⟨0,_,rfl,rfl,by omega,by omega,by omega,hid (by simp),hid (Below.refl _ _)⟩
     case round =>
      obtain ⟨k,z,rfl,rfl,hk,hz0,hz,HZ,HB⟩:=hrel;obtain ⟨a0,a1,a2,a3,a4,a5⟩:=z01 ((HB.out.block _ hsz).trans HR.out)
      by_cases hlt:k<n.items.length
      · obtain ⟨x,yA,ya,yB,yb,rfl,hc, -, -, -⟩:=(HN.out.below HB.out).at6 hlt
        obtain ⟨i1,i2,i3⟩:=HIT.out k hlt;have HS:=hid (zhz n.items k hlt);generalize n.items[k]=y at hc i1 i2 i3 HS;have HO:Hid (((ownB y:Nat):Int)=(y.data.size:Int)/8+y.ptrs.length):=hid (by unfold ownB; omega)
        have hz2:z+(y.data.size:Int)/8+y.ptrs.length≤6000000:=by have:=HZ.out; have:=HS.out; have:=HSUM.out (k+1); have:=HO.out; omega
        obtain ⟨d0,d1,d2,d3,d4,d5⟩:=hc
        dsimp only at d2 d5
        have hk2:(k:Int)<(n.items.length:Int):=by omega
        clear i1;go_wp2
        go_big_quiet (fail)
        go_wp2
        go_roundw
        case rel=>exact ⟨k+1,_,rfl,by go_num,by omega,by omega,hz2,hid (by rw[HZ.out,HS.out]; have:=HO.out; omega),hid (zen HB.out _)⟩
        case measure=>simp[intOf]; omega
      · obtain rfl:k=n.items.length:=by omega
        rw[List.take_of_length_le (Nat.le_refl _)] at HZ;have HBE:=hid (HBA.out.trans (HB.out.mono HBA.out.size));go_wp2;go_ret;exact ⟨by rw[HX.out,HZ.out]; rfl,HBE.out⟩
open Go.RowKit Go.Deep
theorem z2t {w w':World}{base m:Nat}{n:Nd}{h:Hd}(hn:NdAt w (fun k=>k<base) m n h)(hb:Below base w w'):NdAt w' (fun k=>k<base) m n h:=hn.map (fun _ h=>h) (fun _ _ _ hs hc=>hc.block (hb.block _ hs))
theorem KP.rowS {P:Nat→Prop}{w w':World}(h:KP P w w'){k:Nat}{o:Obj}(hk:w.heap[k]? =some o)(hn:¬P k):w'.heap[k]? =some o:=(h.block k (z00 hk) hn).trans hk
theorem kpS {P:Nat→Prop}{w w':World}{q:Addr}{u:Value}(h:KP P w w')(hq:w.cell? q=some u)(hn:¬P q.block):w'.cell? q=some u:=(World.cell?_of_block (h.block q.block (World.block_lt_of_cell? w q hq) hn)).trans hq
theorem z3k {n:Nd}(hf:formN n=true)(ho:ownN n≤300):n.data.size≤2400∧n.ptrs.length≤300∧n.items.length≤20000∧(n.kind≠0→n.kind=1∨n.kind=2)∧(n.kind=2→0≤n.size∧n.size≤7∧0≤n.count∧n.count<12801)∧(n.kind=2→n.size=7→1≤ownN n∧(n.items.length:Int)=n.count∧n.data.size=0∧n.ptrs.length=0)∧(n.kind=1→n.data.size%8=0):=by
 have hb:ownB n≤ownN n:=by unfold ownN; omega
 have hd:n.data.size≤2400:=by unfold ownB at hb; omega
 have hp:n.ptrs.length≤300:=by unfold ownB at hb; omega
 rcases z0d hf with h | h | ⟨h1,h2,h | h | h⟩
 · exact ⟨hd,hp,by omega,fun e=>by omega,fun e=>by omega,fun e=>by omega,fun e=>by omega⟩
 · exact ⟨hd,hp,by omega,fun _=> .inl h.1,fun e=>by omega,fun e=>by omega,fun _=>by omega⟩
 · exact ⟨hd,hp,by omega,fun _=> .inr h1,fun _=>by omega,fun _ e=>by omega,fun e=>by omega⟩
 · exact ⟨hd,hp,by omega,fun _=> .inr h1,fun _=>by omega,fun _ e=>by omega,fun e=>by omega⟩
 · refine ⟨hd,hp,by omega,fun _=> .inr h1,fun _=>by omega,fun _ _=>⟨?_,by omega,by omega,by omega⟩,fun e=>by omega⟩
   unfold ownN;rw[if_pos ⟨h1,h.1⟩];omega
theorem fin8B {w w1:World}{b:Nat}{T:TypeId}{a0 a1 a2 a3 a4 a5 a6 a7:Value}(h:w1.heap[b]? =some (.cells #[a0,a1,a2,a3,a4,a5,a6,a7] T (0,0)))(hp:Below w.heap.size w w1)(hb:w.heap.size≤b)(v0 v1 v2 v3 v4 v5 v6 v7:Value) :
 ∃wf,((((((((w1.setCell ⟨b,0,none⟩ v0).setCell ⟨b,1,none⟩ v1).setCell ⟨b,2,none⟩ v2).setCell ⟨b,3,none⟩ v3).setCell ⟨b,4,none⟩ v4).setCell ⟨b,5,none⟩ v5).setCell ⟨b,6,none⟩ v6).setCell ⟨b,7,none⟩ v7)=wf∧wf.heap[b]? =some (.cells #[v0,v1,v2,v3,v4,v5,v6,v7] T (0,0))∧Below w.heap.size w wf:=by
 have hk:∀(W:World) (i:Nat) (v:Value),Below w.heap.size w W→Below w.heap.size w (W.setCell ⟨b,i,none⟩ v):=fun W i v hW=>hW.setCell (p:=⟨b,i,none⟩) hb v
 have h0:=z08 h 0 v0;rw[show (#[a0,a1,a2,a3,a4,a5,a6,a7]:Array Value).setIfInBounds 0 v0= #[v0,a1,a2,a3,a4,a5,a6,a7] from rfl] at h0;have h1:=z08 h0 1 v1;rw[show (#[v0,a1,a2,a3,a4,a5,a6,a7]:Array Value).setIfInBounds 1 v1= #[v0,v1,a2,a3,a4,a5,a6,a7] from rfl] at h1;have h2:=z08 h1 2 v2;rw[show (#[v0,v1,a2,a3,a4,a5,a6,a7]:Array Value).setIfInBounds 2 v2= #[v0,v1,v2,a3,a4,a5,a6,a7] from rfl] at h2;have h3:=z08 h2 3 v3;rw[show (#[v0,v1,v2,a3,a4,a5,a6,a7]:Array Value).setIfInBounds 3 v3= #[v0,v1,v2,v3,a4,a5,a6,a7] from rfl] at h3;have h4:=z08 h3 4 v4;rw[show (#[v0,v1,v2,v3,a4,a5,a6,a7]:Array Value).setIfInBounds 4 v4= #[v0,v1,v2,v3,v4,a5,a6,a7] from rfl] at h4;have h5:=z08 h4 5 v5;rw[show (#[v0,v1,v2,v3,v4,a5,a6,a7]:Array Value).setIfInBounds 5 v5= #[v0,v1,v2,v3,v4,v5,a6,a7] from rfl] at h5;have h6:=z08 h5 6 v6;rw[show (#[v0,v1,v2,v3,v4,v5,a6,a7]:Array Value).setIfInBounds 6 v6= #[v0,v1,v2,v3,v4,v5,v6,a7] from rfl] at h6;have h7:=z08 h6 7 v7;rw[show (#[v0,v1,v2,v3,v4,v5,v6,a7]:Array Value).setIfInBounds 7 v7= #[v0,v1,v2,v3,v4,v5,v6,v7] from rfl] at h7;exact ⟨_,rfl,h7,hk _ _ _ (hk _ _ _ (hk _ _ _ (hk _ _ _ (hk _ _ _ (hk _ _ _ (hk _ _ _ (hk _ _ _ hp)))))))⟩
def ptN (n:Nd)(off:Int):Value :=
 if n.kind=1 then .agg #[.int .i64 1,.int .i64 off,.int .i64 (n.data.size/8:Nat),.int .i64 (n.ptrs.length:Nat),.int .i64 0,.int .i64 0,.int .i64 0,.bool false]
 else .agg #[.int .i64 2,.int .i64 off,.int .i64 0,.int .i64 0,.int .i64 n.size,.int .i64 (if n.size=7 then (ownN n:Int)-1 else n.count),.int .i64 0,.bool false]
theorem zq9 (n:Nd)(off:Int)(w:World)(hf:formN n=true)(ho:ownN n≤300)(hk:n.kind≠0)(h0: -100000≤off)(h1:off≤100000) :
 Calls Tryz.prog 125 #[ptN n off] w fun e w'=>e= .returned (.string ⟨(ptrW n off).toArray⟩)∧Below w.heap.size w w':=by
 obtain ⟨hd,hp,_,hkk,hs,h7,h8⟩:=z3k hf ho;unfold ptN ptrW
 split
 · exact zax off _ _ w (by omega) (by omega) (by omega) (by omega) (by omega) (by omega)
 · have k2:n.kind=2:=by rcases hkk hk with e | e <;> omega
   have:=hs k2
   split
   · rename_i e7
     have:=h7 k2 e7;have h:=zaw off n.size ((ownN n:Int)-1) w (by omega) (by omega) (by omega) (by omega) (by omega) (by omega);rw[e7] at h ⊢;exact h
   · exact zaw off n.size n.count w (by omega) (by omega) (by omega) (by omega) (by omega) (by omega)
theorem z8r (m:Nat)(n:Nd)(h:Hd)(off:Int)(w:World)(S:Nat→Prop)(hn:NdAt w S m n h)(hf:formN n=true)(ht:totN m n≤2000000)(ho:ownN n≤300)(hk:n.kind≠0) :
 Calls Tryz.prog 126 #[.agg #[.int .i64 n.kind,.string n.data,.slice h.A n.ptrs.length h.a,.int .i64 n.size,.int .i64 n.count,.slice h.B n.items.length h.b],.int .i64 off] w fun e w'=>e= .returned (ptN n off)∧Below w.heap.size w w':=by
 obtain ⟨qA,qa,qB,qb⟩:=h;obtain ⟨hd,hp,_,hkk,hs,h7,h8⟩:=z3k hf ho;have hb0:Below w.heap.size w ((w.alloc (.cells #[.int .i64 n.kind,.string n.data,.slice qA n.ptrs.length qa,.int .i64 n.size,.int .i64 n.count,.slice qB n.items.length qb] nodeT)).alloc (.cells #[.int .i64 0,.int .i64 0,.int .i64 0,.int .i64 0,.int .i64 0,.int .i64 0,.int .i64 0,.bool false] 44)):=((Below.refl _ w).alloc (Nat.le_refl _) _).alloc (by simp) _;have HB0:=hid hb0
 dsimp only
 rcases hkk hk with k1 | k2
 · have hkb:(n.kind==1)=true:=by rw[k1]; rfl
   have HE:Hid (ptN n off= .agg #[.int .i64 1,.int .i64 off,.int .i64 (n.data.size/8:Nat),.int .i64 (n.ptrs.length:Nat),.int .i64 0,.int .i64 0,.int .i64 0,.bool false]):=hid (by unfold ptN; rw[if_pos k1]);rw[HE.out]
   have e8:(n.data.size:Int)/8=((n.data.size/8:Nat):Int):=by omega
   rw[← e8];clear hn hf hkk hs h7 h8 hk k1 hb0 e8;go_enter Tryz.func126,Tryz.ntmps126;go_wp2;refine bodyPost_ret (v:= .agg #[.int .i64 1,.int .i64 off,.int .i64 ((n.data.size:Int)/8),.int .i64 (n.ptrs.length:Nat),.int .i64 0,.int .i64 0,.int .i64 0,.bool false]) (by simp[results,Tryz.results126,go_sem]) rfl ⟨rfl,?_⟩;exact ((Below.refl _ w).alloc (Nat.le_refl _) _).alloc (by simp) _
 · have hkb:(n.kind==1)=false:=by rw[k2]; rfl
   have k1:¬n.kind=1:=by omega
   have HOW:=hid (z8p m n ⟨qA,qa,qB,qb⟩ _ S (hn.below hb0) hf ht)
   dsimp only at HOW
   have r1:=heap_alloc_new (w.alloc (.cells #[.int .i64 n.kind,.string n.data,.slice qA n.ptrs.length qa,.int .i64 n.size,.int .i64 n.count,.slice qB n.items.length qb] nodeT)) (.cells #[.int .i64 0,.int .i64 0,.int .i64 0,.int .i64 0,.int .i64 0,.int .i64 0,.int .i64 0,.bool false] 44);rw[show (w.alloc (.cells #[.int .i64 n.kind,.string n.data,.slice qA n.ptrs.length qa,.int .i64 n.size,.int .i64 n.count,.slice qB n.items.length qb] nodeT)).heap.size=w.heap.size+1 by simp] at r1;have r0:=z05 (heap_alloc_new w (.cells #[.int .i64 n.kind,.string n.data,.slice qA n.ptrs.length qa,.int .i64 n.size,.int .i64 n.count,.slice qB n.items.length qb] nodeT)) (.cells #[.int .i64 0,.int .i64 0,.int .i64 0,.int .i64 0,.int .i64 0,.int .i64 0,.int .i64 0,.bool false] 44);have R1:=hid r1;have R0:=hid r0
   by_cases e7:n.size=7
   · have hsb:(n.size==7)=true:=by rw[e7]; rfl
     have HE:Hid (ptN n off= .agg #[.int .i64 2,.int .i64 off,.int .i64 0,.int .i64 0,.int .i64 n.size,.int .i64 ((ownN n:Int)-1),.int .i64 0,.bool false]):=hid (by unfold ptN; rw[if_neg k1,if_pos e7]);rw[HE.out];have h1:=(h7 k2 e7).1;generalize ownN n=on at *;clear hn hf hkk hs h7 h8 hk k1 k2 hb0 e7 r0 r1;go_enter Tryz.func126,Tryz.ntmps126
     go_wp2_with fail
     refine HOW.out.mono ?_;rintro e w1 ⟨rfl,hb1⟩;have HB1:=hid (HB0.out.trans (hb1.mono HB0.out.size));have hx:=(hb1.block _ (z00 R1.out)).trans R1.out;have HX:=hid hx;obtain ⟨a0,a1,a2,a3,a4,a5⟩:=z01 ((hb1.block _ (z00 R0.out)).trans R0.out);clear hb1 hx;have X8:=HX.out;obtain ⟨b0,b1,b2,b3,b4,b5,b6,b7⟩:=z4y HX.out;have f0:=z02 X8 0;have f1:=z02 X8 1;have f2:=z02 X8 2;have f3:=z02 X8 3;have f4:=z02 X8 4;have f5:=z02 X8 5;have f6:=z02 X8 6;have f7:=z02 X8 7;clear X8
     go_wp2_with fail
     obtain ⟨wf,hwf,hrw,hbf⟩:=fin8B HX.out HB1.out (show w.heap.size≤w.heap.size+1 by omega) (.int .i64 2) (.int .i64 off) (.int .i64 0) (.int .i64 0) (.int .i64 n.size) (.int .i64 ((on:Int)-1)) (.int .i64 0) (.bool false);rw[hwf];obtain ⟨g0,g1,g2,g3,g4,g5,g6,g7⟩:=z4y hrw;exact bodyPost_ret (v:= .agg #[.int .i64 2,.int .i64 off,.int .i64 0,.int .i64 0,.int .i64 n.size,.int .i64 ((on:Int)-1),.int .i64 0,.bool false]) (by simp[results,Tryz.results126,go_sem,g0,g1,g2,g3,g4,g5,g6,g7]) rfl ⟨rfl,hbf⟩
   · have hsb:(n.size==7)=false:=by simpa using e7
     have HE:Hid (ptN n off= .agg #[.int .i64 2,.int .i64 off,.int .i64 0,.int .i64 0,.int .i64 n.size,.int .i64 n.count,.int .i64 0,.bool false]):=hid (by unfold ptN; rw[if_neg k1,if_neg e7]);rw[HE.out];clear hn hf hkk hs h7 h8 hk k1 k2 hb0 e7 r0 r1 HOW;go_enter Tryz.func126,Tryz.ntmps126;go_wp2;refine bodyPost_ret (v:= .agg #[.int .i64 2,.int .i64 off,.int .i64 0,.int .i64 0,.int .i64 n.size,.int .i64 n.count,.int .i64 0,.bool false]) (by simp[results,Tryz.results126,go_sem]) rfl ⟨rfl,?_⟩;exact ((Below.refl _ w).alloc (Nat.le_refl _) _).alloc (by simp) _
end Go.Proofs.YtlbfffokkhccaaaGreatDoor
