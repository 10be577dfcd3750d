/- Texts of the proof of the law FnRecordCanon, side by side: part 23. -/
import Derived.Test.YtblcibgphccfkaaGreatDoorMRecordCanon22
set_option maxHeartbeats 8000000
set_option maxRecDepth 100000
open Go.Lib (hid)
namespace Go.Proofs.YtblcibgphccfkaaGreatDoor
open Go.RowKit
theorem Sl.made (w:World)(R:Nat)(hR:R≤w.heap.size) :
 Sl (w.alloc (.cells #[.int .i64 0,.int .i64 0,.int .i64 0,.int .i64 0,.int .i64 0,.int .i64 0,.int .i64 0,.int .i64 0,.int .i64 (-1),.int .i64 0,.slice none 0 0,.slice none 0 0,.int .i64 (-1)] layT)) R w.heap.size (.slice none 0 0) (.slice none 0 0) ps0 :=
 ⟨heap_alloc_new w _,hR,World.ownsRow_nil _ _ _ _,World.ownsRow_nil _ _ _ _,.inl rfl⟩
def zf0 (v:Value):Array Value:= #[.int .i64 0,.int .i64 0,v,.int .i64 0]
structure Out (w:World) (R b:Nat) (v:Value) (sl:List Nat):Prop where
 row:w.heap[b]? =some (.cells (zf0 v) 37 (0,0))
 rb:R≤b
 slots:w.ownsRow R slotT 1 v sl.length (z1b sl)
theorem Out.cells {w:World}{R b:Nat}{v:Value}{sl:List Nat}(h:Out w R b v sl):w.cell? ⟨b,0,none⟩=some (.int .i64 0)∧w.cell? ⟨b,1,none⟩=some (.int .i64 0)∧w.cell? ⟨b,2,none⟩=some v∧w.cell? ⟨b,3,none⟩=some (.int .i64 0):=z0p h.row
theorem Out.drew {w:World}{R b:Nat}{v:Value}{sl:List Nat}(h:Out w R b v sl):Out w.drew R b v sl:=⟨h.row,h.rb,h.slots⟩
theorem Out.below {w w':World}{R b:Nat}{v:Value}{sl:List Nat}(h:Out w R b v sl)(hb:Below w.heap.size w w'):Out w' R b v sl :=
 ⟨(hb.block b (z00 h.row)).trans h.row,h.rb,h.slots.kept (row:=none) ⟨hb.os,hb.tape,hb.output,hb.size,fun k hk _=>hb.block k hk⟩ (by cases hv:v.ownBlock <;> simp)⟩
theorem Out.alloc {w:World}{R b:Nat}{v:Value}{sl:List Nat}(h:Out w R b v sl)(o:Obj):Out (w.alloc o) R b v sl:=h.below ((Below.refl _ _).alloc (Nat.le_refl _) o)
theorem Out.kept {w w':World}{R b g:Nat}{v v1 v2:Value}{sl:List Nat}{s:PS}(h:Out w R b v sl)(hs:Sl w R g v1 v2 s)(hb:Below R w w')(hf:FrS g v1 v2 w w'):Out w' R b v sl:=by
 have hbg:b≠g:=by
  rintro rfl;have h1:=hs.row;rw[h.row] at h1
  injection h1 with h1
  injection h1 with _ ht
  exact absurd ht (by decide)
 refine ⟨(hf.2 b (z00 h.row) hbg (fun e=>z0o hs.place h.row (by decide) e.symm) (fun e=>z0o hs.scale h.row (by decide) e.symm)).trans h.row,h.rb,?_⟩;refine ⟨h.slots.1,?_⟩
 rcases h.slots.2 with hn | ⟨x,cap,cur,rfl,hx,hr,rest⟩
 · exact .inl hn
 · refine .inr ⟨x,cap,cur,rfl,hx,?_,rest⟩
   refine (hf.2 x (z00 hr) ?_ (fun e=>z0o hs.place hr (by decide) e.symm) (fun e=>z0o hs.scale hr (by decide) e.symm)).trans hr;rintro rfl;have h1:=hs.row;rw[hr] at h1
   injection h1 with h1
   injection h1 with _ ht
   exact absurd ht (by decide)
theorem Out.grown_row {w w6:World}{R b:Nat}{v:Value}{sl:List Nat}{o:Obj}(h:Out w R b v sl)(hg:(w.alloc o).grownBy w6 v.ownBlock):w6.heap[b]? =some (.cells (zf0 v) 37 (0,0)) :=
 (hg.block b (by have:=z00 h.row; simp; omega) (fun e=>z0o h.slots h.row (by decide) e.symm)).trans (h.alloc o).row
theorem Out.done {w w6:World}{R b g:Nat}{v v' v1 v2:Value}{sl:List Nat}{s:PS}{o:Obj}{a:Nat}(h:Out w R b v sl)(hs:Sl w R g v1 v2 s)(hg:(w.alloc o).grownBy w6 v.ownBlock)(hv:w6.ownsRow R slotT 1 v' (sl.length+1) (z1b sl++ [.int .i64 (a:Int)])) :
 Out (w6.setCell ⟨b,2,none⟩ v') R b v' (sl++ [a])∧Sl (w6.setCell ⟨b,2,none⟩ v') R g v1 v2 s∧Below R w (w6.setCell ⟨b,2,none⟩ v'):=by
 have hrow:=h.grown_row hg;have hst:=z1g w6 b 2 v';have hgn:w.grownBy w6 v.ownBlock:=(World.grownBy_alloc w o _).trans hg
 have hbg:g≠b:=by
  rintro rfl;have h1:=hs.row;rw[h.row] at h1
  injection h1 with h1
  injection h1 with _ ht
  exact absurd ht (by decide)
 have hp:w6.ownsRow R intT 1 v1 s.shared.length (z2t s.shared):=by
  refine hs.place.kept hgn ?_
  cases hb:v.ownBlock with
  | none=>cases hv1:v1.ownBlock <;> simp
  | some x=>exact .inr (z31 hs.place h.slots (by decide) hb)
 have hsc:w6.ownsRow R intT 1 v2 s.shared.length (z2r s.shared):=by
  refine hs.scale.kept hgn ?_
  cases hb:v.ownBlock with
  | none=>cases hv1:v2.ownBlock <;> simp
  | some x=>exact .inr (z31 hs.scale h.slots (by decide) hb)
 have hr6:w6.heap[g]? =some (.cells (z0u s v1 v2) layT (0,0)):=(hgn.block g hs.lt (fun e=>z0o h.slots hs.row (by decide) e.symm)).trans hs.row;refine ⟨⟨?_,h.rb,?_⟩,⟨?_,hs.rg,hp.kept hst (.inr (z0o hp hrow (by decide))),hsc.kept hst (.inr (z0o hsc hrow (by decide))),hs.ne⟩,?_⟩
 · rw[z3b hrow]; rfl
 · rw[z5b,List.length_append]
   exact hv.kept hst (.inr (z0o hv hrow (by decide)))
 · exact (hst.block g (z00 hr6) (fun e=>hbg (by injection e))).trans hr6
 · exact (z3c hs.rs h.slots hg).setCell (p:=⟨b,2,none⟩) h.rb _
def SLayP (l:List Fld)(w:World)(e:Ending)(w':World):Prop :=
 ∃v1,e= .returned (layV l v1)∧w'.ownsRow w.heap.size slotT 1 v1 l.length (z1b (layF l ps0).1)∧Below w.heap.size w w'
theorem z12 (A:Option Addr)(c:Nat)(l:List Fld)(w:World)(h1w:1<w.heap.size)(h:Flds w A l)(hok:z14 l=true) :
 Calls Tryz.prog 35 #[.slice A l.length c] w (SLayP l w):=by
 obtain ⟨i0,hi,hz0,hz1,hz2⟩:=info_parts zdw;have HF:=hid h;have HOK:=hid hok;have hl12:=z0n hok;have HK:=hid (heap_alloc_new w (.cells #[.int .i64 0,.int .i64 0,.slice none 0 0,.int .i64 0] 37));have hal:Below (w.heap.size+1) (w.alloc (.cells #[.int .i64 0,.int .i64 0,.slice none 0 0,.int .i64 0] 37)) (w.alloc (.cells #[.int .i64 0,.int .i64 0,.slice none 0 0,.int .i64 0] 37)):=Below.refl _ _;have hsl:=(Sl.made (w.alloc (.cells #[.int .i64 0,.int .i64 0,.slice none 0 0,.int .i64 0] 37)) (w.heap.size+1) (by simp)).alloc (.cells #[.int .i64 0,.int .i64 0,.slice none 0 0,.int .i64 0] 37);rw[show (w.alloc (.cells #[.int .i64 0,.int .i64 0,.slice none 0 0,.int .i64 0] 37)).heap.size=w.heap.size+1 by simp] at hsl;have HSL:=hid hsl;clear h hok hsl hal;go_enter Tryz.func35,Tryz.ntmps35;go_wp2
 go_loopw [5] (fun i wr=>∃k:Nat,i= .int .i64 k∧k≤l.length∧Hid (∃v v1 v2,Out wr (w.heap.size+1) (w.heap.size+1+1) v (layF (l.take k) ps0).1∧Sl wr (w.heap.size+1) (w.heap.size+1) v1 v2 (layF (l.take k) ps0).2)∧Hid (Below (w.heap.size+1) (w.alloc (.cells #[.int .i64 0,.int .i64 0,.slice none 0 0,.int .i64 0] 37)) wr)) (fun i _=>l.length-(intOf i).toNat)
 case atStart =>
  refine ⟨0,rfl,by omega,hid ⟨.slice none 0 0,_,_,⟨?_,by omega,World.ownsRow_nil _ _ _ _⟩,HSL.out⟩,hid (((Below.refl _ _).alloc (by simp) _).alloc (by simp) _)⟩;have:=heap_alloc_new ((w.alloc (.cells #[.int .i64 0,.int .i64 0,.slice none 0 0,.int .i64 0] 37)).alloc (.cells #[.int .i64 0,.int .i64 0,.int .i64 0,.int .i64 0,.int .i64 0,.int .i64 0,.int .i64 0,.int .i64 0,.int .i64 (-1),.int .i64 0,.slice none 0 0,.slice none 0 0,.int .i64 (-1)] layT)) (.cells #[.int .i64 0,.int .i64 0,.slice none 0 0,.int .i64 0] 37);rw[show ((w.alloc (.cells #[.int .i64 0,.int .i64 0,.slice none 0 0,.int .i64 0] 37)).alloc (.cells #[.int .i64 0,.int .i64 0,.int .i64 0,.int .i64 0,.int .i64 0,.int .i64 0,.int .i64 0,.int .i64 0,.int .i64 (-1),.int .i64 0,.slice none 0 0,.slice none 0 0,.int .i64 (-1)] layT)).heap.size=w.heap.size+1+1 by simp] at this;exact this
 case round =>
  obtain ⟨k,rfl,hk,HP,HB⟩:=hrel
  by_cases hlt2:k<l.length
  · obtain ⟨x,rfl,hxb,hx⟩:=HF.out.at2 hlt2
    have hx2:=(hx.below ((Below.refl w.heap.size w).alloc (Nat.le_refl _) (.cells #[.int .i64 0,.int .i64 0,.slice none 0 0,.int .i64 0] 37)) (by rw[z05]; exact hxb)).below HB.out (by rw[z05]; omega);have hsz:=z2j HOK.out k hlt2;have HTK:=hid (zez l k hlt2);have HBD:=hid (zas l k hk);have HLEN:=hid (zhz l k hk);obtain ⟨v,v1,v2,ho,hs⟩:=HP.out;generalize (layF (l.take k) ps0).2=s at ho hs HTK HBD;generalize (layF (l.take k) ps0).1=sl at ho hs HTK HLEN;generalize l[k]=f at hx2 hsz HTK;obtain ⟨z,fc,el⟩:=f;obtain ⟨c0,c1,c2⟩:=hx2;obtain ⟨hz1',hz6'⟩:=hsz;have hA2:=ho.cells.2.2.1
    have hsll:sl.length≤12:=by have:=HLEN.out; omega
    obtain ⟨A1,cp1,rfl⟩:=z0h ho.slots;have HO:=hid ho;have HS:=hid hs
    have hk12:k≤12:=by omega
    have h1R:1<w.heap.size+1:=by omega
    have hwr:=hs.rs;have hlo:=z00 ho.row;clear hx hxb ho hs;go_wp2
    go_region_law (first
     | (go_simp; go_at_call 64; refine (zi5 (w.heap.size+1) (w.heap.size+1) k v1 v2 s h1R HBD.out hk12 z fc el hz1' hz6' _ (by first | exact HS.out | exact HS.out.drew)).mono ?_; rintro e w5 ⟨v1',v2',rfl,hs5,hb5,hf5⟩; have HO5:Hid (Out w5 (w.heap.size+1) (w.heap.size+1+1) (.slice A1 sl.length cp1) sl):=(by first | exact hid (HO.out.kept HS.out hb5 hf5) | exact hid (HO.out.drew.kept HS.out.drew hb5 hf5)); have d2:=HO5.out.cells.2.2.1; have d2a:=(fun o=>(HO5.out.alloc o).cells.2.2.1); have hr5:=hs5.rs; have hlo5:=z00 HO5.out.row; have HS5:=hid hs5; have HB5:=hid hb5; clear hs5 hb5 hf5)
     | (refine z3f rfl (.tmp 16) (.tmp 24) 35 rfl (w.heap.size+1) slotT i0 (.agg #[.int .i64 0]) 1 8 Tryz.underlying35 hi hz0 hz1 hz2 rfl (by decide) (.slice A1 sl.length cp1) sl.length _ (by simp[Act.eval]) (HO5.out.slots.alloc _) ⟨w5.heap.size,0,none⟩ 1 1 [_] (by simp[Act.eval]) rfl (cell_one_new _ _ _) (by simp[Value.oneCell']) (by unfold maxLen; omega) (by omega) (by simp; omega) ?_; intro v' w6 hown6 hgrow6; obtain ⟨A',cap',rfl⟩:=z0h hown6.out; have r6:=HO5.out.grown_row hgrow6.out; have f6':=z03 r6 2; have c6':w6.cell? ⟨w.heap.size+1+1,2,none⟩=some (.slice A1 sl.length cp1):=(by rw[cell_of_row _ _ _ _ _ _ r6]; rfl); clear r6))
    all_goals
     have hdn:=HO5.out.done (a:=(z11 ⟨z,fc,el⟩ s).1) HS5.out hgrow6.out hown6.out;have HPD:=hid hdn.1;have HSD:=hid hdn.2.1;have HBN:=hid (HB.out.trans ((z67 _ _).trans (HB5.out.trans hdn.2.2)));clear hdn hown6 hgrow6 d2 d2a f6' c6' hA2;go_wp2
     go_roundw
     case rel=>exact ⟨k+1,by go_num,by omega,by rw[HTK.out]; exact hid ⟨_,_,_,HPD.out,HSD.out⟩,HBN⟩
     case measure=>simp[intOf]; omega
  · obtain rfl:k=l.length:=by omega
    have hkw:wr.heap[w.heap.size]? =some (.cells #[.int .i64 0,.int .i64 0,.slice none 0 0,.int .i64 0] 37 (0,0)):=(HB.out.block w.heap.size (by omega)).trans (heap_alloc_new _ _);have htl:l.take l.length=l:=List.take_of_length_le (Nat.le_refl _);rw[htl] at HP;obtain ⟨v,v1,v2,ho,hs⟩:=HP.out;obtain ⟨o0,o1,o2,o3⟩:=ho.cells;obtain ⟨p0,p1, -, -, -, -, -, -,p8, -⟩:=hs.cells;have hv:=ho.slots;rw[z0a] at hv;obtain ⟨A1,cp1,rfl⟩:=z0h hv;have fo:=z03 ho.row;obtain ⟨g0,g1,g2,g3⟩:=z0p hkw;have fz:=z03 hkw;have hltw:=z00 hkw;have HKW:=hid hkw;have HV:=hid hv;have HOR:=hid ho.row;have HSR:=hid hs.row;clear ho hs hkw hv htl;go_wp2
    obtain ⟨w3,hw3⟩:∃w3,w3=(((wr.setCell ⟨w.heap.size+1+1,0,none⟩ (.int .i64 ((layF l ps0).2.ls.words:Int))).setCell ⟨w.heap.size+1+1,1,none⟩ (.int .i64 ((layF l ps0).2.ptrs:Int))).setCell ⟨w.heap.size+1+1,3,none⟩ (.int .i64 (layF l ps0).2.tag)):=⟨_,rfl⟩
    have hg3:wr.grownBy w3 (some (w.heap.size+1+1)):=by rw[hw3]; exact z3i (z3i (z1g _ _ 0 _) (z1g _ _ 1 _)) (z1g _ _ 3 _)
    rw[← hw3];have hk3:w3.heap[w.heap.size]? =some (.cells #[.int .i64 0,.int .i64 0,.slice none 0 0,.int .i64 0] 37 (0,0)):=(hg3.block _ hltw (fun e=>by injection e; omega)).trans HKW.out;obtain ⟨wf,e,hr,hg⟩:=zi2 hk3 (.int .i64 ((layF l ps0).2.ls.words:Int)) (.int .i64 ((layF l ps0).2.ptrs:Int)) (.slice A1 l.length cp1) (.int .i64 (layF l ps0).2.tag);rw[e];obtain ⟨r0,r1,r2,r3⟩:=z0p hr;refine bodyPost_ret (v:=layV l (.slice A1 l.length cp1)) (by simp[results,Tryz.results35,go_sem,r0,r1,r2,r3,layV]) rfl ⟨_,rfl,?_,?_⟩
    · have h3:=HV.out.kept hg3 (.inr (z0o HV.out HOR.out (by decide)))
      exact (zan h3 (Nat.le_succ _)).kept hg (.inr (z0o h3 hk3 (by decide)))
    · have hb3:Below w.heap.size w w3:=z33 (((Below.refl w.heap.size w).alloc (Nat.le_refl _) _).trans (HB.out.mono (Nat.le_succ _))) hg3 (by omega) (Nat.le_of_lt hltw)
      exact z33 hb3 hg (Nat.le_refl _) (Nat.le_of_lt (z00 hk3))
theorem in_wi (c:Int):inB c 0 12800=wiB c 12801:=by unfold inB wiB; rw[Bool.eq_iff_iff]; simp; omega
theorem zje (m:Nat)(s c:Int)(d:ByteArray)(A B:Option Addr)(lp cp ci:Nat)(is:List Nd)(w:World)(S:Nat→Prop)(_hn:NdsAt w S m B is)(hdm:d.size≤maxLen)(_hlm:is.length≤2000000)(_hpm:lp≤2000000)(hs0:0≤s)(hs5:s≤5)(hw:wiB c 12801=true) :
 Calls Tryz.prog 118 #[.agg #[.int .i64 2,.string d,.slice A lp cp,.int .i64 s,.int .i64 c,.slice B is.length ci]] w fun e w'=>e= .returned (.bool (listB 2 s c d lp is.length (z0i is)))∧Below w.heap.size w w':=by
 obtain ⟨hc0,hc1⟩:=z8t hw;have HLN:Hid (listB 2 s c d lp is.length (z0i is)=(bitsB d (c*bz s)&&(decide (lp=0)&&decide (is.length=0)))):=hid (by unfold listB; rw[hw,if_pos ⟨hs0,hs5⟩]; simp);have HS7:Hid (inB s 0 7=true):=hid (by simp[inB]; omega);have HW:Hid (inB c 0 12800=true):=hid (by rw[in_wi]; exact hw);have HPL:=hid (fun W=>zir 2 s c d A B lp cp is.length ci W hs0 hs5 hc0 (by omega) hdm)
 have z6:(s==6)=false:=by simp; omega
 have z7:(s==7)=false:=by simp; omega
 clear _hn hw hdm _hlm _hpm hs0 hs5 hc0 hc1;generalize bitsB d (c*bz s)=bb at *
 by_cases hp:lp=0
 · have hpb:((lp:Int)==0)=true:=by rw[hp]; rfl
   by_cases hi:is.length=0
   · have hib:((is.length:Int)==0)=true:=by rw[hi]; rfl
     have HX:Hid (listB 2 s c d lp is.length (z0i is)=bb):=hid (by rw[HLN.out,hp,hi]; simp);clear hp hi;go_enter Tryz.func118,Tryz.ntmps118
     go_wp2_with (first | (go_at_call 34; go_must (refine (z0t _ _ _ _).mono ?_); rintro e w1 ⟨rfl,rfl⟩; first | rw[HS7.out] | rw[HW.out]) | (go_at_call 139; go_must (with_reducible refine (HPL.out _).mono ?_); rintro e w2 ⟨rfl,hb2⟩))
     go_ret;exact ⟨by rw[HX.out]; rfl,((Below.refl _ _).alloc (Nat.le_refl _) _).trans (hb2.mono (by simp))⟩
   · have hib:((is.length:Int)==0)=false:=by rw[beq_eq_false_iff_ne]; omega
     have HX:Hid (listB 2 s c d lp is.length (z0i is)=false):=hid (by rw[HLN.out]; simp[hi]);clear hp hi;go_enter Tryz.func118,Tryz.ntmps118
     go_wp2_with (go_at_call 34; go_must (refine (z0t _ _ _ _).mono ?_); rintro e w1 ⟨rfl,rfl⟩; first | rw[HS7.out] | rw[HW.out])
     go_ret;exact ⟨by rw[HX.out]; rfl,(Below.refl _ _).alloc (Nat.le_refl _) _⟩
 · have hpb:((lp:Int)==0)=false:=by rw[beq_eq_false_iff_ne]; omega
   have HX:Hid (listB 2 s c d lp is.length (z0i is)=false):=hid (by rw[HLN.out]; simp[hp]);clear hp;go_enter Tryz.func118,Tryz.ntmps118
   go_wp2_with (go_at_call 34; go_must (refine (z0t _ _ _ _).mono ?_); rintro e w1 ⟨rfl,rfl⟩; first | rw[HS7.out] | rw[HW.out])
   go_ret;exact ⟨by rw[HX.out]; rfl,(Below.refl _ _).alloc (Nat.le_refl _) _⟩
theorem zjd (m:Nat)(c:Int)(d:ByteArray)(A B:Option Addr)(lp cp ci:Nat)(is:List Nd)(w:World)(S:Nat→Prop)(_hn:NdsAt w S m B is)(_hdm:d.size≤maxLen)(_hlm:is.length≤2000000)(_hpm:lp≤2000000)(hw:wiB c 12801=true) :
 Calls Tryz.prog 118 #[.agg #[.int .i64 2,.string d,.slice A lp cp,.int .i64 6,.int .i64 c,.slice B is.length ci]] w fun e w'=>e= .returned (.bool (listB 2 6 c d lp is.length (z0i is)))∧Below w.heap.size w w':=by
 have HLN:Hid (listB 2 6 c d lp is.length (z0i is)=decide (d.size=0∧(lp:Int)=c∧is.length=0)):=hid (by unfold listB; rw[hw,Bool.eq_iff_iff]; simp);have hse:=z1t d;have HS7:Hid (inB 6 0 7=true):=hid (by decide);have HW:Hid (inB c 0 12800=true):=hid (by rw[in_wi]; exact hw);clear hw _hn;go_enter Tryz.func118,Tryz.ntmps118
 go_wp2_with (go_at_call 34; go_must (refine (z0t _ _ _ _).mono ?_); rintro e w1 ⟨rfl,rfl⟩; first | rw[HS7.out] | rw[HW.out])
 all_goals go_ret
 all_goals refine ⟨z0f ?_,(Below.refl _ _).alloc (Nat.le_refl _) _⟩
 all_goals (rw[HLN.out,Bool.eq_iff_iff]; simp_all)
theorem zkq (m:Nat)(c:Int)(d:ByteArray)(A B:Option Addr)(lp cp ci:Nat)(is:List Nd)(w:World)(S:Nat→Prop)(hn:NdsAt w S m B is)(_hdm:d.size≤maxLen)(hlm:is.length≤2000000)(_hpm:lp≤2000000)(hw:wiB c 12801=true) :
 Calls Tryz.prog 118 #[.agg #[.int .i64 2,.string d,.slice A lp cp,.int .i64 7,.int .i64 c,.slice B is.length ci]] w fun e w'=>e= .returned (.bool (listB 2 7 c d lp is.length (z0i is)))∧Below w.heap.size w w':=by
 have HLN:Hid (listB 2 7 c d lp is.length (z0i is)=(decide (d.size=0∧lp=0∧(is.length:Int)=c)&&z0i is)):=hid (by unfold listB; rw[hw,Bool.eq_iff_iff]; simp[and_assoc]);have HFALSE:Hid (z0i is=false→listB 2 7 c d lp is.length (z0i is)=false):=hid (fun h=>by rw[HLN.out,h,Bool.and_false]);have hse:=z1t d;have HS7:Hid (inB 7 0 7=true):=hid (by decide);have HW:Hid (inB c 0 12800=true):=hid (by rw[in_wi]; exact hw);have hba:=(Below.refl w.heap.size w).alloc (Nat.le_refl _) (.cells #[.int .i64 2,.string d,.slice A lp cp,.int .i64 7,.int .i64 c,.slice B is.length ci] nodeT);have HF:=hid (NdsAt.succ _ _ _ (hn.below hba));have HBW:=hid hba;have HR:=hid (heap_alloc_new w (.cells #[.int .i64 2,.string d,.slice A lp cp,.int .i64 7,.int .i64 c,.slice B is.length ci] nodeT))
 have hsz:w.heap.size<(w.alloc (.cells #[.int .i64 2,.string d,.slice A lp cp,.int .i64 7,.int .i64 c,.slice B is.length ci] nodeT)).heap.size:=by simp
 clear hw hn hba;go_enter Tryz.func118,Tryz.ntmps118
 go_wp2_with (go_at_call 34; go_must (refine (z0t _ _ _ _).mono ?_); rintro e w1 ⟨rfl,rfl⟩; first | rw[HS7.out] | rw[HW.out])
 generalize w.alloc (.cells #[.int .i64 2,.string d,.slice A lp cp,.int .i64 7,.int .i64 c,.slice B is.length ci] nodeT)=W at *
 go_loopw [3] (fun i wr=>∃k:Nat,i= .int .i64 k∧k≤is.length∧Hid ((is.take k).all (fun n=>itemB n (is.headD default))=true)∧Hid (Below W.heap.size W wr)) (fun i _=>is.length-(intOf i).toNat)
 case atStart=>exact ⟨0,rfl,by omega,hid rfl,hid (Below.refl _ _)⟩
 case round =>
  obtain ⟨k,rfl,hk,HA,HB⟩:=hrel;have hrw:=(HB.out.block _ hsz).trans HR.out;obtain ⟨e0,e1,e2,e3,e4,e5⟩:=z04 hrw
  by_cases hlt:k<is.length
  · clear e0 e1 e2 e3 e4
    obtain ⟨x,hd,rfl,hc,hn⟩:=(HF.out.below HB.out).at_ hlt;obtain ⟨x',hd0,hxx,hc0,hn0⟩:=(HF.out.below HB.out).at_ (k:=0) (by omega);obtain rfl:x=x':=Option.some.inj hxx;rw[zca] at hc0;have HFL:=hid (fun h=>z6r hlt h);have HTR:=hid (fun h=>z8h hlt HA.out h)
    have h0l:0<is.length:=by omega
    rw[zgw h0l] at hc0;generalize is.headD default=hdn at hc0 HFL HTR;generalize is[k]=n at hc HFL HTR;obtain ⟨c0,c1,c2,c3,c4,c5⟩:=hc;obtain ⟨-,d1,d2, -, -, -⟩:=hc0;have HI:=hid (fun W=>z6x n.kind n.size n.count n.data hd.A hd.B n.ptrs.length hd.a n.items.length hd.b W);clear hn hn0 hrw
    go_wp2_with fail
    have q0:=cell_regrown c0;have q1:=cell_regrown c1;have q2:=cell_regrown c2;have q3:=cell_regrown c3;have q4:=cell_regrown c4;have q5:=cell_regrown c5;have e5':=cell_regrown e5;have p1:=cell_regrown d1;have p2:=cell_regrown d2;cases hst:z1y n.kind n.data n.size n.count n.items.length
    · have HX:=hid (HFALSE.out (HFL.out (by simp[itemB,hst])))
      rw[hst] at HI;refine wp_region_quiet_below (by kernel_rfl) (by kernel_rfl) ?_
      repeat (first | go_big_quiet_step ((go_at_call 117; with_reducible exact Calls.regrown_of (HI.out _))) | quiet_step ((go_at_call 117; with_reducible exact Calls.regrown_of (HI.out _))))
      refine wpQuiet_nil ?_
      intro _ hw'
      obtain ⟨⟨dq,osq⟩,hw''⟩:=hw';subst hw'';have HB2:=hid (HB.out.trans ((below_regrown wr dq osq).mono HB.out.size));clear q0 q1 q2 q3 q4 q5 e5 e5' p1 p2 d1 d2 c0 c1 c2 c3 c4 c5;generalize «Sort».grow (redrawn wr dq) osq=W2 at *;go_wp2;go_ret;exact ⟨by rw[HX.out]; rfl,HBW.out.trans (HB2.out.mono HBW.out.size)⟩
    · rw[hst] at HI
      by_cases hz:n.data.size=hdn.data.size
      · have HZ:=hid hz
        have hzb:((n.data.size:Int)==(hdn.data.size:Int))=true:=by rw[hz]; simp
        have hzn:((n.data.size:Int) != (hdn.data.size:Int))=false:=by rw[hz]; simp
        clear hz
        by_cases hp:n.ptrs.length=hdn.ptrs.length
        · have HX:=hid (HTR.out (by simp[itemB,hst,HZ.out,hp]))
          have hpn:((n.ptrs.length:Int) != (hdn.ptrs.length:Int))=false:=by rw[hp]; simp
          clear hp;refine wp_region_quiet_below (by kernel_rfl) (by kernel_rfl) ?_
          repeat (first | go_big_quiet_step ((go_at_call 117; with_reducible exact Calls.regrown_of (HI.out _))) | quiet_step ((go_at_call 117; with_reducible exact Calls.regrown_of (HI.out _))))
          refine wpQuiet_nil ?_
          intro _ hw'
          obtain ⟨⟨dq,osq⟩,hw''⟩:=hw';subst hw'';have HB2:=hid (HB.out.trans ((below_regrown wr dq osq).mono HB.out.size));clear q0 q1 q2 q3 q4 q5 e5 e5' p1 p2 d1 d2 c0 c1 c2 c3 c4 c5;generalize «Sort».grow (redrawn wr dq) osq=W2 at *;go_wp2
          go_roundw
          case rel=>exact ⟨k+1,by go_num,by omega,HX,HB2⟩
          case measure=>simp[intOf]; omega
        · have HX:=hid (HFALSE.out (HFL.out (by simp[itemB,hst,HZ.out,hp])))
          have hpn:((n.ptrs.length:Int) != (hdn.ptrs.length:Int))=true:=by simp; omega
          clear hp;refine wp_region_quiet_below (by kernel_rfl) (by kernel_rfl) ?_
          repeat (first | go_big_quiet_step ((go_at_call 117; with_reducible exact Calls.regrown_of (HI.out _))) | quiet_step ((go_at_call 117; with_reducible exact Calls.regrown_of (HI.out _))))
          refine wpQuiet_nil ?_
          intro _ hw'
          obtain ⟨⟨dq,osq⟩,hw''⟩:=hw';subst hw'';have HB2:=hid (HB.out.trans ((below_regrown wr dq osq).mono HB.out.size));clear q0 q1 q2 q3 q4 q5 e5 e5' p1 p2 d1 d2 c0 c1 c2 c3 c4 c5;generalize «Sort».grow (redrawn wr dq) osq=W2 at *;go_wp2;go_ret;exact ⟨by rw[HX.out]; rfl,HBW.out.trans (HB2.out.mono HBW.out.size)⟩
      · have HX:=hid (HFALSE.out (HFL.out (by simp[itemB,hst,hz])))
        have hzb:((n.data.size:Int)==(hdn.data.size:Int))=false:=by simp; omega
        have hzn:((n.data.size:Int) != (hdn.data.size:Int))=true:=by simp; omega
        refine wp_region_quiet_below (by kernel_rfl) (by kernel_rfl) ?_
        repeat (first | go_big_quiet_step ((go_at_call 117; with_reducible exact Calls.regrown_of (HI.out _))) | quiet_step ((go_at_call 117; with_reducible exact Calls.regrown_of (HI.out _))))
        refine wpQuiet_nil ?_
        intro _ hw'
        obtain ⟨⟨dq,osq⟩,hw''⟩:=hw';subst hw'';have HB2:=hid (HB.out.trans ((below_regrown wr dq osq).mono HB.out.size));clear q0 q1 q2 q3 q4 q5 e5 e5' p1 p2 d1 d2 c0 c1 c2 c3 c4 c5;generalize «Sort».grow (redrawn wr dq) osq=W2 at *;go_wp2;go_ret;exact ⟨by rw[HX.out]; rfl,HBW.out.trans (HB2.out.mono HBW.out.size)⟩
  · obtain rfl:k=is.length:=by omega
    rw[List.take_of_length_le (Nat.le_refl _)] at HA;have HIB:Hid (z0i is=true):=hid HA.out;have HX:Hid (listB 2 7 c d lp is.length (z0i is)=decide (d.size=0∧lp=0∧(is.length:Int)=c)):=hid (by rw[HLN.out,HIB.out,Bool.and_true]);have HBE:=hid (HBW.out.trans (HB.out.mono HBW.out.size));go_wp2
    all_goals go_ret
    all_goals refine ⟨?_,HBE.out⟩
    all_goals rw[HX.out]
    all_goals exact z0f (by rw[Bool.eq_iff_iff]; simp_all)
theorem zki (m:Nat)(k s c:Int)(d:ByteArray)(A B:Option Addr)(lp cp ci:Nat)(is:List Nd)(w:World)(S:Nat→Prop)(hn:NdsAt w S m B is)(hdm:d.size≤maxLen)(hlm:is.length≤2000000)(hpm:lp≤2000000) :
 Calls Tryz.prog 118 #[.agg #[.int .i64 k,.string d,.slice A lp cp,.int .i64 s,.int .i64 c,.slice B is.length ci]] w fun e w'=>e= .returned (.bool (listB k s c d lp is.length (z0i is)))∧Below w.heap.size w w':=by
 by_cases hk:k=2
 · subst hk
   by_cases hs:0≤s∧s≤7
   · cases hw:wiB c 12801
     · have HX:Hid (listB 2 s c d lp is.length (z0i is)=false):=hid (by unfold listB; rw[hw]; simp)
       have HS7:Hid (inB s 0 7=true):=hid (by simp[inB]; omega);have HW:Hid (inB c 0 12800=false):=hid (by rw[in_wi]; exact hw);clear hw hn hs;go_enter Tryz.func118,Tryz.ntmps118
       go_wp2_with (go_at_call 34; go_must (refine (z0t _ _ _ _).mono ?_); rintro e w1 ⟨rfl,rfl⟩; first | rw[HS7.out] | rw[HW.out])
       go_ret;exact ⟨by rw[HX.out]; rfl,(Below.refl _ _).alloc (Nat.le_refl _) _⟩
     · by_cases h5:s≤5
       · exact zje m s c d A B lp cp ci is w S hn hdm hlm hpm hs.1 h5 hw
       · have h67:s=6∨s=7:=by omega
         rcases h67 with rfl | rfl
         · exact zjd m c d A B lp cp ci is w S hn hdm hlm hpm hw
         · exact zkq m c d A B lp cp ci is w S hn hdm hlm hpm hw
   · have HX:Hid (listB 2 s c d lp is.length (z0i is)=false):=hid (by unfold listB; rw[if_neg (by omega),if_neg (by omega),if_neg (by omega)]; simp)
     have HS7:Hid (inB s 0 7=false):=hid (by simp[inB]; omega);have HW:=HS7;clear hn hs;go_enter Tryz.func118,Tryz.ntmps118
     go_wp2_with (go_at_call 34; go_must (refine (z0t _ _ _ _).mono ?_); rintro e w1 ⟨rfl,rfl⟩; first | rw[HS7.out] | rw[HW.out])
     go_ret;exact ⟨by rw[HX.out]; rfl,(Below.refl _ _).alloc (Nat.le_refl _) _⟩
 · have HX:Hid (listB k s c d lp is.length (z0i is)=false):=hid (by unfold listB; simp[hk])
   clear hn;go_enter Tryz.func118,Tryz.ntmps118;go_wp2;go_ret;exact ⟨by rw[HX.out]; rfl,(Below.refl _ _).alloc (Nat.le_refl _) _⟩
end Go.Proofs.YtblcibgphccfkaaGreatDoor
