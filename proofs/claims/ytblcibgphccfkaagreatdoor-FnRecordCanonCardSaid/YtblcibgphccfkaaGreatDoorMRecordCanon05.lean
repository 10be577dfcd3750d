/- Texts of the proof of the law FnRecordCanon, side by side: part 5. -/
import Derived.Laws.AppendOwn
import Derived.Test.YtblcibgphccfkaaGreatDoorMRecordCanon04
set_option maxHeartbeats 8000000
set_option maxRecDepth 100000
open Go.Lib (hid)
namespace Go.Proofs.YtblcibgphccfkaaGreatDoor
open Go.RowKit
theorem rep8 (l:List UInt8)(k:Nat):(⟨(repL l k).toArray⟩:ByteArray).size=l.length*k:=by simp[ByteArray.size,z3g]
theorem z8s (R n:Nat)(w:World)(h:Rd w R n)(hn:n≤999000) :
 Calls Tryz.prog 146 #[.pointer (some ⟨R,0,none⟩)] w (StrP (fun u=>u.size=8) R (n+3) w):=by
 go_enter Tryz.func146,Tryz.ntmps146
 go_wp2_with (go_at_call 95; go_must (refine (z4y _ _ _ (by decide) (by decide) (by decide) (by decide)).mono ?_); rintro e w' ⟨rfl,rfl⟩)
 refine (z0q R n _ _ h (by omega)).mono ?_;rintro e w1 ⟨v,⟨hv0,hv1⟩,rfl,hp1⟩
 have hv:v≤255:=by omega
 clear hv1
 go_wp2_with fail
 refine (z0q R (n+1) _ _ hp1.1 (by omega)).mono ?_;rintro e w2 ⟨u,⟨hu0,hu1⟩,rfl,hp2⟩
 have hu:u≤255:=by omega
 clear hu1
 go_wp2_with fail
 refine (z5i _ 8 _ (by decide) (by decide)).mono ?_;rintro e w3 ⟨rfl,hb3⟩
 go_wp2_with fail
 have hp3:z0e w R (n+2) w3:=(hp1.then hp2).below hb3;have hR:=hp3.1.lt
 refine (zlr R (n+2) w3.heap.size 8 8 (fun u=>u.size=8) _ _ (by exact hp3.1.below ((Below.refl _ _).alloc (Nat.le_refl _) _)) (by omega) (by exact Lits.new _ _ _ _) (by
  intro v hv
  simp at hv
  rcases hv with rfl | rfl | rfl | rfl | rfl | rfl | rfl
  all_goals exact ⟨_,rfl,by simp[ByteArray.size,z3g,z2s]⟩) (by omega) (by simp) (by omega) (by omega)).mono ?_
 rintro e w4 ⟨x,hx,rfl,hp4⟩;go_wp2;go_ret;exact ⟨x,hx,rfl,(hp3.below ((Below.refl _ _).alloc (Nat.le_refl _) _)).then hp4⟩
theorem zcd (R n:Nat)(most:Nat)(w:World)(h:Rd w R n)(hn:n≤900000)(hm:most≤10000) :
 Calls Tryz.prog 144 #[.pointer (some ⟨R,0,none⟩),.int .i64 most] w (StrP (fun u=>∃j,j≤most∧u.size=8*j) R (n+1+3*most) w):=by
 go_enter Tryz.func144,Tryz.ntmps144
 go_wp2_with fail
 refine (z0q R n _ _ h (by omega)).mono ?_;rintro e w1 ⟨v,⟨hv0,hv1⟩,rfl,hp1⟩;obtain ⟨q,rfl⟩:=Int.eq_ofNat_of_zero_le hv0
 have hq:q≤most:=by omega
 clear hv1
 go_wp2_with fail
 go_loopw [5,6] (fun o i wr=>∃(j m:Nat) (u:ByteArray),o= .string u∧i= .int .i64 m∧j+m=q∧Hid (u.size=8*j)∧Hid (z0e w R (n+1+3*j) wr)) (fun _ i _=>(intOf i).toNat)
 case atStart=>exact ⟨0,q,ByteArray.empty,rfl,rfl,by omega,rfl,hp1⟩
 case round =>
  obtain ⟨j,m,u,rfl,rfl,hjm,HU,HP⟩:=hrel;have hu:=HU.out;have HJ:=hid hjm
  have hjq:j+m≤q:=by omega
  have hul:u.size≤80000:=by omega
  clear hu hjm
  by_cases h0:m=0
  · subst h0
    go_wp2;go_ret;exact ⟨u,⟨j,by omega,HU.out⟩,rfl,HP.out.mono (by omega)⟩
  · have h1:1≤m:=by omega
    go_wp2_with fail
    refine (z8s R (n+1+3*j) _ HP.out.1 (by omega)).mono ?_;rintro e w2 ⟨x,hx,rfl,hp2⟩
    have f1:¬9223372036854775807<u.size+x.size:=by omega
    have hs:(u++x).size=8*(j+1):=by have:=HU.out; simp; omega
    have hp:z0e w R (n+1+3*(j+1)) w2:=HP.out.then (hp2.mono (by omega))
    have HX:=hid hx;have HS:=hid hs;clear hx hs;go_wp2
    go_roundw
    case rel=>exact ⟨j+1,m-1,_,rfl,by go_num,by have:=HJ.out; omega,HS,hp⟩
    case measure=>simp[intOf]; omega
theorem z6l (R n g len cap:Nat)(S:Int→Prop)(vs:List Value)(w:World)(h:Rd w R n)(hn:n≤1000000)(hl:Lits w g vs)(hS:∀v∈vs,∃x,v= .int .i64 x∧S x)(hg:g≠R)(hlen:vs.length=len)(hp:0<len)(h1:len≤1000) :
 Calls Tryz.prog 45 #[.pointer (some ⟨R,0,none⟩),.slice (some ⟨g,0,none⟩) len cap] w (IntP S R (n+1) w):=by
 have HL:=hid hlen;have HS:=hid hS;clear hlen hS;go_enter Tryz.func45,Tryz.ntmps45
 go_wp2_with fail
 refine (z0q R n _ _ h hn).mono ?_;rintro e w1 ⟨v,⟨hv0,hv1⟩,rfl,hpk⟩
 have hv:v<len:=by omega
 obtain ⟨k,rfl⟩:=Int.eq_ofNat_of_zero_le hv0
 have hk:k<vs.length:=by rw[HL.out]; omega
 obtain ⟨x,hx,hm⟩:=HS.out vs[k] (List.getElem_mem hk);have hc:w1.cell? ⟨g,k,none⟩=some (.int .i64 x):=(hl.keeps hpk.2 hg).2 k _ (by rw[List.getElem?_eq_getElem hk,hx]);clear hk hv1 hx;go_wp2;go_ret;exact ⟨x,hm,rfl,hpk⟩
theorem z0g {w w1:World}{R n b:Nat}(h:z0e w R n w1)(hR:R<w.heap.size)(hb:w.heap.size≤b)(i:Nat)(v:Value):z0e w R n (w1.setCell ⟨b,i,none⟩ v):=by
 obtain ⟨⟨a,l,c,p,hp,hr,hc⟩,hk⟩:=h;have hs:=z5y w1.heap.size b w1 i v;refine ⟨⟨a,l,c,p,hp,(hs.block R (z00 hr) (by omega)).trans hr,hc.keeps hs (Nat.le_of_lt (z00 hr)) (by omega)⟩,?_⟩;exact ⟨hs.os.trans hk.os,hs.tape.trans hk.tape,hs.output.trans hk.output,Nat.le_trans hk.size hs.size,fun k hk1 hk2=>(hs.block k (Nat.lt_of_lt_of_le hk1 hk.size) (by omega)).trans (hk.block k hk1 hk2)⟩
theorem z3a {w w1:World}{R n b:Nat}{T:TypeId}{a0 a1 a2 a3 a4 a5:Value}(h:w1.heap[b]? =some (.cells #[a0,a1,a2,a3,a4,a5] T (0,0)))(hp:z0e w R n w1)(hR:R<w.heap.size)(hb:w.heap.size≤b)(v0 v1 v2 v3 v4 v5:Value) :
 ∃wf,((((((w1.setCell ⟨b,0,none⟩ v0).setCell ⟨b,1,none⟩ v1).setCell ⟨b,2,none⟩ v2).setCell ⟨b,3,none⟩ v3).setCell ⟨b,4,none⟩ v4).setCell ⟨b,5,none⟩ v5)=wf∧wf.heap[b]? =some (.cells #[v0,v1,v2,v3,v4,v5] T (0,0))∧z0e w R n wf∧Upon (b+1) w1 wf :=
 ⟨_,rfl,z06 (z06 (z06 (z06 (z06 (z06 h 0 v0) 1 v1) 2 v2) 3 v3) 4 v4) 5 v5,z0g (z0g (z0g (z0g (z0g (z0g hp hR hb 0 v0) hR hb 1 v1) hR hb 2 v2) hR hb 3 v3) hR hb 4 v4) hR hb 5 v5,
  ((((((Upon.refl (b+1) w1).setCell (p:=⟨b,0,none⟩) (by simp) v0).setCell (p:=⟨b,1,none⟩) (by simp) v1).setCell (p:=⟨b,2,none⟩) (by simp) v2).setCell (p:=⟨b,3,none⟩) (by simp) v3).setCell (p:=⟨b,4,none⟩) (by simp) v4).setCell (p:=⟨b,5,none⟩) (by simp) v5⟩
theorem z0k {w w1:World}{R n b:Nat}{o:Obj}(h:w.heap[b]? =some o)(hp:z0e w R n w1)(hne:b≠R):w1.heap[b]? =some o:=(hp.2.block b (z00 h) hne).trans h
def SB (T:Nat)(n:Nd):Prop:=(T≤259259→n.data.size≤1100)∧(n.kind=2→n.data.size≤1592)∧n.items.length≤1000
def TB (M:Nat)(n:Nd)(T:Nat):Prop:=totN M n≤T∧SB T n
theorem SB.mono {T T':Nat}{n:Nd}(h:SB T n)(hT:T≤T'):SB T' n:=⟨fun h'=>h.1 (Nat.le_trans hT h'),h.2⟩
theorem SB.small {T:Nat}{n:Nd}(h:n.data.size≤1100)(hi:n.items.length≤1000):SB T n:=⟨fun _=>h,fun _=>Nat.le_trans h (by decide),hi⟩
def NdP (M T:Nat)(R k:Nat)(w:World)(e:Ending)(w':World):Prop:=∃(n:Nd) (h:Hd),e= .returned (.agg #[.int .i64 n.kind,.string n.data,.slice h.A n.ptrs.length h.a,.int .i64 n.size,.int .i64 n.count,.slice h.B n.items.length h.b])∧NdAt w' (FromC w' w.heap.size) M n h∧TB M n T∧z0e w R k w'
theorem zcp (R n:Nat)(w:World)(h:Rd w R n)(hn:n≤800000) :
 Calls Tryz.prog 123 #[.pointer (some ⟨R,0,none⟩)] w (NdP 0 1001 R (n+40) w):=by
 have hRw:=h.lt;have hq0:=h.self.below ((Below.refl w.heap.size w).alloc (Nat.le_refl _) (.cells #[.int .i64 0,.string { data:= #[] },.slice none 0 0,.int .i64 0,.int .i64 0,.slice none 0 0] nodeT));have hr0:=heap_alloc_new w (.cells #[.int .i64 0,.string { data:= #[] },.slice none 0 0,.int .i64 0,.int .i64 0,.slice none 0 0] nodeT);have HQ0:=hid hq0;have HR0:=hid hr0;clear h hq0 hr0;go_enter Tryz.func123,Tryz.ntmps123
 go_wp2_with fail
 refine (z0q R n _ _ HQ0.out.1 (by omega)).mono ?_;rintro e w1 ⟨s,⟨hs0,hs1⟩,rfl,hp1⟩;have HQ1:=hid (HQ0.out.then hp1);have HR1:=hid (z0k HR0.out hp1 (by omega))
 have hs5:s≤5:=by omega
 clear hp1 hs1
 go_wp2_with fail
 refine (z0q R (n+1) _ _ HQ1.out.1 (by omega)).mono ?_;rintro e w2 ⟨c,⟨hc0,hc1⟩,rfl,hp2⟩;have HQ2:=hid (HQ1.out.then hp2);have HR2:=hid (z0k HR1.out hp2 (by omega))
 have hc11:c≤11:=by omega
 clear hp2 hc1;have hq3:=HQ2.out.below ((Below.refl w2.heap.size w2).alloc (Nat.le_refl _) (.cells #[.int .i64 2,.string { data:= #[] },.slice none 0 0,.int .i64 s,.int .i64 c,.slice none 0 0] nodeT));have HQ3:=hid hq3;have HB3:=hid (heap_alloc_new w2 (.cells #[.int .i64 2,.string { data:= #[] },.slice none 0 0,.int .i64 s,.int .i64 c,.slice none 0 0] nodeT));have hlt2:=z00 HR2.out;have hwl2:=HQ2.out.2.size;have hRl:=HQ2.out.1.lt;have HR3:=hid ((Below.heap_alloc w2 (.cells #[.int .i64 2,.string { data:= #[] },.slice none 0 0,.int .i64 s,.int .i64 c,.slice none 0 0] nodeT) _ hlt2).trans HR2.out);clear hq3
 go_wp2_with fail
 refine (zcd R (n+2) 12 _ HQ3.out.1 (by omega) (by decide)).mono ?_;rintro e w4 ⟨u,⟨j,hj,hju⟩,rfl,hp4⟩;have HQ4:=hid (HQ3.out.then hp4);have hr4:=z0k HR3.out hp4 (by omega);have hb4:=z0k HB3.out hp4 (by omega);have HR4:=hid hr4;have HB4:=hid hb4;have HJ:=hid hju;obtain ⟨c0,c1,c2,c3,c4,c5⟩:=z04 hb4;clear hp4 hju hr4 hb4
 go_wp2_with fail
 refine (z4y ⟨#[5]⟩ 96 _ (by decide) (by decide) (by decide) (by decide)).mono ?_;rintro e w5 ⟨rfl,rfl⟩
 have hrs:(⟨(repL (⟨#[5]⟩:ByteArray).data.toList (Int.toNat 96)).toArray⟩:ByteArray).size=96:=by rw[rep8]; rfl
 generalize (⟨(repL (⟨#[5]⟩:ByteArray).data.toList (Int.toNat 96)).toArray⟩:ByteArray)=rp at *
 have hts:(u++rp).size=8*j+96:=by rw[z1e,HJ.out,hrs]
 have f1:¬9223372036854775807<u.size+rp.size:=by have:=HJ.out; omega
 have HTX:=hid hts;clear hrs hts
 go_wp2_with fail
 have hts:=HTX.out;generalize u++rp=tx at *;refine (zmk tx s c _ hs0 hs5 hc0 hc11 (by omega) (by omega)).mono ?_;rintro e w6 ⟨dd,hdd,rfl,hb6⟩;have HQ6:=hid (HQ4.out.below hb6);have hr6:=(hb6.block _ (z00 HR4.out)).trans HR4.out;have hx6:=(hb6.block _ (z00 HB4.out)).trans HB4.out;have HX6:=hid hx6;have HR6:=hid hr6;have HDD:=hid hdd;clear c0 c1 c2 c3 c4 c5 hts f1 hb6 hdd;obtain ⟨c0,c1,c2,c3,c4,c5⟩:=z04 hx6;have cf:=z03 hx6
 have hz0:∀v k,(w6.setCell ⟨w2.heap.size,1,none⟩ v).cell? ⟨w.heap.size,k,none⟩=(#[.int .i64 0,.string { data:= #[] },.slice none 0 0,.int .i64 0,.int .i64 0,.slice none 0 0]:Array Value)[k]? :=fun v k=>cell_of_row _ _ _ _ _ _ ((Below.heap_setCell w6 ⟨w2.heap.size,1,none⟩ v w.heap.size (by simp; omega)).trans hr6)
 have hzf:∀v k,(w6.setCell ⟨w2.heap.size,1,none⟩ v).frozen? ⟨w.heap.size,k,none⟩=false:=fun v k=>z03 ((Below.heap_setCell w6 ⟨w2.heap.size,1,none⟩ v w.heap.size (by simp; omega)).trans hr6) k
 clear hx6 hr6
 go_wp2_with fail
 obtain ⟨wf,hwf,hrw,hpw,huw⟩:=z3a (w1:=w6.setCell ⟨w2.heap.size,1,none⟩ (.string dd)) (b:=w.heap.size) ((Below.heap_setCell w6 ⟨w2.heap.size,1,none⟩ (.string dd) w.heap.size (by simp; omega)).trans HR6.out) (z0g HQ6.out hRw (by omega) 1 (.string dd)) hRw (Nat.le_refl _) (.int .i64 2) (.string dd) (.slice none 0 0) (.int .i64 s) (.int .i64 c) (.slice none 0 0);rw[hwf];obtain ⟨e0,e1,e2,e3,e4,e5⟩:=z04 hrw
 exact bodyPost_ret (v:= .agg #[.int .i64 2,.string dd,.slice none 0 0,.int .i64 s,.int .i64 c,.slice none 0 0])
  (by simp[results,Tryz.results123,go_sem,e0,e1,e2,e3,e4,e5]) rfl
  ⟨.mk 2 dd [] s c [],⟨none,0,none,0⟩,rfl,⟨by show dd.size≤maxLen; have:=HDD.out; unfold maxLen; omega,rfl,rfl⟩,⟨by show dd.size+0+0≤1001; exact HDD.out,SB.small (by show dd.size≤1100; have:=HDD.out; omega) (show (0:Nat)≤1000 by decide)⟩,hpw.mono (by omega)⟩
def noneN (n:Nd):Bool:=noneB n.data n.ptrs.length n.size n.count n.items.length
def strN (n:Nd):Bool:=z1y n.kind n.data n.size n.count n.items.length
def formN (n:Nd):Bool:=decide (n.kind=0)&&noneN n||(strN n||listN n)
theorem zfu (m:Nat)(n:Nd)(h:Hd)(w:World)(S:Nat→Prop)(hn:NdAt w S m n h)(hlm:n.items.length≤2000000)(hpm:n.ptrs.length≤2000000) :
 Calls Tryz.prog 83 #[.agg #[.int .i64 n.kind,.string n.data,.slice h.A n.ptrs.length h.a,.int .i64 n.size,.int .i64 n.count,.slice h.B n.items.length h.b]] w fun e w'=>e= .returned (.bool (formN n))∧Below w.heap.size w w':=by
 have hba:=(Below.refl w.heap.size w).alloc (Nat.le_refl _) (.cells #[.int .i64 n.kind,.string n.data,.slice h.A n.ptrs.length h.a,.int .i64 n.size,.int .i64 n.count,.slice h.B n.items.length h.b] nodeT);have hr:=heap_alloc_new w (.cells #[.int .i64 n.kind,.string n.data,.slice h.A n.ptrs.length h.a,.int .i64 n.size,.int .i64 n.count,.slice h.B n.items.length h.b] nodeT)
 have hsz:w.heap.size<(w.alloc (.cells #[.int .i64 n.kind,.string n.data,.slice h.A n.ptrs.length h.a,.int .i64 n.size,.int .i64 n.count,.slice h.B n.items.length h.b] nodeT)).heap.size:=by simp
 have HN:=hid hn
 have HNO:Hid (∀W:World,Calls Tryz.prog 109 #[.agg #[.int .i64 n.kind,.string n.data,.slice h.A n.ptrs.length h.a,.int .i64 n.size,.int .i64 n.count,.slice h.B n.items.length h.b]] W fun e w'=>e= .returned (.bool (noneN n))∧Below W.heap.size W w'):=hid fun W=>z5o _ _ _ _ _ _ _ _ _ _ W
 have HST:Hid (∀W:World,Calls Tryz.prog 120 #[.agg #[.int .i64 n.kind,.string n.data,.slice h.A n.ptrs.length h.a,.int .i64 n.size,.int .i64 n.count,.slice h.B n.items.length h.b]] W fun e w'=>e= .returned (.bool (strN n))∧Below W.heap.size W w'):=hid fun W=>z6s _ _ _ _ _ _ _ _ _ _ W
 have HLI:Hid (∀W:World,Below w.heap.size w W→Calls Tryz.prog 121 #[.agg #[.int .i64 n.kind,.string n.data,.slice h.A n.ptrs.length h.a,.int .i64 n.size,.int .i64 n.count,.slice h.B n.items.length h.b]] W fun e w'=>e= .returned (.bool (listN n))∧Below W.heap.size W w'):=hid fun W hb=>zka m _ _ _ _ _ _ _ _ _ _ W S (hn.2.2.below hb) hn.1 hlm hpm
 have HF:Hid (formN n=(decide (n.kind=0)&&noneN n||(strN n||listN n))):=hid rfl;generalize noneN n=bn at *;generalize strN n=bs at *;generalize listN n=bl at *;generalize formN n=bf at *;have HBA:=hid hba;have HR:=hid hr;clear hn hba hr
 by_cases hk:n.kind=0
 · have hkb:(n.kind==0)=true:=by rw[hk]; rfl
   have hkd:decide (n.kind=0)=true:=by simpa using hk
   rw[hkd] at HF;clear hkd hk;go_enter Tryz.func83,Tryz.ntmps83
   go_wp2_with fail
   refine (HNO.out _).mono ?_;rintro e w1 ⟨rfl,hb1⟩;have HB1:=hid (HBA.out.trans (hb1.mono HBA.out.size));have hr1:=(hb1.block w.heap.size hsz).trans HR.out;have hlt1:=z00 hr1;have HR1:=hid hr1;obtain ⟨a0,a1,a2,a3,a4,a5⟩:=z04 hr1;clear hr1 hb1;cases bn
   · go_wp2_with fail
     clear a0 a1 a2 a3 a4 a5;refine (HST.out _).mono ?_;rintro e w2 ⟨rfl,hb2⟩;have HB2:=hid (HB1.out.trans (hb2.mono (by have:=(HB1.out).size; omega)));have hr2:=(hb2.block w.heap.size hlt1).trans HR1.out;have hlt2:=z00 hr2;have HR2:=hid hr2;obtain ⟨c0,c1,c2,c3,c4,c5⟩:=z04 hr2;clear hr2 hb2;cases bs
     · go_wp2_with fail
       refine (HLI.out _ HB2.out).mono ?_;rintro e w3 ⟨rfl,hb3⟩;have HB3:=hid (HB2.out.trans (hb3.mono HB2.out.size));clear hb3;go_wp2;go_ret;exact ⟨by rw[HF.out]; exact z0f (by simp),HB3.out⟩
     · go_wp2
       go_ret;exact ⟨by rw[HF.out]; exact z0f (by simp),HB2.out⟩
   · go_wp2
     go_ret;exact ⟨by rw[HF.out]; exact z0f (by simp),HB1.out⟩
 · have hkb:(n.kind==0)=false:=by simpa using hk
   have hkd:decide (n.kind=0)=false:=by simpa using hk
   rw[hkd] at HF;clear hkd hk;go_enter Tryz.func83,Tryz.ntmps83
   go_wp2_with fail
   refine (HST.out _).mono ?_;rintro e w2 ⟨rfl,hb2⟩;have HB2:=hid (HBA.out.trans (hb2.mono (by have:=(HBA.out).size; omega)));have hr2:=(hb2.block w.heap.size hsz).trans HR.out;have hlt2:=z00 hr2;have HR2:=hid hr2;obtain ⟨c0,c1,c2,c3,c4,c5⟩:=z04 hr2;clear hr2 hb2;cases bs
   · go_wp2_with fail
     refine (HLI.out _ HB2.out).mono ?_;rintro e w3 ⟨rfl,hb3⟩;have HB3:=hid (HB2.out.trans (hb3.mono HB2.out.size));clear hb3;go_wp2;go_ret;exact ⟨by rw[HF.out]; exact z0f (by simp),HB3.out⟩
   · go_wp2
     go_ret;exact ⟨by rw[HF.out]; exact z0f (by simp),HB2.out⟩
def ownB (n:Nd):Nat:=(n.data.size+7)/8+n.ptrs.length
def ownN (n:Nd):Nat:=ownB n+(if n.kind=2∧n.size=7 then 1 else 0)+(n.items.map ownB).sum
theorem zfe (l:List Nd)(k:Nat)(h:k<l.length):((l.take (k+1)).map ownB).sum=((l.take k).map ownB).sum+ownB l[k]:=z27 l ownB k h
theorem za8 (n:Nd)(h:Hd)(w:World)(hk:n.kind=1)(hi:n.items.length=0)(h1:n.data.size≤4000000)(h2:n.ptrs.length≤2000000) :
 Calls Tryz.prog 84 #[.agg #[.int .i64 n.kind,.string n.data,.slice h.A n.ptrs.length h.a,.int .i64 n.size,.int .i64 n.count,.slice h.B n.items.length h.b]] w fun e w'=>e= .returned (.int .i64 (ownB n:Nat))∧Below w.heap.size w w':=by
 have HE:Hid (((ownB n:Nat):Int)=((n.data.size:Int)+7)/8+n.ptrs.length):=hid (by unfold ownB; omega);go_enter Tryz.func84,Tryz.ntmps84;go_wp2
 go_loopw [3,29] (fun q i wr=>q= .int .i64 (((n.data.size:Int)+8-1)/8+n.ptrs.length)∧i= .int .i64 0∧Hid (Below w.heap.size w wr)) (fun _ _ _=>0)
 case atStart=>exact ⟨rfl,rfl,hid ((Below.refl _ _).alloc (Nat.le_refl _) _)⟩
 case round =>
  obtain ⟨rfl,rfl,HB⟩:=hrel;go_wp2;go_ret;refine ⟨by rw[HE.out]; exact z15 (by omega),HB.out⟩
theorem z0y {n:Nd}(h:formN n=true) :
 (n.kind=0∧n.data.size=0∧n.ptrs.length=0∧n.size=0∧n.count=0∧n.items.length=0) ∨
 (n.kind=1∧(n.data.size:Int)%8=0∧n.size=0∧n.count=0∧n.items.length=0) ∨
 (n.kind=2∧(0≤n.count∧n.count<12801)∧((0≤n.size∧n.size≤5∧bitsB n.data (n.count*bz n.size)=true∧n.ptrs.length=0∧n.items.length=0)∨(n.size=6∧n.data.size=0∧(n.ptrs.length:Int)=n.count∧n.items.length=0)∨(n.size=7∧n.data.size=0∧n.ptrs.length=0∧(n.items.length:Int)=n.count∧z0i n.items=true))):=by
 unfold formN noneN strN listN at h;rw[Bool.or_eq_true,Bool.or_eq_true] at h
 rcases h with h | h | h
 · left; simpa [noneB,and_assoc] using h
 · right; left; simpa [z1y] using h
 · right; right
   unfold listB at h;rw[Bool.and_eq_true,Bool.and_eq_true] at h;obtain ⟨h1,h2,h3⟩:=h;refine ⟨by simpa using h1,by simpa [wiB] using h2,?_⟩
   split at h3
   · rename_i hs
     left
     refine ⟨hs.1,hs.2,?_⟩
     simpa using h3
   · split at h3
     · rename_i hs
       right; left
       refine ⟨hs,?_⟩
       simpa using h3
     · split at h3
       · rename_i hs
         right; right
         refine ⟨hs,?_⟩
         simpa [and_assoc] using h3
       · cases h3
theorem zhc {l:List Nd}(h:z0i l=true):∀n∈l,n.kind=1∧(n.data.size:Int)%8=0∧n.items.length=0:=by
 intro n hn
 have:=List.all_eq_true.1 h n hn;unfold itemB at this;rw[Bool.and_eq_true] at this;have h1:=this.1
 simp[z1y] at h1
 exact ⟨h1.1,h1.2.1,by simpa using h1.2.2.2.2⟩
theorem zb8 {n:Nd}(h:formN n=true):∀x∈n.items,x.kind=1∧(x.data.size:Int)%8=0∧x.items.length=0:=by
 intro x hx
 have hne:n.items.length≠0:=by
  intro h0
  rw[List.eq_nil_of_length_eq_zero h0] at hx;cases hx
 rcases z0y h with h | h | ⟨_,_,h | h | h⟩
 · omega
 · omega
 · omega
 · omega
 · exact zhc h.2.2.2.2 x hx
theorem NdsAt.mem {w:World}{S:Nat→Prop}{m:Nat}{A:Option Addr}{l:List Nd}(h:NdsAt w S (m+1) A l):∀n∈l,∃h,NdAt w S m n h:=by
 obtain ⟨_,q,rfl,_,hr⟩:=h
 intro n hn
 obtain ⟨r,hr1,rfl⟩:=List.mem_map.1 hn;exact ⟨r.2,hr r hr1⟩
theorem z8u {w:World}{S:Nat→Prop}{m:Nat}{A:Option Addr}{l:List Nd}(h:NdsAt w S m A l):l.length≤totL m l:=by
 cases m with
 | zero=>rw[h.zero]; simp
 | succ m=>exact zak m l
theorem zms {w:World}{S:Nat→Prop}{m:Nat}{n:Nd}{h:Hd}(hn:NdAt w S m n h):ownB n≤totN m n:=by
 have:=z8u hn.2.1;unfold ownB totN;omega
theorem z5r (l:List Nd)(f g:Nd→Nat)(h:∀n∈l,f n≤g n):(l.map f).sum≤(l.map g).sum:=by
 induction l with
 | nil=>simp
 | cons a t ih =>
  have h1:=h a (List.mem_cons_self);have h2:=ih (fun n hn=>h n (List.mem_cons_of_mem _ hn))
  simp only[List.map_cons,List.sum_cons]
  omega
theorem zcy {w:World}{S:Nat→Prop}{m:Nat}{A:Option Addr}{l:List Nd}(h:NdsAt w S m A l):(l.map ownB).sum≤totL m l:=by
 cases m with
 | zero=>rw[h.zero]; simp
 | succ m =>
  rw[z0v]
  refine z5r l _ _ fun n hn=>?_
  obtain ⟨hd,h1⟩:=h.mem n hn;have:=zms h1;omega
theorem z9d {w:World}{S:Nat→Prop}{m:Nat}{A:Option Addr}{l:List Nd}(h:NdsAt w S m A l):∀n∈l,n.data.size≤totL m l∧n.ptrs.length≤totL m l:=by
 intro n hn
 cases m with
 | zero=>rw[h.zero] at hn; cases hn
 | succ m =>
  obtain ⟨hd,h1⟩:=h.mem n hn;obtain ⟨k,hk,rfl⟩:=List.mem_iff_getElem.1 hn;have:=z2q (m:=m) hk;have hl:=z8u h1.2.1;unfold totN at this;omega
theorem zfq (m:Nat)(n:Nd)(h:Hd)(w:World)(S:Nat→Prop)(hn:NdAt w S m n h)(hf:formN n=true)(ht:totN m n≤2000000) :
 Calls Tryz.prog 84 #[.agg #[.int .i64 n.kind,.string n.data,.slice h.A n.ptrs.length h.a,.int .i64 n.size,.int .i64 n.count,.slice h.B n.items.length h.b]] w fun e w'=>e= .returned (.int .i64 (ownN n:Nat))∧Below w.heap.size w w':=by
 obtain ⟨qA,qa,qB,qb⟩:=h
 dsimp only at hn ⊢
 have hds:n.data.size≤2000000:=by unfold totN at ht; omega
 have hpl:n.ptrs.length≤2000000:=z16 hn.2.1 (by unfold totN at ht; omega);have hil:n.items.length≤2000000:=z16 hn.2.2 (by unfold totN at ht; omega)
 obtain ⟨base,hbase⟩:∃b:Nat,b=ownB n+(if n.kind=2∧n.size=7 then 1 else 0):=⟨_,rfl⟩
 have hob:ownB n≤3000000:=by unfold ownB; omega
 have hbl:base≤3000001:=by rw[hbase]; split <;> omega
 have HIT:Hid (∀k (hk:k<n.items.length),(n.items[k]).kind=1∧(n.items[k]).items.length=0∧(n.items[k]).data.size≤2000000∧(n.items[k]).ptrs.length≤2000000):=hid fun k hk=>by
  obtain ⟨h1,h2,h3⟩:=zb8 hf _ (List.getElem_mem hk);obtain ⟨h4,h5⟩:=z9d hn.2.2 _ (List.getElem_mem hk);unfold totN at ht;exact ⟨h1,h3,by omega,by omega⟩
 have HSUM:Hid (∀k,((n.items.take k).map ownB).sum≤2000000):=hid fun k=>by
  have h1:=z1i n.items ownB k;have h2:=zcy hn.2.2;unfold totN at ht;omega
 have HE:Hid (ownN n=base+(n.items.map ownB).sum):=hid (by rw[hbase]; rfl);have HBE:=hid (show (((ownB n:Nat)):Int)=((n.data.size:Int)+8-1)/8+n.ptrs.length by unfold ownB; omega);have HBASE:=hid hbase;have HN:=hid (NdsAt.succ _ _ _ hn.2.2);have HB0:=hid ((Below.refl w.heap.size w).alloc (Nat.le_refl _) (.cells #[.int .i64 n.kind,.string n.data,.slice qA n.ptrs.length qa,.int .i64 n.size,.int .i64 n.count,.slice qB n.items.length qb] nodeT));clear hn hf ht hbase
 by_cases hk2:n.kind=2∧n.size=7
 all_goals
  go_enter Tryz.func84,Tryz.ntmps84;go_wp2
  all_goals
   go_loopw [3,29] (fun q i wr=>∃(k:Nat) (z:Int),q= .int .i64 z∧i= .int .i64 k∧k≤n.items.length∧0≤z∧z≤6000000∧Hid (z=((base+((n.items.take k).map ownB).sum:Nat):Int))∧Hid (Below w.heap.size w wr)) (fun _ i _=>n.items.length-(intOf i).toNat)
   case atStart =>
    have hb:=HBASE.out;have hbe:=HBE.out
    first | rw[if_pos hk2] at hb | rw[if_neg hk2] at hb
    refine ⟨0,_,rfl,rfl,by omega,by omega,by omega,hid ?_,hid ((Below.refl _ _).alloc (Nat.le_refl _) _)⟩;rw[List.take_zero,List.map_nil,List.sum_nil];omega
   case round =>
    obtain ⟨k,z,rfl,rfl,hk,hz0,hz,HZ,HB⟩:=hrel
    by_cases hlt:k<n.items.length
    · obtain ⟨x,hd,rfl,hc, -⟩:=(HN.out.below HB.out).at_ hlt
      obtain ⟨i1,i2,i3,i4⟩:=HIT.out k hlt;have HS:=hid (zfe n.items k hlt);generalize n.items[k]=y at hc i1 i2 i3 i4 HS;have HO:=hid (fun W=>za8 y hd W i1 i2 (by omega) i4)
      have hyb:ownB y≤3000000:=by unfold ownB; omega
      have hz2:z+(ownB y:Int)≤6000000:=by have:=HZ.out; have:=HS.out; have:=HSUM.out (k+1); omega
      generalize ownB y=v at *;obtain ⟨d0,d1,d2,d3,d4,d5⟩:=hc;clear i1 i2 i3 i4
      go_wp2_with fail
      refine (HO.out _).mono ?_;rintro e w2 ⟨rfl,hb2⟩;have HB2:=hid ((HB.out.alloc HB.out.size _).trans (hb2.mono (by have:=HB.out.size; simp; omega)));clear hb2;go_wp2
      go_roundw
      case rel=>exact ⟨k+1,_,rfl,by go_num,by omega,by omega,hz2,hid (by rw[HZ.out,HS.out]; omega),HB2⟩
      case measure=>simp[intOf]; omega
    · obtain rfl:k=n.items.length:=by omega
      rw[List.take_of_length_le (Nat.le_refl _)] at HZ;go_wp2;go_ret;exact ⟨by rw[HE.out,← HZ.out]; rfl,HB.out⟩
theorem z83 (v:Value)(c:Nat)(ty:TypeId)(w:World)(hv:v= .slice none 0 0∨∃g n cap,v= .slice (some g) n cap∧n≤cap) :
 (Builtin.append_ #[z28,z28] ty #[v,.slice none 0 c]).run Tryz.prog w= .ok v w:=by
 obtain ⟨i0,hi,hz0,hz1,hz2⟩:=info_parts z5z
 rcases hv with rfl | ⟨g,n,cap,rfl,hn⟩
 · simp[Builtin.append_,run_underlying (P:=Tryz.prog) Tryz.underlying24,sizeOf,typeInfo,hi,Builtin.lenOf,run_firstCells_none]
 · simp[Builtin.append_,run_underlying (P:=Tryz.prog) Tryz.underlying24,sizeOf,typeInfo,hi,Builtin.lenOf,hn,run_firstCells_none,storeCells]
def Src (w:World)(A:Option Addr)(q:List (Nd×Hd)):Prop:=q= []∨∃x,A=some x∧∀j u,(rowOf q)[j]? =some u→w.cell? (x.add j)=some u
theorem z98 (base:Nat)(ty:TypeId)(w:World)(v:Value)(n:Nat)(xs:List Value)(hown:w.ownsRow base nodeT 6 v n xs)(A:Option Addr)(c:Nat)(q:List (Nd×Hd))(hq:Src w A q)(hb:n+q.length≤4000000)(hbase:base≤w.heap.size) :
 ∃v' w',(Builtin.append_ #[z28,z28] ty #[v,.slice A q.length c]).run Tryz.prog w= .ok v' w'∧w'.ownsRow base nodeT 6 v' (n+q.length) (xs++rowOf q)∧w.grownBy w' v.ownBlock:=by
 obtain ⟨i0,hi,hz0,hz1,hz2⟩:=info_parts z5z
 cases A with
 | none =>
  have h0:q= []:=by
   rcases hq with h | ⟨x,hx,_⟩
   · exact h
   · cases hx
  subst h0;refine ⟨v,w,z83 v c ty w ?_,by simpa [rowOf] using hown,⟨rfl,rfl,rfl,Nat.le_refl _,fun _ _ _=>rfl⟩⟩
  rcases hown.2 with ⟨rfl,_⟩ | ⟨g,cap,cur,rfl,_,_,hc,_⟩
  · exact .inl rfl
  · exact .inr ⟨_,_,_,rfl,hc⟩
 | some x =>
  have hnews:∀(j:Nat) (u:Value),(rowOf q)[j]? =some u→w.cell? (x.add j)=some u:=by
   rcases hq with h | ⟨x',hx,h⟩
   · subst h; intro j u hj; simp[rowOf] at hj
   · obtain rfl:=Option.some.inj hx; exact h
  obtain ⟨v',w',h1,h2,h3,_⟩:=run_append_own (P:=Tryz.prog) w base z28 ty nodeT i0 _ 6 88 Tryz.underlying24 hi hz0 hz1 hz2 rfl (by decide) v n xs hown x q.length c (rowOf q) (z2y q) hnews (z3v q) (by unfold maxLen; omega) (by omega) hbase;exact ⟨v',w',h1,h2,h3⟩
theorem z3w {ops:Array Oper}{rest:List Oper}{o:Oper}{a:Act}{w:World}{Q:Exit→Act→World→Prop}(hgd:o.guard=none)(s x:Operand)
 (ho:o.op= .call { callee:= .builtin .append,args:= #[s,x],argTypes:= #[z28,z28] })
 (base:Nat) (v:Value) (n:Nat) (xs:List Value) (hs:a.eval s=v) (hown:w.ownsRow base nodeT 6 v n xs)
 (A:Option Addr) (c k:Nat) (q:List (Nd×Hd)) (hk:k=q.length) (hx:a.eval x= .slice A k c) (hq:Src w A q) (hb:n+q.length≤4000000) (hbase:base≤w.heap.size)
 (h:∀v' w',w'.ownsRow base nodeT 6 v' (n+q.length) (xs++rowOf q)→w.grownBy w' v.ownBlock→wpList Tryz.prog ops Q rest (a.put o.dst v') w'):wpList Tryz.prog ops Q (o :: rest) a w :=
 wpList_plain hgd fun _ hK=>by
  subst hk;obtain ⟨v',w',hr,h2,h3⟩:=z98 base o.type w v n xs hown A c q hq hb hbase;unfold Oper.wp execOp
  simp only[ho,resolve,invoke,builtin,Sem.run_bind,Sem.run_pure,Result.andThen_ok,List.map_toArray,List.map_cons,List.map_nil,hs,hx,hr]
  exact hK _ _ (h v' w' h2 h3)
def ptrsL (n:Nd):List Nd:=n.ptrs++n.items.flatMap Nd.ptrs
theorem zlo {w:World}{S:Nat→Prop}{m:Nat}{A:Option Addr}{l:List Nd}(h:NdsAt w S m A l):∃q:List (Nd×Hd),q.map (·.1)=l∧Src w A q∧∀r∈q,NdAt w S (m-1) r.1 r.2:=by
 cases m with
 | zero =>
  obtain rfl:=h.zero;exact ⟨[],rfl,.inl rfl,fun r h=>by cases h⟩
 | succ m =>
  obtain ⟨q,h1,h2,h3⟩:=h.pairs;exact ⟨q,h1,h3,h2⟩
theorem Src.below {w w':World}{A:Option Addr}{q:List (Nd×Hd)}(h:Src w A q)(hb:Below w.heap.size w w'):Src w' A q:=by
 rcases h with h | ⟨x,hx,h⟩
 · exact .inl h
 · refine .inr ⟨x,hx,fun j u hj=>?_⟩
   have:=h j u hj;exact (hb.cell (World.block_lt_of_cell? w _ this)).trans this
theorem zbc (l:List Nd):(l.flatMap Nd.ptrs).length=(l.map fun n=>n.ptrs.length).sum:=by
 induction l with
 | nil=>rfl
 | cons a t ih=>simp[ih]
theorem zg7 {w:World}{S:Nat→Prop}{m:Nat}{A:Option Addr}{l:List Nd}(h:NdsAt w S m A l):(l.map fun n=>n.ptrs.length).sum≤totL m l:=by
 cases m with
 | zero=>rw[h.zero]; simp
 | succ m =>
  rw[z0v]
  refine z5r l _ _ fun n hn=>?_
  obtain ⟨hd,h1⟩:=h.mem n hn;have:=z8u h1.2.1;unfold totN;omega
theorem z2d {w:World}{B e n z:Nat}{v:Value}{xs:List Value}(h:w.ownsRow B e z v n xs):∃A cap,v= .slice A n cap:=by
 rcases h.2 with ⟨rfl,rfl⟩ | ⟨g,cap,_,rfl,_⟩
 · exact ⟨none,0,rfl⟩
 · exact ⟨_,cap,rfl⟩
theorem zkl (m:Nat)(n:Nd)(h:Hd)(w:World)(S:Nat→Prop)(hn:NdAt w S m n h)(ht:totN m n≤2000000) :
 Calls Tryz.prog 85 #[.agg #[.int .i64 n.kind,.string n.data,.slice h.A n.ptrs.length h.a,.int .i64 n.size,.int .i64 n.count,.slice h.B n.items.length h.b]] w fun e w'=>∃A c,e= .returned (.slice A (ptrsL n).length c)∧NdsAt w' Any m A (ptrsL n)∧Below w.heap.size w w':=by
 obtain ⟨qA,qa,qB,qb⟩:=h
 dsimp only at hn ⊢
 have hpl:n.ptrs.length≤2000000:=z16 hn.2.1 (by unfold totN at ht; omega);have hil:n.items.length≤2000000:=z16 hn.2.2 (by unfold totN at ht; omega);obtain ⟨q1,hq1,hs1,hr1⟩:=zlo hn.2.1
 have hl1:n.ptrs.length=q1.length:=by rw[← hq1,List.length_map]
 have hlen:∀k,(n.ptrs++(n.items.take k).flatMap Nd.ptrs).length≤2000000:=fun k=>by
  rw[List.length_append,zbc];have h1:=z1i n.items (fun n=>n.ptrs.length) k;have h2:=zg7 hn.2.2;have h3:=z8u hn.2.1;unfold totN at ht;omega
 have HLEN:=hid hlen;have HN:=hid hn.2.2;have HP0:Hid (m=0→n.ptrs= []):=hid (fun h=>by subst h; exact hn.2.1.zero);have HR1:=hid (fun r hr=>(hr1 r hr).weak (S':=Any) (fun _ _=>trivial));have HQ1:=hid hq1;have HS1:=hid hs1;have HL1:=hid hl1
 have hl1m:q1.length≤2000000:=by omega
 clear hn hq1 hs1 hr1 hlen hl1 ht;go_enter Tryz.func85,Tryz.ntmps85
 go_wp2_with (at_builtin; go_must (refine z3w rfl (.tmp 6) (.tmp 8) rfl w.heap.size (.slice none 0 0) 0 [] rfl (World.ownsRow_nil _ _ _ _) qA qa n.ptrs.length q1 HL1.out rfl (HS1.out.below ((Below.refl _ _).alloc (Nat.le_refl _) _)) (by omega) (by simp) ?_); intro v1 w1 hown1 hgrow1; have hk1:=(hgrow1.block w.heap.size (by simp) (by simp[Value.ownBlock])).trans (heap_alloc_new w _); have HB1:=hid (((Below.refl w.heap.size w).alloc (Nat.le_refl _) _).grown hgrow1 (by simp) (by intro k hk; simp[Value.ownBlock] at hk)); have HO1:=hid hown1; obtain ⟨b0,b1,b2,b3,b4,b5⟩:=z04 hk1; clear hown1 hgrow1 hk1)
 rw[Nat.zero_add,List.nil_append] at HO1
 go_loopw [3,13] (fun v i wr=>∃(k:Nat) (q:List (Nd×Hd)),i= .int .i64 k∧k≤n.items.length∧Hid (wr.ownsRow w.heap.size nodeT 6 v q.length (rowOf q))∧Hid (q.map (·.1)=n.ptrs++(n.items.take k).flatMap Nd.ptrs)∧Hid (∀r∈q,NdAt w Any (m-1) r.1 r.2)∧Hid (Below w.heap.size w wr)) (fun _ i _=>n.items.length-(intOf i).toNat)
 case atStart=>exact ⟨0,q1,rfl,by omega,HO1,hid (by rw[HQ1.out]; simp),HR1,HB1⟩
 case round =>
  obtain ⟨k,q,rfl,hk,HO,HQ,HR,HB⟩:=hrel
  by_cases hlt:k<n.items.length
  · obtain ⟨j,rfl⟩:=HN.out.pred hlt
    obtain ⟨x,hd,rfl,hc0,hy⟩:=HN.out.at_ hlt;have hc:=z13 HB.out _ _ _ hc0;have HFL:Hid ((n.items.take (k+1)).flatMap Nd.ptrs=(n.items.take k).flatMap Nd.ptrs++(n.items[k]).ptrs):=hid (by rw[List.take_succ_eq_append_getElem hlt,List.flatMap_append]; simp);generalize n.items[k]=y at hc hy hc0 HFL;obtain ⟨q2,hq2,hs2,hr2⟩:=zlo hy.2.1;have HL2:Hid (y.ptrs.length=q2.length):=hid (by rw[← hq2,List.length_map]);have HS2:=hid (hs2.below HB.out)
    have HR2:Hid (∀r∈q++q2,NdAt w Any (j+1-1) r.1 r.2):=hid fun r hr=>by
     rcases List.mem_append.1 hr with h | h
     · exact HR.out r h
     · exact ((hr2 r h).mono (by omega)).weak (fun _ _=>trivial)
    have HQ2:Hid ((q++q2).map (·.1)=n.ptrs++(n.items.take (k+1)).flatMap Nd.ptrs):=hid (by rw[List.map_append,HQ.out,hq2,HFL.out,List.append_assoc])
    have hqq:q.length+q2.length≤2000000:=by have:=HLEN.out (k+1); rw[← HQ2.out,List.length_map,List.length_append] at this; exact this
    obtain ⟨d0,d1,d2,d3,d4,d5⟩:=hc;clear hc0 hy hq2 hs2 hr2;have hwr:=HB.out.size
    go_wp2_with (at_builtin; go_must (refine z3w rfl (.tmp 17) (.tmp 19) rfl w.heap.size _ q.length (rowOf q) rfl (HO.out.alloc _) hd.A hd.a y.ptrs.length q2 HL2.out rfl (HS2.out.below ((Below.refl _ _).alloc (Nat.le_refl _) _)) (by omega) (by simp; omega) ?_); intro v2 w2 hown2 hgrow2; have HB2:=hid ((HB.out.alloc HB.out.size _).grown hgrow2 (by simp; omega) (fun k hk=>(HO.out.lt k hk).1)); have HO2:=hid hown2; clear hown2 hgrow2)
    rw[← List.length_append,← z4m] at HO2
    go_roundw
    case rel=>exact ⟨k+1,q++q2,by go_num,by omega,HO2,HQ2,HR2,HB2⟩
    case measure=>simp[intOf]; omega
  · obtain rfl:k=n.items.length:=by omega
    rw[List.take_of_length_le (Nat.le_refl _)] at HQ
    have hql:q.length=(ptrsL n).length:=by have:=congrArg List.length HQ.out; rw[List.length_map] at this; exact this
    obtain ⟨A,cap,hv⟩:=z2d HO.out;rw[hv]
    have HRES:Hid (NdsAt wr Any m A (ptrsL n)):=hid (by
     cases m with
     | zero =>
      have h0:q= []:=by
       have h1:q.length=0:=by
        have h2:=HN.out.zero;have h3:=HQ.out;rw[h2] at h3;have h4:n.ptrs= []:=HP0.out rfl;rw[h4] at h3
        simpa using congrArg List.length h3
       exact List.eq_nil_of_length_eq_zero h1
      have h5:ptrsL n= []:=by
       rw[h0] at hql;exact List.eq_nil_of_length_eq_zero hql.symm
      rw[h5];exact NdsAt.nil _ _ _ _
     | succ m =>
      obtain ⟨A',cap',hv',hres⟩:=zgd HO.out (S:=Any) (fun _ _=>trivial) (by unfold maxLen; have:=HLEN.out n.items.length; rw[List.take_of_length_le (Nat.le_refl _),← HQ.out,List.length_map] at this; omega) (fun r hr=>(HR.out r hr).below HB.out);rw[hv] at hv'
      injection hv' with e1 e2 e3
      subst e1;rw[HQ.out] at hres
      exact hres)
    clear hv;rw[hql];go_wp2;go_ret;exact ⟨A,cap,rfl,HRES.out,HB.out⟩
end Go.Proofs.YtblcibgphccfkaaGreatDoor
