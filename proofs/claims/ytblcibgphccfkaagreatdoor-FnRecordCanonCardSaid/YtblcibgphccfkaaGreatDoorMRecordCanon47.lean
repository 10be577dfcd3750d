/- Texts of the proof of the law FnRecordCanon, side by side: part 47. -/
import Derived.Test.YtblcibgphccfkaaGreatDoorRows
import Derived.Lib.LaidTab
import Derived.Stop.LaidErr
import Derived.MakeChecks
import Derived.Test.YtblcibgphccfkaaGreatDoorMRecordCanon46
set_option maxHeartbeats 8000000
set_option maxRecDepth 100000
open Go.Lib (hid)
namespace Go.Proofs.YtblcibgphccfkaaGreatDoor
open Go.RowKit Go.Deep
theorem kcC {w w':World}{p:Addr}{v:Value}(hb:Below w.heap.size w w')(h:w.cell? p=some v):w'.cell? p=some v:=(hb.cell (p:=p) (World.block_lt_of_cell? w _ h)).trans h
theorem zj1 {l:List Fld}{n:Nd}{a:Int}(h:sizN n≤2000000):sizN (rgY l n a)≤2000000:=by
 have h0:sizN z07≤2000000:=by decide
 unfold rgY fNod
 split
 · split
   · cases hq:n.ptrs[atF l a.toNat]? with
     | none=>exact h0
     | some p =>
      obtain ⟨hlt,rfl⟩:=List.getElem?_eq_some_iff.1 hq;have h1:=z87 hlt;have h2:=z2a n
      show sizN n.ptrs[atF l a.toNat]≤2000000
      omega
   · exact h0
 · exact h0
theorem zii (m m':Nat)(x:Int)(y:Nd)(h1 h2:Hd)(w:World)(S S':Nat→Prop)(a:NdAt w S m y h1)(b:NdAt w S' m' y h2) :
 Calls Tryz.prog 10 #[.agg #[.int .i64 x,.int .i64 y.kind,.string y.data,.slice h1.A y.ptrs.length h1.a,.int .i64 y.size,.int .i64 y.count,.slice h1.B y.items.length h1.b],.agg #[.int .i64 x,.int .i64 y.kind,.string y.data,.slice h2.A y.ptrs.length h2.a,.int .i64 y.size,.int .i64 y.count,.slice h2.B y.items.length h2.b]] w fun e w'=>e= .returned (.bool true)∧Below w.heap.size w w':=by
 have q0:=z0j w (.cells #[.int .i64 x,.int .i64 y.kind,.string y.data,.slice h1.A y.ptrs.length h1.a,.int .i64 y.size,.int .i64 y.count,.slice h1.B y.items.length h1.b] valT);have q1:=z0m q0 (.cells #[.int .i64 x,.int .i64 y.kind,.string y.data,.slice h2.A y.ptrs.length h2.a,.int .i64 y.size,.int .i64 y.count,.slice h2.B y.items.length h2.b] valT);have r0:=z02 (heap_alloc_new w (.cells #[.int .i64 x,.int .i64 y.kind,.string y.data,.slice h1.A y.ptrs.length h1.a,.int .i64 y.size,.int .i64 y.count,.slice h1.B y.items.length h1.b] valT)) (.cells #[.int .i64 x,.int .i64 y.kind,.string y.data,.slice h2.A y.ptrs.length h2.a,.int .i64 y.size,.int .i64 y.count,.slice h2.B y.items.length h2.b] valT);have r1:=z0s q0 #[.int .i64 x,.int .i64 y.kind,.string y.data,.slice h2.A y.ptrs.length h2.a,.int .i64 y.size,.int .i64 y.count,.slice h2.B y.items.length h2.b] valT;have HE:=hid (fun (W:World) (hW:Below w.heap.size w W)=>zm6 m m' y y h1 h2 W S S' true (a.below hW) (b.below hW) ⟨fun _=>rfl,fun _=>rfl⟩);have HB0:=hid q1.2;obtain ⟨a0,a1,a2,a3,a4,a5,a6⟩:=z09 r0;obtain ⟨b0,b1,b2,b3,b4,b5,b6⟩:=z09 r1;clear q1 q0 r0 r1 a b;go_enter Tryz.func10,Tryz.ntmps10
 go_wp2_with fail
 refine (HE.out _ HB0.out).mono ?_;rintro e w1 ⟨rfl,hb1⟩;have HB1:=hid (HB0.out.trans (hb1.mono HB0.out.size));clear hb1 a0 a1 a2 a3 a4 a5 a6 b0 b1 b2 b3 b4 b5 b6;go_wp2;go_ret;exact ⟨rfl,HB1.out⟩
theorem walkRecordCanon (w:World)(a:Option Addr)(len cap:Nat)(h:Arg w a len cap)(ht:Tab w) :
 Calls Tryz.prog 6 #[.slice a len cap] w fun e w'=>e= .returned (.bool true)∧Below w.heap.size w w':=by
 have h1w:1<w.heap.size:=World.block_lt_of_cell? w _ ht.t0;have hlm:=h.1.1;unfold maxLen at hlm
 by_cases hbig:1048576<len
 · clear ht h
   go_enter Tryz.func6,Tryz.ntmps6;go_wp2;go_ret;exact ⟨rfl,Below.refl _ _⟩
 have HD:=hid (z6k a len cap w h);have HIA:=hid (fun (W:World) (hW:Below w.heap.size w W) (A:Option Addr) (c:Nat) (l:List Fld) (m:Nat) (n:Nd) (g:Hd) (S:Nat→Prop) (i:Int) (hl:Flds W A l) (hll:l.length≤10000000) (hc:l.length≤c) (hn:NdAt W S m n g) (htn:totN m n≤2000000)=>z8n A c l m n g W S (ht.below hW h1w) (by have:=hW.size; omega) hl hll hc hn htn i);have HSA:=hid (fun (W:World) (hW:Below w.heap.size w W) (A:Option Addr) (c:Nat) (l:List Fld) (m:Nat) (n:Nd) (g:Hd) (S:Nat→Prop) (i:Int) (hl:Flds W A l) (hll:l.length≤10000000) (hn:NdAt W S m n g) (htn:totN m n≤2000000)=>z80 A c l m n g W S (by have:=hW.size; omega) hl hll hn htn i);have HRA:=hid (fun (W:World) (hW:Below w.heap.size w W) (A:Option Addr) (c:Nat) (l:List Fld) (m:Nat) (n:Nd) (g:Hd) (S:Nat→Prop) (hl:Flds W A l) (hll:l.length≤10000000) (hn:NdAt W S m n g) (htn:totN m n≤2000000)=>z64 A c l m n g W S (ht.below hW h1w) (by have:=hW.size; omega) hl hll hn htn);have HLY:=hid (fun (W:World) (hW:Below w.heap.size w W) (A:Option Addr) (c:Nat) (l:List Fld) (hl:Flds W A l) (hll:l.length≤10000000)=>z4c A c l W (ht.below hW h1w) (by have:=hW.size; omega) hl hll);clear ht h h1w;unfold zgt at HD;unfold LayP layV at HLY;go_enter Tryz.func6,Tryz.ntmps6
 go_wp2_with fail
 refine HD.out.mono ?_;rintro e w1 ⟨X,c,l,m,n,hd,i,rfl,hl13,hlc,hel,hg,hi,hfl,hn,htn,hb1⟩;have hba:Below w1.heap.size w1 (w1.alloc (.cells #[.int .i64 n.kind,.string n.data,.slice hd.A n.ptrs.length hd.a,.int .i64 n.size,.int .i64 n.count,.slice hd.B n.items.length hd.b] nodeT)):=(Below.refl _ _).alloc (Nat.le_refl _) _;have HB:=hid (hb1.trans (hba.mono hb1.size));have HN:=hid (heap_alloc_new w1 (.cells #[.int .i64 n.kind,.string n.data,.slice hd.A n.ptrs.length hd.a,.int .i64 n.size,.int .i64 n.count,.slice hd.B n.items.length hd.b] nodeT));have HF:=hid (hfl.below hba);have HND:=hid (hn.below hba);have HLL:Hid (l.length≤10000000∧l.length≤c∧l.length≤13):=hid ⟨by omega,hlc,hl13⟩;have HIN:=hid (fun (W:World) (hW:Below w.heap.size w W) (hf:Flds W (some X) l) (hn:NdAt W Any m n hd)=>HIA.out W hW (some X) c l m n hd Any i hf HLL.out.1 HLL.out.2.1 hn htn);have HSN:=hid (fun (W:World) (hW:Below w.heap.size w W) (hf:Flds W (some X) l) (hn:NdAt W Any m n hd)=>HSA.out W hW (some X) c l m n hd Any i hf HLL.out.1 hn htn)
 obtain ⟨x,hx⟩:∃x,rgN l n i=x:=⟨_,rfl⟩
 obtain ⟨y,hy⟩:∃y,rgY l n i=y:=⟨_,rfl⟩
 obtain ⟨ok,hok⟩:∃ok,rgB l n i=ok:=⟨_,rfl⟩
 have HCS:Hid (ok=true→CanSays l n i∧z0l n=true):=hid fun h=>⟨zkr (hok.trans h),by
  have h1:=hok.trans h;unfold rgB at h1;rw[Bool.and_eq_true,Bool.and_eq_true] at h1;unfold recB isRec at h1
  simp only[Bool.and_eq_true] at h1
  exact h1.1.2.2⟩
 have HTN:=hid htn;have HXY:=hid (And.intro hx hy);rw[hx,hy,hok] at HIN HSN;clear hx hy hok hba hn hfl hel htn hb1 hg;unfold z0x at HIN HSN;obtain ⟨n0,n1,n2,n3,n4,n5⟩:=z04 HN.out
 go_wp2_with fail
 generalize w1.alloc (.cells #[.int .i64 n.kind,.string n.data,.slice hd.A n.ptrs.length hd.a,.int .i64 n.size,.int .i64 n.count,.slice hd.B n.items.length hd.b] nodeT)=W1 at *;generalize w1.heap.size=nb at *;clear n0 n1 n2 n3 n4 n5;refine (HIN.out _ HB.out HF.out HND.out).mono ?_;rintro e w2 ⟨h1,bs1,rfl,ho1, -, -,hb2⟩;have hba:Below w2.heap.size w2 (w2.alloc (.cells #[.int .i64 x,.int .i64 y.kind,.string y.data,.slice h1.A y.ptrs.length h1.a,.int .i64 y.size,.int .i64 y.count,.slice h1.B y.items.length h1.b] valT)):=(Below.refl _ _).alloc (Nat.le_refl _) _;have hbb:Below W1.heap.size W1 (w2.alloc (.cells #[.int .i64 x,.int .i64 y.kind,.string y.data,.slice h1.A y.ptrs.length h1.a,.int .i64 y.size,.int .i64 y.count,.slice h1.B y.items.length h1.b] valT)):=hb2.trans (hba.mono hb2.size);have HV:=hid (heap_alloc_new w2 (.cells #[.int .i64 x,.int .i64 y.kind,.string y.data,.slice h1.A y.ptrs.length h1.a,.int .i64 y.size,.int .i64 y.count,.slice h1.B y.items.length h1.b] valT));have HO1:=hid (ho1.below hba)
 replace HN:=hid ((hbb.block _ (z00 HN.out)).trans HN.out)
 replace HF:=hid (HF.out.below hbb)
 replace HND:=hid (HND.out.below hbb)
 replace HB:=hid (HB.out.trans (hbb.mono HB.out.size))
 clear hba hbb ho1 hb2;obtain ⟨n0,n1,n2,n3,n4,n5⟩:=z04 HN.out
 go_wp2_with fail
 generalize w2.alloc (.cells #[.int .i64 x,.int .i64 y.kind,.string y.data,.slice h1.A y.ptrs.length h1.a,.int .i64 y.size,.int .i64 y.count,.slice h1.B y.items.length h1.b] valT)=W2 at *;generalize w2.heap.size=vb at *;clear n0 n1 n2 n3 n4 n5;refine (HSN.out _ HB.out HF.out HND.out).mono ?_;rintro e w3 ⟨h2,bs2,rfl,ho2, -, -,hb3⟩;have hba:Below w3.heap.size w3 (w3.alloc (.cells #[.int .i64 x,.int .i64 y.kind,.string y.data,.slice h2.A y.ptrs.length h2.a,.int .i64 y.size,.int .i64 y.count,.slice h2.B y.items.length h2.b] valT)):=(Below.refl _ _).alloc (Nat.le_refl _) _;have hbb:Below W2.heap.size W2 (w3.alloc (.cells #[.int .i64 x,.int .i64 y.kind,.string y.data,.slice h2.A y.ptrs.length h2.a,.int .i64 y.size,.int .i64 y.count,.slice h2.B y.items.length h2.b] valT)):=hb3.trans (hba.mono hb3.size);have HU:=hid (heap_alloc_new w3 (.cells #[.int .i64 x,.int .i64 y.kind,.string y.data,.slice h2.A y.ptrs.length h2.a,.int .i64 y.size,.int .i64 y.count,.slice h2.B y.items.length h2.b] valT));have HO2:=hid (ho2.below hba)
 replace HN:=hid ((hbb.block _ (z00 HN.out)).trans HN.out)
 replace HF:=hid (HF.out.below hbb)
 replace HND:=hid (HND.out.below hbb)
 replace HV:=hid ((hbb.block _ (z00 HV.out)).trans HV.out)
 replace HO1:=hid (HO1.out.below hbb)
 replace HB:=hid (HB.out.trans (hbb.mono HB.out.size))
 clear hba hbb ho2 hb3
 have hdn:(ok != ok)=false:=by simp
 have hdd:(ok==ok)=true:=by simp
 obtain ⟨v0,v1,v2,v3,v4,v5,v6⟩:=z09 HV.out;obtain ⟨u0,u1,u2,u3,u4,u5,u6⟩:=z09 HU.out
 go_wp2_with fail
 generalize w3.alloc (.cells #[.int .i64 x,.int .i64 y.kind,.string y.data,.slice h2.A y.ptrs.length h2.a,.int .i64 y.size,.int .i64 y.count,.slice h2.B y.items.length h2.b] valT)=W3 at *;generalize w3.heap.size=ub at *;refine (zii (m+1) (m+1) x y h1 h2 _ _ _ HO1.out.nd HO2.out.nd).mono ?_;rintro e w4 ⟨rfl,hb4⟩;clear v0 v1 v2 v3 v4 v5 v6 u0 u1 u2 u3 u4 u5 u6
 replace HN:=hid ((hb4.block _ (z00 HN.out)).trans HN.out)
 replace HF:=hid (HF.out.below hb4)
 replace HND:=hid (HND.out.below hb4)
 replace HV:=hid ((hb4.block _ (z00 HV.out)).trans HV.out)
 replace HO1:=hid (HO1.out.below hb4)
 replace HU:=hid ((hb4.block _ (z00 HU.out)).trans HU.out)
 replace HO2:=hid (HO2.out.below hb4)
 replace HB:=hid (HB.out.trans (hb4.mono HB.out.size))
 clear hb4;cases ok
 · obtain ⟨v0,v1,v2,v3,v4,v5,v6⟩:=z09 HV.out
   obtain ⟨u0,u1,u2,u3,u4,u5,u6⟩:=z09 HU.out
   go_wp2_with fail
   refine (zii (m+1) (m+1) x y h1 h2 _ _ _ HO1.out.nd HO2.out.nd).mono ?_;rintro e w6 ⟨rfl,hb6⟩
   replace HB:=hid (HB.out.trans (hb6.mono HB.out.size))
   clear v0 v1 v2 v3 v4 v5 v6 u0 u1 u2 u3 u4 u5 u6 hb6;go_wp2;go_ret;exact ⟨rfl,HB.out⟩
 obtain ⟨hcs,hnk⟩:=HCS.out rfl;have HSAY:=hid hcs
 have hcz:sizN (canX n)≤2000000:=by
  have e:canX n=canN n:=by unfold canX; rw[if_pos hnk]
  rw[e];exact Nat.le_trans (zaf 8 n (z3q hnk).1) (by rw[← z19 HND.out]; exact HTN.out)
 have HCZ:=hid hcz;have hth:=hcs.there;have hnu:rgN l (canX n) i=x:=hcs.num.trans HXY.out.1
 obtain ⟨cn,hcn⟩:∃cn,canX n=cn:=⟨_,rfl⟩
 obtain ⟨yc,hyc⟩:∃yc,rgY l (canX n) i=yc:=⟨_,rfl⟩
 have HZ:Hid (sizN yc≤2000000∧sizN y≤2000000):=hid (by
  rw[← hyc,← HXY.out.2]
  exact ⟨zj1 hcz,zj1 (by rw[← z19 HND.out]; exact HTN.out)⟩)
 have HAL:Hid (z0l yc=true∧z0l y=true∧canN yc=canN y):=hid (by rw[← hyc,← HXY.out.2]; exact ⟨hcs.okc,hcs.okn,hcs.nod⟩);have HCH:Hid (choN l cn=choN l n):=hid (by rw[← hcn]; exact hcs.cho);have HCA:=hid (fun (W:World) (hn:NdAt W Any m n hd)=>z5m m n hd W Any hn HTN.out);have HIC:=hid (fun (W:World) (hW:Below w.heap.size w W) (hf:Flds W (some X) l) (g:Hd) (S:Nat→Prop) (hn:NdAt W S (m+1) (canX n) g)=>HIA.out W hW (some X) c l (m+1) (canX n) g S i hf HLL.out.1 HLL.out.2.1 hn (by rw[z19 hn]; exact HCZ.out));rw[hth,hnu,hyc] at HIC;rw[hcn] at HCA HIC HCZ;clear hcs hnk hcz hth hnu hcn hyc HCS HSAY HU HO2 HIN HSN hdn hdd;unfold NewO at HCA;unfold z0x at HIC;obtain ⟨n0,n1,n2,n3,n4,n5⟩:=z04 HN.out
 go_wp2_with fail
 clear n0 n1 n2 n3 n4 n5;refine (HCA.out _ HND.out).mono ?_;rintro e w5 ⟨hc,bsc,rfl,hoc, -, -,hb5⟩;have HOC:=hid hoc
 replace HN:=hid ((hb5.block _ (z00 HN.out)).trans HN.out)
 replace HF:=hid (HF.out.below hb5)
 replace HND:=hid (HND.out.below hb5)
 replace HV:=hid ((hb5.block _ (z00 HV.out)).trans HV.out)
 replace HO1:=hid (HO1.out.below hb5)
 replace HB:=hid (HB.out.trans (hb5.mono HB.out.size))
 clear hb5 hoc
 go_wp2_with fail
 refine (HIC.out _ HB.out HF.out hc _ HOC.out.nd).mono ?_;rintro e w6 ⟨h3,bs3,rfl,ho3, -, -,hb6⟩;have hba:Below w6.heap.size w6 (w6.alloc (.cells #[.int .i64 x,.int .i64 yc.kind,.string yc.data,.slice h3.A yc.ptrs.length h3.a,.int .i64 yc.size,.int .i64 yc.count,.slice h3.B yc.items.length h3.b] valT)):=(Below.refl _ _).alloc (Nat.le_refl _) _;have hbb:Below w5.heap.size w5 (w6.alloc (.cells #[.int .i64 x,.int .i64 yc.kind,.string yc.data,.slice h3.A yc.ptrs.length h3.a,.int .i64 yc.size,.int .i64 yc.count,.slice h3.B yc.items.length h3.b] valT)):=hb6.trans (hba.mono hb6.size);have HX3:=hid (heap_alloc_new w6 (.cells #[.int .i64 x,.int .i64 yc.kind,.string yc.data,.slice h3.A yc.ptrs.length h3.a,.int .i64 yc.size,.int .i64 yc.count,.slice h3.B yc.items.length h3.b] valT));have HO3:=hid (ho3.below hba)
 replace HN:=hid ((hbb.block _ (z00 HN.out)).trans HN.out)
 replace HF:=hid (HF.out.below hbb)
 replace HND:=hid (HND.out.below hbb)
 replace HV:=hid ((hbb.block _ (z00 HV.out)).trans HV.out)
 replace HO1:=hid (HO1.out.below hbb)
 replace HB:=hid (HB.out.trans (hbb.mono HB.out.size))
 clear hba hbb ho3 hb6
 go_wp2_with fail
 generalize w6.alloc (.cells #[.int .i64 x,.int .i64 yc.kind,.string yc.data,.slice h3.A yc.ptrs.length h3.a,.int .i64 yc.size,.int .i64 yc.count,.slice h3.B yc.items.length h3.b] valT)=W6 at *;generalize w6.heap.size=xb at *;have HSB:=hid (Below.refl W6.heap.size W6)
 have hcq:(choN l cn==choN l n)=true:=by rw[HCH.out]; simp
 obtain ⟨cz,hcz⟩:∃cz,choN l cn=cz:=⟨_,rfl⟩
 obtain ⟨cy,hcy⟩:∃cy,choN l n=cy:=⟨_,rfl⟩
 have HQA:=hid (fun (W:World) (hW:Below W6.heap.size W6 W)=>zd0 (m+1+1) (m+1) yc y h3 h1 W _ _ true (HO3.out.nd.below hW) (HO1.out.nd.below hW) (by rw[z19 HO3.out.nd]; exact HZ.out.1) (by rw[z19 HO1.out.nd]; exact HZ.out.2) ⟨fun _=>HAL.out,fun _=>rfl⟩);have HQC:=hid (fun (W:World) (hW:Below W6.heap.size W6 W)=>HCA.out W (HND.out.below hW));have HQN:=hid (fun (W:World) (hW:Below W6.heap.size W6 W)=>HRA.out W (HB.out.trans (hW.mono HB.out.size)) (some X) c l m n hd Any (HF.out.below hW) HLL.out.1 (HND.out.below hW) HTN.out);have HQZ:=hid (fun (W:World) (hW:Below W6.heap.size W6 W) (g:Hd) (S:Nat→Prop) (hn:NdAt W S (m+1) cn g)=>HRA.out W (HB.out.trans (hW.mono HB.out.size)) (some X) c l (m+1) cn g S (HF.out.below hW) HLL.out.1 hn (by rw[z19 hn]; exact HCZ.out));rw[hcy] at HQN;rw[hcz] at HQZ;rw[hcz,hcy] at hcq;clear hcz hcy HCH HCA HIC HAL HCZ HXY;obtain ⟨n0,n1,n2,n3,n4,n5⟩:=z04 HN.out;obtain ⟨v0,v1,v2,v3,v4,v5,v6⟩:=z09 HV.out;obtain ⟨t0,t1,t2,t3,t4,t5,t6⟩:=z09 HX3.out
 go_wp2_with fail
 go_region_held3 (fun V=>(V.cell? ⟨nb,0,none⟩=some (.int .i64 n.kind)∧V.cell? ⟨nb,1,none⟩=some (.string n.data)∧V.cell? ⟨nb,2,none⟩=some (.slice hd.A n.ptrs.length hd.a)∧V.cell? ⟨nb,3,none⟩=some (.int .i64 n.size)∧V.cell? ⟨nb,4,none⟩=some (.int .i64 n.count)∧V.cell? ⟨nb,5,none⟩=some (.slice hd.B n.items.length hd.b))∧(V.cell? ⟨vb,0,none⟩=some (.int .i64 x)∧V.cell? ⟨vb,1,none⟩=some (.int .i64 y.kind)∧V.cell? ⟨vb,2,none⟩=some (.string y.data)∧V.cell? ⟨vb,3,none⟩=some (.slice h1.A y.ptrs.length h1.a)∧V.cell? ⟨vb,4,none⟩=some (.int .i64 y.size)∧V.cell? ⟨vb,5,none⟩=some (.int .i64 y.count)∧V.cell? ⟨vb,6,none⟩=some (.slice h1.B y.items.length h1.b))∧(V.cell? ⟨xb,0,none⟩=some (.int .i64 x)∧V.cell? ⟨xb,1,none⟩=some (.int .i64 yc.kind)∧V.cell? ⟨xb,2,none⟩=some (.string yc.data)∧V.cell? ⟨xb,3,none⟩=some (.slice h3.A yc.ptrs.length h3.a)∧V.cell? ⟨xb,4,none⟩=some (.int .i64 yc.size)∧V.cell? ⟨xb,5,none⟩=some (.int .i64 yc.count)∧V.cell? ⟨xb,6,none⟩=some (.slice h3.B yc.items.length h3.b))∧Below W6.heap.size W6 V) ((first | exact ⟨⟨n0,n1,n2,n3,n4,n5⟩,⟨v0,v1,v2,v3,v4,v5,v6⟩,⟨t0,t1,t2,t3,t4,t5,t6⟩,HSB.out.drew⟩ | (obtain ⟨⟨s0,s1,s2,s3,s4,s5⟩,⟨p0,p1,p2,p3,p4,p5,p6⟩,⟨q0,q1,q2,q3,q4,q5,q6⟩,sb⟩:= ‹(_∧_)∧(_∧_)∧(_∧_)∧Below W6.heap.size W6 _›; exact ⟨⟨kcC hbq s0,kcC hbq s1,kcC hbq s2,kcC hbq s3,kcC hbq s4,kcC hbq s5⟩,⟨kcC hbq p0,kcC hbq p1,kcC hbq p2,kcC hbq p3,kcC hbq p4,kcC hbq p5,kcC hbq p6⟩,⟨kcC hbq q0,kcC hbq q1,kcC hbq q2,kcC hbq q3,kcC hbq q4,kcC hbq q5,kcC hbq q6⟩,sb.trans (hbq.mono sb.size)⟩))) (first | (go_at_call 21; (with_reducible refine (HQA.out _ (by have hh:= ‹(_∧_)∧(_∧_)∧(_∧_)∧Below W6.heap.size W6 _›; exact hh.2.2.2)).mono ?_); rintro e wq ⟨rfl,hbq⟩) | (go_at_call 20; (with_reducible refine (HQC.out _ (by have hh:= ‹(_∧_)∧(_∧_)∧(_∧_)∧Below W6.heap.size W6 _›; exact hh.2.2.2)).mono ?_); rintro e wq ⟨hz,bz,rfl,hownz,hndz,hgez,hbq⟩) | (go_at_call 18; first | ((with_reducible refine (HQN.out _ (by have hh:= ‹(_∧_)∧(_∧_)∧(_∧_)∧Below W6.heap.size W6 _›; exact hh.2.2.2)).mono ?_); rintro e wq ⟨rfl,hbq⟩) | ((with_reducible refine (HQZ.out _ (by have hh:= ‹(_∧_)∧(_∧_)∧(_∧_)∧Below W6.heap.size W6 _›; exact hh.2.2.2) hz _ hownz.nd).mono ?_); rintro e wq ⟨rfl,hbq⟩)))
 all_goals
  have hS:= ‹(_∧_)∧(_∧_)∧(_∧_)∧Below W6.heap.size W6 _›;have HFIN:=hid (HB.out.trans (hS.2.2.2.mono HB.out.size));clear hS n0 n1 n2 n3 n4 n5 v0 v1 v2 v3 v4 v5 v6 t0 t1 t2 t3 t4 t5 t6;go_wp2;go_ret;exact ⟨rfl,HFIN.out⟩
end Go.Proofs.YtblcibgphccfkaaGreatDoor
namespace Go.Proofs.YtblcibgphccfkaaGreatDoor
open Go.RowKit
def tab64:List Int:= [0,1,56,2,57,49,28,3,61,58,42,50,38,29,17,4,62,47,59,36,45,43,51,22,53,39,33,30,24,18,12,5,63,55,48,27,60,41,37,16,46,35,44,21,52,32,23,11,54,26,40,15,34,20,31,10,25,14,19,9,13,8,7,6]
theorem zk4:(Rows.laid_math_bits_deBruijn64tab (H:=Unit))=Lib.tabData .u8 tab64:=by rfl
theorem tab_of {W : World} (h : laidMetH Tryz.prog [("math/bits.deBruijn32tab", Rows.laid_math_bits_deBruijn32tab), ("math/bits.deBruijn64tab", Rows.laid_math_bits_deBruijn64tab)] W) : Tab W := by
 rw[MakeChecks.laidMetH_plain _ _ _ (by kernel_rfl)] at h;have h1:=laidMet.tail h;rw[zk4] at h1;have hT:=Lib.tabIs_of_head (g:=1) (t:=189) (e:=5) (n:=64) (by kernel_rfl) (by kernel_rfl) Tryz.underlying189 Tryz.underlying5 (by kernel_rfl) (by kernel_rfl) h1
 have hg : Tryz.prog.globalNamed "math/bits.deBruijn64tab" = some 1 := by kernel_rfl
 exact ⟨hT.cell hg 0 (by decide),hT.cell hg 7 (by decide),hT.cell hg 15 (by decide),hT.cell hg 31 (by decide),hT.cell hg 63 (by decide)⟩
end Go.Proofs.YtblcibgphccfkaaGreatDoor
