/- Texts of the proof of the law FnRecordCanon, side by side: part 4. -/
import Derived.Maps.AppendAt
import Derived.Test.YtblcibgphccfkaaGreatDoorMRecordCanon03
set_option maxHeartbeats 8000000
set_option maxRecDepth 100000
open Go.Lib (hid)
namespace Go.Proofs.YtblcibgphccfkaaGreatDoor
open Go.RowKit
theorem zb9 {d:ByteArray}{b:Int}(_h0:0≤b)(hs:(d.size:Int)=(b+7)/8)(h8:b%8=0):bitsB d b=true:=by simp[bitsB,hs,h8]
theorem zmg (x r:Nat):((x:Int)/(2:Int)^r==0)=decide (x<2^r):=by
 have h:(2:Int)^r=((2^r:Nat):Int):=by simp
 have hp:0<2^r:=Nat.two_pow_pos r;rw[h,Bool.eq_iff_iff];generalize 2^r=p at *;rw[← Int.natCast_ediv]
 simp only[beq_iff_eq,decide_eq_true_eq]
 have:=Nat.div_eq_zero_iff (a:=x) (b:=p);omega
theorem zir (k s c:Int)(d:ByteArray)(A B:Option Addr)(lp cp li ci:Nat)(w:World)(h0:0≤s)(h5:s≤5)(c0:0≤c)(c1:c≤12800)(_hdm:d.size≤maxLen) :
 Calls Tryz.prog 139 #[.agg #[.int .i64 k,.string d,.slice A lp cp,.int .i64 s,.int .i64 c,.slice B li ci]] w fun e w'=>e= .returned (.bool (bitsB d (c*bz s)))∧Below w.heap.size w w':=by
 have HBY:=hid (fun W=>zbl s c W h0 (by omega) c0 c1);have HBZ:Hid (byteZ s c=(c*bz s+7)/8):=hid (by unfold byteZ; rw[Int.mul_comm]);have HR:=hid (heap_alloc_new w (.cells #[.int .i64 k,.string d,.slice A lp cp,.int .i64 s,.int .i64 c,.slice B li ci] nodeT));have HBA:=hid ((Below.refl w.heap.size w).alloc (Nat.le_refl _) (.cells #[.int .i64 k,.string d,.slice A lp cp,.int .i64 s,.int .i64 c,.slice B li ci] nodeT))
 have hby:0≤byteZ s c∧byteZ s c≤102401:=by
  have hb:=bz_le s;have h1:=Int.mul_nonneg hb.1 c0;have h2:=Int.mul_le_mul hb.2 c1 c0 (by omega)
  unfold byteZ; omega
 obtain ⟨by_,hbyd⟩:∃z,z=byteZ s c:=⟨_,rfl⟩
 rw[← hbyd] at HBY HBZ hby;clear hbyd
 by_cases hne:(d.size:Int)=by_
 · have hneb:((d.size:Int) != by_)=false:=by rw[hne]; simp
   have HSZ:Hid ((d.size:Int)=(c*bz s+7)/8):=hid (by rw[hne,HBZ.out]);have HNE:=hid hne;clear hne;go_enter Tryz.func139,Tryz.ntmps139
   go_wp2_with fail
   generalize w.alloc (.cells #[.int .i64 k,.string d,.slice A lp cp,.int .i64 s,.int .i64 c,.slice B li ci] nodeT)=W at *;obtain ⟨e0,e1,e2,e3,e4,e5⟩:=z04 HR.out;have q1:=cell_regrown e1;have q3:=cell_regrown e3;have q4:=cell_regrown e4;refine wp_region_quiet_below (by kernel_rfl) (by kernel_rfl) ?_
   repeat (first | go_big_quiet_step ((go_at_call 158; with_reducible exact Calls.regrown_of (HBY.out _))) | quiet_step ((go_at_call 158; with_reducible exact Calls.regrown_of (HBY.out _))))
   refine wpQuiet_nil ?_
   intro _ hw'
   obtain ⟨⟨dq,osq⟩,hw''⟩:=hw';subst hw'';have HB2:=hid (HBA.out.trans ((below_regrown W dq osq).mono HBA.out.size));have HR2:=hid (((below_regrown W dq osq).block _ (z00 HR.out)).trans HR.out);clear q1 q3 q4 e0 e1 e2 e3 e4 e5;generalize «Sort».grow (redrawn W dq) osq=W2 at *;obtain ⟨e0,e1,e2,e3,e4,e5⟩:=z04 HR2.out;clear HR HBA HBY
   by_cases hs1:s=1
   · subst hs1
     have hc1:c*bz 1=c:=by rw[show bz 1=1 from rfl,Int.mul_one]
     rw[hc1] at HSZ;have HC1:=hid hc1;clear hc1
     by_cases h8:c%8=0
     · have HX:=hid (zb9 c0 HSZ.out h8)
       go_wp2;go_ret;exact ⟨by rw[HC1.out,HX.out]; rfl,HB2.out⟩
     · obtain ⟨j,hj⟩:∃j,d.size=j+1:=⟨d.size-1,by have:=HSZ.out; omega⟩
       have hlt:j<d.size:=by omega
       have hln:(d.size:Int)-1=(j:Int):=by omega
       have hjm:j≤10000000:=by have:=HSZ.out; omega
       have HLN:=hid (zax hj hlt);have hx:(d[j]).toNat<256:=(d[j]).toNat_lt
       have h8b:(c%8==0)=false:=by simpa using h8
       have HX:Hid (bitsB d c=decide ((d[j]).toNat<2^(c%8).toNat)):=hid (by
        unfold bitsB;rw[decide_eq_true HSZ.out,decide_eq_false h8,HLN.out]
        rfl)
       have hw:wrap64 ((d[j]).toNat:Int)=((d[j]).toNat:Int):=by
        simp only[wrap64]
        omega
       have HW:=hid hw;have H8:=hid h8;clear hj h8 hw;go_wp2;go_ret;refine ⟨?_,HB2.out⟩;rw[HC1.out,HX.out];exact z0f (zmg _ _)
   · have hs1b:(s != 1)=true:=by simpa using hs1
     have HX:Hid (bitsB d (c*bz s)=true):=hid (zb9 (Int.mul_nonneg c0 (bz_le s).1) HSZ.out (by
      have:s=0∨s=2∨s=3∨s=4∨s=5:=by omega
      rcases this with rfl | rfl | rfl | rfl | rfl
      · rw[show bz 0=0 from rfl]; omega
      · rw[show bz 2=8 from rfl]; omega
      · rw[show bz 3=16 from rfl]; omega
      · rw[show bz 4=32 from rfl]; omega
      · rw[show bz 5=64 from rfl]; omega))
     go_wp2;go_ret;exact ⟨by rw[HX.out]; rfl,HB2.out⟩
 · have hneb:((d.size:Int) != by_)=true:=by simpa using hne
   have HX:Hid (bitsB d (c*bz s)=false):=hid (by unfold bitsB; rw[← HBZ.out,decide_eq_false hne]; rfl);clear hne;go_enter Tryz.func139,Tryz.ntmps139
   go_wp2_with fail
   generalize w.alloc (.cells #[.int .i64 k,.string d,.slice A lp cp,.int .i64 s,.int .i64 c,.slice B li ci] nodeT)=W at *;obtain ⟨e0,e1,e2,e3,e4,e5⟩:=z04 HR.out;have q1:=cell_regrown e1;have q3:=cell_regrown e3;have q4:=cell_regrown e4;refine wp_region_quiet_below (by kernel_rfl) (by kernel_rfl) ?_
   repeat (first | go_big_quiet_step ((go_at_call 158; with_reducible exact Calls.regrown_of (HBY.out _))) | quiet_step ((go_at_call 158; with_reducible exact Calls.regrown_of (HBY.out _))))
   refine wpQuiet_nil ?_
   intro _ hw'
   obtain ⟨⟨dq,osq⟩,hw''⟩:=hw';subst hw'';have HB2:=hid (HBA.out.trans ((below_regrown W dq osq).mono HBA.out.size));clear q1 q3 q4 e0 e1 e2 e3 e4 e5;generalize «Sort».grow (redrawn W dq) osq=W2 at *;go_wp2;go_ret;exact ⟨by rw[HX.out]; rfl,HB2.out⟩
def CutP (b:Nat)(w:World)(e:Ending)(w':World):Prop:=∃u:ByteArray,u.size≤b∧e= .returned (.string u)∧Below w.heap.size w w'
theorem zmk (d:ByteArray)(s c:Int)(w:World)(h0:0≤s)(h5:s≤5)(c0:0≤c)(c1:c≤11)(hd:96≤d.size)(hd2:d.size≤1000) :
 Calls Tryz.prog 145 #[.string d,.int .i64 s,.int .i64 c] w (CutP 1001 w):=by
 have hb:=bz_le s
 have hby:0≤byteZ s c∧byteZ s c≤88:=by
  have h1:=Int.mul_nonneg hb.1 c0;have h2:=Int.mul_le_mul hb.2 c1 c0 (by omega)
  unfold byteZ; omega
 obtain ⟨nn,hnn⟩:=Int.eq_ofNat_of_zero_le hby.1;have HBY:=hid (zbl s c w h0 (by omega) c0 (by omega));rw[hnn] at HBY
 have hn88:nn≤88:=by omega
 obtain ⟨o,hext⟩:∃o,d.extract 0 nn=o:=⟨_,rfl⟩
 have hos:o.size=nn:=by rw[← hext,ByteArray.size_extract]; omega
 have hle:(nn:Int)≤(d.size:Int):=by omega
 have HOS:=hid hos
 by_cases hs1:s=1
 · subst hs1
   by_cases h8:c%8=0
   · clear hos
     go_enter Tryz.func145,Tryz.ntmps145
     go_wp2_with fail
     refine HBY.out.mono ?_;rintro e w1 ⟨rfl,hb1⟩;have HB1:=hid hb1;clear hb1;go_wp2;go_ret;exact ⟨o,by have:=HOS.out; omega,rfl,HB1.out⟩
   · have hn1:byteZ 1 c=(c+7)/8:=by unfold byteZ; rw[show bz 1=1 from rfl,Int.one_mul]
     obtain ⟨j,hj⟩:∃j,nn=j+1:=⟨nn-1,by omega⟩
     have hlt:j<o.size:=by omega
     have hle2:(j:Int)≤(o.size:Int):=by omega
     have hln:(nn:Int)-1=(j:Int):=by omega
     have hjm:j≤100:=by omega
     have hx:(o[j]).toNat<256:=(o[j]).toNat_lt;have HJ:=hid hj
     have hk:c%8=1∨c%8=2∨c%8=3∨c%8=4∨c%8=5∨c%8=6∨c%8=7:=by omega
     clear hos hj h8 hn1 hnn hby hb hd hd2 h0 h5
     rcases hk with hk | hk | hk | hk | hk | hk | hk
     · have hand:=zeh (o[j]).toNat hx
       have hq:(o[j]).toNat%2<256:=by omega
       generalize (o[j]).toNat%2=q at hand hq;go_enter Tryz.func145,Tryz.ntmps145
       go_wp2_with fail
       refine HBY.out.mono ?_;rintro e w1 ⟨rfl,hb1⟩;have hcv:(convert 22 9 (.slice (some ⟨w1.heap.size,0,none⟩) 1 1)).run Tryz.prog (w1.alloc (.cells #[.int .u8 (q:Int)] 5)).drew= .ok (.string ⟨#[UInt8.ofNat q]⟩) (w1.alloc (.cells #[.int .u8 (q:Int)] 5)).drew:=z3o q hq w1.drew;have HB1:=hid hb1;clear hb1;go_wp2
       go_region
       go_wp2;go_ret;exact ⟨o.extract 0 j++⟨#[UInt8.ofNat q]⟩,by have:=HOS.out; rw[z1e,ByteArray.size_extract]; show _+1≤_; have:=HJ.out; omega,rfl,(HB1.out.alloc HB1.out.size _).drew⟩
     · have hand:=zdu (o[j]).toNat hx
       have hq:(o[j]).toNat%4<256:=by omega
       generalize (o[j]).toNat%4=q at hand hq;go_enter Tryz.func145,Tryz.ntmps145
       go_wp2_with fail
       refine HBY.out.mono ?_;rintro e w1 ⟨rfl,hb1⟩;have hcv:(convert 22 9 (.slice (some ⟨w1.heap.size,0,none⟩) 1 1)).run Tryz.prog (w1.alloc (.cells #[.int .u8 (q:Int)] 5)).drew= .ok (.string ⟨#[UInt8.ofNat q]⟩) (w1.alloc (.cells #[.int .u8 (q:Int)] 5)).drew:=z3o q hq w1.drew;have HB1:=hid hb1;clear hb1;go_wp2
       go_region
       go_wp2;go_ret;exact ⟨o.extract 0 j++⟨#[UInt8.ofNat q]⟩,by have:=HOS.out; rw[z1e,ByteArray.size_extract]; show _+1≤_; have:=HJ.out; omega,rfl,(HB1.out.alloc HB1.out.size _).drew⟩
     · have hand:=zfd (o[j]).toNat hx
       have hq:(o[j]).toNat%8<256:=by omega
       generalize (o[j]).toNat%8=q at hand hq;go_enter Tryz.func145,Tryz.ntmps145
       go_wp2_with fail
       refine HBY.out.mono ?_;rintro e w1 ⟨rfl,hb1⟩;have hcv:(convert 22 9 (.slice (some ⟨w1.heap.size,0,none⟩) 1 1)).run Tryz.prog (w1.alloc (.cells #[.int .u8 (q:Int)] 5)).drew= .ok (.string ⟨#[UInt8.ofNat q]⟩) (w1.alloc (.cells #[.int .u8 (q:Int)] 5)).drew:=z3o q hq w1.drew;have HB1:=hid hb1;clear hb1;go_wp2
       go_region
       go_wp2;go_ret;exact ⟨o.extract 0 j++⟨#[UInt8.ofNat q]⟩,by have:=HOS.out; rw[z1e,ByteArray.size_extract]; show _+1≤_; have:=HJ.out; omega,rfl,(HB1.out.alloc HB1.out.size _).drew⟩
     · have hand:=zeq (o[j]).toNat hx
       have hq:(o[j]).toNat%16<256:=by omega
       generalize (o[j]).toNat%16=q at hand hq;go_enter Tryz.func145,Tryz.ntmps145
       go_wp2_with fail
       refine HBY.out.mono ?_;rintro e w1 ⟨rfl,hb1⟩;have hcv:(convert 22 9 (.slice (some ⟨w1.heap.size,0,none⟩) 1 1)).run Tryz.prog (w1.alloc (.cells #[.int .u8 (q:Int)] 5)).drew= .ok (.string ⟨#[UInt8.ofNat q]⟩) (w1.alloc (.cells #[.int .u8 (q:Int)] 5)).drew:=z3o q hq w1.drew;have HB1:=hid hb1;clear hb1;go_wp2
       go_region
       go_wp2;go_ret;exact ⟨o.extract 0 j++⟨#[UInt8.ofNat q]⟩,by have:=HOS.out; rw[z1e,ByteArray.size_extract]; show _+1≤_; have:=HJ.out; omega,rfl,(HB1.out.alloc HB1.out.size _).drew⟩
     · have hand:=ze6 (o[j]).toNat hx
       have hq:(o[j]).toNat%32<256:=by omega
       generalize (o[j]).toNat%32=q at hand hq;go_enter Tryz.func145,Tryz.ntmps145
       go_wp2_with fail
       refine HBY.out.mono ?_;rintro e w1 ⟨rfl,hb1⟩;have hcv:(convert 22 9 (.slice (some ⟨w1.heap.size,0,none⟩) 1 1)).run Tryz.prog (w1.alloc (.cells #[.int .u8 (q:Int)] 5)).drew= .ok (.string ⟨#[UInt8.ofNat q]⟩) (w1.alloc (.cells #[.int .u8 (q:Int)] 5)).drew:=z3o q hq w1.drew;have HB1:=hid hb1;clear hb1;go_wp2
       go_region
       go_wp2;go_ret;exact ⟨o.extract 0 j++⟨#[UInt8.ofNat q]⟩,by have:=HOS.out; rw[z1e,ByteArray.size_extract]; show _+1≤_; have:=HJ.out; omega,rfl,(HB1.out.alloc HB1.out.size _).drew⟩
     · have hand:=zei (o[j]).toNat hx
       have hq:(o[j]).toNat%64<256:=by omega
       generalize (o[j]).toNat%64=q at hand hq;go_enter Tryz.func145,Tryz.ntmps145
       go_wp2_with fail
       refine HBY.out.mono ?_;rintro e w1 ⟨rfl,hb1⟩;have hcv:(convert 22 9 (.slice (some ⟨w1.heap.size,0,none⟩) 1 1)).run Tryz.prog (w1.alloc (.cells #[.int .u8 (q:Int)] 5)).drew= .ok (.string ⟨#[UInt8.ofNat q]⟩) (w1.alloc (.cells #[.int .u8 (q:Int)] 5)).drew:=z3o q hq w1.drew;have HB1:=hid hb1;clear hb1;go_wp2
       go_region
       go_wp2;go_ret;exact ⟨o.extract 0 j++⟨#[UInt8.ofNat q]⟩,by have:=HOS.out; rw[z1e,ByteArray.size_extract]; show _+1≤_; have:=HJ.out; omega,rfl,(HB1.out.alloc HB1.out.size _).drew⟩
     · have hand:=zex (o[j]).toNat hx
       have hq:(o[j]).toNat%128<256:=by omega
       generalize (o[j]).toNat%128=q at hand hq;go_enter Tryz.func145,Tryz.ntmps145
       go_wp2_with fail
       refine HBY.out.mono ?_;rintro e w1 ⟨rfl,hb1⟩;have hcv:(convert 22 9 (.slice (some ⟨w1.heap.size,0,none⟩) 1 1)).run Tryz.prog (w1.alloc (.cells #[.int .u8 (q:Int)] 5)).drew= .ok (.string ⟨#[UInt8.ofNat q]⟩) (w1.alloc (.cells #[.int .u8 (q:Int)] 5)).drew:=z3o q hq w1.drew;have HB1:=hid hb1;clear hb1;go_wp2
       go_region
       go_wp2;go_ret;exact ⟨o.extract 0 j++⟨#[UInt8.ofNat q]⟩,by have:=HOS.out; rw[z1e,ByteArray.size_extract]; show _+1≤_; have:=HJ.out; omega,rfl,(HB1.out.alloc HB1.out.size _).drew⟩
 · have hs1b:(s==1)=false:=by simpa using hs1
   clear hos hs1;go_enter Tryz.func145,Tryz.ntmps145
   go_wp2_with fail
   refine HBY.out.mono ?_;rintro e w1 ⟨rfl,hb1⟩;have HB1:=hid hb1;clear hb1;go_wp2;go_ret;exact ⟨o,by have:=HOS.out; omega,rfl,HB1.out⟩
def Clean (w:World)(k:Nat):Prop:=∃cs T,w.heap[k]? =some (.cells cs T (0,0))
def FromC (w:World)(B:Nat):Nat→Prop:=fun k=>B≤k∧Clean w k
theorem z5q {w w':World}{k:Nat}(h:Clean w k)(he:w'.heap[k]? =w.heap[k]?):Clean w' k:=by
 obtain ⟨c,t,hk⟩:=h;exact ⟨c,t,he.trans hk⟩
theorem z5p {w w':World}{k:Nat}(h:Clean w k)(hb:Below w.heap.size w w'):Clean w' k:=by
 obtain ⟨c,t,hk⟩:=h;exact ⟨c,t,(hb.block k (zd3 hk)).trans hk⟩
theorem zi4 {w:World}{k:Nat}(h:Clean w k)(p:Addr)(v:Value):Clean (w.setCell p v) k:=by
 obtain ⟨c,t,h4⟩:=h
 by_cases hk:k=p.block
 · subst hk
   obtain ⟨b,o,s⟩:=p
   cases s with
   | none=>exact ⟨c.setIfInBounds o v,t,by simp[World.setCell,Array.getElem?_modify,h4]⟩
   | some s=>exact ⟨c,t,by simp[World.setCell,Array.getElem?_modify,h4]⟩
 · exact ⟨c,t,(Below.heap_setCell w p v k hk).trans h4⟩
theorem zfh {w:World}{k:Nat}(h:Clean w k):k<w.heap.size:=by
 obtain ⟨c,t,hk⟩:=h;exact zd3 hk
theorem NdAt.belowC {w w':World}{B m:Nat}{n:Nd}{h:Hd}(hn:NdAt w (FromC w B) m n h)(hb:Below w.heap.size w w'):NdAt w' (FromC w' B) m n h:=(hn.below hb).weak (fun _ hk=>⟨hk.1,z5p hk.2 hb⟩)
theorem NdsAt.fromC {w:World}{B B' m:Nat}{A:Option Addr}{l:List Nd}(h:NdsAt w (FromC w B) m A l)(hB:B'≤B):NdsAt w (FromC w B') m A l:=h.weak (fun _ hk=>⟨Nat.le_trans hB hk.1,hk.2⟩)
theorem NdAt.fromC {w:World}{B B' m:Nat}{n:Nd}{h:Hd}(hn:NdAt w (FromC w B) m n h)(hB:B'≤B):NdAt w (FromC w B') m n h:=hn.weak (fun _ hk=>⟨Nat.le_trans hB hk.1,hk.2⟩)
theorem NdsAt.uponC {w w':World}{B m:Nat}{A:Option Addr}{l:List Nd}(h:NdsAt w (FromC w B) m A l)(hu:Upon B w w'):NdsAt w' (FromC w' B) m A l :=
 (NdsAt.map (fun _ h=>h) (fun _p _ _ hs hc=>hc.block (hu.block _ hs.1 hc.lt)) _ _ _ h).weak (fun k hk=>⟨hk.1,z5q hk.2 (hu.block k hk.1 (zfh hk.2))⟩)
theorem NdAt.uponC {w w':World}{B m:Nat}{n:Nd}{h:Hd}(hn:NdAt w (FromC w B) m n h)(hu:Upon B w w'):NdAt w' (FromC w' B) m n h:=⟨hn.1,hn.2.1.uponC hu,hn.2.2.uponC hu⟩
theorem zdg {w:World}{R T m:Nat}{v:Value}{q:List (Nd×Hd)}(h:w.ownsRow R T 6 v q.length (rowOf q))(hq:q.length≤maxLen)(hr:∀r∈q,NdAt w (FromC w R) m r.1 r.2):∃A cap,v= .slice A q.length cap∧NdsAt w (FromC w R) (m+1) A (q.map (·.1)):=by
 rcases h.2 with ⟨rfl,h0⟩ | ⟨g,cap,cur,rfl,hR,hg,_⟩
 · obtain rfl:q= []:=List.eq_nil_of_length_eq_zero h0
   exact ⟨none,0,rfl,NdsAt.nil _ _ _ _⟩
 · exact ⟨_,cap,rfl,by simpa using hq,q,rfl,.inr ⟨_,rfl,⟨hR,_,_,hg⟩,z7e (fun j u hj=>h.cells (g:=g) rfl j u hj)⟩,hr⟩
def Code (w:World)(B:Nat)(a:Option Addr)(len:Nat):Prop :=
 len≤maxLen∧(len=0∨∃x:Addr,a=some x∧x.block<B∧∀i,i<len→∃b:UInt8,w.cell? (x.add i)=some (.int .u8 (b.toNat:Int)))
theorem Code.keeps {w w':World}{B B' R:Nat}{a:Option Addr}{len:Nat}(h:Code w B a len)(hk:Keeps B' R w w')(h1:B≤B')(h2:B≤R):Code w' B a len:=by
 refine ⟨h.1,h.2.imp id ?_⟩;rintro ⟨x,rfl,hx,hc⟩;refine ⟨x,rfl,hx,fun i hi=>?_⟩;obtain ⟨b,hb⟩:=hc i hi;exact ⟨b,(z6f hk (x.add i) (by rw[z05]; omega) (by rw[z05]; omega)).trans hb⟩
theorem Code.mono {w:World}{B B':Nat}{a:Option Addr}{len:Nat}(h:Code w B a len)(h1:B≤B'):Code w B' a len :=
 ⟨h.1,h.2.imp id fun ⟨x,e,hx,hc⟩=>⟨x,e,Nat.lt_of_lt_of_le hx h1,hc⟩⟩
def Rd (w:World)(R n:Nat):Prop :=
 ∃(a:Option Addr) (len cap p:Nat),p≤n∧w.heap[R]? =some (.cells #[.slice a len cap,.int .i64 (p:Int)] 99 (0,0))∧Code w R a len
theorem Rd.lt {w:World}{R n:Nat}(h:Rd w R n):R<w.heap.size:=by obtain ⟨_,_,_,_,_,hb,_⟩:=h; exact z00 hb
theorem Rd.mono {w:World}{R n m:Nat}(h:Rd w R n)(h1:n≤m):Rd w R m:=by obtain ⟨a,l,c,p,hp,r⟩:=h; exact ⟨a,l,c,p,by omega,r⟩
theorem Rd.below {w w':World}{R n:Nat}(h:Rd w R n)(hb:Below w.heap.size w w'):Rd w' R n:=by
 have hlt:=h.lt;obtain ⟨a,l,c,p,hp,hr,hc⟩:=h;exact ⟨a,l,c,p,hp,(hb.block R hlt).trans hr,hc.keeps (R:=w.heap.size) (Keeps.of_below hb) (by omega) (by omega)⟩
def z0e (w:World)(R n:Nat)(w':World):Prop:=Rd w' R n∧Keeps w.heap.size R w w'
def Pick (k:Int)(R n:Nat)(w:World)(e:Ending)(w':World):Prop:=∃v:Int,(0≤v∧(v<k∨v=0))∧e= .returned (.int .i64 v)∧z0e w R (n+1) w'
theorem zn1 (a b:Nat)(ha:a<9223372036854775808)(hb:b<9223372036854775808):bits .xor .i64 (a:Int) (b:Int)=((a ^^^ b:Nat):Int):=by
 have hx:a ^^^ b<2^63:=Nat.xor_lt_two_pow (by omega) (by omega)
 show IntKind.i64.wrap ((BitVec.ofInt 64 (a:Int) ^^^ BitVec.ofInt 64 (b:Int)).toNat:Int)=_
 rw[BitVec.toNat_xor,z4z a ha,z4z b hb,IntKind.wrap_i64];omega
theorem znw (a b:Int)(ha:0≤a)(hb:0≤b)(ha1:a<9223372036854775808)(hb1:b<9223372036854775808):0≤bits .xor .i64 a b:=by
 obtain ⟨a,rfl⟩:=Int.eq_ofNat_of_zero_le ha;obtain ⟨b,rfl⟩:=Int.eq_ofNat_of_zero_le hb;rw[zn1 a b (by omega) (by omega)];omega
theorem zfv {w:World}{R n p len cap:Nat}{a:Option Addr}(hp:p≤n)(hb:w.heap[R]? =some (.cells #[.slice a len cap,.int .i64 (p:Int)] 99 (0,0)))(hc:Code w R a len) :
 z0e w R (n+1) (w.setCell ⟨R,1,none⟩ (.int .i64 ((p:Int)+1))):=by
 have hk:=z5y w.heap.size R w 1 (.int .i64 ((p:Int)+1));refine ⟨⟨a,len,cap,p+1,by omega,?_,hc.keeps hk (Nat.le_of_lt (z00 hb)) (Nat.le_refl _)⟩,hk⟩;exact zi7 hb
theorem z0e.drewN {w w':World}{R n:Nat}(h:z0e w R n w')(k:Nat):z0e w R n (w'.drewN k):=by
 obtain ⟨⟨a,l,c,p,hp,hr,hc⟩,hk⟩:=h;exact ⟨⟨a,l,c,p,hp,hr,hc⟩,hk.drewN k⟩
theorem z0q (R n:Nat)(k:Int)(w:World)(h:Rd w R n)(hn:n≤1000000) :
 Calls Tryz.prog 25 #[.pointer (some ⟨R,0,none⟩),.int .i64 k] w (Pick k R n w):=by
 obtain ⟨a,len,cap,p,hp,hb,hc⟩:=h;have hfin:=zfv hp hb hc;have HF:=hid hfin;obtain ⟨hc0,hc1⟩:=zj2 hb;have hfz:=z03 hb 1;have hlen:=hc.1;unfold maxLen at hlen;clear hfin
 by_cases h1:k<1
 · go_enter Tryz.func25,Tryz.ntmps25
   go_wp2;go_ret;exact ⟨0,⟨by omega,.inr rfl⟩,rfl,HF.out⟩
 have h1':1≤k:=by omega
 by_cases h2:len=0
 · subst h2
   go_enter Tryz.func25,Tryz.ntmps25;go_wp2;go_ret;exact ⟨0,⟨by omega,.inr rfl⟩,rfl,HF.out⟩
 have hl0:((len:Int)==0)=false:=by simp; omega
 obtain ⟨x,rfl,hx,hcl⟩:=hc.2.resolve_left h2
 have hcl2:∀i,i<len→∃b:UInt8,(w.setCell ⟨R,1,none⟩ (.int .i64 ((p:Int)+1))).cell? (x.add i)=some (.int .u8 (b.toNat:Int)):=fun i hi=>by
  obtain ⟨b,hb'⟩:=hcl i hi;refine ⟨b,(z6f (z5y w.heap.size R w 1 _) (x.add i) ?_ ?_).trans hb'⟩
  · have:=z00 hb; rw[z05]; omega
  · rw[z05]; omega
 clear hcl
 by_cases h3:p<len
 · obtain ⟨b,hbp⟩:=hcl2 p h3
   have hb256:=b.toNat_lt;have hm:(b.toNat:Int)%k<k:=Int.emod_lt_of_pos _ (by omega);have hm0:0≤(b.toNat:Int)%k:=Int.emod_nonneg _ (by omega);clear hcl2;have HH:=hid hb;have HC:=hid hc;clear hb hc;go_enter Tryz.func25,Tryz.ntmps25;go_wp2;go_ret;exact ⟨_,⟨hm0,.inl hm⟩,rfl,HF.out⟩
 · have hpl:0<len:=by omega
   obtain ⟨b1,hb1⟩:=hcl2 (p%len) (Nat.mod_lt _ hpl);obtain ⟨b2,hb2⟩:=hcl2 ((p*7+3)%len) (Nat.mod_lt _ hpl);have hb1l:=b1.toNat_lt;have hb2l:=b2.toNat_lt
   have i1:((p:Int)%(len:Int)).toNat=p%len:=by rw[← Int.natCast_emod]; rfl
   have i2:(((p:Int)*7+3)%(len:Int)).toNat=(p*7+3)%len:=by rw[show (p:Int)*7+3=((p*7+3:Nat):Int) by omega,← Int.natCast_emod]; rfl
   have j1:(p:Int)%(len:Int)<len:=Int.emod_lt_of_pos _ (by omega);have j2:((p:Int)*7+3)%(len:Int)<len:=Int.emod_lt_of_pos _ (by omega);have j3:0≤(p:Int)%(len:Int):=Int.emod_nonneg _ (by omega);have j4:0≤((p:Int)*7+3)%(len:Int):=Int.emod_nonneg _ (by omega);have hq:0≤(p:Int)/(len:Int):=Int.ediv_nonneg (by omega) (by omega);have hq1:(p:Int)/(len:Int)≤1000000:=Int.le_trans (Int.ediv_le_self _ (by omega)) (by omega);clear hcl2;have HH:=hid hb;have HC:=hid hc;clear hb hc;go_enter Tryz.func25,Tryz.ntmps25;go_wp2
   go_quiet (fail)
   have hv0:0≤(b1.toNat:Int)*131+(b2.toNat:Int)*1117+(p:Int)*29+(p:Int)/(len:Int)*53:=by omega
   have hv1:(b1.toNat:Int)*131+(b2.toNat:Int)*1117+(p:Int)*29+(p:Int)/(len:Int)*53<1000000000000:=by omega
   clear i1 i2 j1 j2 j3 j4;generalize (b1.toNat:Int)*131+(b2.toNat:Int)*1117+(p:Int)*29+(p:Int)/(len:Int)*53=v at hv0 hv1 ⊢;have hx0:0≤bits .xor .i64 v (v/64):=znw v (v/64) hv0 (by omega) (by omega) (by omega);have hm:bits .xor .i64 v (v/64)%k<k:=Int.emod_lt_of_pos _ (by omega);have hm0:0≤bits .xor .i64 v (v/64)%k:=Int.emod_nonneg _ (by omega);go_wp2;go_ret;exact ⟨_,⟨hm0,.inl hm⟩,rfl,HF.out.drewN _⟩
theorem z0e.then {w w1 w2:World}{R n m:Nat}(h:z0e w R n w1)(k:z0e w1 R m w2):z0e w R m w2:=⟨k.1,h.2.then h.2.size k.2⟩
theorem z0e.mono {w w1:World}{R n m:Nat}(h:z0e w R n w1)(k:n≤m):z0e w R m w1:=⟨h.1.mono k,h.2⟩
theorem z0e.from {w0 w w1:World}{R n:Nat}(hb:Below w0.heap.size w0 w)(h:z0e w R n w1):z0e w0 R n w1:=⟨h.1,(Keeps.of_below hb).then hb.size h.2⟩
theorem z0e.below {w w1 w2:World}{R n:Nat}(h:z0e w R n w1)(hb:Below w1.heap.size w1 w2):z0e w R n w2:=⟨h.1.below hb,h.2.then h.2.size (Keeps.of_below hb)⟩
theorem Rd.self {w:World}{R n:Nat}(h:Rd w R n):z0e w R n w:=⟨h,Keeps.refl _ _ _⟩
def Lits (w:World)(g:Nat)(vs:List Value):Prop:=g<w.heap.size∧∀i v,vs[i]? =some v→w.cell? ⟨g,i,none⟩=some v
theorem Lits.keeps {w w':World}{g R:Nat}{vs:List Value}(h:Lits w g vs)(hk:Keeps w.heap.size R w w')(hg:g≠R):Lits w' g vs :=
 ⟨Nat.lt_of_lt_of_le h.1 hk.size,fun i v hi=>(z6f hk ⟨g,i,none⟩ h.1 hg).trans (h.2 i v hi)⟩
theorem Lits.new (w:World)(vs:Array Value)(t:TypeId)(fr:Nat×Nat):Lits (w.alloc (.cells vs t fr)) w.heap.size vs.toList:=by
 refine ⟨by simp,fun i v hi=>?_⟩;rw[cell_of_row _ _ _ vs t fr (heap_alloc_new w _)]
 simpa using hi
def StrP (S:ByteArray→Prop)(R n:Nat)(w:World)(e:Ending)(w':World):Prop:=∃u,S u∧e= .returned (.string u)∧z0e w R n w'
def IntP (S:Int→Prop)(R n:Nat)(w:World)(e:Ending)(w':World):Prop:=∃v,S v∧e= .returned (.int .i64 v)∧z0e w R n w'
def znr (w:World)(e:Ending)(w':World):Prop:=∃R,e= .returned (.pointer (some ⟨R,0,none⟩))∧w.heap.size≤R∧Rd w' R 0∧Below w.heap.size w w'
theorem z9f (w:World)(a:Option Addr)(len cap:Nat)(h:Code w w.heap.size a len):Rd (w.alloc (.cells #[.slice a len cap,.int .i64 0] 99)) w.heap.size 0 :=
 ⟨a,len,cap,0,Nat.le_refl _,heap_alloc_new w _,h.keeps (R:=w.heap.size) (Keeps.of_below ((Below.refl _ w).alloc (Nat.le_refl _) _)) (Nat.le_refl _) (Nat.le_refl _)⟩
theorem zg3 (a:Option Addr)(len cap:Nat)(w:World)(h:Code w w.heap.size a len)(hcap:len≤cap)(hnil:a=none→len=0) :
 Calls Tryz.prog 22 #[.slice a len cap] w (znr w):=by
 have hlen:=h.1;unfold maxLen at hlen
 have hb:∀x,Below w.heap.size w (w.alloc x):=fun x=>(Below.refl _ w).alloc (Nat.le_refl _) x
 by_cases h1:2000<len
 · have hn2:=z9f w a 2000 cap ⟨by decide,h.2.elim (fun e=>absurd e (by omega)) (fun ⟨x,e,hx,hc⟩=> .inr ⟨x,e,hx,fun i hi=>hc i (by omega)⟩)⟩
   have HN:=hid hn2;have HB:=hid hb;clear hn2 hb
   obtain ⟨x,rfl⟩:∃x,a=some x:=by
    cases a with
    | none=>exact absurd (hnil rfl) (by omega)
    | some x=>exact ⟨x,rfl⟩
   clear hnil;go_enter Tryz.func22,Tryz.ntmps22;go_wp2;go_ret;exact ⟨w.heap.size,rfl,Nat.le_refl _,HN.out,HB.out _⟩
 · have hn2:=z9f w a len cap h
   have HN:=hid hn2;have HB:=hid hb;have HI:=hid hnil;clear hn2 hb hnil;go_enter Tryz.func22,Tryz.ntmps22;go_wp2;go_ret;exact ⟨w.heap.size,rfl,Nat.le_refl _,HN.out,HB.out _⟩
theorem zlr (R n g len cap:Nat)(S:ByteArray→Prop)(vs:List Value)(w:World)(h:Rd w R n)(hn:n≤1000000)(hl:Lits w g vs)(hS:∀v∈vs,∃x,v= .string x∧S x)(hg:g≠R)(hlen:vs.length=len)(hp:0<len)(h1:len≤1000) :
 Calls Tryz.prog 94 #[.pointer (some ⟨R,0,none⟩),.slice (some ⟨g,0,none⟩) len cap] w (StrP S R (n+1) w):=by
 have HL:=hid hlen;have HS:=hid hS;clear hlen hS;go_enter Tryz.func94,Tryz.ntmps94
 go_wp2_with fail
 refine (z0q R n _ _ h hn).mono ?_;rintro e w1 ⟨v,⟨hv0,hv1⟩,rfl,hpk⟩
 have hv:v<len:=by omega
 obtain ⟨k,rfl⟩:=Int.eq_ofNat_of_zero_le hv0
 have hk:k<vs.length:=by rw[HL.out]; omega
 obtain ⟨x,hx,hm⟩:=HS.out vs[k] (List.getElem_mem hk);have hc:w1.cell? ⟨g,k,none⟩=some (.string x):=(hl.keeps hpk.2 hg).2 k _ (by rw[List.getElem?_eq_getElem hk,hx]);clear hk hv1 hx;go_wp2;go_ret;exact ⟨x,hm,rfl,hpk⟩
def repL (l:List UInt8):Nat→List UInt8
 | 0=> []
 | k+1=>l++repL l k
theorem z3g (l:List UInt8):∀k,(repL l k).length=l.length*k
 | 0=>rfl
 | k+1=>by rw[repL,List.length_append,z3g l k,Nat.mul_succ]; omega
theorem zad (l:List UInt8):∀k,repL (l++l) k=repL l (2*k)
 | 0=>rfl
 | k+1=>by rw[repL,zad l k,show 2*(k+1)=2*k+1+1 by omega,repL,repL,List.append_assoc]
theorem zj0 (v u s:List UInt8)(m N:Nat)(h:v++repL u m=repL s N)(he:m%2=0):v++repL (u++u) (m/2)=repL s N:=by
 rw[zad,show 2*(m/2)=m by omega,h]
theorem zjm (v u s:List UInt8)(m N:Nat)(h:v++repL u m=repL s N)(he:¬m%2=0):(v++u)++repL (u++u) (m/2)=repL s N:=by
 rw[zad,List.append_assoc,← h]
 have e:repL u m=repL u (2*(m/2)+1):=by rw[show 2*(m/2)+1=m by omega]
 rw[e,repL]
theorem zkx (v u s:ByteArray)(m N:Nat)(h:v.data.toList++repL u.data.toList m=repL s.data.toList N)(hm:1≤m):v.size+u.size≤s.size*N:=by
 have h1:=congrArg List.length h;rw[List.length_append,z3g,z3g] at h1
 simp only[Array.length_toList,ByteArray.size_data] at h1
 have h2:u.size*1≤u.size*m:=Nat.mul_le_mul_left _ hm;omega
theorem zhs (a b:ByteArray):(a++b).data.toList=a.data.toList++b.data.toList:=by simp
theorem ret_s {a b:ByteArray}(h:a.data.toList=b.data.toList):Ending.returned (.string a)= .returned (.string b):=by rw[zi8 h]
theorem z4y (s:ByteArray)(n:Int)(w:World)(h0:0≤n)(hn:n≤10000000)(hs:s.size≤10000000)(hsn:s.size*n.toNat≤10000000) :
 Calls Tryz.prog 95 #[.string s,.int .i64 n] w fun e w'=>e= .returned (.string ⟨(repL s.data.toList n.toNat).toArray⟩)∧w=w':=by
 obtain ⟨N,rfl⟩:=Int.eq_ofNat_of_zero_le h0;rw[Int.toNat_natCast] at hsn ⊢;go_enter Tryz.func95,Tryz.ntmps95;go_wp2
 go_loop [0,1,5] (fun t k o=>∃(m:Nat) (u v:ByteArray),t= .string u∧k= .int .i64 m∧o= .string v∧m≤N∧u.size≤20000000∧Hid (v.data.toList++repL u.data.toList m=repL s.data.toList N)) (fun _ k _=>(intOf k).toNat)
 case atStart=>exact ⟨N,s,ByteArray.empty,rfl,rfl,rfl,by omega,by omega,by exact List.nil_append _⟩
 case round =>
  obtain ⟨m,u,v,rfl,rfl,rfl,hm,hu,HE⟩:=hrel
  by_cases hm0:m=0
  · subst hm0
    go_wp2;go_ret;refine ⟨ret_s ?_,rfl⟩;rw[← HE.out,repL,List.append_nil]
  · have hm1:1≤m:=by omega
    have hsz:=zkx v u s m N HE.out hm1
    have f1:¬9223372036854775807<v.size+u.size:=by omega
    have f2:¬9223372036854775807<u.size+u.size:=by omega
    have hu2:(u++u).size≤20000000:=by simp; omega
    by_cases ho:m%2=0
    · have hb:((m:Int)%2==1)=false:=by simp; omega
      have hE2:v.data.toList++repL (u++u).data.toList (m/2)=repL s.data.toList N:=by rw[zhs]; exact zj0 _ _ _ _ _ HE.out ho
      have HE2:=hid hE2;clear hE2 ho;go_wp2
      go_round
      case rel=>exact ⟨m/2,_,_,rfl,by go_num,rfl,by omega,hu2,HE2⟩
      case measure=>simp[intOf]; omega
    · have hb:((m:Int)%2==1)=true:=by simp; omega
      have hE2:(v++u).data.toList++repL (u++u).data.toList (m/2)=repL s.data.toList N:=by rw[zhs,zhs]; exact zjm _ _ _ _ _ HE.out ho
      have HE2:=hid hE2;clear hE2 ho;go_wp2
      go_round
      case rel=>exact ⟨m/2,_,_,rfl,by go_num,rfl,by omega,hu2,HE2⟩
      case measure=>simp[intOf]; omega
theorem zig:(Tryz.prog.info? 180).map (·.size)=some 8:=by kernel_rfl
theorem size5:(Tryz.prog.info? 5).map (·.size)=some 1:=by kernel_rfl
theorem info5:(Tryz.prog.info? 5).map (fun i=>(i.zero,i.size,i.bytes))=some (some (.int .u8 0),1,1):=by kernel_rfl
theorem z5i (n size:Int)(w:World)(h0:0≤size)(h1:size≤1000000) :
 Calls Tryz.prog 78 #[.int .i64 n,.int .i64 size] w fun e w'=>e= .returned (.string ⟨(leB n size.toNat).toArray⟩)∧Below w.heap.size w w':=by
 obtain ⟨z,rfl⟩:=Int.eq_ofNat_of_zero_le h0;obtain ⟨i0,hi,hz0,hz1,hz2⟩:=info_parts info5;go_enter Tryz.func78,Tryz.ntmps78;go_wp2
 go_loopw [0,5,6] (fun m v i wr=>∃k:Nat,k≤z∧i= .int .i64 k∧m= .int .i64 (shr8 n k)∧Hid (wr.ownsRow w.heap.size 5 1 v k (Lib.byteCells (leB n k)))∧Hid (Below w.heap.size w wr)) (fun _ _ i _=>(z-intOf i).toNat)
 case atStart=>exact ⟨0,by omega,rfl,rfl,World.ownsRow_made w #[] 0 (Nat.le_refl _) (by decide) rfl,(Below.refl _ _).alloc (Nat.le_refl _) _⟩
 case round =>
  obtain ⟨k,hk,rfl,rfl,hown,HB⟩:=hrel
  by_cases hlt:k<z
  · have hb:Hid (∀b:Int,b=((UInt8.ofNat (shr8 n k%256).toNat).toNat:Int)→Lib.byteCells (leB n k)++ [.int .u8 b]=Lib.byteCells (leB n (k+1))):=fun b hb=>by rw[hb,z85,← zjj]
    go_wp2_with (at_builtin; go_must (refine wpList_append_own _ rfl (.tmp 13) (.tmp 16) 22 rfl w.heap.size 5 i0 (.int .u8 0) 1 1 Tryz.underlying22 hi hz0 hz1 hz2 rfl (by decide) u5 _ _ rfl (hown.out.alloc _) ⟨wr.heap.size,0,none⟩ 1 1 [_] rfl rfl (cell_one_new _ _ _) (by simp[Value.oneCell']) (by unfold maxLen; omega) (by omega) (by have:=HB.out.size; simp; omega) ?_); intro v' w1 hown' hgrow _)
    have hrel':w1.ownsRow w.heap.size 5 1 v' (k+1) (Lib.byteCells (leB n (k+1))):=by rw[← hb.out _ (z93 _).symm]; exact hown'
    have hB':Below w.heap.size w w1:=zbi HB.out HB.out.size hown.out hgrow
    go_roundw
    case rel=>exact ⟨k+1,by omega,by go_num,rfl,hrel',hB'⟩
    case measure=>simp[intOf]; omega
  · obtain rfl:k=z:=by omega
    have hcv:=zcs (P:=Tryz.prog) wr 22 9 5 w.heap.size k (leB n k) u5 (z2s n k) Tryz.underlying22 Tryz.underlying5 Tryz.underlying9 hown.out;go_wp2;go_ret;exact ⟨by simp,HB.out⟩
end Go.Proofs.YtblcibgphccfkaaGreatDoor
