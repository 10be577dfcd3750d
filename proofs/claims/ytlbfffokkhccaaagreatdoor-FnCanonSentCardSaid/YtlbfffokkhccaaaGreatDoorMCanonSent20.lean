/- Texts of the proof of the law FnCanonSent, side by side: part 20. -/
import Derived.Test.YtlbfffokkhccaaaGreatDoorMCanonSent19
set_option maxHeartbeats 8000000
set_option maxRecDepth 100000
open Go.Lib (hid)
namespace Go.Proofs.YtlbfffokkhccaaaGreatDoor
open Go.RowKit Go.Deep
def txS (ss:Segs):List ByteArray:=ss.map fun s=>⟨s.toArray⟩
theorem z29 (ss:Segs):(txS ss).length=ss.length:=by simp[txS]
theorem zgs {ss:Segs}(hk:SOk LS ss):frOk (txS ss)=decide (totS ss≤200):=by
 have h1:∀s∈ss,s.length%8=0:=fun s hs=>by
  obtain ⟨i,hi,e⟩:=List.getElem_of_mem hs;have:=hk.wds i;rw[z9i hi,e] at this;exact this
 have h2:∀(l:Segs),(∀s∈l,s.length%8=0)→(txS l).all (fun s=>decide (s.size%8=0))=true∧tot (txS l)=8*totS l:=by
  intro l
  induction l with
  | nil=>intro _; exact ⟨rfl,rfl⟩
  | cons s t ih =>
   intro h
   obtain ⟨i1,i2⟩:=ih (fun x hx=>h x (List.mem_cons_of_mem _ hx));have h0:=h s (List.mem_cons_self ..)
   have hs:(⟨s.toArray⟩:ByteArray).size=s.length:=by simp[ByteArray.size]
   have hw:s.length=8*wn s:=by unfold wn; omega
   simp only[txS,tot,totS] at i1 i2 ⊢
   rw[List.map_cons,List.all_cons,List.map_cons,List.sum_cons,List.map_cons,List.sum_cons,i1,i2,hs];exact ⟨by simp[h0],by omega⟩
 obtain ⟨h3,h4⟩:=h2 ss h1;unfold frOk;rw[h3,h4,z29];have h5:=hk.one;have h6:=hk.six
 by_cases h:totS ss≤200
 · rw[decide_eq_true h,decide_eq_true (show 1≤ss.length∧ss.length≤6 from ⟨h5,h6⟩),decide_eq_true (show 8*totS ss≤1600 by omega)]; rfl
 · rw[decide_eq_false h,decide_eq_false (show ¬8*totS ss≤1600 by omega)]; simp
theorem zmq {ss:Segs}(hk:SOk LS ss):tot (txS ss)≤1099511627776:=by
 have:∀(l:Segs),tot (txS l)≤8*totS l+8*l.length:=by
  intro l
  induction l with
  | nil=>exact Nat.le_refl _
  | cons s t ih =>
   have hs:(⟨s.toArray⟩:ByteArray).size=s.length:=by simp[ByteArray.size]
   have hw:s.length≤8*wn s+8:=by unfold wn; omega
   simp only[txS,tot,totS] at ih ⊢
   rw[List.map_cons,List.map_cons,List.sum_cons,List.map_cons,List.sum_cons,List.length_cons,hs];omega
 have h1:=this ss;have h2:=hk.totS;have h3:=hk.six;unfold LS at h2;omega
theorem zpw {w:World}{r:Nat}{ss:Segs}(hk:SOk LS ss)(hr:r<w.heap.size)(hc:∀i,i<ss.length→w.cell? ⟨r,i,none⟩=some (strS (sgS ss i))):Strs w (some ⟨r,0,none⟩) (txS ss):=by
 refine ⟨fun s hs=>?_,.inr ⟨_,rfl,hr,fun i hi=>?_⟩⟩
 · obtain ⟨x,hx,rfl⟩:=List.mem_map.1 hs
   obtain ⟨i,hi,e⟩:=List.getElem_of_mem hx;have h1:=zbj hk i;rw[z9i hi,e] at h1
   have hs:(⟨x.toArray⟩:ByteArray).size=x.length:=by simp[ByteArray.size]
   rw[hs];unfold maxLen;omega
 · have hi':i<ss.length:=by rw[z29] at hi; exact hi
   rw[z1r,hc i hi',z9i hi']
   simp[txS]
theorem zog {w:World}{B B' T sz n:Nat}{v:Value}{xs:List Value}(h:w.ownsRow B T sz v n xs)(hb:B'≤B):w.ownsRow B' T sz v n xs:=by
 refine ⟨h.1,?_⟩
 rcases h.2 with e | ⟨g,cap,cur,e1,e2,e3⟩
 · exact .inl e
 · exact .inr ⟨g,cap,cur,e1,by omega,e3⟩
def zcn (r:Option Segs)(w:World)(e:Ending)(w':World):Prop :=
 (r=none∧∃A c,e= .returned (.tuple #[.slice A 0 c,.bool false])∧Below w.heap.size w w') ∨
 ∃ss A c,r=some ss∧SOk LS ss∧e= .returned (.tuple #[.slice A ss.length c,.bool true])∧w'.ownsRow w.heap.size stT 1 (.slice A ss.length c) ss.length (ss.map strS)∧Below w.heap.size w w'
theorem zga (m:Nat)(n:Nd)(h:Hd)(w:World)(S:Nat→Prop)(z:Nat)(hn:NdAt w S m n h)(ht:totN m n≤2000000)(hok:z0g n=true)(h1:1≤z)(h2:z≤200) :
 Calls Tryz.prog 40 #[.agg #[.int .i64 n.kind,.string n.data,.slice h.A n.ptrs.length h.a,.int .i64 n.size,.int .i64 n.count,.slice h.B n.items.length h.b],.int .i64 (z:Int)] w (zcn (z36 200 z n) w):=by
 obtain ⟨qA,qa,qB,qb⟩:=h
 dsimp only
 obtain ⟨ho8,hw8⟩:=z21 hok;have hlim:=zmh (size:=z) ho8 LS (by decide);have HLIM:=hid hlim;have hk0:=SOKL LS (by decide);have hbW:Below w.heap.size w (((w.alloc (.cells #[.int .i64 n.kind,.string n.data,.slice qA n.ptrs.length qa,.int .i64 n.size,.int .i64 n.count,.slice qB n.items.length qb] nodeT)).alloc (.cells #[strS (zer 1)] stT)).alloc (.cells #[.slice (some ⟨w.heap.size+1,0,none⟩) 1 1,.int .i64 (z:Int),.bool false] wrT)):=(((Below.refl _ w).alloc (Nat.le_refl _) _).alloc (by simp) _).alloc (by simp; omega) _;have r0:((((w.alloc (.cells #[.int .i64 n.kind,.string n.data,.slice qA n.ptrs.length qa,.int .i64 n.size,.int .i64 n.count,.slice qB n.items.length qb] nodeT)).alloc (.cells #[strS (zer 1)] stT)).alloc (.cells #[.slice (some ⟨w.heap.size+1,0,none⟩) 1 1,.int .i64 (z:Int),.bool false] wrT))).heap[w.heap.size]? =some (.cells #[.int .i64 n.kind,.string n.data,.slice qA n.ptrs.length qa,.int .i64 n.size,.int .i64 n.count,.slice qB n.items.length qb] nodeT (0,0)):=z05 (z05 (heap_alloc_new w _) _) _
 have r1:((((w.alloc (.cells #[.int .i64 n.kind,.string n.data,.slice qA n.ptrs.length qa,.int .i64 n.size,.int .i64 n.count,.slice qB n.items.length qb] nodeT)).alloc (.cells #[strS (zer 1)] stT)).alloc (.cells #[.slice (some ⟨w.heap.size+1,0,none⟩) 1 1,.int .i64 (z:Int),.bool false] wrT))).heap[w.heap.size+1]? =some (.cells #[strS (zer 1)] stT (0,0)):=by
  have:=z05 (heap_alloc_new (w.alloc (.cells #[.int .i64 n.kind,.string n.data,.slice qA n.ptrs.length qa,.int .i64 n.size,.int .i64 n.count,.slice qB n.items.length qb] nodeT)) (.cells #[strS (zer 1)] stT)) (.cells #[.slice (some ⟨w.heap.size+1,0,none⟩) 1 1,.int .i64 (z:Int),.bool false] wrT)
  simpa using this
 have r2:((((w.alloc (.cells #[.int .i64 n.kind,.string n.data,.slice qA n.ptrs.length qa,.int .i64 n.size,.int .i64 n.count,.slice qB n.items.length qb] nodeT)).alloc (.cells #[strS (zer 1)] stT)).alloc (.cells #[.slice (some ⟨w.heap.size+1,0,none⟩) 1 1,.int .i64 (z:Int),.bool false] wrT))).heap[w.heap.size+2]? =some (.cells #[.slice (some ⟨w.heap.size+1,0,none⟩) 1 1,.int .i64 (z:Int),.bool false] wrT (0,0)):=by
  have:=heap_alloc_new ((w.alloc (.cells #[.int .i64 n.kind,.string n.data,.slice qA n.ptrs.length qa,.int .i64 n.size,.int .i64 n.count,.slice qB n.items.length qb] nodeT)).alloc (.cells #[strS (zer 1)] stT)) (.cells #[.slice (some ⟨w.heap.size+1,0,none⟩) 1 1,.int .i64 (z:Int),.bool false] wrT)
  simpa using this
 have hsb:Sb (((w.alloc (.cells #[.int .i64 n.kind,.string n.data,.slice qA n.ptrs.length qa,.int .i64 n.size,.int .i64 n.count,.slice qB n.items.length qb] nodeT)).alloc (.cells #[strS (zer 1)] stT)).alloc (.cells #[.slice (some ⟨w.heap.size+1,0,none⟩) 1 1,.int .i64 (z:Int),.bool false] wrT)) w.heap.size (w.heap.size+2) z [zer 1] false (fun k=>k=w.heap.size+1∨k=w.heap.size+2) :=
  ⟨_,r2,⟨by decide,.inr ⟨w.heap.size+1,1,#[strS (zer 1)],rfl,by omega,r1,Nat.le_refl _,by decide,rfl,rfl⟩⟩,by omega,.inr rfl,fun k hk=> .inl (Option.some.inj hk).symm⟩
 have HNODE:=hid (zb3 z h2 8 w.heap.size (w.heap.size+2) [zer 1] _ (((w.alloc (.cells #[.int .i64 n.kind,.string n.data,.slice qA n.ptrs.length qa,.int .i64 n.size,.int .i64 n.count,.slice qB n.items.length qb] nodeT)).alloc (.cells #[strS (zer 1)] stT)).alloc (.cells #[.slice (some ⟨w.heap.size+1,0,none⟩) 1 1,.int .i64 (z:Int),.bool false] wrT)) 0 0 m n ⟨qA,qa,qB,qb⟩ hsb (fun k hk=>by
  have:((((w.alloc (.cells #[.int .i64 n.kind,.string n.data,.slice qA n.ptrs.length qa,.int .i64 n.size,.int .i64 n.count,.slice qB n.items.length qb] nodeT)).alloc (.cells #[strS (zer 1)] stT)).alloc (.cells #[.slice (some ⟨w.heap.size+1,0,none⟩) 1 1,.int .i64 (z:Int),.bool false] wrT))).heap.size=w.heap.size+3:=by simp
  rw[this]
  omega) hk0 (by decide) (by decide) (z2o hn.lt' hbW) ho8 ht (by omega) (by rw[show totS [zer 1]=1 by decide]; unfold LS; omega))
 dsimp only at HNODE
 have HM:=hid (fun W=>z3g ⟨#[0]⟩ 8 W (by omega) (by omega) (by decide) (by decide))
 have hmz:(⟨(repL (⟨#[0]⟩:ByteArray).data.toList (8:Int).toNat).toArray⟩:ByteArray)=⟨(zer 1).toArray⟩:=by decide +kernel
 rw[hmz] at HM;have HBW:=hid hbW;have HSOK:Hid (∀s1,wrP LS z 8 n [zer 1] 0 0=some s1→SOk LS s1):=hid (fun s1 hs=>(z2b LS z 8 n [zer 1] 0 0 s1 ho8 hk0 (by decide) (by decide) hs).1);have HBP:Hid (z36 LS z n=wrP LS z 8 n [zer 1] 0 0):=hid rfl;rw[HBP.out] at HLIM;generalize wrP LS z 8 n [zer 1] 0 0=rr at *;clear hn hok ho8 hlim hk0 hbW r0 r1 r2 hsb hmz HBP;go_enter Tryz.func40,Tryz.ntmps40
 go_wp2_with fail
 refine (HM.out _).mono ?_;rintro e w9 ⟨rfl,rfl⟩
 go_wp2_with fail
 refine HNODE.out.mono ?_;rintro e w1 ⟨rfl,hk1,hor⟩;have HK1:=hid (HBW.out.trans (hk1.below HBW.out.size (fun k hk=>by rcases hk with h | h <;> omega)))
 rcases hor with ⟨hnone,s1,hs1⟩ | ⟨s1,hsome,hs1⟩
 · have HR:Hid (z36 200 z n=none):=hid (by rw[HLIM.out,hnone]; rfl)
   obtain ⟨v,hb, -⟩:=hs1;obtain ⟨c0,c1,c2⟩:=z0k hb;clear hb hk1;go_wp2;exact bodyPost_ret (v:= .tuple #[.slice (some ⟨w1.heap.size,0,none⟩) 0 0,.bool false]) (by simp[results,Tryz.results40,go_sem]) rfl (.inl ⟨HR.out,_,_,rfl,HK1.out.alloc HK1.out.size _⟩)
 · have hks:=HSOK.out s1 hsome
   obtain ⟨r,cap,hb,ho,hlb,hPb,hPr,hc⟩:=hs1.open2 hks.one;obtain ⟨c0,c1,c2⟩:=z0k hb;have HO:=hid ho;have HKS:=hid hks;have hrl:r<w1.heap.size:=(ho.lt r rfl).2;have HFR:=hid (z3s (some ⟨r,0,none⟩) cap (txS s1) w1 (zpw hks hrl (fun i hi=>(hc i hi).1)) (by rw[z29]; have:=hks.six; omega) (zmq hks));rw[z29,zgs hks] at HFR;clear hb ho hlb hPb hPr hc hs1 hks hrl hk1
   by_cases hle:totS s1≤200
   · have HR:Hid (z36 200 z n=some s1):=hid (by rw[HLIM.out,hsome,Option.bind_some,if_pos hle])
     rw[decide_eq_true hle] at HFR;clear hsome hle
     go_wp2_with fail
     refine HFR.out.mono ?_;rintro e w2 ⟨rfl,rfl⟩;go_wp2;exact bodyPost_ret (v:= .tuple #[.slice (some ⟨r,0,none⟩) s1.length cap,.bool true]) (by simp[results,Tryz.results40,go_sem]) rfl (.inr ⟨s1,_,_,HR.out,HKS.out,rfl,HO.out,HK1.out⟩)
   · have HR:Hid (z36 200 z n=none):=hid (by rw[HLIM.out,hsome,Option.bind_some,if_neg hle])
     rw[decide_eq_false hle] at HFR;clear hsome hle
     go_wp2_with fail
     refine HFR.out.mono ?_;rintro e w2 ⟨rfl,rfl⟩;go_wp2;exact bodyPost_ret (v:= .tuple #[.slice (some ⟨w1.heap.size,0,none⟩) 0 0,.bool false]) (by simp[results,Tryz.results40,go_sem]) rfl (.inl ⟨HR.out,_,_,rfl,HK1.out.alloc HK1.out.size _⟩)
theorem zg5 (m:Nat)(n:Nd)(h:Hd)(w:World)(S:Nat→Prop)(size:Int)(hn:NdAt w S m n h)(ht:totN m n≤2000000) :
 Calls Tryz.prog 11 #[.agg #[.int .i64 n.kind,.string n.data,.slice h.A n.ptrs.length h.a,.int .i64 n.size,.int .i64 n.count,.slice h.B n.items.length h.b],.int .i64 size] w (zcn (bldV n size) w):=by
 obtain ⟨qA,qa,qB,qb⟩:=h;have hb0:=(Below.refl w.heap.size w).alloc (Nat.le_refl _) (.cells #[.int .i64 n.kind,.string n.data,.slice qA n.ptrs.length qa,.int .i64 n.size,.int .i64 n.count,.slice qB n.items.length qb] nodeT);have HB0:=hid hb0;have R0:=hid (heap_alloc_new w (.cells #[.int .i64 n.kind,.string n.data,.slice qA n.ptrs.length qa,.int .i64 n.size,.int .i64 n.count,.slice qB n.items.length qb] nodeT));have HOK:=hid (fun (W:World) (hW:Below w.heap.size w W)=>zdn m n ⟨qA,qa,qB,qb⟩ W S (hn.below hW) ht);have HLB:=hid (fun (hok:z0g n=true) (z:Nat) (h1:1≤z) (h2:z≤200) (W:World) (hW:Below w.heap.size w W)=>zga m n ⟨qA,qa,qB,qb⟩ W S z (hn.below hW) ht hok h1 h2)
 dsimp only at HOK HLB ⊢
 by_cases hok:z0g n=true
 · by_cases hin:1≤size∧size≤200
   · obtain ⟨z,rfl⟩:=Int.eq_ofNat_of_zero_le (show 0≤size by omega)
     have HL2:=hid (HLB.out hok z (by omega) (by omega));have HV:Hid (bldV n (z:Int)=z36 200 z n):=hid (by unfold bldV; rw[if_pos ⟨hok,hin⟩]; rfl);rw[hok] at HOK;have HL1:=hid (fun W=>z34 (z:Int) 1 200 W);rw[show inB (z:Int) 1 200=true by unfold inB; simp; omega] at HL1;have HIN:=hid hin;clear HLB hn hb0 hok;go_enter Tryz.func11,Tryz.ntmps11
     go_wp2_with fail
     refine (HOK.out _ HB0.out).mono ?_;rintro e w1 ⟨rfl,hb1⟩;have HB1:=hid (HB0.out.trans (hb1.mono HB0.out.size));obtain ⟨n0,n1,n2,n3,n4,n5⟩:=z01 ((hb1.block _ (z00 R0.out)).trans R0.out);clear hb1
     go_wp2_with fail
     go_at_call 39
     refine (HL1.out _).mono ?_;rintro e w2 ⟨rfl,rfl⟩
     go_wp2_with fail
     refine (HL2.out _ HB1.out).mono ?_;rintro e w3 (⟨hnone,A,c,rfl,hb3⟩ | ⟨ss,A,c,hsome,hks,rfl,ho,hb3⟩)
     · have HB3:=hid (HB1.out.trans (hb3.mono HB1.out.size))
       have HN3:=hid hnone;clear hb3 hnone;go_wp2;exact bodyPost_ret (v:= .tuple #[.slice A 0 c,.bool false]) (by simp[results,Tryz.results11,go_sem]) rfl (.inl ⟨by rw[HV.out]; exact HN3.out,A,c,rfl,HB3.out⟩)
     · have HB3:=hid (HB1.out.trans (hb3.mono HB1.out.size))
       have HN3:=hid hsome;have HKS:=hid hks;have HO3:=hid (zog ho HB1.out.size);clear hb3 hsome hks ho;go_wp2;exact bodyPost_ret (v:= .tuple #[.slice A ss.length c,.bool true]) (by simp[results,Tryz.results11,go_sem]) rfl (.inr ⟨ss,A,c,by rw[HV.out]; exact HN3.out,HKS.out,rfl,HO3.out,HB3.out⟩)
   · have HV:Hid (bldV n size=none):=hid (by unfold bldV; rw[if_neg (fun h=>hin h.2)])
     have HL1:=hid (fun W=>z34 size 1 200 W);rw[show inB size 1 200=false by unfold inB; simp; omega] at HL1;rw[hok] at HOK;have HIN:=hid hin;clear HLB hn hb0 hok hin;go_enter Tryz.func11,Tryz.ntmps11
     go_wp2_with fail
     refine (HOK.out _ HB0.out).mono ?_;rintro e w1 ⟨rfl,hb1⟩;have HB1:=hid (HB0.out.trans (hb1.mono HB0.out.size));clear hb1
     go_wp2_with fail
     go_at_call 39
     refine (HL1.out _).mono ?_;rintro e w2 ⟨rfl,rfl⟩;go_wp2;exact bodyPost_ret (v:= .tuple #[.slice (some ⟨w1.heap.size,0,none⟩) 0 0,.bool false]) (by simp[results,Tryz.results11,go_sem]) rfl (.inl ⟨HV.out,_,_,rfl,HB1.out.alloc HB1.out.size _⟩)
 · have HV:Hid (bldV n size=none):=hid (by unfold bldV; rw[if_neg (fun h=>hok h.1)])
   rw[show z0g n=false by simpa using hok] at HOK;clear HLB hn hb0 hok;go_enter Tryz.func11,Tryz.ntmps11
   go_wp2_with fail
   refine (HOK.out _ HB0.out).mono ?_;rintro e w1 ⟨rfl,hb1⟩;have HB1:=hid (HB0.out.trans (hb1.mono HB0.out.size));clear hb1;go_wp2;exact bodyPost_ret (v:= .tuple #[.slice (some ⟨w1.heap.size,0,none⟩) 0 0,.bool false]) (by simp[results,Tryz.results11,go_sem]) rfl (.inl ⟨HV.out,_,_,rfl,HB1.out.alloc HB1.out.size _⟩)
theorem z9f {w:World}{base n cap:Nat}{e:TypeId}{A:Option Addr}{ss:List ByteArray}(h:w.ownsRow base e 1 (.slice A n cap) n (ss.map Value.string))(hs:∀s∈ss,s.size≤maxLen):Strs w A ss:=by
 rcases h.2 with ⟨_,h0⟩ | ⟨g,cap,_,he,_⟩
 · have:ss= []:=by
    have h1:=h.1;rw[h0] at h1;exact List.eq_nil_of_length_eq_zero (by simpa using h1)
   subst this;exact Strs.nil _ _
 · injection he with e1 e2 e3
   subst e1;refine ⟨hs,.inr ⟨_,rfl,(h.lt g rfl).2,fun i hi=>?_⟩⟩;exact h.cells (g:=g) rfl i _ (by rw[List.getElem?_map,List.getElem?_eq_getElem hi]; rfl)
def txR (r:Option Segs):List ByteArray:=txS (r.getD [])
theorem zlq (ss:Segs):ss.map strS=(txS ss).map Value.string:=by simp[txS]
theorem zda.uni {r:Option Segs}{w:World}{e:Ending}{w':World}(h:zda r w e w'):∃A c,e= .returned (.tuple #[.slice A (txR r).length c,.bool r.isSome])∧w'.ownsRow w.heap.size 9 1 (.slice A (txR r).length c) (txR r).length ((txR r).map Value.string)∧Below w.heap.size w w':=by
 rcases h with ⟨rfl,rfl,hb⟩ | ⟨ss,A,c,rfl,rfl,ho,hb⟩
 · exact ⟨none,0,rfl,⟨rfl,.inl ⟨rfl,rfl⟩⟩,hb⟩
 · refine ⟨A,c,?_,?_,hb⟩
   · unfold txR; rw[z29]; rfl
   · unfold txR; rw[Option.getD_some,z29,← zlq]; exact ho
theorem zcn.uni {r:Option Segs}{w:World}{e:Ending}{w':World}(h:zcn r w e w'):∃A c,e= .returned (.tuple #[.slice A (txR r).length c,.bool r.isSome])∧Strs w' A (txR r)∧(∀x∈txR r,x.size≤maxLen)∧(txR r).length≤6∧Below w.heap.size w w':=by
 rcases h with ⟨rfl,A,c,rfl,hb⟩ | ⟨ss,A,c,rfl,hk,rfl,ho,hb⟩
 · exact ⟨A,c,rfl,Strs.nil _ _,(fun x hx=>by cases hx),by decide,hb⟩
 · have hmx:∀x∈txS ss,x.size≤maxLen:=fun s hs=>by
    obtain ⟨x,hx,rfl⟩:=List.mem_map.1 hs;obtain ⟨i,hi,e⟩:=List.getElem_of_mem hx;have h1:=zbj hk i;rw[z9i hi,e] at h1
    have hs:(⟨x.toArray⟩:ByteArray).size=x.length:=by simp[ByteArray.size]
    rw[hs];unfold maxLen;omega
   have hs:Strs w' A (txS ss):=z9f (cap:=c) (n:=ss.length) (by rw[← zlq]; exact ho) hmx;refine ⟨A,c,?_,hs,hmx,by rw[show txR (some ss)=txS ss from rfl,z29]; exact hk.six,hb⟩
   unfold txR; rw[z29]; rfl
theorem zlm {w:World}{B n:Nat}{e:TypeId}{v:Value}{xs:List Value}(h:w.ownsRow B e 1 v n xs):∃A cap,v= .slice A n cap:=by
 rcases h.2 with ⟨rfl,rfl⟩ | ⟨g,cap,cur,rfl,_⟩
 · exact ⟨none,0,rfl⟩
 · exact ⟨_,cap,rfl⟩
theorem zo0 (S F:ByteArray)(zs:List ByteArray)(n:Nd)(w:World)(hu:unV S= .tuple #[.string F,.bool true])(hF:F.size≤1600)(hfg:fg F=((F.size:Int),zs))(hz:∀s∈zs,s.size≤maxLen)
 (HR:∀(A:Option Addr) (c:Nat) (W:World),Strs W A zs→Calls Tryz.prog 15 #[.slice A zs.length c,.int .i64 1000] W (ReadQ n W)) :
 Calls Tryz.prog 24 #[.string S,.int .i64 1000] w (ReadQ n w):=by
 have HU:=hid (fun W:World=>zai S W);rw[hu] at HU;have HG:=hid (fun W:World=>z88 F W (by omega));unfold FG at HG;rw[hfg] at HG;have HRR:=hid HR;have HZ:=hid hz;have hb0:=(Below.refl w.heap.size w).alloc (Nat.le_refl _) (.cells #[.int .i64 0,.string { data:= #[] },.slice none 0 0,.int .i64 0,.int .i64 0,.slice none 0 0] nodeT);have hr0:=heap_alloc_new w (.cells #[.int .i64 0,.string { data:= #[] },.slice none 0 0,.int .i64 0,.int .i64 0,.slice none 0 0] nodeT);have HB0:=hid hb0;have R0:=hid hr0;clear hu hF hfg hz HR hb0 hr0;go_enter Tryz.func24,Tryz.ntmps24
 go_wp2_with fail
 generalize w.alloc (.cells #[.int .i64 0,.string { data:= #[] },.slice none 0 0,.int .i64 0,.int .i64 0,.slice none 0 0] nodeT)=W at *;refine (HU.out _).mono ?_;rintro e w1 ⟨rfl,hb1⟩;have HB1:=hid (HB0.out.trans (hb1.mono HB0.out.size));have R1:=hid ((hb1.block _ (z00 R0.out)).trans R0.out);clear hb1
 go_wp2_with fail
 refine (HG.out _).mono ?_;rintro e w2 ⟨v,rfl,ho,hb2⟩;obtain ⟨A,c,rfl⟩:=zlm ho;have HS2:=hid (z9f ho HZ.out);have HB2:=hid (HB1.out.trans (hb2.mono HB1.out.size));have R2:=hid ((hb2.block _ (z00 R1.out)).trans R1.out);have HC:=hid (HRR.out A c w2 HS2.out);unfold ReadQ at HC;clear ho hb2
 go_wp2_with fail
 refine HC.out.mono ?_;rintro e w3 ⟨hy,rfl,hny,hb3⟩;have q3:=(hb3.block _ (z00 R2.out)).trans R2.out;obtain ⟨c0,c1,c2,c3,c4,c5⟩:=z01 q3;have hfz:=z02 q3;have Q3:=hid q3;have HN:=hid hny;have HB3:=hid (HB2.out.trans (hb3.mono HB2.out.size));clear q3 hny hb3 HC;go_wp2;obtain ⟨wf,hwf,hrw,hkf⟩:=z7i Q3.out (.int .i64 n.kind) (.string n.data) (.slice hy.A n.ptrs.length hy.a) (.int .i64 n.size) (.int .i64 n.count) (.slice hy.B n.items.length hy.b);rw[hwf];obtain ⟨e0,e1,e2,e3,e4,e5⟩:=z01 hrw;have hlt:=z00 R2.out;have hbf:Below w.heap.size w3 wf:=hkf.below (by have:=HB3.out.size; omega) (Nat.le_refl _);exact bodyPost_ret (v:= .tuple #[.agg #[.int .i64 n.kind,.string n.data,.slice hy.A n.ptrs.length hy.a,.int .i64 n.size,.int .i64 n.count,.slice hy.B n.items.length hy.b],.int .i64 0]) (by simp[results,Tryz.results24,go_sem,e0,e1,e2,e3,e4,e5]) rfl ⟨hy,rfl,(HN.out.keepsR hkf (fun k (hk:w2.heap.size≤k)=>by omega)).weak (fun k (hk:w2.heap.size≤k)=>by have:=HB2.out.size; show w.heap.size≤k; omega),HB3.out.trans hbf⟩
end Go.Proofs.YtlbfffokkhccaaaGreatDoor
namespace Go.Proofs.YtlbfffokkhccaaaGreatDoor
open Go.RowKit
theorem zti {ss:List ByteArray}(h:frOk ss=true):(z11 ss).length=z1a ss.length+tot ss:=by
 rw[z11,if_pos h,List.length_append,List.length_append,List.length_append,z07,z14,z23,fillL,z1a]
 split
 · rw[z07]; omega
 · simp; omega
theorem zl5:∀(ss:List ByteArray) (i:Nat) (h:i<ss.length) (r:List UInt8),leN (numsL ss++r) (4*i) 4=leN (leB (((ss[i]).size/8:Nat):Int) 4) 0 4
 | s :: ss,0,_,r=>by
   refine z2f _ _ 4 _ _ (fun j hj=>?_);rw[numsL,List.flatMap_cons,List.append_assoc,Nat.mul_zero,List.getElem?_append_left (by rw[z07]; omega)]
   rfl
 | s :: ss,i+1,h,r=>by
   have ih:=zl5 ss i (by simpa using h) r;rw[List.getElem_cons_succ,← ih];refine z2f _ _ 4 _ _ (fun j hj=>?_);rw[numsL,List.flatMap_cons,List.append_assoc,List.getElem?_append_right (by rw[z07]; omega),z07,← numsL]
   congr 1; omega
theorem z6l (n:Nat)(h:n<4294967296):leN (leB (n:Int) 4) 0 4=n:=by
 have e:=zcv 4 (n:Int);rw[show (256:Int)^4=4294967296 from rfl] at e;omega
theorem zot {ss:List ByteArray}(h:frOk ss=true):ss.all (fun s=>decide (s.size%8=0))=true:=by
 simp only[frOk,Bool.and_eq_true] at h
 exact h.2.1
theorem zig (n:Nat):∀b∈fillL n,b=0:=by
 intro b hb
 unfold fillL at hb
 split at hb
 · simp[leB] at hb; exact hb
 · cases hb
theorem zrg {ss:List ByteArray}(hok:frOk ss=true){l:List UInt8}(hl:∀j,j<z1a ss.length→l[j]? =(z11 ss)[j]?)(h8:z1a ss.length≤l.length) :
 gN l 0+1=ss.length∧szs l ss.length=ss.map (fun s=>s.size/8)∧fgZ l ss.length=true:=by
 obtain ⟨⟨h1,h6⟩,htot⟩:=z5h hok
 have hF:z11 ss=leB ((ss.length:Int)-1) 4++(numsL ss++(fillL ss.length++bodyL ss)):=by rw[z11,if_pos hok,List.append_assoc,List.append_assoc]
 have hh:4*ss.length+4≤z1a ss.length:=by unfold z1a; omega
 refine ⟨?_,?_,?_⟩
 · have e:gN l 0=leN (leB (((ss.length-1:Nat):Int)) 4) 0 4:=by
    refine z2f _ _ 4 _ _ (fun i hi=>?_);rw[hl _ (by omega),hF,List.getElem?_append_left (by rw[z07]; omega)];rw[show ((ss.length:Int)-1)=((ss.length-1:Nat):Int) by omega]
   rw[e,z6l _ (by omega)]; omega
 · apply List.ext_getElem
   · rw[z5j,List.length_map]
   · intro i hi1 hi2
     rw[z5j] at hi1;rw[List.getElem_map];have hsz:=z6a ss i hi1
     have e:(szs l ss.length)[i]'(by rw[z5j]; exact hi1)=gN l (i+1):=by simp[szs]
     rw[e,← z6l ((ss[i]).size/8) (by omega),← zl5 ss i hi1 (fillL ss.length++bodyL ss)];refine z2f _ _ 4 _ _ (fun j hj=>?_);rw[hl _ (by omega),hF,List.getElem?_append_right (by rw[z07]; omega),z07]
     congr 1; omega
 · rw[fgZ,List.all_eq_true]
   intro b hb
   obtain ⟨i,hi,rfl⟩:=List.mem_iff_getElem.1 hb
   have hi2:4*(ss.length+1)+i<z1a ss.length:=by
    rw[List.length_drop,List.length_take] at hi; omega
   have hfl:(fillL ss.length).length=z1a ss.length-4*(ss.length+1):=by
    unfold fillL z1a
    split
    · rw[z07]; omega
    · simp; omega
   have e:((l.take (z1a ss.length)).drop (4*(ss.length+1)))[i]? =(fillL ss.length)[i]? :=by
    rw[List.getElem?_drop,List.getElem?_take_of_lt hi2,hl _ hi2,hF,List.getElem?_append_right (by rw[z07]; omega),z07,List.getElem?_append_right (by rw[z14]; omega),z14,
     List.getElem?_append_left (by omega)]
    congr 1; omega
   rw[List.getElem?_eq_getElem hi,List.getElem?_eq_getElem (by omega)] at e
   have e2:((l.take (z1a ss.length)).drop (4*(ss.length+1)))[i]=(fillL ss.length)[i]'(by omega):=by simpa using e
   rw[e2];have:=zig ss.length _ (List.getElem_mem (show i<(fillL ss.length).length by omega))
   rw[this]; rfl
theorem zh8 (s:ByteArray):∀(ss:List ByteArray) (a:Nat) (r:List UInt8),s.data.toList.drop a=bodyL ss++r→ss.all (fun s=>decide (s.size%8=0))=true→cutB s a (ss.map fun s=>s.size/8)=ss
 | [],_,_,_,_=>rfl
 | x :: ss,a,r,h,hw=>by
   simp only[List.all_cons,Bool.and_eq_true,decide_eq_true_eq] at hw
   have hx:8*(x.size/8)=x.size:=by omega
   have hxl:x.data.toList.length=x.size:=rfl;rw[bodyL,List.flatMap_cons,List.append_assoc,← bodyL] at h;rw[List.map_cons,cutB,hx]
   congr 1
   · apply z61
     rw[Lib.extract_data,h,show a+x.size-a=x.size by omega,List.take_append_of_le_length (by omega),List.take_of_length_le (by omega)]
   · refine zh8 s ss (a+x.size) r ?_ hw.2
     rw[← List.drop_drop,h,List.drop_append_of_le_length (by omega),List.drop_of_length_le (by omega),List.nil_append]
theorem zgp {ss:List ByteArray}(hok:frOk ss=true)(s:ByteArray)(r:List UInt8)(h:s.data.toList=z11 ss++r):fg s=(((z11 ss).length:Int),ss):=by
 obtain ⟨⟨h1,h6⟩,htot⟩:=z5h hok;have hlen:=zti hok;have hsl:s.data.toList.length=s.size:=rfl;rw[h,List.length_append] at hsl;have hall:=zot hok;have hw:=zfg ss hall;obtain ⟨g1,g2,g3⟩:=zrg hok (l:=s.data.toList) (fun j hj=>by rw[h,List.getElem?_append_left (by omega)]) (by rw[h,List.length_append]; omega)
 have h4:4≤z1a ss.length:=by unfold z1a; omega
 have hsum:(ss.map fun s=>s.size/8).sum=wds ss:=rfl;rw[fg5 g1 (by omega) h6 (by omega) g3 (by rw[g2,hsum]; omega) (by rw[g2,hsum]; omega),g2,hsum,hw,← hlen];rw[zh8 s ss _ r ?_ hall]
 have hF:z11 ss=(leB ((ss.length:Int)-1) 4++numsL ss++fillL ss.length)++bodyL ss:=by rw[z11,if_pos hok]
 have hhl:(leB ((ss.length:Int)-1) 4++numsL ss++fillL ss.length).length=z1a ss.length:=by
  have:=congrArg List.length hF;rw[List.length_append,z23] at this;omega
 rw[h,hF,List.append_assoc,List.drop_append_of_le_length (by omega),List.drop_of_length_le (by omega),List.nil_append]
theorem zk9 (a b:List UInt8):(⟨a.toArray⟩:ByteArray)++⟨b.toArray⟩=⟨(a++b).toArray⟩:=by
 apply z61; rw[ByteArray.data_append]; simp
theorem zd0 (l:List UInt8):(⟨l.toArray⟩:ByteArray).size=l.length:=by simp[ByteArray.size]
theorem zkt (a:List UInt8)(s:ByteArray):(⟨a.toArray⟩:ByteArray)++s=⟨(a++s.data.toList).toArray⟩:=by
 apply z61; rw[ByteArray.data_append]; simp
theorem z8u (A:Option Addr)(cap:Nat)(ss:List ByteArray)(w:World)(h:Strs w A ss)(hn:ss.length≤1048576)(hok:frOk ss=false) :
 Calls Tryz.prog 49 #[.slice A ss.length cap] w fun e w'=>e= .returned (.string ⟨(z11 ss).toArray⟩)∧Below w.heap.size w w':=by
 have hF:=z3t A cap ss w h hn;rw[hok] at hF;have HFO:=hid hF
 have hfin:z11 ss= []:=by rw[z11,if_neg (by rw[hok]; simp)]
 rw[hfin];clear hF hok hfin h hn;go_enter Tryz.func49,Tryz.ntmps49
 go_wp2_with fail
 refine HFO.out.mono ?_;rintro e w' ⟨rfl,rfl⟩;go_wp2;go_ret;exact ⟨rfl,Below.refl _ _⟩
theorem z84 (A:Option Addr)(cap:Nat)(ss:List ByteArray)(w:World)(h:Strs w A ss)(hn:ss.length≤1048576) :
 Calls Tryz.prog 49 #[.slice A ss.length cap] w fun e w'=>e= .returned (.string ⟨(z11 ss).toArray⟩)∧Below w.heap.size w w':=by
 cases hok:frOk ss
 · exact z8u A cap ss w h hn hok
 · exact z85 A cap ss w h hok
theorem zaa (A:Option Addr)(cap:Nat)(ss:List ByteArray)(w:World)(h:Strs w A ss)(hn:ss.length≤1048576)(ht:tot ss≤1099511627776)(hok:frOk ss=false) :
 Calls Tryz.prog 51 #[.slice A ss.length cap] w fun e w'=>e= .returned (.string ⟨(z11 ss).toArray⟩)∧Below w.heap.size w w':=by
 have hF:=z3s A cap ss w h hn ht;rw[hok] at hF;have HFO:=hid hF
 have hfin:z11 ss= []:=by rw[z11,if_neg (by rw[hok]; simp)]
 rw[hfin];clear hF hok hfin h hn;go_enter Tryz.func51,Tryz.ntmps51
 go_wp2_with fail
 refine HFO.out.mono ?_;rintro e w' ⟨rfl,rfl⟩;go_wp2;go_ret;exact ⟨rfl,Below.refl _ _⟩
theorem z83 (A:Option Addr)(cap:Nat)(ss:List ByteArray)(w:World)(h:Strs w A ss)(hok:frOk ss=true) :
 Calls Tryz.prog 51 #[.slice A ss.length cap] w fun e w'=>e= .returned (.string ⟨(z11 ss).toArray⟩)∧Below w.heap.size w w':=by
 obtain ⟨⟨hn1,hn6⟩,htot⟩:=z5h hok
 have HFO:Hid (∀w:World,Strs w A ss→Calls Tryz.prog 80 #[.slice A ss.length cap] w fun e w'=>e= .returned (.bool true)∧w=w'):=hid (fun w h=>by
  have:=z3s A cap ss w h (by omega) (by omega)
  rw[hok] at this; exact this)
 have hfin:z11 ss=leB ((ss.length:Int)-1) 4++numsL ss++fillL ss.length++bodyL ss:=by rw[z11,if_pos hok]
 have HF:=hid hfin;obtain ⟨a,rfl,hlt,hcells⟩:=h.2.resolve_left (by intro h0; rw[h0] at hn1; simp at hn1);have HCells:=hid hcells;have H:=hid h;clear hfin hok h hcells;go_enter Tryz.func51,Tryz.ntmps51
 go_wp2_with fail
 refine (HFO.out _ H.out).mono ?_;rintro e w' ⟨rfl,rfl⟩
 go_wp2_with fail
 refine (z2i _ 4 _ (by decide) (by decide)).mono ?_;rintro e w1 ⟨rfl,hb1⟩;have HB:=hid hb1;clear hb1
 go_wp2_with fail
 go_loopw [3,4] (fun o i wr=>∃k:Nat,k≤ss.length∧i= .int .i64 k∧o= .string ⟨(leB ((ss.length:Int)-1) 4++numsL (ss.take k)).toArray⟩∧Hid (Below w.heap.size w wr)) (fun _ i _=>ss.length-(intOf i).toNat)
 case atStart=>exact ⟨0,by omega,rfl,by simp[numsL],HB.out⟩
 case round =>
  obtain ⟨k,hk,rfl,rfl,HR⟩:=hrel
  have hul:(⟨(leB ((ss.length:Int)-1) 4++numsL (ss.take k)).toArray⟩:ByteArray).size=4+4*k:=by
   rw[zd0,List.length_append,z07,z14,List.length_take,Nat.min_eq_left hk]
  by_cases hk1:k<ss.length
  · have hc:=(HR.out.cell (p:=a.add k) (by rw[z3k]; exact hlt)).trans (HCells.out k hk1)
    have hsz:=z6a ss k hk1;have hnt:=zb8 ss k hk1;have HNT:=hid hnt
    obtain ⟨s,hs⟩:∃s,ss[k]=s:=⟨_,rfl⟩
    rw[hs] at hc hsz;have HS:=hid hs;clear hnt hs;have hcat:=zk9 (leB ((ss.length:Int)-1) 4++numsL (ss.take k)) (leB ((s.size/8:Nat):Int) 4);have HCat:=hid hcat;clear hcat;generalize (⟨(leB ((ss.length:Int)-1) 4++numsL (ss.take k)).toArray⟩:ByteArray)=u at hul HCat ⊢
    have hu1:u.size≤10000:=by omega
    clear hul
    go_wp2_with fail
    refine (z2i _ 4 _ (by decide) (by decide)).mono ?_;rintro e w3 ⟨rfl,hb3⟩;have HB3:=hid (HR.out.trans (hb3.mono HR.out.size));clear hb3
    have e4:((s.size:Int)/8)=((s.size/8:Nat):Int):=by omega
    rw[e4];have hz4:=sz4 ((s.size/8:Nat):Int);have HV:=HCat.out;rw[show (4:Int).toNat=4 from rfl];generalize (⟨(leB ((s.size/8:Nat):Int) 4).toArray⟩:ByteArray)=v at hz4 HV ⊢
    have f1:¬9223372036854775807<u.size+v.size:=by omega
    have HVV:=hid HV;clear HV e4 HCat hz4;go_wp2
    go_roundw
    case rel=>exact ⟨k+1,by omega,by go_num,by rw[HVV.out,HNT.out,HS.out,List.append_assoc],HB3.out⟩
    case measure=>simp[intOf]; omega
  · obtain rfl:k=ss.length:=by omega
    clear hk1 hk HB;have hcat:=zk9 (leB ((ss.length:Int)-1) 4++numsL ss) (leB 0 4);have HCat:=hid hcat;rw[List.take_length] at hul ⊢;clear hcat;generalize hue:(⟨(leB ((ss.length:Int)-1) 4++numsL ss).toArray⟩:ByteArray)=u at hul HCat ⊢;have HUE:=hid hue.symm;clear hue
    have hu1:u.size≤10000:=by omega
    by_cases hp:ss.length%2=0
    · have hb:((u.size:Int)%8 != 0)=true:=by rw[hul]; simp; omega
      clear hul
      go_wp2_with fail
      refine (z2i _ 4 _ (by decide) (by decide)).mono ?_;rintro e w3 ⟨rfl,hb3⟩;have HW:=hid (HR.out.trans (hb3.mono HR.out.size));clear hb3;have hz4:=sz4 0;have HV:=HCat.out;rw[show (4:Int).toNat=4 from rfl];generalize (⟨(leB 0 4).toArray⟩:ByteArray)=v at hz4 HV ⊢
      have f1:¬9223372036854775807<u.size+v.size:=by omega
      have HM:Hid (u++v=⟨(leB ((ss.length:Int)-1) 4++numsL ss++fillL ss.length).toArray⟩):=hid (by rw[HV,fillL,if_pos hp]);clear HV hz4 HCat hb
      go_wp2_with fail
      go_loopw [3,5] (fun o i wr=>∃k:Nat,k≤ss.length∧i= .int .i64 k∧o= .string ⟨(leB ((ss.length:Int)-1) 4++numsL ss++fillL ss.length++bodyL (ss.take k)).toArray⟩∧Hid (Below w.heap.size w wr)) (fun _ i _=>ss.length-(intOf i).toNat)
      case atStart=>exact ⟨0,by omega,rfl,by rw[HM.out]; simp[bodyL],HW.out⟩
      case round =>
       obtain ⟨k,hk,rfl,rfl,HR2⟩:=hrel
       by_cases hk1:k<ss.length
       · have hul2:(⟨(leB ((ss.length:Int)-1) 4++numsL ss++fillL ss.length++bodyL (ss.take k)).toArray⟩:ByteArray).size≤10000:=by
          have h1:=z23 (ss.take k);have h2:=z1u ss k;have h3:=z3w ss.length;have h4:=z14 ss;rw[zd0,List.length_append,List.length_append,List.length_append,z07];omega
         have hc:=(HR2.out.cell (p:=a.add k) (by rw[z3k]; exact hlt)).trans (HCells.out k hk1);have hsz:=z6a ss k hk1;have hbt:=z5n ss k hk1;have HBT:=hid hbt
         obtain ⟨s,hs⟩:∃s,ss[k]=s:=⟨_,rfl⟩
         rw[hs] at hc hsz;have HS:=hid hs;clear hbt hs;have hcat:=zkt (leB ((ss.length:Int)-1) 4++numsL ss++fillL ss.length++bodyL (ss.take k)) s;have HCat:=hid hcat;clear hcat;generalize (⟨(leB ((ss.length:Int)-1) 4++numsL ss++fillL ss.length++bodyL (ss.take k)).toArray⟩:ByteArray)=x at hul2 HCat ⊢
         have f1:¬9223372036854775807<x.size+s.size:=by omega
         go_wp2
         go_roundw
         case rel=>exact ⟨k+1,by omega,by go_num,by rw[HCat.out,HBT.out,HS.out,List.append_assoc],HR2.out⟩
         case measure=>simp[intOf]; omega
       · obtain rfl:k=ss.length:=by omega
         have hfin:(⟨(leB ((ss.length:Int)-1) 4++numsL ss++fillL ss.length++bodyL (ss.take ss.length)).toArray⟩:ByteArray)=⟨(z11 ss).toArray⟩:=by rw[HF.out,List.take_length]
         rw[hfin];clear hfin;go_wp2;go_ret;exact ⟨rfl,HR2.out⟩
    · have hb:((u.size:Int)%8 != 0)=false:=by rw[hul]; simp; omega
      have HW:=HR;have HM:Hid (u=⟨(leB ((ss.length:Int)-1) 4++numsL ss++fillL ss.length).toArray⟩):=hid (by rw[fillL,if_neg hp,List.append_nil]; exact HUE.out);clear hul HCat
      go_wp2_with fail
      go_loopw [3,5] (fun o i wr=>∃k:Nat,k≤ss.length∧i= .int .i64 k∧o= .string ⟨(leB ((ss.length:Int)-1) 4++numsL ss++fillL ss.length++bodyL (ss.take k)).toArray⟩∧Hid (Below w.heap.size w wr)) (fun _ i _=>ss.length-(intOf i).toNat)
      case atStart=>exact ⟨0,by omega,rfl,by rw[HM.out]; simp[bodyL],HW.out⟩
      case round =>
       obtain ⟨k,hk,rfl,rfl,HR2⟩:=hrel
       by_cases hk1:k<ss.length
       · have hul2:(⟨(leB ((ss.length:Int)-1) 4++numsL ss++fillL ss.length++bodyL (ss.take k)).toArray⟩:ByteArray).size≤10000:=by
          have h1:=z23 (ss.take k);have h2:=z1u ss k;have h3:=z3w ss.length;have h4:=z14 ss;rw[zd0,List.length_append,List.length_append,List.length_append,z07];omega
         have hc:=(HR2.out.cell (p:=a.add k) (by rw[z3k]; exact hlt)).trans (HCells.out k hk1);have hsz:=z6a ss k hk1;have hbt:=z5n ss k hk1;have HBT:=hid hbt
         obtain ⟨s,hs⟩:∃s,ss[k]=s:=⟨_,rfl⟩
         rw[hs] at hc hsz;have HS:=hid hs;clear hbt hs;have hcat:=zkt (leB ((ss.length:Int)-1) 4++numsL ss++fillL ss.length++bodyL (ss.take k)) s;have HCat:=hid hcat;clear hcat;generalize (⟨(leB ((ss.length:Int)-1) 4++numsL ss++fillL ss.length++bodyL (ss.take k)).toArray⟩:ByteArray)=x at hul2 HCat ⊢
         have f1:¬9223372036854775807<x.size+s.size:=by omega
         go_wp2
         go_roundw
         case rel=>exact ⟨k+1,by omega,by go_num,by rw[HCat.out,HBT.out,HS.out,List.append_assoc],HR2.out⟩
         case measure=>simp[intOf]; omega
       · obtain rfl:k=ss.length:=by omega
         have hfin:(⟨(leB ((ss.length:Int)-1) 4++numsL ss++fillL ss.length++bodyL (ss.take ss.length)).toArray⟩:ByteArray)=⟨(z11 ss).toArray⟩:=by rw[HF.out,List.take_length]
         rw[hfin];clear hfin;go_wp2;go_ret;exact ⟨rfl,HR2.out⟩
theorem z86 (A:Option Addr)(cap:Nat)(ss:List ByteArray)(w:World)(h:Strs w A ss)(hn:ss.length≤1048576)(ht:tot ss≤1099511627776) :
 Calls Tryz.prog 51 #[.slice A ss.length cap] w fun e w'=>e= .returned (.string ⟨(z11 ss).toArray⟩)∧Below w.heap.size w w':=by
 cases hok:frOk ss
 · exact zaa A cap ss w h hn ht hok
 · exact z83 A cap ss w h hok
end Go.Proofs.YtlbfffokkhccaaaGreatDoor
namespace Go.Proofs.YtlbfffokkhccaaaGreatDoor
theorem z3x:∀l:List UInt8,maskN l<2^l.length
 | []=>by simp[maskN]
 | b :: r=>by
   have:=z3x r;rw[maskN,List.length_cons,Nat.pow_succ]
   split <;> omega
theorem zd6 (r:List UInt8):maskN (0 :: r)=2*maskN r:=by simp[maskN]
theorem zc5 {b:UInt8}(r:List UInt8)(h:b≠0):maskN (b :: r)=1+2*maskN r:=by simp[maskN,h]
theorem nz_c0 (r:List UInt8):nzL (0 :: r)=nzL r:=by simp[nzL]
theorem nz_c1 {b:UInt8}(r:List UInt8)(h:b≠0):nzL (b :: r)=b :: nzL r:=by simp[nzL,h]
theorem z73:∀l:List UInt8,popN l.length (maskN l)=(nzL l).length
 | []=>rfl
 | b :: r=>by
   have ih:=z73 r;rw[List.length_cons,popN]
   by_cases h:b=0
   · subst h
     rw[zd6,nz_c0,show (2*maskN r)%2=0 by omega,show (2*maskN r)/2=maskN r by omega,ih]; omega
   · rw[zc5 r h,nz_c1 r h,show (1+2*maskN r)%2=1 by omega,show (1+2*maskN r)/2=maskN r by omega,ih,List.length_cons]; omega
theorem z9u:∀l:List UInt8,z0m l.length (maskN l) (nzL l)=l
 | []=>rfl
 | b :: r=>by
   have ih:=z9u r;rw[List.length_cons,z0m]
   by_cases h:b=0
   · subst h
     rw[zd6,nz_c0,if_pos (by omega),show (2*maskN r)/2=maskN r by omega,ih]
   · rw[zc5 r h,nz_c1 r h,if_neg (by omega),show (1+2*maskN r)/2=maskN r by omega,List.headD_cons,List.tail_cons,ih]
theorem z25:∀l:List UInt8,maskN l=0↔zerL l=true
 | []=>by simp[maskN,zerL]
 | b :: r=>by
   have ih:=z25 r;rw[zerL,List.all_cons,Bool.and_eq_true,← zerL,← ih]
   by_cases h:b=0
   · subst h
     rw[zd6]
     simp only[beq_self_eq_true,true_and]
     omega
   · rw[zc5 r h]
     simp[h]
theorem zbs:∀l:List UInt8,maskN l+1=2^l.length↔fullL l=true
 | []=>by simp[maskN,fullL]
 | b :: r=>by
   have ih:=zbs r;have hlt:=z3x r;rw[maskN,fullL,List.all_cons,Bool.and_eq_true,← fullL,← ih,List.length_cons,Nat.pow_succ]
   by_cases h:b=0
   · rw[if_pos h]; simp[h]; omega
   · rw[if_neg h]; simp[h]; omega
theorem z2y {l:List UInt8}(h:l.length=8):maskN l=255↔fullL l=true:=by
 rw[← zbs,h]; omega
theorem zfw {l:List UInt8}(h:fullL l=true):nzL l=l:=by
 rw[nzL,List.filter_eq_self]
 simpa [fullL] using h
theorem zmc {l:List UInt8}(h:zerL l=true):l=List.replicate l.length 0:=by
 rw[List.eq_replicate_iff];exact ⟨rfl,by simpa [zerL] using h⟩
def Wds (ws:List (List UInt8)):Prop:=∀w∈ws,w.length=8
theorem Wds.drop {ws:List (List UInt8)}(h:Wds ws)(n:Nat):Wds (ws.drop n):=fun w hw=>h w (List.mem_of_mem_drop hw)
theorem Wds.take {ws:List (List UInt8)}(h:Wds ws)(n:Nat):Wds (ws.take n):=fun w hw=>h w (List.mem_of_mem_take hw)
theorem z2x {ws:List (List UInt8)}(h:Wds ws):ws.flatten.length=8*ws.length:=by
 induction ws with
 | nil=>rfl
 | cons w r ih =>
  rw[List.flatten_cons,List.length_append,h w (by simp),ih (fun x hx=>h x (by simp[hx])),List.length_cons]; omega
theorem zjw (p:List UInt8→Bool)(r:List (List UInt8)):∀w∈r.take (runN p r),p w=true:=by
 intro w hw
 have e:r.take (runN p r)=(r.take 255).takeWhile p:=by
  have hpre:(r.take 255).takeWhile p <+: r:=(List.takeWhile_prefix p).trans (List.take_prefix 255 r);rw[List.prefix_iff_eq_take] at hpre;exact hpre.symm
 rw[e] at hw;have h:=List.all_takeWhile (p:=p) (l:=r.take 255);exact (List.all_eq_true.1 h) w hw
theorem zo5 {ws:List (List UInt8)}(h:Wds ws)(hz:∀w∈ws,zerL w=true):ws.flatten=List.replicate (8*ws.length) 0:=by
 induction ws with
 | nil=>rfl
 | cons w r ih =>
  rw[List.flatten_cons,ih (fun x hx=>h x (by simp[hx])) (fun x hx=>hz x (by simp[hx])),zmc (hz w (by simp)),h w (by simp),List.replicate_append_replicate,List.length_cons]
  congr 1; omega
theorem z93 (n:Nat)(h:n≤255):(UInt8.ofNat n).toNat=n:=by rw[UInt8.toNat_ofNat']; omega
theorem zk7 (n:Nat)(h:n≤255)(r:List UInt8):stepU (0 :: UInt8.ofNat n :: r)=some (List.replicate (8*(n+1)) 0,r):=by
 rw[stepU,if_neg (by simp[popN]),if_pos rfl]
 simp[z93 n h]
theorem zsj:popN 8 255=8:=by decide
theorem zl3 (w:List UInt8)(h8:w.length=8)(n:Nat)(h:n≤255)(x r:List UInt8)(hx:x.length=8*n):stepU (255 :: (w++(UInt8.ofNat n :: (x++r))))=some (w++x,r):=by
 have e:(255:UInt8).toNat=255:=rfl
 have d8:(w++(UInt8.ofNat n :: (x++r))).drop 8=UInt8.ofNat n :: (x++r):=by rw[List.drop_append_of_le_length (by omega),List.drop_of_length_le (by omega),List.nil_append]
 have d9:(w++(UInt8.ofNat n :: (x++r))).drop 9=x++r:=by rw[show (9:Nat)=8+1 from rfl,← List.drop_drop,d8]; rfl
 rw[stepU,e,zsj,if_neg (by simp; omega),if_neg (by decide),if_pos rfl,d8,d9,List.headD_cons,z93 n h,if_neg (by simp; omega),List.take_append_of_le_length (by omega),List.take_of_length_le (by omega),List.take_append_of_le_length (by omega),List.take_of_length_le (by omega),List.drop_append_of_le_length (by omega),List.drop_of_length_le (by omega),List.nil_append]
theorem zn7 (w:List UInt8)(h8:w.length=8)(hz:zerL w=false)(hf:fullL w=false)(r:List UInt8):stepU (UInt8.ofNat (maskN w) :: (nzL w++r))=some (w,r):=by
 have hlt:=z3x w;rw[h8] at hlt;have e:=z93 (maskN w) (by omega);have hp:=z73 w;have hs:=z9u w;rw[h8] at hp hs
 have h0:UInt8.ofNat (maskN w)≠0:=fun h=>by
  have:=congrArg UInt8.toNat h;rw[e] at this;have:=(z25 w).1 this
  rw[hz] at this; cases this
 have h255:UInt8.ofNat (maskN w)≠255:=fun h=>by
  have:=congrArg UInt8.toNat h;rw[e] at this;have:=(z2y h8).1 this
  rw[hf] at this; cases this
 rw[stepU,e,hp,if_neg (by simp),if_neg h0,if_neg h255,List.take_append_of_le_length (by omega),List.take_of_length_le (by omega),List.drop_append_of_le_length (by omega),List.drop_of_length_le (by omega),hs,List.nil_append]
theorem z6m:∀(k:Nat) (ws:List (List UInt8)),ws.length≤k→Wds ws→unW (packW ws)=some ws.flatten
 | _,[],_,_=>by rw[packW]; rfl
 | 0,_ :: _,h,_=>by simp at h
 | k+1,w :: r,hk,hw=>by
   have h8:=hw w (by simp)
   have hr:Wds r:=fun x hx=>hw x (by simp[hx])
   have hkr:r.length≤k:=by simpa using hk
   rw[packW];cases hz:zerL w
   · cases hf:fullL w
     · rw[if_neg (by simp),if_neg (by simp),z41 (zn7 w h8 hz hf _),z6m k r hkr hr]
       simp
     · obtain ⟨n1,n2⟩:=z5c fewL r
       have hx:=z2x (hr.take (runN fewL r));rw[List.length_take,Nat.min_eq_left n1] at hx;rw[if_neg (by simp),if_pos rfl,z41 (zl3 w h8 _ n2 _ _ hx),z6m k _ (by simp; omega) (hr.drop _)];rw[Option.map_some,List.append_assoc,← List.flatten_append,List.take_append_drop,List.flatten_cons]
   · obtain ⟨n1,n2⟩:=z5c zerL r
     rw[if_pos rfl,z41 (zk7 _ n2 _),z6m k _ (by simp; omega) (hr.drop _)]
     have h1:List.replicate (8*(runN zerL r+1)) (0:UInt8)=w++(r.take (runN zerL r)).flatten:=by
      rw[zo5 (hr.take _) (zjw zerL r),List.length_take,Nat.min_eq_left n1,zmc hz,h8,List.replicate_append_replicate]
      congr 1; omega
     rw[Option.map_some,h1,List.append_assoc,← List.flatten_append,List.take_append_drop,List.flatten_cons]
theorem zpc {ws:List (List UInt8)}(h:Wds ws):unW (packW ws)=some ws.flatten:=z6m ws.length ws (Nat.le_refl _) h
theorem nz_le (w:List UInt8):(nzL w).length≤w.length:=List.length_filter_le _ _
theorem z6z:∀(k:Nat) (ws:List (List UInt8)),ws.length≤k→Wds ws→(packW ws).length≤10*ws.length
 | _,[],_,_=>by rw[packW]; simp
 | 0,_ :: _,h,_=>by simp at h
 | k+1,w :: r,hk,hw=>by
   have h8:=hw w (by simp)
   have hr:Wds r:=fun x hx=>hw x (by simp[hx])
   have hkr:r.length≤k:=by simpa using hk
   rw[packW]
   split
   · obtain ⟨n1,n2⟩:=z5c zerL r
     have:=z6z k (r.drop (runN zerL r)) (by simp; omega) (hr.drop _)
     simp at this ⊢; omega
   · split
     · obtain ⟨n1,n2⟩:=z5c fewL r
       have:=z6z k (r.drop (runN fewL r)) (by simp; omega) (hr.drop _);have hx:=z2x (hr.take (runN fewL r));rw[List.length_take,Nat.min_eq_left n1] at hx;rw[List.length_cons,List.length_append,List.length_cons,List.length_append,hx,h8,List.length_cons];rw[List.length_drop] at this;omega
     · have:=z6z k r hkr hr
       have h2:=nz_le w
       rw[List.length_cons,List.length_append,List.length_cons]; omega
theorem zc3 {ws:List (List UInt8)}(h:Wds ws):(packW ws).length≤10*ws.length:=z6z ws.length ws (Nat.le_refl _) h
theorem zne (p:List UInt8→Bool):∀(l:List (List UInt8)) (n:Nat) (h:n<l.length),(l.takeWhile p).length=n→p l[n]=false
 | x :: r,n,h,he=>by
   rw[List.takeWhile_cons] at he;cases hp:p x
   · rw[hp] at he
     simp at he
     subst he
     simpa using hp
   · rw[hp,if_pos rfl,List.length_cons] at he
     obtain ⟨m,rfl⟩:∃m,n=m+1:=⟨n-1,by omega⟩
     have:=zne p r m (by simpa using h) (by omega)
     simpa using this
theorem zi5 (p:UInt8→Bool):∀l:List UInt8,(l.filter p).length+(l.filter fun x=> !p x).length=l.length
 | []=>rfl
 | x :: r=>by
   have:=zi5 p r;rw[List.filter_cons,List.filter_cons]
   cases hp:p x <;> simp[hp] <;> omega
open Go.RowKit
theorem zby (l:List UInt8):∀k,k<l.length→maskN (l.take (k+1))=maskN (l.take k)+(if l[k]?.getD 0=0 then 0 else 2^k):=by
 induction l with
 | nil=>intro k h; simp at h
 | cons b r ih =>
  intro k h
  cases k with
  | zero=>simp[maskN]
  | succ k =>
   rw[List.take_succ_cons,List.take_succ_cons,maskN,maskN,ih k (by simpa using h),List.getElem?_cons_succ,Nat.pow_succ]
   by_cases hz:r[k]?.getD 0=0
   · rw[if_pos hz,if_pos hz]; omega
   · rw[if_neg hz,if_neg hz]; omega
theorem zk4 (m k:Nat)(hm:m<2^k)(hk:k<8):bits .or .u8 (m:Int) ((2^k:Nat):Int)=((m+2^k:Nat):Int):=by
 have h2:2^k≤2^7:=Nat.pow_le_pow_right (by decide) (by omega);have e7:(2:Nat)^7=128:=rfl
 have hor:m ||| 2^k=m+2^k:=by
  have:=Nat.two_pow_add_eq_or_of_lt hm 1;rw[Nat.mul_one] at this;rw[Nat.or_comm,← this];omega
 show IntKind.u8.wrap ((BitVec.ofInt 8 (m:Int) ||| BitVec.ofInt 8 ((2^k:Nat):Int)).toNat:Int)=_
 rw[BitVec.toNat_or,BitVec.ofInt_natCast,BitVec.ofInt_natCast,BitVec.toNat_ofNat,BitVec.toNat_ofNat,Nat.mod_eq_of_lt (by omega),Nat.mod_eq_of_lt (by omega),hor,IntKind.wrap_u8];omega
theorem zid (k:Nat)(hk:k<8):IntKind.u8.wrap ((2^k:Nat):Int)=((2^k:Nat):Int):=by
 have h:k=0∨k=1∨k=2∨k=3∨k=4∨k=5∨k=6∨k=7:=by omega
 rcases h with rfl | rfl | rfl | rfl | rfl | rfl | rfl | rfl <;> rfl
theorem shl2 (k:Nat)(hk:k<8):(2:Int)^k%256=((2^k:Nat):Int):=by
 have h:k=0∨k=1∨k=2∨k=3∨k=4∨k=5∨k=6∨k=7:=by omega
 rcases h with rfl | rfl | rfl | rfl | rfl | rfl | rfl | rfl <;> rfl
theorem zd4 (l:List UInt8)(k:Nat)(c:UInt8)(hl:l.length=8)(hk:k<8)(hc:l[k]?.getD 0=c)(W:World) :
 (Instr.index 87 (.agg (wd l)) (.int .i64 (k:Int))).run Tryz.prog W= .ok (.int .u8 (c.toNat:Int)) W:=by
 have hkl:k<l.length:=by omega
 have hidx:(wd l)[k]? =some (.int .u8 (c.toNat:Int)):=by rw[← hc]; simp[wd,Lib.byteCells,hkl]
 obtain ⟨j,hj,hjs⟩:=Option.map_eq_some_iff.1 size5;have hs:=z44 l
 have hk2:k<(wd l).size:=by omega
 have hget:(wd l)[k]= .int .u8 (c.toNat:Int):=by rw[Array.getElem?_eq_getElem hk2] at hidx; exact Option.some.inj hidx
 have hag:=Tryz.isAgg5
 simp[Instr.index,part,hag,asIntOf,run_underlying Tryz.underlying87,sizeOf,typeInfo,hj,hjs,hk,hidx,hget]
theorem zi6 (l:List UInt8)(w:World)(hl:l.length=8) :
 Calls Tryz.prog 139 #[.agg (wd l)] w fun e w'=>e= .returned (.int .u8 (maskN l:Nat))∧Below w.heap.size w w':=by
 have HL:=hid hl;have h0:=heap_alloc_new w (.cells (wd l) 87);have HW:=hid h0;clear hl h0;go_enter Tryz.func139,Tryz.ntmps139
 go_wp2_with (refine z1b rfl 87 (.tmp 1) rfl w.heap.size rfl 87 l _ HW.out Tryz.underlying87 rfl (by rw[HL.out]; exact z1w) ?_)
 go_loop [3,7] (fun m i=>∃k:Nat,k≤8∧i= .int .i64 k∧m= .int .u8 (maskN (l.take k):Nat)) (fun _ i=>8-(intOf i).toNat)
 case atStart=>exact ⟨0,by omega,rfl,rfl⟩
 case round =>
  obtain ⟨k,hk,rfl,rfl⟩:=hrel;have hm1:=z3x (l.take k)
  have hml:(l.take k).length=k:=by rw[List.length_take,HL.out]; omega
  rw[hml] at hm1
  by_cases hk1:k<8
  · have hst:=zby l k (by rw[HL.out]; exact hk1)
    have hidx:=fun c hc W=>zd4 l k c HL.out hk1 hc W
    have hor:=zk4 (maskN (l.take k)) k hm1 hk1;have hsh:=zid k hk1;have HST:=hid hst;generalize maskN (l.take k)=M at hor HST ⊢;have hidx2:=hidx _ rfl;clear hidx;generalize l[k]?.getD 0=c at HST hidx2;clear hst hm1 hml
    by_cases hz:c=0
    · have hz1:((c.toNat:Int)==0)=true:=by rw[hz]; rfl
      have hz2:((c.toNat:Int) != 0)=false:=by rw[hz]; rfl
      have HZ:=hid hz;clear hz hor hsh;go_wp2
      go_round
      case rel=>exact ⟨k+1,by omega,by go_num,by rw[HST.out,if_pos HZ.out]; rfl⟩
      case measure=>simp[intOf]; omega
    · have hz1:((c.toNat:Int)==0)=false:=by
       rw[beq_eq_false_iff_ne]; intro h; exact hz (UInt8.toNat_inj.1 (show c.toNat=0 by omega))
      have hz2:((c.toNat:Int) != 0)=true:=by simp[bne,hz1]
      have HZ:=hid hz;clear hz;go_wp2
      go_round
      case rel=>exact ⟨k+1,by omega,by go_num,by rw[HST.out,if_neg HZ.out,shl2 k hk1,hor]⟩
      case measure=>simp[intOf]; omega
  · obtain rfl:k=8:=by omega
    have hall:l.take 8=l:=List.take_of_length_le (by rw[HL.out]; exact Nat.le_refl _);rw[hall];clear hm1 hml hall;go_wp2;go_ret;exact ⟨rfl,(Below.refl _ _).alloc (Nat.le_refl _) _⟩
theorem zrb {l:List UInt8}(hl:l.length=8):decide (7≤popN 8 (maskN l))=fewL l:=by
 have h1:=z73 l;rw[hl] at h1;have h3:=zi5 (· ==0) l;have h2:nzL l=l.filter (fun x=> !(x==0)):=rfl;rw[h1,fewL,h2,decide_eq_decide];omega
theorem zm8:((List.range 256).all fun x=>Lib.onesCount x==popN 8 x)=true:=by decide +kernel
theorem ziy (t:Nat)(h:t<256):Lib.onesCount t=popN 8 t:=by
 have:=List.all_eq_true.1 zm8 t (List.mem_range.2 h)
 simpa using this
theorem ziu (l:List UInt8)(w:World)(hl:l.length=8) :
 Calls Tryz.prog 175 #[.agg (wd l)] w fun e w'=>e= .returned (.bool (fewL l))∧Below w.heap.size w w':=by
 have HL:=hid hl;have h0:=heap_alloc_new w (.cells (wd l) 87);have HW:=hid h0;have hfp:=zrb hl;have hml:=z3x l;rw[hl] at hml;have hm256:maskN l<256:=hml
 have hones:=fun w=>Tryz.bits_OnesCount8 (maskN l:Int) w (by omega) (by omega)
 rw[Int.toNat_natCast,ziy (maskN l) hm256] at hones
 have hfp2:decide ((7:Int)≤((popN 8 (maskN l):Nat):Int))=fewL l:=by rw[← hfp,decide_eq_decide]; omega
 have HM:=hid (fun w=>zi6 l w hl)
 obtain ⟨M,hM⟩:∃M,maskN l=M:=⟨_,rfl⟩
 rw[hM] at HM hones hfp2
 have hpl:popN 8 M≤8:=by rw[← hM,← hl,z73]; exact List.length_filter_le _ _
 obtain ⟨p,hp⟩:∃p,popN 8 M=p:=⟨_,rfl⟩
 rw[hp] at hones hfp2 hpl;have HON:=hid hones;have HF:=hid hfp2;clear hl h0 hfp hml hm256 hones hM hp hfp2;go_enter Tryz.func175,Tryz.ntmps175
 go_wp2_with (refine z1b rfl 87 (.tmp 1) rfl w.heap.size rfl 87 l _ HW.out Tryz.underlying87 rfl (by rw[HL.out]; exact z1w) ?_)
 with_reducible (refine (HM.out _).mono ?_)
 rintro e w1 ⟨rfl,hb1⟩;have HB1:=hid (((Below.refl _ w).alloc (Nat.le_refl _) (.cells (wd l) 87)).trans (hb1.mono (by simp)));clear hb1
 go_wp2_with fail
 with_reducible (refine (HON.out _).mono ?_)
 rintro e w2 ⟨rfl,rfl⟩;go_wp2;go_ret;exact ⟨z0j HF.out,HB1.out⟩
theorem zpg (a b c d e f g i:UInt8):zerL [a,b,c,d,e,f,g,i]=([a,b,c,d,e,f,g,i]== [0,0,0,0,0,0,0,0]):=by
 rw[Bool.eq_iff_iff]; simp[zerL]
theorem zkm (a b c d e f g i:UInt8)(w:World) :
 (binOp .eql 87 (.agg #[.int .u8 a.toNat,.int .u8 b.toNat,.int .u8 c.toNat,.int .u8 d.toNat,.int .u8 e.toNat,.int .u8 f.toNat,.int .u8 g.toNat,.int .u8 i.toNat]) (.agg #[.int .u8 0,.int .u8 0,.int .u8 0,.int .u8 0,.int .u8 0,.int .u8 0,.int .u8 0,.int .u8 0])).run Tryz.prog w= .ok (.bool (zerL [a,b,c,d,e,f,g,i])) w:=by
 rw[zpg];have h2:((Op.equalIn 10000 87 (.agg #[.int .u8 a.toNat,.int .u8 b.toNat,.int .u8 c.toNat,.int .u8 d.toNat,.int .u8 e.toNat,.int .u8 f.toNat,.int .u8 g.toNat,.int .u8 i.toNat]) (.agg #[.int .u8 0,.int .u8 0,.int .u8 0,.int .u8 0,.int .u8 0,.int .u8 0,.int .u8 0,.int .u8 0])).run Tryz.prog w)= .ok ([a,b,c,d,e,f,g,i]== [0,0,0,0,0,0,0,0]) w:=run_equalIn_bytes w 9998 87 5 8 Tryz.underlying87 Tryz.underlying5 (fun w=>by kernel_rfl) [a,b,c,d,e,f,g,i] [0,0,0,0,0,0,0,0] rfl rfl;rw[run_eql_struct,h2]
 rfl
theorem zfi (op:BinOp)(x y:Operand)(xs ys:Array Value)(w:World):(eqGuard op 87 x y (.agg xs) (.agg ys)).run Tryz.prog w= .ok () w:=run_eqGuard_agg w _ _ _ _ _ _ (by kernel_rfl)
theorem zef (l:List UInt8)(w:World)(hl:l.length=8) :
 Calls Tryz.prog 174 #[.agg (wd l)] w fun e w'=>e= .returned (.bool (zerL l))∧Below w.heap.size w w':=by
 obtain ⟨a,b,c,d,e,f,g,i,rfl⟩:=len8 hl;have heq:=zkm a b c d e f g i
 have hgd:=fun x y=>zfi .eql x y
 have h0:=heap_alloc_new w (.cells (wd [a,b,c,d,e,f,g,i]) 87);rw[wd8] at h0 ⊢;generalize zerL [a,b,c,d,e,f,g,i]=z at heq;go_enter Tryz.func174,Tryz.ntmps174;go_wp2;go_ret;exact ⟨rfl,(Below.refl _ _).alloc (Nat.le_refl _) _⟩
theorem zij (m k:Nat)(hm:m<2^k)(hk:k<8):bits .or .i64 (m:Int) ((2^k:Nat):Int)=((m+2^k:Nat):Int):=by
 have h2:2^k≤2^7:=Nat.pow_le_pow_right (by decide) (by omega);have e7:(2:Nat)^7=128:=rfl
 have hor:m ||| 2^k=m+2^k:=by
  have:=Nat.two_pow_add_eq_or_of_lt hm 1;rw[Nat.mul_one] at this;rw[Nat.or_comm,← this];omega
 show IntKind.i64.wrap ((BitVec.ofInt 64 (m:Int) ||| BitVec.ofInt 64 ((2^k:Nat):Int)).toNat:Int)=_
 rw[BitVec.toNat_or,BitVec.ofInt_natCast,BitVec.ofInt_natCast,BitVec.toNat_ofNat,BitVec.toNat_ofNat,Nat.mod_eq_of_lt (by omega),Nat.mod_eq_of_lt (by omega),hor];rw[IntKind.wrap_i64];omega
theorem shl64 (k:Nat)(hk:k<8):IntKind.i64.wrap ((2:Int)^k)=((2^k:Nat):Int):=by
 have h:k=0∨k=1∨k=2∨k=3∨k=4∨k=5∨k=6∨k=7:=by omega
 rcases h with rfl | rfl | rfl | rfl | rfl | rfl | rfl | rfl <;> rfl
theorem zm4 (s:ByteArray)(w:World)(hs:s.size=8) :
 Calls Tryz.prog 100 #[.string s] w fun e w'=>e= .returned (.int .i64 (maskN s.data.toList:Nat))∧w=w':=by
 have hl:s.data.toList.length=8:=by simp[hs]
 have HL:=hid hl;clear hl;go_enter Tryz.func100,Tryz.ntmps100;go_wp2
 go_loop [3,4] (fun m i=>∃k:Nat,k≤8∧i= .int .i64 k∧m= .int .i64 (maskN (s.data.toList.take k):Nat)) (fun _ i=>8-(intOf i).toNat)
 case atStart=>exact ⟨0,by omega,rfl,rfl⟩
 case round =>
  obtain ⟨k,hk,rfl,rfl⟩:=hrel;have hm1:=z3x (s.data.toList.take k)
  have hml:(s.data.toList.take k).length=k:=by rw[List.length_take,HL.out]; omega
  rw[hml] at hm1
  by_cases hk1:k<8
  · have hst:=zby s.data.toList k (by rw[HL.out]; exact hk1)
    have hlt:k<s.size:=by omega
    rw[z6k s k hlt] at hst;have hor:=zij (maskN (s.data.toList.take k)) k hm1 hk1;have hsh:=shl64 k hk1;have HST:=hid hst;generalize maskN (s.data.toList.take k)=M at hor HST ⊢;clear hst hm1 hml
    by_cases hz:s[k]=0
    · have hz1:(((s[k]).toNat:Int)==0)=true:=by rw[hz]; rfl
      have hz2:(((s[k]).toNat:Int) != 0)=false:=by rw[hz]; rfl
      have HZ:=hid hz;clear hz hor hsh;go_wp2
      go_round
      case rel=>exact ⟨k+1,by omega,by go_num,by rw[HST.out,if_pos HZ.out]; rfl⟩
      case measure=>simp[intOf]; omega
    · have hz1:(((s[k]).toNat:Int)==0)=false:=by
       rw[beq_eq_false_iff_ne]; intro h; exact hz (UInt8.toNat_inj.1 (show (s[k]).toNat=0 by omega))
      have hz2:(((s[k]).toNat:Int) != 0)=true:=by simp[bne,hz1]
      have HZ:=hid hz;clear hz;go_wp2
      go_round
      case rel=>exact ⟨k+1,by omega,by go_num,by rw[HST.out,if_neg HZ.out,← hor]; simp[hsh]⟩
      case measure=>simp[intOf]; omega
  · obtain rfl:k=8:=by omega
    have hall:s.data.toList.take 8=s.data.toList:=List.take_of_length_le (by rw[HL.out]; exact Nat.le_refl _);rw[hall];clear hm1 hml hall;go_wp2;go_ret;exact ⟨rfl,rfl⟩
theorem zpn (l:List UInt8)(k:Nat)(h:k<l.length):((l.take (k+1)).filter (· ==0)).length=((l.take k).filter (· ==0)).length+(if l[k]?.getD 0=0 then 1 else 0):=by
 rw[List.take_succ_eq_append_getElem h,List.filter_append,List.length_append,List.getElem?_eq_getElem h,Option.getD_some]
 by_cases hz:l[k]=0 <;> simp[hz]
theorem zdw (s:ByteArray)(w:World)(hs:s.size=8) :
 Calls Tryz.prog 102 #[.string s] w fun e w'=>e= .returned (.bool (!(fewL s.data.toList)))∧w=w':=by
 have hl:s.data.toList.length=8:=by simp[hs]
 have HL:=hid hl;clear hl;go_enter Tryz.func102,Tryz.ntmps102;go_wp2
 go_loop [3,4] (fun m i=>∃k:Nat,k≤8∧i= .int .i64 k∧m= .int .i64 (((s.data.toList.take k).filter (· ==0)).length:Nat)) (fun _ i=>8-(intOf i).toNat)
 case atStart=>exact ⟨0,by omega,rfl,rfl⟩
 case round =>
  obtain ⟨k,hk,rfl,rfl⟩:=hrel
  by_cases hk1:k<8
  · have hst:=zpn s.data.toList k (by rw[HL.out]; exact hk1)
    have hlt:k<s.size:=by omega
    rw[z6k s k hlt] at hst;have hle:((s.data.toList.take k).filter (· ==0)).length≤8:=Nat.le_trans (List.length_filter_le _ _) (by rw[List.length_take]; omega);have HST:=hid hst;generalize ((s.data.toList.take k).filter (· ==0)).length=M at hle HST ⊢;clear hst
    by_cases hz:s[k]=0
    · have hz1:(((s[k]).toNat:Int)==0)=true:=by rw[hz]; rfl
      have HZ:=hid hz;clear hz;go_wp2
      go_round
      case rel=>exact ⟨k+1,by omega,by go_num,by rw[HST.out,if_pos HZ.out]; go_num⟩
      case measure=>simp[intOf]; omega
    · have hz1:(((s[k]).toNat:Int)==0)=false:=by
       rw[beq_eq_false_iff_ne]; intro h; exact hz (UInt8.toNat_inj.1 (show (s[k]).toNat=0 by omega))
      have HZ:=hid hz;clear hz;go_wp2
      go_round
      case rel=>exact ⟨k+1,by omega,by go_num,by rw[HST.out,if_neg HZ.out]; rfl⟩
      case measure=>simp[intOf]; omega
  · obtain rfl:k=8:=by omega
    have hall:s.data.toList.take 8=s.data.toList:=List.take_of_length_le (by rw[HL.out]; exact Nat.le_refl _);rw[hall];clear hall;go_wp2;go_ret;refine ⟨z0j ?_,rfl⟩;rw[fewL];generalize (s.data.toList.filter (· ==0)).length=M
    by_cases h:M≤1
    · rw[decide_eq_true h]; simp; omega
    · rw[decide_eq_false h]; simp; omega
end Go.Proofs.YtlbfffokkhccaaaGreatDoor
