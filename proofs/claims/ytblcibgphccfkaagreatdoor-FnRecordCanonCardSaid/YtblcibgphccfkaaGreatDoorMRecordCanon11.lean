/- Texts of the proof of the law FnRecordCanon, side by side: part 11. -/
import Derived.StillTailTactics
import Derived.Test.YtblcibgphccfkaaGreatDoorMRecordCanon10
set_option maxHeartbeats 8000000
set_option maxRecDepth 100000
open Go.Lib (hid)
namespace Go.Proofs.YtblcibgphccfkaaGreatDoor
open Go.RowKit
open Go.Maps (IsMap has)
def Fr (g bm:Nat)(w w':World):Prop:=w.heap.size≤w'.heap.size∧∀b,b<w.heap.size→b≠g→b≠bm→w'.heap[b]? =w.heap[b]?
theorem Fr.trans {g bm:Nat}{a b c:World}(h:Fr g bm a b)(k:Fr g bm b c):Fr g bm a c:=⟨Nat.le_trans h.1 k.1,fun x hx h1 h2=>(k.2 x (Nat.lt_of_lt_of_le hx h.1) h1 h2).trans (h.2 x hx h1 h2)⟩
theorem Fr.set (g bm i:Nat)(w:World)(u:Value):Fr g bm w (w.setCell ⟨g,i,none⟩ u):=⟨by simp[World.setCell],fun b _ h1 _=>Below.heap_setCell w ⟨g,i,none⟩ u b h1⟩
theorem Fr.turn {g bm:Nat}{w w':World}(h:w.grownBy w' (some bm)):Fr g bm w w':=⟨h.size,fun b hb _ h2=>h.block b hb (fun e=>h2 (by injection e))⟩
def RoomP (R g bm:Nat)(v1 v2:Value)(s:PS)(sl:List Nat)(N k:Nat)(w:World)(e:Ending)(w':World):Prop :=
 e= .returned (.int .i64 ((roomF k s.ls).1:Int))∧Pl w' R g bm v1 v2 { s with ls:=(roomF k s.ls).2 } sl (N+k)∧Below R w w'∧Fr g bm w w'
theorem zme {c:Int}{k:Nat}(h:c+k=6):keyI k= .int .i64 c:=by unfold keyI; congr 1; omega
theorem z79 (R g bm:Nat)(v1 v2:Value)(s:PS)(sl:List Nat)(N:Nat)(hN:N≤1000)(hbd:LBd 40 s.ls):∀(k:Nat) (c:Int) (w:World),c+k=6→k≤6→Pl w R g bm v1 v2 s sl N →
 Calls Tryz.prog 69 #[.pointer (some ⟨g,0,none⟩),.int .i64 c] w (RoomP R g bm v1 v2 s sl N k w)
 | 0,c,w,hc,_,h=>by
   obtain rfl:c=6:=by omega
   have h1:=h.set_ 0 (.int .i64 ((s.ls.words:Int)+1)) { s with ls:=⟨s.ls.words+1,s.ls.hole⟩ } (by simp[z2i]) rfl rfl;have H1:=hid h1;have hwd:s.ls.words≤40:=hbd.1;obtain ⟨c0,c1,c2,c3,c4,c5,c6,c7⟩:=h.cells;have hfz:=z03 h.row 0;have HB:Hid (Below R w (w.setCell ⟨g,0,none⟩ (.int .i64 ((s.ls.words:Int)+1)))):=hid (h.set_below (Below.refl _ _) 0 _);clear h h1 c1 c2 c3 c5 c6 c7;go_enter Tryz.func69,Tryz.ntmps69;go_wp2;go_ret;exact ⟨z15 rfl,H1.out,HB.out,Fr.set g bm 0 w _⟩
 | k+1,c,w,hc,hk,h=>by
   obtain ⟨n,D,hn,hm,hd⟩:=h.holes;have hkey:=zme hc
   have h61:(c==6)=false:=by simp; omega
   have hr:=h.rs;obtain ⟨c0,c1,c2,c3,c4,c5,c6,c7⟩:=h.cells
   have hc0:0≤c:=by omega
   have hc5:c≤5:=by omega
   clear c0 c1 c2 c3 c5 c6 c7
   by_cases h0:s.ls.hole (k+1)=0
   · obtain ⟨hh,_⟩:=hd.2 (k+1) (by omega) hk
     have hhas:=hh h0;have hat:=Maps.atKey_of_not_has hhas (.lit (.int .i64 0));have hdel:D.del (keyI (k+1))=D:=Maps.del_of_not_has hhas;rw[hkey] at hhas hat hdel;have HM:=hid (z4q k s.ls h0);have HT:=hid (zf2 bm n D c 0 false w hm (by omega) (by omega) hhas hat);have HH:=hid h;have HD:=hid hd;have HL:=hid hdel;have HK:=hid hkey;have HN:=hid hn;have HC:=hid hc;have HBD:=hid hbd;clear hh hhas hat hdel hd h0 hm h hkey hn hc hbd;go_enter Tryz.func69,Tryz.ntmps69
     go_wp2_with fail
     refine HT.out.mono ?_;rintro e w1 ⟨rfl,hown1,hg1⟩;rw[HL.out] at hown1;have hp1:=HH.out.turn hg1 hown1 (Nat.le_refl n) HD.out;have hp1':Pl w1 R g bm v1 v2 s sl N:=hp1.mono HN.out;have HP1:=hid hp1';have HB1:=hid (z65 hg1 HH.out.rb hr);have HFR1:Hid (Fr g bm w w1):=hid (Fr.turn hg1);clear hown1 hg1 hp1 hp1'
     have hbm:c+1+(k:Int)=6:=by have:=HC.out; omega
     have IH:=z79 R g bm v1 v2 s sl N hN HBD.out k (c+1) w1 hbm (by omega) HP1.out;have IHH:=hid IH
     have hbr:=(za7 HBD.out (k:=k) (by omega))
     clear IH hbm
     go_wp2_with fail
     refine IHH.out.mono ?_;rintro e w2 ⟨rfl,hp2,hb2,hfr2⟩;have HFR2:=hid hfr2;clear hfr2;obtain ⟨n2,D2,hn2,hm2,hd2⟩:=hp2.holes;obtain ⟨d0,d1,d2,d3,d4,d5,d6,d7⟩:=hp2.cells;have HP2:=hid hp2;have HB2:=hid hb2;have HM2:=hid hm2;have HD2:=hid hd2
     have hnn:n2≤1010:=by omega
     have HN2:=hid hn2;have hr2:=hp2.rs;clear d0 d1 d2 d3 d5 d6 d7 hp2 hb2 hm2 hd2 hn2
     obtain ⟨q,hq⟩:∃q,q=(roomF k s.ls).1:=⟨_,rfl⟩
     rw[← hq] at hbr ⊢;have HQ:=hid hq;clear hq
     go_wp2_with (at_mapUpdate; refine wpList_mapUpdate_own _ rfl _ _ _ 77 rfl 115 3 zaw Tryz.underlying77 _ bm n2 D2 rfl HM2.out (by unfold maxLen; omega) _ _ (.int .i64 c) rfl rfl (zea hc0 (by omega)) (.lit (.int .i64 (2*(q:Int)+1))) [] (plainElem_int Tryz.underlying3 (wf_mk (by omega) (by omega))) ?_; intro w3 hown3 hg3)
     go_ret;refine ⟨z15 ?_,?_,(HB1.out.trans HB2.out).trans (z65 hg3 HH.out.rb hr2),(HFR1.out.trans HFR2.out).trans (Fr.turn hg3)⟩
     · rw[HM.out]
       show 2*(q:Int)=((2*(roomF k s.ls).1:Nat):Int)
       rw[← HQ.out]; omega
     · have hpq:=HP2.out.turn hg3 hown3 (M:=N+(k+1)) (by have:=HN2.out; omega) (h':=upd (roomF k s.ls).2.hole (k+1) (2*q+1)) (by
        have:=HD2.out.put (k+1) (2*q+1) (by omega);rw[HK.out] at this
        exact this)
       rw[HM.out,← HQ.out];exact hpq
   · obtain ⟨_,hh⟩:=hd.2 (k+1) (by omega) hk
     obtain ⟨hhas,hat⟩:=hh h0;have hat0:=hat (.lit (.int .i64 0));rw[hkey] at hhas hat0;have HM:=hid (z63 k s.ls h0);have HT:=hid (zf2 bm n D c _ true w hm (by omega) (by omega) hhas hat0);have HH:=hid h;have HD:=hid (hd.del (k+1));have HK:=hid hkey;have HN:=hid hn;clear hh hhas hat hat0 hd h0 hm h hkey hn hc;go_enter Tryz.func69,Tryz.ntmps69
     go_wp2_with fail
     refine HT.out.mono ?_;rintro e w1 ⟨rfl,hown1,hg1⟩;rw[← HK.out] at hown1;have HP1:=hid (HH.out.turn hg1 hown1 (Nat.le_refl n) HD.out);have HB1:=hid (z65 hg1 HH.out.rb hr);have HFR1:Hid (Fr g bm w w1):=hid (Fr.turn hg1);clear hown1 hg1;go_wp2;go_ret;rw[RoomP,HM.out];exact ⟨rfl,HP1.out.mono (by have:=HN.out; omega),HB1.out,HFR1.out⟩
end Go.Proofs.YtblcibgphccfkaaGreatDoor
namespace Go.Proofs.YtblcibgphccfkaaGreatDoor
open Go.RowKit
structure Tab (w:World):Prop where
 t0:w.cell? ⟨1,0,none⟩=some (.int .u8 0)
 t3:w.cell? ⟨1,7,none⟩=some (.int .u8 3)
 t4:w.cell? ⟨1,15,none⟩=some (.int .u8 4)
 t5:w.cell? ⟨1,31,none⟩=some (.int .u8 5)
 t6:w.cell? ⟨1,63,none⟩=some (.int .u8 6)
theorem Tab.below {R:Nat}{w w':World}(h:Tab w)(hb:Below R w w')(hR:1<R):Tab w' :=
 ⟨(hb.cell (p:=⟨1,0,none⟩) hR).trans h.t0,(hb.cell (p:=⟨1,7,none⟩) hR).trans h.t3,(hb.cell (p:=⟨1,15,none⟩) hR).trans h.t4,(hb.cell (p:=⟨1,31,none⟩) hR).trans h.t5,(hb.cell (p:=⟨1,63,none⟩) hR).trans h.t6⟩
theorem znn (a s:Int)(w:World)(h:Tab w)(ha:(a=1∧s=0)∨(a=8∧s=3)∨(a=16∧s=4)∨(a=32∧s=5)∨(a=64∧s=6)) :
 Calls Tryz.prog 133 #[.int .u64 a] w fun e w'=>e= .returned (.int .i64 s)∧w=w':=by
 obtain ⟨t0,t3,t4,t5,t6⟩:=h
 rcases ha with ⟨rfl,rfl⟩ | ⟨rfl,rfl⟩ | ⟨rfl,rfl⟩ | ⟨rfl,rfl⟩ | ⟨rfl,rfl⟩
 · have e1:IntKind.u64.wrap (-1)=18446744073709551615:=by decide
   have e2:bits .and .u64 1 18446744073709551615=1:=by decide
   have e3:IntKind.u64.wrap 285870213051353865=285870213051353865:=by decide
   have e4:(285870213051353865:Int)/288230376151711744=0:=by decide
   go_enter Tryz.func133,Tryz.ntmps133;go_wp2;go_ret;exact ⟨rfl,rfl⟩
 · have e1:IntKind.u64.wrap (-8)=18446744073709551608:=by decide
   have e2:bits .and .u64 8 18446744073709551608=8:=by decide
   have e3:IntKind.u64.wrap 2286961704410830920=2286961704410830920:=by decide
   have e4:(2286961704410830920:Int)/288230376151711744=7:=by decide
   go_enter Tryz.func133,Tryz.ntmps133;go_wp2;go_ret;exact ⟨rfl,rfl⟩
 · have e1:IntKind.u64.wrap (-16)=18446744073709551600:=by decide
   have e2:bits .and .u64 16 18446744073709551600=16:=by decide
   have e3:IntKind.u64.wrap 4573923408821661840=4573923408821661840:=by decide
   have e4:(4573923408821661840:Int)/288230376151711744=15:=by decide
   go_enter Tryz.func133,Tryz.ntmps133;go_wp2;go_ret;exact ⟨rfl,rfl⟩
 · have e1:IntKind.u64.wrap (-32)=18446744073709551584:=by decide
   have e2:bits .and .u64 32 18446744073709551584=32:=by decide
   have e3:IntKind.u64.wrap 9147846817643323680=9147846817643323680:=by decide
   have e4:(9147846817643323680:Int)/288230376151711744=31:=by decide
   go_enter Tryz.func133,Tryz.ntmps133;go_wp2;go_ret;exact ⟨rfl,rfl⟩
 · have e1:IntKind.u64.wrap (-64)=18446744073709551552:=by decide
   have e2:bits .and .u64 64 18446744073709551552=64:=by decide
   have e3:IntKind.u64.wrap 18295693635286647360=18295693635286647360:=by decide
   have e4:(18295693635286647360:Int)/288230376151711744=63:=by decide
   go_enter Tryz.func133,Tryz.ntmps133;go_wp2;go_ret;exact ⟨rfl,rfl⟩
theorem z82 (a s:Int)(w:World)(h:Tab w)(ha:(a=1∧s=0)∨(a=8∧s=3)∨(a=16∧s=4)∨(a=32∧s=5)∨(a=64∧s=6)) :
 Calls Tryz.prog 107 #[.int .u64 a] w fun e w'=>e= .returned (.int .i64 s)∧w=w':=by
 have HT:=hid (znn a s w h ha);clear h
 rcases ha with ⟨rfl,rfl⟩ | ⟨rfl,rfl⟩ | ⟨rfl,rfl⟩ | ⟨rfl,rfl⟩ | ⟨rfl,rfl⟩
 all_goals
  go_enter Tryz.func107,Tryz.ntmps107
  go_wp2_with (go_at_call 133; go_must (refine HT.out.mono ?_); rintro e w2 ⟨rfl,rfl⟩)
  go_ret;exact ⟨rfl,rfl⟩
def scI (z:Int):Int:=6-(kOf z:Int)
theorem z42 (z:Int)(w:World)(h:Tab w)(h0:1≤z)(h1:z≤5) :
 Calls Tryz.prog 70 #[.int .i64 z] w fun e w'=>e= .returned (.int .i64 (scI z))∧w=w':=by
 have hz:z=1∨z=2∨z=3∨z=4∨z=5:=by omega
 have H1:=hid (z82 1 0 w h (by decide));have H2:=hid (z82 8 3 w h (by decide));have H3:=hid (z82 16 4 w h (by decide));have H4:=hid (z82 32 5 w h (by decide));have H5:=hid (z82 64 6 w h (by decide));clear h
 rcases hz with rfl | rfl | rfl | rfl | rfl
 all_goals
  go_enter Tryz.func70,Tryz.ntmps70
  go_wp2_with fail
  refine (z6q _ _ (by decide) (by decide)).mono ?_;rintro e w1 ⟨rfl,rfl⟩
  simp only[show z1h 1=1 from rfl,show z1h 2=8 from rfl,show z1h 3=16 from rfl,show z1h 4=32 from rfl,show z1h 5=64 from rfl]
  go_wp2_with (go_at_call 107; (first | (with_reducible refine H1.out.mono ?_) | (with_reducible refine H2.out.mono ?_) | (with_reducible refine H3.out.mono ?_) | (with_reducible refine H4.out.mono ?_) | (with_reducible refine H5.out.mono ?_)); rintro e w2 ⟨rfl,rfl⟩)
  go_ret;exact ⟨z15 (by decide),rfl⟩
theorem Pl.drew {w:World}{R g bm:Nat}{v1 v2:Value}{s:PS}{sl:List Nat}{N:Nat}(h:Pl w R g bm v1 v2 s sl N):Pl w.drew R g bm v1 v2 s sl N:=⟨h.row,h.rg,h.rb,h.slots,h.shared,h.holes⟩
theorem Pl.alloc {w:World}{R g bm:Nat}{v1 v2:Value}{s:PS}{sl:List Nat}{N:Nat}(h:Pl w R g bm v1 v2 s sl N)(o:Obj):Pl (w.alloc o) R g bm v1 v2 s sl N:=h.below ((Below.refl _ _).alloc (Nat.le_refl _) o)
def z3x (R g bm:Nat)(v1 v2:Value)(a:Nat)(s':PS)(sl:List Nat)(N:Nat)(w:World)(e:Ending)(w':World):Prop :=
 e= .returned (.int .i64 (a:Int))∧Pl w' R g bm v1 v2 s' sl N∧Below R w w'
theorem z4f (R g bm:Nat)(v1 v2:Value)(s:PS)(sl:List Nat)(N:Nat)(hp:s.ptrs≤1000)(w:World)(h:Pl w R g bm v1 v2 s sl N) :
 Calls Tryz.prog 73 #[.pointer (some ⟨g,0,none⟩)] w (z3x R g bm v1 v2 (ptrF s).1 (ptrF s).2 sl N w):=by
 have h1:=h.set_ 1 (.int .i64 ((s.ptrs:Int)+1)) { s with ptrs:=s.ptrs+1 } (by simp[z2i]) rfl rfl;have H1:=hid h1;obtain ⟨c0,c1,c2,c3,c4,c5,c6,c7⟩:=h.cells;have hfz:=z03 h.row 1;have HB:=hid (h.set_below (Below.refl R w) 1 (.int .i64 ((s.ptrs:Int)+1)));clear h h1 c0 c2 c3 c4 c5 c6 c7;go_enter Tryz.func73,Tryz.ntmps73;go_wp2;go_ret;exact ⟨z15 rfl,H1.out,HB.out⟩
theorem z3y (R g bm:Nat)(v1 v2:Value)(s:PS)(sl:List Nat)(N:Nat)(hp:s.ptrs≤1000)(w:World)(h:Pl w R g bm v1 v2 s sl N) :
 Calls Tryz.prog 71 #[.pointer (some ⟨g,0,none⟩)] w (z3x R g bm v1 v2 (z1d s).1 (z1d s).2 sl N w):=by
 obtain ⟨c0,c1,c2,c3,c4,c5,c6,c7⟩:=h.cells
 by_cases hq:s.point<0
 · have HC:=hid (z4f R g bm v1 v2 s sl N hp w h)
   have HE:Hid (z1d s=(s.ptrs, { s with ptrs:=s.ptrs+1,point:=s.ptrs })):=by refine hid ?_; rw[z1d,if_pos hq]
   clear h c0 c1 c2 c3 c4 c5 c6;go_enter Tryz.func71,Tryz.ntmps71
   go_wp2_with fail
   refine HC.out.mono ?_;rintro e w1 ⟨rfl,hp1,hb1⟩;have h1:=hp1.set_ 7 (.int .i64 (s.ptrs:Int)) { s with ptrs:=s.ptrs+1,point:=s.ptrs } (by simp[z2i,ptrF]) rfl rfl;have H1:=hid h1;have hfz:=z03 hp1.row 7;have d7:=hp1.cells.2.2.2.2.2.2.2;have HB:=hid (hp1.set_below hb1 7 (.int .i64 (s.ptrs:Int)));clear hp1 hb1 h1
   simp only[ptrF]
   go_wp2;go_ret;rw[z3x,HE.out];exact ⟨rfl,H1.out,HB.out⟩
 · have HE:Hid (z1d s=(s.point.toNat,s)):=by refine hid ?_; rw[z1d,if_neg hq]
   have HH:=hid h
   have h0:0≤s.point:=by omega
   clear h c0 c1 c2 c3 c4 c5 c6;go_enter Tryz.func71,Tryz.ntmps71;go_wp2;go_ret;rw[z3x,HE.out];exact ⟨z15 (by show s.point=((s.point.toNat:Nat):Int); omega),HH.out,Below.refl _ _⟩
theorem zh7 (sc c:Int)(a d:Nat)(w:World)(hd:sc-c=d)(hd6:d≤6)(ha:a≤100000)(h0:0≤c)(h1:sc≤6) :
 Calls Tryz.prog 108 #[.agg #[.int .i64 sc,.int .i64 (a:Int)],.int .i64 c] w fun e w'=>e= .returned (.int .i64 ((a*2^d:Nat):Int))∧Below w.heap.size w w':=by
 have hdd:d=0∨d=1∨d=2∨d=3∨d=4∨d=5∨d=6:=by omega
 rcases hdd with rfl | rfl | rfl | rfl | rfl | rfl | rfl
 all_goals
  simp only[Int.cast_ofNat_Int] at hd
  go_enter Tryz.func108,Tryz.ntmps108;go_wp2;go_ret;exact ⟨z15 (by omega),(Below.refl _ _).alloc (Nat.le_refl _) _⟩
structure PairAt (w:World) (p:Addr) (a b:Int):Prop where
 c0:w.cell? p=some (.int .i64 a)
 c1:w.cell? ⟨p.block,p.off+1,none⟩=some (.int .i64 b)
theorem z6y:∀(l:List (Nat×Nat)) (k:Nat) (h:k<l.length),(z1r l)[k*2]? =some (.int .i64 (6-((l[k]).1:Int)))∧(z1r l)[k*2+1]? =some (.int .i64 ((l[k]).2:Int))
 | [],k,h=>absurd h (Nat.not_lt_zero _)
 | r :: t,0,_=>⟨rfl,rfl⟩
 | r :: t,k+1,h=>by
   have:=z6y t k (by simpa using h);rw[show (k+1)*2=k*2+1+1 by omega];exact this
theorem zmz (x:Addr)(n:Nat):(⟨(x.add n).block,(x.add n).off+1,none⟩:Addr)=x.add (n+1):=by
 by_cases h:n=0
 · subst h; simp[Addr.add]
 · simp[Addr.add,h]; omega
theorem zbo {w:World}{R:Nat}{v:Value}{l:List (Nat×Nat)}(h:w.ownsRow R roomT 2 v l.length (z1r l)){k:Nat}(hk:k<l.length) :
 ∃x cap,v= .slice (some x) l.length cap∧PairAt w (x.add (k*2)) (6-((l[k]).1:Int)) ((l[k]).2:Int):=by
 obtain ⟨h1,h2⟩:=z6y l k hk
 rcases h.2 with ⟨rfl,h0⟩ | ⟨g,cap,cur,rfl,_,hg,_⟩
 · omega
 · refine ⟨_,cap,rfl,?_,?_⟩
   · exact h.cells (g:=g) rfl (k*2) _ h1
   · rw[zmz]; exact h.cells (g:=g) rfl (k*2+1) _ h2
theorem zko:(Tryz.prog.info? roomT).map (fun i=>(i.zero,i.size,i.bytes))=some (some (.agg #[.int .i64 0,.int .i64 0]),2,16):=by kernel_rfl
theorem zb0 {s:PS}{kd k:Nat}(hk:k<s.shared.length)(hn:∀j (hj:j<k),kd<(s.shared[j]'(Nat.lt_trans hj hk)).1)(hle:(s.shared[k]).1≤kd):z2z kd s=((s.shared[k]).2*2^(kd-(s.shared[k]).1),s):=by
 have hf:s.shared.find? (fun r=>r.1≤kd)=some s.shared[k]:=by
  rw[List.find?_eq_some_iff_getElem];refine ⟨by simpa using hle,k,hk,rfl,fun j hj=>?_⟩;have:=hn j hj
  simp; omega
 unfold z2z;rw[hf]
theorem z9w {s:PS}{kd:Nat}(hn:∀r∈s.shared,kd<r.1):z2z kd s=((roomF kd s.ls).1, { s with ls:=(roomF kd s.ls).2,shared:=s.shared++ [(kd,(roomF kd s.ls).1)] }):=by
 have hf:s.shared.find? (fun r=>r.1≤kd)=none:=by
  rw[List.find?_eq_none]
  intro r hr
  have:=hn r hr
  simp; omega
 unfold z2z;rw[hf]
theorem z0h {w:World}{B e n z:Nat}{v:Value}{xs:List Value}(h:w.ownsRow B e z v n xs):∃A cap,v= .slice A n cap:=by
 rcases h.2 with ⟨rfl,rfl⟩ | ⟨g,cap,_,rfl,_⟩
 · exact ⟨none,0,rfl⟩
 · exact ⟨_,cap,rfl⟩
theorem z31 {w:World}{base e z n x:Nat}{v:Value}{xs:List Value}{e' z' n':Nat}{v':Value}{xs':List Value}{base':Nat}(h:w.ownsRow base e z v n xs)(h':w.ownsRow base' e' z' v' n' xs')(hne:e≠e')(hx:v'.ownBlock=some x):v.ownBlock≠some x:=by
 rcases h'.2 with ⟨rfl,_⟩ | ⟨g',cap,cur,rfl,_,hg,_⟩
 · simp[Value.ownBlock] at hx
 · have:g'=x:=by simpa [Value.ownBlock] using hx
   subst this;exact z0o h hg hne
theorem Pl.grown_row {w w6:World}{R g bm:Nat}{v1 v2 v:Value}{s:PS}{sl:List Nat}{N:Nat}{o:Obj}{e z n:Nat}{xs:List Value}(h:Pl w R g bm v1 v2 s sl N)(hv:w.ownsRow R e z v n xs)(hne:e≠planT)(hg:(w.alloc o).grownBy w6 v.ownBlock) :
 w6.heap[g]? =some (.cells (z2i s v1 v2 bm) planT (0,0)) :=
 (hg.block g (by have:=h.lt; simp; omega) (fun e=>z0o hv h.row hne e.symm)).trans (h.alloc o).row
theorem z49 {w w':World}{bm N:Nat}{f:Nat→Nat}{row:Option Nat}(h:∃n D,n≤N∧w.ownsMap (H:=Unit) Tryz.prog 115 (plainElem Tryz.prog 3) bm n D∧HoleD D f)(hg:w.grownBy w' row)(hne:some bm≠row):∃n D,n≤N∧w'.ownsMap (H:=Unit) Tryz.prog 115 (plainElem Tryz.prog 3) bm n D∧HoleD D f:=by
 obtain ⟨n,D,hn,hm,hd⟩:=h;exact ⟨n,D,hn,hm.kept hg hne,hd⟩
theorem z9o {w:World}{bm N e z n base:Nat}{f:Nat→Nat}{v:Value}{xs:List Value}(h:∃n D,n≤N∧w.ownsMap (H:=Unit) Tryz.prog 115 (plainElem Tryz.prog 3) bm n D∧HoleD D f)(hv:w.ownsRow base e z v n xs):some bm≠v.ownBlock:=by
 obtain ⟨_,D,_,⟨es,c,hb,_⟩,_⟩:=h
 exact fun e=>z6g hv hb e.symm
theorem z3c {w w6:World}{R e z n:Nat}{o:Obj}{v:Value}{xs:List Value}(hr:R≤w.heap.size)(hv:w.ownsRow R e z v n xs)(hg:(w.alloc o).grownBy w6 v.ownBlock):Below R w w6 :=
 ((Below.refl R w).alloc hr o).grown hg (by simp; omega) (fun k hk=>(hv.lt k hk).1)
theorem Pl.share_done {w w6:World}{R g bm:Nat}{v1 v2 v':Value}{s:PS}{sl:List Nat}{N:Nat}{o:Obj}{r:Nat×Nat}(h:Pl w R g bm v1 v2 s sl N)(hg:(w.alloc o).grownBy w6 v2.ownBlock)
 (hv:w6.ownsRow R roomT 2 v' (s.shared.length+1) (z1r s.shared++ [.int .i64 (6-(r.1:Int)),.int .i64 (r.2:Int)])) :
 Pl (w6.setCell ⟨g,6,none⟩ v') R g bm v1 v' { s with shared:=s.shared++ [r] } sl N∧Below R w (w6.setCell ⟨g,6,none⟩ v'):=by
 have hrow:=h.grown_row h.shared (by decide) hg;have hs:=z1g w6 g 6 v';have hgn:w.grownBy w6 v2.ownBlock:=(World.grownBy_alloc w o _).trans hg
 have hsl:w6.ownsRow R slotT 1 v1 sl.length (z1b sl):=by
  refine h.slots.kept hgn ?_
  cases hb:v2.ownBlock with
  | none=>cases hv1:v1.ownBlock <;> simp
  | some x=>exact .inr (z31 h.slots h.shared (by decide) hb)
 have hho:=z49 h.holes hgn (z9o h.holes h.shared);refine ⟨⟨?_,h.rg,h.rb,hsl.kept hs (.inr (z0o hsl hrow (by decide))),?_,z49 hho hs (fun e=>h.gm (by injection e with e; exact e.symm))⟩,?_⟩
 · rw[z3b hrow]; rfl
 · show (w6.setCell ⟨g,6,none⟩ v').ownsRow R roomT 2 v' (s.shared++ [r]).length (z1r (s.shared++ [r]))
   rw[z5s,List.length_append];exact hv.kept hs (.inr (z0o hv hrow (by decide)))
 · exact (z3c h.rs h.shared hg).setCell (p:=⟨g,6,none⟩) h.rg _
def zf4 (R g bm:Nat)(v1:Value)(a:Nat)(s':PS)(sl:List Nat)(N:Nat)(w:World)(e:Ending)(w':World):Prop :=
 ∃v2,z3x R g bm v1 v2 a s' sl N w e w'
theorem z67 (R:Nat)(w:World):Below R w w.drew:=⟨rfl,rfl,rfl,Nat.le_refl _,fun _ _=>rfl⟩
theorem z4a (R:Nat)(w:World)(n:Nat):Below R w (w.drewN n):=⟨rfl,rfl,rfl,Nat.le_refl _,fun _ _=>rfl⟩
theorem z5c (R g bm:Nat)(v1 v2:Value)(s:PS)(sl:List Nat)(N:Nat)(hN:N≤1000)(hbd:LBd 40 s.ls)(hsl:s.shared.length≤1000)(hsb:∀r∈s.shared,r.1≤6∧r.2≤100000)(kd:Nat)(c:Int)(hc:c+kd=6)(hkd:kd≤6)(w:World)(h:Pl w R g bm v1 v2 s sl N) :
 Calls Tryz.prog 72 #[.pointer (some ⟨g,0,none⟩),.int .i64 c] w (zf4 R g bm v1 (z2z kd s).1 (z2z kd s).2 sl (N+6) w):=by
 obtain ⟨i0,hi,hz0,hz1,hz2⟩:=info_parts zko;obtain ⟨c0,c1,c2,c3,c4,c5,c6,c7⟩:=h.cells;have HH:=hid h;have HBD:=hid hbd;have HSB:=hid hsb;have HC:=hid hc
 have hv2:∃A cap,v2= .slice A s.shared.length cap:=by
  rcases h.shared.2 with ⟨rfl,h0⟩ | ⟨g',cap,cur,rfl,_⟩
  · exact ⟨none,0,by rw[h0]⟩
  · exact ⟨_,cap,rfl⟩
 have hrR:=h.rs;have hR0:=h.rg
 have hc0':0≤c:=by omega
 have hc6':c≤6:=by omega
 obtain ⟨A,cap,rfl⟩:=hv2;clear h hbd hsb hc c0 c1 c2 c3 c4 c5 c7;go_enter Tryz.func72,Tryz.ntmps72;go_wp2
 go_loopw [12] (fun i wr=>∃k:Nat,i= .int .i64 k∧k≤s.shared.length∧Hid (∀j (hj:j<s.shared.length),j<k→kd<(s.shared[j]).1)∧Hid (Pl wr R g bm v1 (.slice A s.shared.length cap) s sl N)∧Hid (Below R w wr)) (fun i _=>s.shared.length-(intOf i).toNat)
 case atStart=>exact ⟨0,rfl,by omega,by exact hid (fun j _ hj=>absurd hj (Nat.not_lt_zero _)),by exact HH,by exact hid (Below.refl _ _)⟩
 case round =>
  obtain ⟨k,rfl,hk,HN,HP,HB⟩:=hrel
  by_cases hlt:k<s.shared.length
  · obtain ⟨x,cap',hxe,hx⟩:=zbo HP.out.shared hlt
    obtain ⟨rfl, -⟩:A=some x∧cap=cap':=by injection hxe with e1 e2 e3; exact ⟨e1,e3⟩
    clear hxe;have hr:=HSB.out s.shared[k] (List.getElem_mem hlt);have HNX:Hid (∀j,j<k→∀(hj:j<s.shared.length),kd<(s.shared[j]).1):=hid (fun j hjk hj=>HN.out j hj hjk)
    obtain ⟨d,hd⟩:∃d,d=s.shared[k]:=⟨_,rfl⟩
    rw[← hd] at hx hr;have HDD:=hid hd;clear hd;obtain ⟨dk,da⟩:=d;obtain ⟨c0,c1⟩:=hx;obtain ⟨hr1,hr2⟩:=hr
    by_cases hle:dk≤kd
    · have HE:Hid (z2z kd s=(da*2^(kd-dk),s)):=by
       refine hid ?_;rw[zb0 hlt (fun j hj=>HNX.out j hj _) (by rw[← HDD.out]; exact hle),← HDD.out]
      have hge:c≤6-(dk:Int):=by have:=HC.out; omega
      have hsub:(6-(dk:Int))-c=((kd-dk:Nat):Int):=by have:=HC.out; omega
      have HSB2:=hid hsub;have hB2:=HB.out.alloc (by have:=HP.out.rs; exact this) (.cells #[.int .i64 (6-(dk:Int)),.int .i64 (da:Int)] roomT);have HB2:=hid hB2
      have hd6:(6-(dk:Int))≤6:=by omega
      have hkd6:kd-dk≤6:=by omega
      have hPr:=HP.out.rs;generalize (6-(dk:Int))=sc at c0 hge HSB2 HB2 hd6;clear hsub hB2
      go_wp2_with fail
      refine (zh7 sc c da (kd-dk) _ HSB2.out hkd6 hr2 hc0' hd6).mono ?_;rintro e w3 ⟨rfl,hb3⟩;have HP3:=hid ((HP.out.alloc _).below hb3);have HB3:=hid (HB2.out.trans (hb3.mono (by simp; omega)));clear hb3;go_wp2;go_ret;refine ⟨.slice (some x) s.shared.length cap,?_⟩;rw[z3x,HE.out];exact ⟨rfl,HP3.out.mono (by omega),HB3.out⟩
    · have hlt2:6-(dk:Int)<c:=by have:=HC.out; omega
      have HNN:Hid (∀j (hj:j<s.shared.length),j<k+1→kd<(s.shared[j]).1):=by
       refine hid (fun j hj hjk=>?_)
       by_cases e:j=k
       · subst e
         rw[← HDD.out]; exact Nat.lt_of_not_le hle
       · exact HN.out j hj (by omega)
      clear hle;go_wp2
      go_roundw
      case rel=>exact ⟨k+1,by go_num,by omega,HNN,hid (HP.out.alloc _),hid (HB.out.alloc HP.out.rs _)⟩
      case measure=>simp[intOf]; omega
  · obtain rfl:k=s.shared.length:=by omega
    have HE:Hid (z2z kd s=((roomF kd s.ls).1, { s with ls:=(roomF kd s.ls).2,shared:=s.shared++ [(kd,(roomF kd s.ls).1)] })):=by
     refine hid (z9w ?_)
     intro r hr
     obtain ⟨j,hj,rfl⟩:=List.getElem_of_mem hr;exact HN.out j hj hj
    have hwR:=HP.out.rs;clear hlt hk c6;have e6:=HP.out.cells.2.2.2.2.2.2.1;go_wp2
    go_region_law (first
     | (go_simp; go_at_call 69; refine (z79 R g bm v1 (.slice A s.shared.length cap) s sl N hN HBD.out kd c _ HC.out hkd (by first | exact HP.out | exact HP.out.drew)).mono ?_; rintro e w5 ⟨rfl,hp5,hb5, -⟩; have d6:=hp5.cells.2.2.2.2.2.2.1; have f6:=z03 hp5.row 6; have hr5:=hp5.rs; have hlt5:=hp5.lt; have d6a:=(fun o=>(hp5.alloc o).cells.2.2.2.2.2.2.1); have HP5:=hid hp5; have HB5:=hid hb5; clear hp5 hb5)
     | (refine z3f rfl (.tmp 28) (.tmp 34) 78 rfl R roomT i0 (.agg #[.int .i64 0,.int .i64 0]) 2 16 Tryz.underlying78 hi hz0 hz1 hz2 rfl (by decide) (.slice A s.shared.length cap) s.shared.length _ (by simp[Act.eval]) (HP5.out.shared.alloc _) ⟨w5.heap.size,0,none⟩ 1 1 [_,_] (by simp[Act.eval]) rfl (za9 _ _ _ _) (by simp[Value.oneCell']) (by unfold maxLen; omega) (by omega) (by simp; omega) ?_; intro v' w6 hown6 hgrow6; obtain ⟨A',cap',rfl⟩:=z0h hown6.out; have r6:=HP5.out.grown_row HP5.out.shared (by decide) hgrow6.out; have f6':=z03 r6 6; have c6':w6.cell? ⟨g,6,none⟩=some (.slice A s.shared.length cap):=(by rw[cell_of_row _ _ _ _ _ _ r6]; rfl); clear r6))
    all_goals
     have hrk:(6:Int)-(kd:Int)=c:=by have:=HC.out; omega
     have hdn:=HP5.out.share_done (r:=(kd,(roomF kd s.ls).1)) hgrow6.out (by rw[hrk]; exact hown6.out);have HPD:=hid hdn.1;have HBN:=hid (HB.out.trans ((z67 R _).trans (HB5.out.trans hdn.2)));obtain ⟨x',cc,hxe,hx⟩:=zbo hdn.1.shared (k:=s.shared.length) (by simp);have g6:=hdn.1.cells.2.2.2.2.2.2.1
     have HQ:Hid ((s.shared++ [(kd,(roomF kd s.ls).1)])[s.shared.length]'(by simp)=(kd,(roomF kd s.ls).1)):=by refine hid ?_; simp
     simp only[HQ.out] at hx
     obtain ⟨rfl, -⟩:A'=some x'∧cap'=cc:=by injection hxe with e1 e2 e3; exact ⟨e1,e3⟩
     obtain ⟨-,p1⟩:=hx;clear hxe hdn hown6 hgrow6 d6 f6 d6a f6' c6' e6
     go_wp2_with fail
     go_quiet (fail)
     go_wp2;go_ret;refine ⟨.slice (some x') (s.shared.length+1) cap',?_⟩;rw[z3x,HE.out];exact ⟨rfl,(HPD.out.mono (by omega)).below (z4a _ _ _),HBN.out.trans (z4a _ _ _)⟩
theorem scI_k (z:Int):scI z+(kOf z:Int)=6:=by unfold scI; omega
theorem z6j {n:Nat}{s:PS}(h:PBm n s)(hn:n≤12):∀r∈s.shared,r.1≤6∧r.2≤100000:=fun r hr=>by
 obtain ⟨h1,h2⟩:=h.shared r hr;have h3:2^r.1≤2^6:=Nat.pow_le_pow_right (by decide) h1;have h4:2^r.1*(2*n+1)≤2^6*(2*n+1):=Nat.mul_le_mul_right _ h3
 simp only[show (2:Nat)^6=64 from rfl] at h4
 exact ⟨h1,by omega⟩
theorem zej {f:Fld}{s:PS}(hc:f.choice=false)(hp:f.size≠6):z11 f s=dataF (kOf f.size) s:=by
 unfold z11 tagF; rw[if_neg hp,hc]; rfl
theorem zet {f:Fld}{s:PS}(hc:f.choice=false)(hp:f.size=6):z11 f s=ptrF s:=by
 unfold z11 tagF; rw[if_pos hp,hc]; rfl
theorem z7f {f:Fld}{s:PS}(hc:f.choice=true)(hp:f.size≠6):z11 f s=z2z (kOf f.size) (tagF true s):=by
 unfold z11; rw[if_neg hp,hc]; rfl
theorem z77 {f:Fld}{s:PS}(hc:f.choice=true)(hp:f.size=6):z11 f s=z1d (tagF true s):=by
 unfold z11; rw[if_pos hp,hc]; rfl
theorem zh4 {s:PS}(h:s.many+1=2):tagF true s= { s with many:=s.many+1,ls:=(roomF 2 s.ls).2,tag:=(roomF 2 s.ls).1 } :=by unfold tagF; rw[if_pos rfl,if_pos h]
theorem zgi {s:PS}(h:s.many+1≠2):tagF true s= { s with many:=s.many+1 } :=by unfold tagF; rw[if_pos rfl,if_neg h]
theorem zmf (R g bm n:Nat)(v1 v2:Value)(s:PS)(sl:List Nat)(N:Nat)(hN:N≤900)(hR:1<R)(hbd:PBd n s)(hn:n≤12)(z el:Int)(hz0:1≤z)(hz1:z≤6)(w:World)(ht:Tab w)(h:Pl w R g bm v1 v2 s sl N) :
 Calls Tryz.prog 42 #[.pointer (some ⟨g,0,none⟩),.agg #[.int .i64 z,.bool false,.int .i64 el]] w (zf4 R g bm v1 (z11 ⟨z,false,el⟩ s).1 (z11 ⟨z,false,el⟩ s).2 sl (N+12) w):=by
 have HBA:=hid ((Below.refl R w).alloc h.rs (.cells #[.int .i64 z,.bool false,.int .i64 el] 41));have HTA:=hid (ht.below HBA.out hR);have HH:=hid (h.alloc (.cells #[.int .i64 z,.bool false,.int .i64 el] 41));have HBD:=hid hbd;have hg:=h.lt;clear h ht hbd
 by_cases hp:z=6
 · subst hp
   have HE:=hid (zet (f:=⟨6,false,el⟩) (s:=s) rfl rfl);go_enter Tryz.func42,Tryz.ntmps42
   go_wp2_with fail
   refine (z4f R g bm v1 v2 s sl N (by have:=HBD.out.ptrs; omega) _ HH.out).mono ?_;rintro e w1 ⟨rfl,hp1,hb1⟩;have HP1:=hid hp1;have HB1:=hid hb1;clear hp1 hb1;go_wp2;go_ret;refine ⟨v2,?_⟩;rw[z3x,HE.out];exact ⟨rfl,HP1.out.mono (by omega),HBA.out.trans HB1.out⟩
 · have HE:=hid (zej (f:=⟨z,false,el⟩) (s:=s) rfl hp)
   have hz6:(z==6)=false:=by simpa using hp
   have hz5:z≤5:=by omega
   have HL:Hid (LBd 40 s.ls):=hid (HBD.out.ls.mono (by omega));have HRM:=hid (z79 R g bm v1 v2 s sl N (by omega) HL.out (kOf z) (scI z) _ (scI_k z) (z2x z) HH.out);clear hp;go_enter Tryz.func42,Tryz.ntmps42
   go_wp2_with fail
   refine (z42 z _ HTA.out hz0 hz5).mono ?_;rintro e w1 ⟨rfl,rfl⟩
   go_wp2_with fail
   refine HRM.out.mono ?_;rintro e w1 ⟨rfl,hp1,hb1, -⟩;have HP1:=hid hp1;have HB1:=hid hb1;clear hp1 hb1;go_wp2;go_ret;refine ⟨v2,?_⟩;rw[z3x,HE.out];exact ⟨rfl,HP1.out.mono (by have:=z2x z; omega),HBA.out.trans HB1.out⟩
end Go.Proofs.YtblcibgphccfkaaGreatDoor
