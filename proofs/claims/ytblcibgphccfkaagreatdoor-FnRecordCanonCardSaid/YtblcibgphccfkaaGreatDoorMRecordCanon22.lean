/- Texts of the proof of the law FnRecordCanon, side by side: part 22. -/
import Derived.Test.YtblcibgphccfkaaGreatDoorMRecordCanon21
set_option maxHeartbeats 8000000
set_option maxRecDepth 100000
open Go.Lib (hid)
namespace Go.Proofs.YtblcibgphccfkaaGreatDoor
open Go.RowKit
theorem zn8:(Tryz.prog.info? intT).map (fun i=>(i.zero,i.size,i.bytes))=some (some (.int .i64 0),1,8):=by kernel_rfl
theorem zhj {w:World}{B e n:Nat}{v:Value}{xs:List Value}(h:w.ownsRow B e 1 v n xs){k:Nat}(hk:k<n){u:Value}(hu:xs[k]? =some u):∃x cap,v= .slice (some x) n cap∧w.cell? (x.add k)=some u:=by
 rcases h.2 with ⟨rfl,h0⟩ | ⟨g,cap,cur,rfl,_,hg,_⟩
 · omega
 · exact ⟨_,cap,rfl,h.cells (g:=g) rfl k _ hu⟩
theorem zae (l:List (Nat×Nat))(k:Nat)(h:k<l.length):(z2t l)[k]? =some (.int .i64 ((l[k]).2:Int)):=by simp[z2t,List.getElem?_eq_getElem h]
theorem zaa (l:List (Nat×Nat))(k:Nat)(h:k<l.length):(z2r l)[k]? =some (.int .i64 (6-((l[k]).1:Int))):=by simp[z2r,List.getElem?_eq_getElem h]
structure SlG (w:World) (R g:Nat) (v1 v2:Value) (s:PS) (n1:Nat) (P:List Value) (n2:Nat) (S:List Value):Prop where
 row:w.heap[g]? =some (.cells (z0u s v1 v2) layT (0,0))
 rg:R≤g
 place:w.ownsRow R intT 1 v1 n1 P
 scale:w.ownsRow R intT 1 v2 n2 S
 ne:v1.ownBlock=none∨v1.ownBlock≠v2.ownBlock
theorem SlG.rs {w:World}{R g n1 n2:Nat}{v1 v2:Value}{s:PS}{P S:List Value}(h:SlG w R g v1 v2 s n1 P n2 S):R≤w.heap.size:=Nat.le_of_lt (Nat.lt_of_le_of_lt h.rg (z00 h.row))
theorem Sl.gen {w:World}{R g:Nat}{v1 v2:Value}{s:PS}(h:Sl w R g v1 v2 s):SlG w R g v1 v2 s s.shared.length (z2t s.shared) s.shared.length (z2r s.shared):=⟨h.row,h.rg,h.place,h.scale,h.ne⟩
theorem z32 {w w6:World}{g n1:Nat}{R:Nat}{v:Value}{P:List Value}{cs:Array Value}{o:Obj}(hr:w.heap[g]? =some (.cells cs layT (0,0)))(hv:w.ownsRow R intT 1 v n1 P)(hg:(w.alloc o).grownBy w6 v.ownBlock) :
 w6.heap[g]? =some (.cells cs layT (0,0)) :=
 (hg.block g (by have:=z00 hr; simp; omega) (fun e=>z0o hv hr (by decide) e.symm)).trans ((Below.heap_alloc w o g (z00 hr)).trans hr)
theorem SlG.app1 {w w6:World}{R g n1 n2:Nat}{v1 v2 v':Value}{s:PS}{P S Q:List Value}{o:Obj}(h:SlG w R g v1 v2 s n1 P n2 S)(hg:(w.alloc o).grownBy w6 v1.ownBlock)(hv:w6.ownsRow R intT 1 v' (n1+1) Q)(hl:v'.ownBlock=v1.ownBlock∨v'.ownBlock=some (w.alloc o).heap.size) :
 SlG (w6.setCell ⟨g,10,none⟩ v') R g v' v2 s (n1+1) Q n2 S∧Below R w (w6.setCell ⟨g,10,none⟩ v'):=by
 have hrow:=z32 h.row h.place hg;have hs:=z1g w6 g 10 v';have hgn:w.grownBy w6 v1.ownBlock:=(World.grownBy_alloc w o _).trans hg
 have hsc:w6.ownsRow R intT 1 v2 n2 S:=by
  refine h.scale.kept hgn ?_
  rcases h.ne with hn | hn
  · rw[hn]; cases hv1:v2.ownBlock <;> simp
  · exact .inr (fun e=>hn e.symm)
 refine ⟨⟨?_,h.rg,hv.kept hs (.inr (z0o hv hrow (by decide))),hsc.kept hs (.inr (z0o hsc hrow (by decide))),?_⟩,?_⟩
 · rw[z3b hrow]; rfl
 · rcases hl with hl | hl
   · rw[hl]; exact h.ne
   · rw[hl]
     refine .inr (fun e=>?_);have:=(h.scale.lt _ e.symm).2
     simp at this
     omega
 · exact (z3c h.rs h.place hg).setCell (p:=⟨g,10,none⟩) h.rg _
theorem SlG.app2 {w w6:World}{R g n1 n2:Nat}{v1 v2 v':Value}{s:PS}{P S Q:List Value}{o:Obj}(h:SlG w R g v1 v2 s n1 P n2 S)(hg:(w.alloc o).grownBy w6 v2.ownBlock)(hv:w6.ownsRow R intT 1 v' (n2+1) Q)(hl:v'.ownBlock=v2.ownBlock∨v'.ownBlock=some (w.alloc o).heap.size) :
 SlG (w6.setCell ⟨g,11,none⟩ v') R g v1 v' s n1 P (n2+1) Q∧Below R w (w6.setCell ⟨g,11,none⟩ v'):=by
 have hrow:=z32 h.row h.scale hg;have hs:=z1g w6 g 11 v';have hgn:w.grownBy w6 v2.ownBlock:=(World.grownBy_alloc w o _).trans hg;have hpl:w6.ownsRow R intT 1 v1 n1 P:=h.place.kept hgn h.ne;refine ⟨⟨?_,h.rg,hpl.kept hs (.inr (z0o hpl hrow (by decide))),hv.kept hs (.inr (z0o hv hrow (by decide))),?_⟩,?_⟩
 · rw[z3b hrow]; rfl
 · rcases hl with hl | hl
   · rw[hl]; exact h.ne
   · rw[hl]
     refine .inr (fun e=>?_);have:=(h.place.lt _ e).2
     simp at this
     omega
 · exact (z3c h.rs h.scale hg).setCell (p:=⟨g,11,none⟩) h.rg _
theorem SlG.back {w:World}{R g:Nat}{v1 v2:Value}{s:PS}{r:Nat×Nat}(h:SlG w R g v1 v2 s (s.shared.length+1) (z2t s.shared++ [.int .i64 (r.2:Int)]) (s.shared.length+1) (z2r s.shared++ [.int .i64 (6-(r.1:Int))])) :
 Sl w R g v1 v2 { s with shared:=s.shared++ [r] } :=by
 refine ⟨h.row,h.rg,?_,?_,h.ne⟩
 · have:=h.place
   simpa [z2t] using this
 · have:=h.scale
   simpa [z2r] using this
def FrS (g:Nat)(v1 v2:Value)(w w':World):Prop:=w.heap.size≤w'.heap.size∧∀b,b<w.heap.size→b≠g→some b≠v1.ownBlock→some b≠v2.ownBlock→w'.heap[b]? =w.heap[b]?
theorem FrS.trans {g:Nat}{v1 v2:Value}{a b c:World}(h:FrS g v1 v2 a b)(k:FrS g v1 v2 b c):FrS g v1 v2 a c:=⟨Nat.le_trans h.1 k.1,fun x hx h1 h2 h3=>(k.2 x (Nat.lt_of_lt_of_le hx h.1) h1 h2 h3).trans (h.2 x hx h1 h2 h3)⟩
theorem FrS.refl (g:Nat)(v1 v2:Value)(w:World):FrS g v1 v2 w w:=⟨Nat.le_refl _,fun _ _ _ _ _=>rfl⟩
theorem FrS.of_fr {g:Nat}{v1 v2:Value}{w w':World}(h:Fr g g w w'):FrS g v1 v2 w w':=⟨h.1,fun b hb h1 _ _=>h.2 b hb h1 h1⟩
theorem FrS.set (g i:Nat)(v1 v2:Value)(w:World)(u:Value):FrS g v1 v2 w (w.setCell ⟨g,i,none⟩ u):=FrS.of_fr (Fr.set g g i w u)
theorem FrS.alloc (g:Nat)(v1 v2:Value)(w:World)(o:Obj):FrS g v1 v2 w (w.alloc o):=⟨by simp,fun b hb _ _ _=>Below.heap_alloc w o b hb⟩
theorem FrS.grown1 {g:Nat}{v1 v2:Value}{w w':World}{o:Obj}(h:(w.alloc o).grownBy w' v1.ownBlock):FrS g v1 v2 w w':=(FrS.alloc g v1 v2 w o).trans ⟨h.size,fun b hb _ h1 _=>h.block b hb h1⟩
theorem FrS.grown2 {g:Nat}{v1 v2:Value}{w w':World}{o:Obj}(h:(w.alloc o).grownBy w' v2.ownBlock):FrS g v1 v2 w w':=(FrS.alloc g v1 v2 w o).trans ⟨h.size,fun b hb _ _ h2=>h.block b hb h2⟩
theorem FrS.drewN (g:Nat)(v1 v2:Value)(w:World)(n:Nat):FrS g v1 v2 w (w.drewN n):=⟨Nat.le_refl _,fun _ _ _ _ _=>rfl⟩
def SChP (R g:Nat)(u1 u2:Value)(a:Nat)(s':PS)(w:World)(e:Ending)(w':World):Prop:=∃v1 v2,e= .returned (.int .i64 (a:Int))∧Sl w' R g v1 v2 s'∧Below R w w'∧FrS g u1 u2 w w'
theorem z9n (R g:Nat)(v1 v2:Value)(s:PS)(hbd:LBd 40 s.ls)(hsl:s.shared.length≤1000)(hsb:∀r∈s.shared,r.1≤6∧r.2≤100000)(kd:Nat)(c:Int)(hc:c+kd=6)(hkd:kd≤6)(w:World)(h:Sl w R g v1 v2 s) :
 Calls Tryz.prog 102 #[.pointer (some ⟨g,0,none⟩),.int .i64 c] w (SChP R g v1 v2 (z2z kd s).1 (z2z kd s).2 w):=by
 obtain ⟨i0,hi,hz0,hz1,hz2⟩:=info_parts zn8;have HH:=hid h;have HBD:=hid hbd;have HSB:=hid hsb;have HC:=hid hc
 have hc0':0≤c:=by omega
 have hc6':c≤6:=by omega
 obtain ⟨A1,cp1,rfl⟩:=z0h h.place;obtain ⟨A2,cp2,rfl⟩:=z0h h.scale;clear h hbd hsb hc;go_enter Tryz.func102,Tryz.ntmps102;go_wp2
 go_loopw [5] (fun i wr=>∃k:Nat,i= .int .i64 k∧k≤s.shared.length∧Hid (∀j (hj:j<s.shared.length),j<k→kd<(s.shared[j]).1)∧Hid (Sl wr R g (.slice A1 s.shared.length cp1) (.slice A2 s.shared.length cp2) s)∧Hid (Below R w wr)∧Hid (FrS g (.slice A1 s.shared.length cp1) (.slice A2 s.shared.length cp2) w wr)) (fun i _=>s.shared.length-(intOf i).toNat)
 case atStart=>exact ⟨0,rfl,by omega,by exact hid (fun j _ hj=>absurd hj (Nat.not_lt_zero _)),by exact HH,by exact hid (Below.refl _ _),by exact hid (FrS.refl _ _ _ _)⟩
 case round =>
  obtain ⟨k,rfl,hk,HN,HP,HB,HFS⟩:=hrel;have q10:=HP.out.cells.2.2.2.2.2.2.2.2.2.2.1
  by_cases hlt:k<s.shared.length
  · have q11:=HP.out.cells.2.2.2.2.2.2.2.2.2.2.2.1
    obtain ⟨x1,cc1,hx1,p1⟩:=zhj HP.out.place hlt (zae _ k hlt);obtain ⟨x2,cc2,hx2,p2⟩:=zhj HP.out.scale hlt (zaa _ k hlt)
    obtain ⟨rfl, -⟩:A1=some x1∧cp1=cc1:=by injection hx1 with e1 e2 e3; exact ⟨e1,e3⟩
    obtain ⟨rfl, -⟩:A2=some x2∧cp2=cc2:=by injection hx2 with e1 e2 e3; exact ⟨e1,e3⟩
    clear hx1 hx2;have hr:=HSB.out s.shared[k] (List.getElem_mem hlt);have HNX:Hid (∀j,j<k→∀(hj:j<s.shared.length),kd<(s.shared[j]).1):=hid (fun j hjk hj=>HN.out j hj hjk)
    obtain ⟨d,hd⟩:∃d,d=s.shared[k]:=⟨_,rfl⟩
    rw[← hd] at p1 p2 hr;have HDD:=hid hd;clear hd;obtain ⟨dk,da⟩:=d;obtain ⟨hr1,hr2⟩:=hr
    have hk2:(k:Int)<(s.shared.length:Int):=by omega
    by_cases hle:dk≤kd
    · have HE:Hid (z2z kd s=(da*2^(kd-dk),s)):=by
       refine hid ?_;rw[zb0 hlt (fun j hj=>HNX.out j hj _) (by rw[← HDD.out]; exact hle),← HDD.out]
      have hge:c≤6-(dk:Int):=by have:=HC.out; omega
      have hsub:(6-(dk:Int))-c=((kd-dk:Nat):Int):=by have:=HC.out; omega
      have hkd6:kd-dk≤6:=by omega
      have hsc:6-(dk:Int)≤6:=by omega
      have hsc0:0≤6-(dk:Int):=by omega
      have hda:(da:Int)≤100000:=by omega
      generalize (6-(dk:Int))=sc at p2 hge hsub hsc hsc0
      have hdd:kd-dk=0∨kd-dk=1∨kd-dk=2∨kd-dk=3∨kd-dk=4∨kd-dk=5∨kd-dk=6:=by omega
      clear hle hr1 hr2;generalize kd-dk=d at HE hsub hkd6 hdd
      rcases hdd with rfl | rfl | rfl | rfl | rfl | rfl | rfl
      all_goals
       simp only[Int.cast_ofNat_Int] at hsub
       have hwr:IntKind.i64.wrap (sc-c)=sc-c:=IntWalk.i64_in _ (by omega);go_wp2
       go_quiet (fail)
       go_wp2;go_ret;rw[SChP,HE.out];exact ⟨_,_,z15 (by show _=((da*2^_:Nat):Int); omega),HP.out.below (z4a _ _ _),HB.out.trans (z4a _ _ _),HFS.out.trans (FrS.drewN _ _ _ _ _)⟩
    · have hlt2:6-(dk:Int)<c:=by have:=HC.out; omega
      have HNN:Hid (∀j (hj:j<s.shared.length),j<k+1→kd<(s.shared[j]).1):=by
       refine hid (fun j hj hjk=>?_)
       by_cases e:j=k
       · subst e
         rw[← HDD.out]; exact Nat.lt_of_not_le hle
       · exact HN.out j hj (by omega)
      clear hle;go_wp2
      go_roundw
      case rel=>exact ⟨k+1,by go_num,by omega,HNN,HP,HB,HFS⟩
      case measure=>simp[intOf]; omega
  · obtain rfl:k=s.shared.length:=by omega
    have HE:Hid (z2z kd s=((roomF kd s.ls).1, { s with ls:=(roomF kd s.ls).2,shared:=s.shared++ [(kd,(roomF kd s.ls).1)] })):=by
     refine hid (z9w ?_)
     intro r hr
     obtain ⟨j,hj,rfl⟩:=List.getElem_of_mem hr;exact HN.out j hj hj
    have HDT:=hid (zag R g _ _ s HBD.out kd c wr HC.out hkd HP.out);have hwr:=HP.out.rs;clear hlt hk
    go_wp2_with fail
    refine HDT.out.mono ?_;rintro e w1 ⟨rfl,hs1,hb1,hf1⟩;have HFS1:=hid (HFS.out.trans (FrS.of_fr hf1));clear hf1;have r10:=hs1.cells.2.2.2.2.2.2.2.2.2.2.1;have HG1:=hid hs1.gen;have HB1:=hid (HB.out.trans hb1);have hr1:=hs1.rs;clear hs1 hb1 q10
    go_wp2_with (first
     | (at_builtin; refine wpList_append_own_at _ rfl (.tmp 49) (.tmp 51) 85 rfl R intT i0 (.int .i64 0) 1 8 Tryz.underlying85 hi hz0 hz1 hz2 rfl (by decide) (.slice A1 s.shared.length cp1) s.shared.length _ rfl (HG1.out.place.alloc _) ⟨w1.heap.size,0,none⟩ 1 1 [.int .i64 ((roomF kd s.ls).1:Int)] rfl rfl (cell_one_new _ _ _) (by simp[Value.oneCell']) (by unfold maxLen; omega) (by omega) (by simp; omega) ?_; intro v' w6 hown6 hgrow6 _ hloc6; obtain ⟨A',cap',rfl⟩:=z0h hown6; have r6:=z32 HG1.out.row HG1.out.place hgrow6; have f6':=z03 r6 10; have c6':w6.cell? ⟨g,10,none⟩=some (.slice A1 s.shared.length cp1):=(by rw[cell_of_row _ _ _ _ _ _ r6]; rfl); have c6'':w6.cell? ⟨g,11,none⟩=some (.slice A2 s.shared.length cp2):=(by rw[cell_of_row _ _ _ _ _ _ r6]; rfl); have hg2:=HG1.out.app1 hgrow6 hown6 hloc6; have hr2:=hg2.1.rs; have HG2:=hid hg2.1; have HB2:=hid (HB1.out.trans hg2.2); have HFS2:=hid ((HFS1.out.trans (FrS.grown1 hgrow6)).trans (FrS.set g 10 _ _ w6 (.slice A' (s.shared.length+1) cap'))); clear r6 hown6 hgrow6 hloc6 hg2)
     | (at_builtin; refine wpList_append_own_at _ rfl (.tmp 59) (.tmp 61) 85 rfl R intT i0 (.int .i64 0) 1 8 Tryz.underlying85 hi hz0 hz1 hz2 rfl (by decide) (.slice A2 s.shared.length cp2) s.shared.length _ rfl (HG2.out.scale.alloc _) ⟨w6.heap.size,0,none⟩ 1 1 [.int .i64 c] rfl rfl (by have:=cell_one_new (w6.setCell ⟨g,10,none⟩ (.slice A' (s.shared.length+1) cap')) (.int .i64 c) intT; rw[show (w6.setCell ⟨g,10,none⟩ (.slice A' (s.shared.length+1) cap')).heap.size=w6.heap.size by simp[World.setCell]] at this; exact this) (by simp[Value.oneCell']) (by unfold maxLen; omega) (by omega) (by simp; simp at hr2; omega) ?_; intro v'' w7 hown7 hgrow7 _ hloc7; obtain ⟨A'',cap'',rfl⟩:=z0h hown7; have r7:=z32 HG2.out.row HG2.out.scale hgrow7; have f7':=z03 r7 11; have c7':w7.cell? ⟨g,11,none⟩=some (.slice A2 s.shared.length cp2):=(by rw[cell_of_row _ _ _ _ _ _ r7]; rfl); have hg3:=HG2.out.app2 hgrow7 hown7 hloc7; have HG3:=hid hg3.1; have HB3:=hid (HB2.out.trans hg3.2); have HFS3:=hid ((HFS2.out.trans (FrS.grown2 hgrow7)).trans (FrS.set g 11 _ _ w7 (.slice A'' (s.shared.length+1) cap''))); clear r7 hown7 hgrow7 hloc7 hg3))
    go_ret
    have hcr:c=6-(kd:Int):=by have:=HC.out; omega
    rw[SChP,HE.out];refine ⟨.slice A' (s.shared.length+1) cap',.slice A'' (s.shared.length+1) cap'',rfl,?_,HB3.out,HFS3.out⟩;have:=HG3.out;rw[hcr] at this;exact SlG.back (r:=(kd,(roomF kd s.ls).1)) this
theorem z5f (z:Int)(w:World)(h0:1≤z)(h1:z≤5) :
 Calls Tryz.prog 103 #[.int .i64 z] w fun e w'=>e= .returned (.int .i64 (scI z))∧w=w':=by
 have hz:z=1∨z=2∨z=3∨z=4∨z=5:=by omega
 rcases hz with rfl | rfl | rfl | rfl | rfl
 all_goals
  go_enter Tryz.func103,Tryz.ntmps103;go_wp2;go_ret;exact ⟨z15 (by decide),rfl⟩
theorem zn7 (R g n:Nat)(v1 v2:Value)(s:PS)(hR:1<R)(hbd:PBd n s)(hn:n≤12)(z el:Int)(hz0:1≤z)(hz1:z≤6)(w:World)(h:Sl w R g v1 v2 s) :
 Calls Tryz.prog 64 #[.pointer (some ⟨g,0,none⟩),.agg #[.int .i64 z,.bool false,.int .i64 el]] w (SChP R g v1 v2 (z11 ⟨z,false,el⟩ s).1 (z11 ⟨z,false,el⟩ s).2 w):=by
 have hba:=(Below.refl R w).alloc h.rs (.cells #[.int .i64 z,.bool false,.int .i64 el] 41);have HBD:=hid hbd;have hg:=h.lt
 by_cases hp:z=6
 · subst hp
   have HE:=hid (zet (f:=⟨6,false,el⟩) (s:=s) rfl rfl);have c1:=h.cells.2.1;have f1:=z03 h.row 1;have hpt:=hbd.ptrs;have HS:=hid ((h.set_ 1 (.int .i64 ((s.ptrs:Int)+1)) { s with ptrs:=s.ptrs+1 } (by simp[z0u]) rfl).alloc (.cells #[.int .i64 6,.bool false,.int .i64 el] 41));have HB:=hid ((h.set_below (Below.refl R w) 1 (.int .i64 ((s.ptrs:Int)+1))).alloc (by have:=h.rs; simpa using this) (.cells #[.int .i64 6,.bool false,.int .i64 el] 41));clear h hbd hba;go_enter Tryz.func64,Tryz.ntmps64;go_wp2;go_ret;rw[SChP,HE.out];exact ⟨v1,v2,z15 rfl,HS.out,HB.out,(FrS.set g 1 _ _ w _).trans (FrS.alloc _ _ _ _ _)⟩
 · have HE:=hid (zej (f:=⟨z,false,el⟩) (s:=s) rfl hp)
   have hz6:(z==6)=false:=by simpa using hp
   have hz5:z≤5:=by omega
   have HL:Hid (LBd 40 s.ls):=hid (HBD.out.ls.mono (by omega));have HRM:=hid (zag R g v1 v2 s HL.out (kOf z) (scI z) _ (scI_k z) (z2x z) (h.alloc (.cells #[.int .i64 z,.bool false,.int .i64 el] 41)));have HBA:=hid hba;clear hp h hbd hba;go_enter Tryz.func64,Tryz.ntmps64
   go_wp2_with fail
   refine (z5f z _ hz0 hz5).mono ?_;rintro e w1 ⟨rfl,rfl⟩
   go_wp2_with fail
   refine HRM.out.mono ?_;rintro e w1 ⟨rfl,hp1,hb1,hf1⟩;have HP1:=hid hp1;have HB1:=hid hb1;have HF1:Hid (FrS g v1 v2 w w1):=hid ((FrS.alloc _ _ _ _ _).trans (FrS.of_fr hf1));clear hp1 hb1 hf1;go_wp2;go_ret;rw[SChP,HE.out];exact ⟨v1,v2,rfl,HP1.out,HBA.out.trans HB1.out,HF1.out⟩
theorem zio {w w2:World}{g:Nat}{z el:Int}{u:Value}{i:Nat}{T:TypeId}(hg:g<w.heap.size)(hfr:Fr g g ((w.setCell ⟨g,i,none⟩ u).alloc (.cells #[.int .i64 z,.bool true,.int .i64 el] T)) w2) :
 w2.cell? ⟨w.heap.size,0,none⟩=some (.int .i64 z)∧w2.cell? ⟨w.heap.size,1,none⟩=some (.bool true)∧w.heap.size<w2.heap.size:=by
 have q:∀j,w2.cell? ⟨w.heap.size,j,none⟩=(#[Value.int .i64 z,.bool true,.int .i64 el]:Array Value)[j]? :=fun j=>by
  rw[zdx hfr (by simp) (by omega) (by omega)];rw[show w.heap.size=(w.setCell ⟨g,i,none⟩ u).heap.size by simp[World.setCell]];exact cell_of_row _ _ j _ _ _ (heap_alloc_new _ _)
 refine ⟨q 0,q 1,?_⟩;have:=hfr.1
 simp at this
 omega
theorem zc3 (c:Bool)(s:PS):(tagF c s).point=s.point∧(tagF c s).ptrs=s.ptrs:=by
 unfold tagF;cases c
 · exact ⟨rfl,rfl⟩
 · rw[if_pos rfl]
   by_cases h:s.many+1=2
   · rw[if_pos h]; exact ⟨rfl,rfl⟩
   · rw[if_neg h]; exact ⟨rfl,rfl⟩
theorem z61 {T:PS}(h:T.point<0):z1d T=(T.ptrs, { T with ptrs:=T.ptrs+1,point:=T.ptrs }):=by rw[z1d,if_pos h]
theorem z62 {T:PS}(h:¬T.point<0):z1d T=(T.point.toNat,T):=by rw[z1d,if_neg h]
theorem zju (R g n:Nat)(v1 v2:Value)(s:PS)(hR:1<R)(hbd:PBd n s)(hn:n≤12)(z el:Int)(hz0:1≤z)(hz1:z≤6)(hmt:s.many+1=2)(w:World)(h:Sl w R g v1 v2 s) :
 Calls Tryz.prog 64 #[.pointer (some ⟨g,0,none⟩),.agg #[.int .i64 z,.bool true,.int .i64 el]] w (SChP R g v1 v2 (z11 ⟨z,true,el⟩ s).1 (z11 ⟨z,true,el⟩ s).2 w):=by
 have hm:=hbd.many;have h0':=h.set_ 9 (.int .i64 ((s.many:Int)+1)) { s with many:=s.many+1 } (by simp[z0u]) rfl;have hb0:=h.set_below (Below.refl R w) 9 (.int .i64 ((s.many:Int)+1));have hrs:R≤(w.setCell ⟨g,9,none⟩ (.int .i64 ((s.many:Int)+1))).heap.size:=h0'.rs;have HH0:=hid h0';have HB0:=hid hb0;have HBA:=hid (hb0.alloc hrs (.cells #[.int .i64 z,.bool true,.int .i64 el] 41));have HH:=hid (h0'.alloc (.cells #[.int .i64 z,.bool true,.int .i64 el] 41));have HTM:=hid (z8g hbd true);have HTP:=hid (zc3 true s);have hg:=h.lt;have hrg:=h.rg;have hpt:=hbd.ptrs;have hpo:=hbd.point;have c9:=h.cells.2.2.2.2.2.2.2.2.2.1;have f9:=z03 h.row 9;have HSH:=hid (z6j (z8g hbd true) hn);have HLS:Hid (LBd 40 s.ls):=hid (hbd.ls.mono (by omega));have hkz:=z2x z;have HT2:=hid (zh4 hmt)
 have hm1:((s.many:Int)+1==2)=true:=by simp; omega
 have HRM:=hid (zag R g v1 v2 { s with many:=s.many+1 } HLS.out 2 4 _ (by decide) (by decide) HH.out);clear h h0' hb0 hmt hbd;go_enter Tryz.func64,Tryz.ntmps64
 go_wp2_with fail
 refine HRM.out.mono ?_;rintro e w2 ⟨rfl,hp2,hb2,hfr2⟩;have h3:=hp2.set_ 8 (.int .i64 ((roomF 2 s.ls).1:Int)) { s with many:=s.many+1,ls:=(roomF 2 s.ls).2,tag:=(roomF 2 s.ls).1 } (by simp[z0u]) rfl;rw[← HT2.out] at h3;have hb3:=hp2.set_below (HBA.out.trans hb2) 8 (.int .i64 ((roomF 2 s.ls).1:Int));have f8:=z03 hp2.row;have d8:=hp2.cells.2.2.2.2.2.2.2.2.1;have d1:w2.cell? ⟨g,1,none⟩=some (.int .i64 (s.ptrs:Int)):=hp2.cells.2.1;have d12:w2.cell? ⟨g,12,none⟩=some (.int .i64 s.point):=hp2.cells.2.2.2.2.2.2.2.2.2.2.2.2;obtain ⟨q0,q1,hlt2⟩:=zio hg hfr2
 have hne:¬w.heap.size=g:=by omega
 have HP3:=hid h3;have HB3:=hid hb3;have HF3:=hid ((((FrS.set g 9 v1 v2 w (.int .i64 ((s.many:Int)+1))).trans (FrS.alloc _ _ _ _ _)).trans (FrS.of_fr hfr2)).trans (FrS.set g 8 _ _ w2 (.int .i64 ((roomF 2 s.ls).1:Int))));clear hp2 hb2 h3 hb3 hfr2
 by_cases hp:z=6
 · subst hp
   have HE:=hid (z77 (f:=⟨6,true,el⟩) (s:=s) rfl rfl)
   by_cases hq:s.point<0
   · have HSE:=hid (z61 (T:=tagF true s) (by rw[HTP.out.1]; exact hq))
     rw[HTP.out.2] at HSE;have HS4:=hid ((HP3.out.set_ 12 (.int .i64 (s.ptrs:Int)) { tagF true s with point:=s.ptrs } (by simp[z0u]) rfl).set_ 1 (.int .i64 ((s.ptrs:Int)+1)) { tagF true s with ptrs:=s.ptrs+1,point:=s.ptrs } (by simp[z0u]) rfl);have HB4:=hid (((HP3.out.set_below HB3.out 12 (.int .i64 (s.ptrs:Int)))).setCell (p:=⟨g,1,none⟩) hrg (.int .i64 ((s.ptrs:Int)+1)));go_wp2;go_ret;rw[SChP,HE.out,HSE.out];exact ⟨v1,v2,rfl,HS4.out,HB4.out,(HF3.out.trans (FrS.set g 12 _ _ _ _)).trans (FrS.set g 1 _ _ _ _)⟩
   · have HSE:=hid (z62 (T:=tagF true s) (by rw[HTP.out.1]; exact hq))
     rw[HTP.out.1] at HSE
     have h0p:0≤s.point:=by omega
     go_wp2;go_ret;rw[SChP,HE.out,HSE.out];exact ⟨v1,v2,z15 (by show s.point=((s.point.toNat:Nat):Int); omega),HP3.out,HB3.out,HF3.out⟩
 · have HE:=hid (z7f (f:=⟨z,true,el⟩) (s:=s) rfl hp)
   have hz6:(z==6)=false:=by simpa using hp
   have hz5:z≤5:=by omega
   have HL3:Hid (LBd 40 (tagF true s).ls):=hid (HTM.out.ls.mono (by omega));have HSP:=hid (z9n R g v1 v2 (tagF true s) HL3.out (by have:=HTM.out.len; omega) HSH.out (kOf z) (scI z) (scI_k z) (z2x z) _ HP3.out);clear hp
   go_wp2_with fail
   refine (z5f z _ hz0 hz5).mono ?_;rintro e w4 ⟨rfl,rfl⟩
   go_wp2_with fail
   refine HSP.out.mono ?_;rintro e w4 ⟨v1',v2',rfl,hp4,hb4,hf4⟩;have HF4:=hid (HF3.out.trans hf4);clear hf4;have HP4:=hid hp4;have HB4:=hid hb4;clear hp4 hb4;go_wp2;go_ret;rw[SChP,HE.out];exact ⟨v1',v2',rfl,HP4.out,HB3.out.trans HB4.out,HF4.out⟩
theorem zl7 (R g n:Nat)(v1 v2:Value)(s:PS)(hR:1<R)(hbd:PBd n s)(hn:n≤12)(z el:Int)(hz0:1≤z)(hz1:z≤6)(hmt:s.many+1≠2)(w:World)(h:Sl w R g v1 v2 s) :
 Calls Tryz.prog 64 #[.pointer (some ⟨g,0,none⟩),.agg #[.int .i64 z,.bool true,.int .i64 el]] w (SChP R g v1 v2 (z11 ⟨z,true,el⟩ s).1 (z11 ⟨z,true,el⟩ s).2 w):=by
 have hm:=hbd.many;have h0':=h.set_ 9 (.int .i64 ((s.many:Int)+1)) { s with many:=s.many+1 } (by simp[z0u]) rfl;have hb0:=h.set_below (Below.refl R w) 9 (.int .i64 ((s.many:Int)+1));have hrs:R≤(w.setCell ⟨g,9,none⟩ (.int .i64 ((s.many:Int)+1))).heap.size:=h0'.rs;have HH0:=hid h0';have HB0:=hid hb0;have HBA:=hid (hb0.alloc hrs (.cells #[.int .i64 z,.bool true,.int .i64 el] 41));have HH:=hid (h0'.alloc (.cells #[.int .i64 z,.bool true,.int .i64 el] 41));have HTM:=hid (z8g hbd true);have HTP:=hid (zc3 true s);have hg:=h.lt;have hrg:=h.rg;have hpt:=hbd.ptrs;have hpo:=hbd.point;have c9:=h.cells.2.2.2.2.2.2.2.2.2.1;have f9:=z03 h.row 9;have HSH:=hid (z6j (z8g hbd true) hn);have HLS:Hid (LBd 40 s.ls):=hid (hbd.ls.mono (by omega));have hkz:=z2x z;have HT2:=hid (zgi hmt)
 have hm1:((s.many:Int)+1==2)=false:=by simp; omega
 have d1:=h.cells.2.1;have d12:=h.cells.2.2.2.2.2.2.2.2.2.2.2.2;have f1:=z03 h.row 1;have f12:=z03 h.row 12;rw[← HT2.out] at HH0 HH;clear h h0' hb0 hmt hbd
 by_cases hp:z=6
 · subst hp
   have HE:=hid (z77 (f:=⟨6,true,el⟩) (s:=s) rfl rfl)
   by_cases hq:s.point<0
   · have HSE:=hid (z61 (T:=tagF true s) (by rw[HTP.out.1]; exact hq))
     rw[HTP.out.2] at HSE;have h4:=(HH0.out.set_ 12 (.int .i64 (s.ptrs:Int)) { tagF true s with point:=s.ptrs } (by simp[z0u]) rfl).set_ 1 (.int .i64 ((s.ptrs:Int)+1)) { tagF true s with ptrs:=s.ptrs+1,point:=s.ptrs } (by simp[z0u]) rfl;have HB4:=hid ((((HH0.out.set_below HB0.out 12 (.int .i64 (s.ptrs:Int)))).setCell (p:=⟨g,1,none⟩) hrg (.int .i64 ((s.ptrs:Int)+1))).alloc h4.rs (.cells #[.int .i64 6,.bool true,.int .i64 el] 41));have HS4:=hid (h4.alloc (.cells #[.int .i64 6,.bool true,.int .i64 el] 41));clear h4;go_enter Tryz.func64,Tryz.ntmps64;go_wp2;go_ret;rw[SChP,HE.out,HSE.out];exact ⟨v1,v2,rfl,HS4.out,HB4.out,(((FrS.set g 9 _ _ w _).trans (FrS.set g 12 _ _ _ _)).trans (FrS.set g 1 _ _ _ _)).trans (FrS.alloc _ _ _ _ _)⟩
   · have HSE:=hid (z62 (T:=tagF true s) (by rw[HTP.out.1]; exact hq))
     rw[HTP.out.1] at HSE
     have h0p:0≤s.point:=by omega
     go_enter Tryz.func64,Tryz.ntmps64;go_wp2;go_ret;rw[SChP,HE.out,HSE.out];exact ⟨v1,v2,z15 (by show s.point=((s.point.toNat:Nat):Int); omega),HH.out,HBA.out,(FrS.set g 9 _ _ w _).trans (FrS.alloc _ _ _ _ _)⟩
 · have HE:=hid (z7f (f:=⟨z,true,el⟩) (s:=s) rfl hp)
   have hz6:(z==6)=false:=by simpa using hp
   have hz5:z≤5:=by omega
   have HL3:Hid (LBd 40 (tagF true s).ls):=hid (HTM.out.ls.mono (by omega));have HSP:=hid (z9n R g v1 v2 (tagF true s) HL3.out (by have:=HTM.out.len; omega) HSH.out (kOf z) (scI z) (scI_k z) (z2x z) _ HH.out);clear hp;go_enter Tryz.func64,Tryz.ntmps64
   go_wp2_with fail
   refine (z5f z _ hz0 hz5).mono ?_;rintro e w4 ⟨rfl,rfl⟩
   go_wp2_with fail
   refine HSP.out.mono ?_;rintro e w4 ⟨v1',v2',rfl,hp4,hb4,hf4⟩;have HF4:Hid (FrS g v1 v2 w w4):=hid (((FrS.set g 9 _ _ w _).trans (FrS.alloc _ _ _ _ _)).trans hf4);clear hf4;have HP4:=hid hp4;have HB4:=hid hb4;clear hp4 hb4;go_wp2;go_ret;rw[SChP,HE.out];exact ⟨v1',v2',rfl,HP4.out,HBA.out.trans HB4.out,HF4.out⟩
theorem zi5 (R g n:Nat)(v1 v2:Value)(s:PS)(hR:1<R)(hbd:PBd n s)(hn:n≤12)(z:Int)(c:Bool)(el:Int)(hz0:1≤z)(hz1:z≤6)(w:World)(h:Sl w R g v1 v2 s) :
 Calls Tryz.prog 64 #[.pointer (some ⟨g,0,none⟩),.agg #[.int .i64 z,.bool c,.int .i64 el]] w (SChP R g v1 v2 (z11 ⟨z,c,el⟩ s).1 (z11 ⟨z,c,el⟩ s).2 w):=by
 cases c
 · exact zn7 R g n v1 v2 s hR hbd hn z el hz0 hz1 w h
 · by_cases hmt:s.many+1=2
   · exact zju R g n v1 v2 s hR hbd hn z el hz0 hz1 hmt w h
   · exact zl7 R g n v1 v2 s hR hbd hn z el hz0 hz1 hmt w h
end Go.Proofs.YtblcibgphccfkaaGreatDoor
