/- Texts of the proof of the law FnRecordCanon, side by side: part 12. -/
import Derived.Test.YtblcibgphccfkaaGreatDoorMRecordCanon11
set_option maxHeartbeats 8000000
set_option maxRecDepth 100000
open Go.Lib (hid)
namespace Go.Proofs.YtblcibgphccfkaaGreatDoor
open Go.RowKit
theorem scI3:scI 3=4:=by decide
theorem zdx {g bm b:Nat}{w w':World}(h:Fr g bm w w')(hb:b<w.heap.size)(h1:b≠g)(h2:b≠bm)(i:Nat):w'.cell? ⟨b,i,none⟩=w.cell? ⟨b,i,none⟩:=by
 have:=h.2 b hb h1 h2;unfold World.cell?;rw[this]
theorem Pl.ltm {w:World}{R g bm:Nat}{v1 v2:Value}{s:PS}{sl:List Nat}{N:Nat}(h:Pl w R g bm v1 v2 s sl N):bm<w.heap.size:=by
 obtain ⟨_,_,_,hm,_⟩:=h.holes;exact hm.lt
theorem znj (R g bm n:Nat)(v1 v2:Value)(s:PS)(sl:List Nat)(N:Nat)(hN:N≤900)(hR:1<R)(hbd:PBd n s)(hn:n≤12)(z el:Int)(hz0:1≤z)(hz1:z≤6)(w:World)(ht:Tab w)(h:Pl w R g bm v1 v2 s sl N) :
 Calls Tryz.prog 42 #[.pointer (some ⟨g,0,none⟩),.agg #[.int .i64 z,.bool true,.int .i64 el]] w (zf4 R g bm v1 (z11 ⟨z,true,el⟩ s).1 (z11 ⟨z,true,el⟩ s).2 sl (N+12) w):=by
 have hm:=hbd.many;have h1:=(h.set_ 5 (.int .i64 ((s.many:Int)+1)) { s with many:=s.many+1 } (by simp[z2i]) rfl rfl).alloc (.cells #[.int .i64 z,.bool true,.int .i64 el] 41);have hb1:=(h.set_below (Below.refl R w) 5 (.int .i64 ((s.many:Int)+1))).alloc (by have:=h.rs; simpa using this) (.cells #[.int .i64 z,.bool true,.int .i64 el] 41);have HTA:=hid (ht.below hb1 hR);have HBA:=hid hb1;have HH:=hid h1;have HTM:=hid (z8g hbd true);have hg:=h.lt;have hmb:=h.ltm;have c5:=h.cells.2.2.2.2.2.1;have f5:=z03 h.row 5;have hsl:=hbd.len;have HBD:=hid hbd;have HSH:=hid (z6j (z8g hbd true) hn);clear h ht hbd h1 hb1;have hkz:=z2x z
 by_cases hmt:s.many+1=2
 · have HT2:=hid (zh4 hmt)
   have hm1:((s.many:Int)+1==2)=true:=by simp; omega
   have HL:Hid (LBd 40 s.ls):=hid (HBD.out.ls.mono (by omega));have HRM:=hid (z79 R g bm v1 v2 { s with many:=s.many+1 } sl N (by omega) HL.out 2 4 _ (by decide) (by decide) HH.out);have HTB:=hid (z42 3 _ HTA.out (by decide) (by decide));rw[scI3] at HTB;clear hmt;go_enter Tryz.func42,Tryz.ntmps42
   go_wp2_with fail
   refine HTB.out.mono ?_;rintro e w1 ⟨rfl,rfl⟩
   go_wp2_with fail
   refine HRM.out.mono ?_;rintro e w2 ⟨rfl,hp2,hb2,hfr2⟩;have h3:=hp2.set_ 3 (.int .i64 ((roomF 2 s.ls).1:Int)) { s with many:=s.many+1,ls:=(roomF 2 s.ls).2,tag:=(roomF 2 s.ls).1 } (by simp[z2i]) rfl rfl;rw[← HT2.out] at h3;have hb3:=hp2.set_below (HBA.out.trans hb2) 3 (.int .i64 ((roomF 2 s.ls).1:Int));have f3:=z03 hp2.row 3;have d3:=hp2.cells.2.2.2.1;have HP3:=hid h3;have HB3:=hid hb3;have HT3:=hid (HTA.out.below ((Below.refl R _).trans (hp2.set_below hb2 3 (.int .i64 ((roomF 2 s.ls).1:Int)))) hR)
   have q:∀i,w2.cell? ⟨w.heap.size,i,none⟩=(#[Value.int .i64 z,.bool true,.int .i64 el]:Array Value)[i]? :=fun i=>by
    rw[zdx hfr2 (by simp) (by omega) (by omega)];rw[show w.heap.size=(w.setCell ⟨g,5,none⟩ (.int .i64 ((s.many:Int)+1))).heap.size by simp[World.setCell]];exact cell_of_row _ _ i _ _ _ (heap_alloc_new _ _)
   have q0:w2.cell? ⟨w.heap.size,0,none⟩=some (.int .i64 z):=q 0;have q1:w2.cell? ⟨w.heap.size,1,none⟩=some (.bool true):=q 1
   have hlt2:w.heap.size<w2.heap.size:=by have:=hfr2.1; simp at this; omega
   have hne:¬w.heap.size=g:=by omega
   clear hp2 hb2 h3 hb3 hfr2 q
   by_cases hp:z=6
   · subst hp
     have HE:=hid (z77 (f:=⟨6,true,el⟩) (s:=s) rfl rfl);have HSP:=hid (z3y R g bm v1 v2 (tagF true s) sl (N+2) (by have:=HTM.out.ptrs; omega) _ HP3.out)
     go_wp2_with fail
     refine HSP.out.mono ?_;rintro e w4 ⟨rfl,hp4,hb4⟩;have HP4:=hid hp4;have HB4:=hid hb4;clear hp4 hb4;go_wp2;go_ret;refine ⟨v2,?_⟩;rw[z3x,HE.out];exact ⟨rfl,HP4.out.mono (by omega),HB3.out.trans HB4.out⟩
   · have HE:=hid (z7f (f:=⟨z,true,el⟩) (s:=s) rfl hp)
     have hz6:(z==6)=false:=by simpa using hp
     have hz5:z≤5:=by omega
     have HL3:Hid (LBd 40 (tagF true s).ls):=hid (HTM.out.ls.mono (by omega));have HSP:=hid (z5c R g bm v1 v2 (tagF true s) sl (N+2) (by omega) HL3.out (by have:=HTM.out.len; omega) HSH.out (kOf z) (scI z) (scI_k z) (z2x z) _ HP3.out);have HSC:=hid (z42 z _ HT3.out hz0 hz5);clear hp
     go_wp2_with fail
     refine HSC.out.mono ?_;rintro e w4 ⟨rfl,rfl⟩
     go_wp2_with fail
     refine HSP.out.mono ?_;rintro e w4 ⟨v2',rfl,hp4,hb4⟩;have HP4:=hid hp4;have HB4:=hid hb4;clear hp4 hb4;go_wp2;go_ret;refine ⟨v2',?_⟩;rw[z3x,HE.out];exact ⟨rfl,HP4.out.mono (by omega),HB3.out.trans HB4.out⟩
 · have HT2:=hid (zgi hmt)
   have hm1:((s.many:Int)+1==2)=false:=by simp; omega
   have HH2:Hid (Pl ((w.setCell ⟨g,5,none⟩ (.int .i64 ((s.many:Int)+1))).alloc (.cells #[.int .i64 z,.bool true,.int .i64 el] 41)) R g bm v1 v2 (tagF true s) sl N):=by
    refine hid ?_;rw[HT2.out];exact HH.out
   clear hmt
   by_cases hp:z=6
   · subst hp
     have HE:=hid (z77 (f:=⟨6,true,el⟩) (s:=s) rfl rfl);have HSP:=hid (z3y R g bm v1 v2 (tagF true s) sl N (by have:=HTM.out.ptrs; omega) _ HH2.out);go_enter Tryz.func42,Tryz.ntmps42
     go_wp2_with fail
     refine HSP.out.mono ?_;rintro e w4 ⟨rfl,hp4,hb4⟩;have HP4:=hid hp4;have HB4:=hid hb4;clear hp4 hb4;go_wp2;go_ret;refine ⟨v2,?_⟩;rw[z3x,HE.out];exact ⟨rfl,HP4.out.mono (by omega),HBA.out.trans HB4.out⟩
   · have HE:=hid (z7f (f:=⟨z,true,el⟩) (s:=s) rfl hp)
     have hz6:(z==6)=false:=by simpa using hp
     have hz5:z≤5:=by omega
     have HL3:Hid (LBd 40 (tagF true s).ls):=hid (HTM.out.ls.mono (by omega));have HSP:=hid (z5c R g bm v1 v2 (tagF true s) sl N (by omega) HL3.out (by have:=HTM.out.len; omega) HSH.out (kOf z) (scI z) (scI_k z) (z2x z) _ HH2.out);have HSC:=hid (z42 z _ HTA.out hz0 hz5);clear hp;go_enter Tryz.func42,Tryz.ntmps42
     go_wp2_with fail
     refine HSC.out.mono ?_;rintro e w4 ⟨rfl,rfl⟩
     go_wp2_with fail
     refine HSP.out.mono ?_;rintro e w4 ⟨v2',rfl,hp4,hb4⟩;have HP4:=hid hp4;have HB4:=hid hb4;clear hp4 hb4;go_wp2;go_ret;refine ⟨v2',?_⟩;rw[z3x,HE.out];exact ⟨rfl,HP4.out.mono (by omega),HBA.out.trans HB4.out⟩
theorem zhy (R g bm n:Nat)(v1 v2:Value)(s:PS)(sl:List Nat)(N:Nat)(hN:N≤900)(hR:1<R)(hbd:PBd n s)(hn:n≤12)(z:Int)(c:Bool)(el:Int)(hz0:1≤z)(hz1:z≤6)(w:World)(ht:Tab w)(h:Pl w R g bm v1 v2 s sl N) :
 Calls Tryz.prog 42 #[.pointer (some ⟨g,0,none⟩),.agg #[.int .i64 z,.bool c,.int .i64 el]] w (zf4 R g bm v1 (z11 ⟨z,c,el⟩ s).1 (z11 ⟨z,c,el⟩ s).2 sl (N+12) w):=by
 cases c
 · exact zmf R g bm n v1 v2 s sl N hN hR hbd hn z el hz0 hz1 w ht h
 · exact znj R g bm n v1 v2 s sl N hN hR hbd hn z el hz0 hz1 w ht h
theorem zdw:(Tryz.prog.info? slotT).map (fun i=>(i.zero,i.size,i.bytes))=some (some (.agg #[.int .i64 0]),1,8):=by kernel_rfl
theorem z5b (l:List Nat)(a:Nat):z1b (l++ [a])=z1b l++ [.int .i64 (a:Int)]:=by simp[z1b]
theorem Pl.slot_done {w w6:World}{R g bm:Nat}{v1 v2 v':Value}{s:PS}{sl:List Nat}{N:Nat}{o:Obj}{a:Nat}(h:Pl w R g bm v1 v2 s sl N)(hg:(w.alloc o).grownBy w6 v1.ownBlock)
 (hv:w6.ownsRow R slotT 1 v' (sl.length+1) (z1b sl++ [.int .i64 (a:Int)])) :
 Pl (w6.setCell ⟨g,2,none⟩ v') R g bm v' v2 s (sl++ [a]) N∧Below R w (w6.setCell ⟨g,2,none⟩ v'):=by
 have hrow:=h.grown_row h.slots (by decide) hg;have hs:=z1g w6 g 2 v';have hgn:w.grownBy w6 v1.ownBlock:=(World.grownBy_alloc w o _).trans hg
 have hsl:w6.ownsRow R roomT 2 v2 s.shared.length (z1r s.shared):=by
  refine h.shared.kept hgn ?_
  cases hb:v1.ownBlock with
  | none=>cases hv1:v2.ownBlock <;> simp
  | some x=>exact .inr (z31 h.shared h.slots (by decide) hb)
 have hho:=z49 h.holes hgn (z9o h.holes h.slots);refine ⟨⟨?_,h.rg,h.rb,?_,hsl.kept hs (.inr (z0o hsl hrow (by decide))),z49 hho hs (fun e=>h.gm (by injection e with e; exact e.symm))⟩,?_⟩
 · rw[z3b hrow]; rfl
 · rw[z5b,List.length_append]
   exact hv.kept hs (.inr (z0o hv hrow (by decide)))
 · exact (z3c h.rs h.slots hg).setCell (p:=⟨g,2,none⟩) h.rg _
def layV (l:List Fld)(v1:Value):Value:= .agg #[.int .i64 ((layF l ps0).2.ls.words:Int),.int .i64 ((layF l ps0).2.ptrs:Int),v1,.int .i64 (layF l ps0).2.tag]
def LayP (l:List Fld)(w:World)(e:Ending)(w':World):Prop :=
 (z14 l=true∧∃v1,e= .returned (.tuple #[layV l v1,.bool true])∧w'.ownsRow w.heap.size slotT 1 v1 l.length (z1b (layF l ps0).1)∧Below w.heap.size w w') ∨
 (z14 l=false∧e= .returned (.tuple #[.agg #[.int .i64 0,.int .i64 0,.slice none 0 0,.int .i64 0],.bool false])∧Below w.heap.size w w')
theorem z2j {l:List Fld}(h:z14 l=true)(k:Nat)(hk:k<l.length):1≤(l[k]).size∧(l[k]).size≤6:=by
 unfold z14 at h;rw[Bool.and_eq_true,List.all_eq_true] at h;have:=h.1 l[k] (List.getElem_mem hk);unfold fldOk at this;rw[Bool.and_eq_true] at this;exact zho this.1
theorem z0n {l:List Fld}(h:z14 l=true):l.length≤12:=by
 unfold z14 at h;rw[Bool.and_eq_true] at h
 simpa using h.2
theorem zan {w:World}{B B' e z n:Nat}{v:Value}{xs:List Value}(h:w.ownsRow B e z v n xs)(hb:B'≤B):w.ownsRow B' e z v n xs:=by
 refine ⟨h.1,?_⟩
 rcases h.2 with hn | ⟨g,cap,cur,hv,hB,r⟩
 · exact .inl hn
 · exact .inr ⟨g,cap,cur,hv,Nat.le_trans hb hB,r⟩
theorem Pl.made (w:World)(R:Nat)(hR:R≤w.heap.size) :
 Pl ((w.alloc (.map #[] 0)).alloc (.cells #[.int .i64 0,.int .i64 0,.slice none 0 0,.int .i64 (-1),.map (some w.heap.size),.int .i64 0,.slice none 0 0,.int .i64 (-1)] planT)) R (w.heap.size+1) w.heap.size (.slice none 0 0) (.slice none 0 0) ps0 [] 0:=by
 refine ⟨?_,by omega,hR,World.ownsRow_nil _ _ _ _,World.ownsRow_nil _ _ _ _,0,.map [],Nat.le_refl _,(World.ownsMap_made w _ _ _).alloc _,zcw⟩;have:=heap_alloc_new (w.alloc (.map #[] 0)) (.cells #[.int .i64 0,.int .i64 0,.slice none 0 0,.int .i64 (-1),.map (some w.heap.size),.int .i64 0,.slice none 0 0,.int .i64 (-1)] planT);rw[show (w.alloc (.map #[] 0)).heap.size=w.heap.size+1 by simp] at this;exact this
theorem z3i {a b c:World}{r:Option Nat}(h:a.grownBy b r)(k:b.grownBy c r):a.grownBy c r :=
 ⟨k.os.trans h.os,k.tape.trans h.tape,k.output.trans h.output,Nat.le_trans h.size k.size,fun x hx hn=>(k.block x (Nat.lt_of_lt_of_le hx h.size) hn).trans (h.block x hx hn)⟩
theorem zi2 {w1:World}{b:Nat}{T:TypeId}{a0 a1 a2 a3:Value}(h:w1.heap[b]? =some (.cells #[a0,a1,a2,a3] T (0,0)))(v0 v1 v2 v3:Value) :
 ∃wf,((((w1.setCell ⟨b,0,none⟩ v0).setCell ⟨b,1,none⟩ v1).setCell ⟨b,2,none⟩ v2).setCell ⟨b,3,none⟩ v3)=wf∧wf.heap[b]? =some (.cells #[v0,v1,v2,v3] T (0,0))∧w1.grownBy wf (some b):=by
 have h3:=z3b (z3b (z3b (z3b h 0 v0) 1 v1) 2 v2) 3 v3;exact ⟨_,rfl,by simpa using h3,z3i (z3i (z3i (z1g _ b 0 v0) (z1g _ b 1 v1)) (z1g _ b 2 v2)) (z1g _ b 3 v3)⟩
theorem z0p {w1:World}{b:Nat}{T:TypeId}{a0 a1 a2 a3:Value}(h:w1.heap[b]? =some (.cells #[a0,a1,a2,a3] T (0,0))) :
 w1.cell? ⟨b,0,none⟩=some a0∧w1.cell? ⟨b,1,none⟩=some a1∧w1.cell? ⟨b,2,none⟩=some a2∧w1.cell? ⟨b,3,none⟩=some a3:=by
 refine ⟨?_,?_,?_,?_⟩ <;> (rw[cell_of_row _ _ _ _ _ _ h]; rfl)
theorem z33 {B b:Nat}{w w1 w2:World}(h:Below B w w1)(hg:w1.grownBy w2 (some b))(hb:B≤b)(hs:B≤w1.heap.size):Below B w w2 :=
 h.trans ⟨hg.os,hg.tape,hg.output,hg.size,fun k hk=>hg.block k (by omega) (fun e=>by injection e with e; omega)⟩
theorem Flds.at2 {w:World}{A:Option Addr}{l:List Fld}(h:Flds w A l){k:Nat}(hk:k<l.length):∃x,A=some x∧x.block<w.heap.size∧FldAt w (x.add (k*3)) l[k]:=by
 rcases h with h | ⟨x,rfl,hx,hc⟩
 · rw[h] at hk; exact absurd hk (Nat.not_lt_zero _)
 · exact ⟨x,rfl,hx,hc k _ (List.getElem?_eq_getElem hk)⟩
theorem Tab.drew {w:World}(h:Tab w):Tab w.drew:=⟨h.t0,h.t3,h.t4,h.t5,h.t6⟩
theorem zez (l:List Fld)(k:Nat)(h:k<l.length):layF (l.take (k+1)) ps0=((layF (l.take k) ps0).1++ [(z11 l[k] (layF (l.take k) ps0).2).1],(z11 l[k] (layF (l.take k) ps0).2).2):=by
 rw[List.take_succ_eq_append_getElem h,ze3]
theorem zas (l:List Fld)(k:Nat)(h:k≤l.length):PBd k (layF (l.take k) ps0).2:=by
 have:=zln (l.take k) pbd0;rw[List.length_take,Nat.min_eq_left h,Nat.zero_add] at this;exact this
theorem zhz (l:List Fld)(k:Nat)(h:k≤l.length):(layF (l.take k) ps0).1.length=k:=by
 rw[z0a,List.length_take,Nat.min_eq_left h]
theorem z4c (A:Option Addr)(c:Nat)(l:List Fld)(w:World)(ht:Tab w)(h1w:1<w.heap.size)(h:Flds w A l)(hl:l.length≤10000000) :
 Calls Tryz.prog 12 #[.slice A l.length c] w (LayP l w):=by
 have hmm:= @run_makeMap Tryz.prog;obtain ⟨i0,hi,hz0,hz1,hz2⟩:=info_parts zdw;have hal:Below w.heap.size w (w.alloc (.cells #[.int .i64 0,.int .i64 0,.slice none 0 0,.int .i64 0] 37)):=(Below.refl _ _).alloc (Nat.le_refl _) _;have HF:=hid (h.below hal);have HT:=hid ht;have HAL:=hid hal;have HFO:=hid (z71 A c l _ HF.out hl);clear h ht hal
 cases hok:z14 l with
 | false =>
  rw[hok] at HFO;have HOK:=hid hok;clear hok;go_enter Tryz.func12,Tryz.ntmps12
  go_wp2_with fail
  refine HFO.out.mono ?_;rintro e w1 ⟨rfl,hb1⟩;have k0:w1.heap[w.heap.size]? =some (.cells #[.int .i64 0,.int .i64 0,.slice none 0 0,.int .i64 0] 37 (0,0)):=(hb1.block w.heap.size (by simp)).trans (heap_alloc_new _ _);obtain ⟨g0,g1,g2,g3⟩:=z0p k0;have fz:=z03 k0;have hlt:=z00 k0;have HB1:=hid (HAL.out.trans (hb1.mono (by simp)));have HK:=hid k0;clear hb1 k0;go_wp2;obtain ⟨wf,e,hr,hg⟩:=zi2 HK.out (.int .i64 0) (.int .i64 0) (.slice none 0 0) (.int .i64 0);rw[e];obtain ⟨r0,r1,r2,r3⟩:=z0p hr;refine bodyPost_ret (v:= .tuple #[.agg #[.int .i64 0,.int .i64 0,.slice none 0 0,.int .i64 0],.bool false]) (by simp[results,Tryz.results12,go_sem,r0,r1,r2,r3]) rfl (.inr ⟨HOK.out,rfl,?_⟩);exact z33 HB1.out hg (Nat.le_refl _) (Nat.le_of_lt hlt)
 | true =>
  rw[hok] at HFO;have HOK:=hid hok;clear hok;have hl12:=z0n HOK.out;go_enter Tryz.func12,Tryz.ntmps12
  go_wp2_with fail
  refine HFO.out.mono ?_;rintro e w1 ⟨rfl,hb1⟩;have k0:w1.heap[w.heap.size]? =some (.cells #[.int .i64 0,.int .i64 0,.slice none 0 0,.int .i64 0] 37 (0,0)):=(hb1.block w.heap.size (by simp)).trans (heap_alloc_new _ _);have hlt:=z00 k0;have HB1:=hid (HAL.out.trans (hb1.mono (by simp)));have HK:=hid k0
  have hB1:(w.alloc (.cells #[.int .i64 0,.int .i64 0,.slice none 0 0,.int .i64 0] 37)).heap.size=w.heap.size+1:=by simp
  have HBW:=hid hb1;have HZ:=hid hB1;have HM:=hid (Pl.made w1 (w.heap.size+1) (by omega));have hbp:Below (w.heap.size+1) (w.alloc (.cells #[.int .i64 0,.int .i64 0,.slice none 0 0,.int .i64 0] 37)) ((w1.alloc (.map #[] 0)).alloc (.cells #[.int .i64 0,.int .i64 0,.slice none 0 0,.int .i64 (-1),.map (some w1.heap.size),.int .i64 0,.slice none 0 0,.int .i64 (-1)] planT)):=(((hB1 ▸ hb1:Below (w.heap.size+1) _ w1)).alloc (by omega) _).alloc (by simp; omega) _;have HBP:=hid hbp;clear hb1 k0 hbp hB1;go_wp2
  go_loopw [17] (fun i wr=>∃k:Nat,i= .int .i64 k∧k≤l.length∧Hid (∃v1 v2,Pl wr (w.heap.size+1) (w1.heap.size+1) w1.heap.size v1 v2 (layF (l.take k) ps0).2 (layF (l.take k) ps0).1 (12*k))∧Hid (Below (w.heap.size+1) (w.alloc (.cells #[.int .i64 0,.int .i64 0,.slice none 0 0,.int .i64 0] 37)) wr)) (fun i _=>l.length-(intOf i).toNat)
  case atStart=>exact ⟨0,rfl,by omega,by exact hid ⟨_,_,HM.out⟩,by exact HBP⟩
  case round =>
   obtain ⟨k,rfl,hk,HP,HB⟩:=hrel
   by_cases hlt2:k<l.length
   · obtain ⟨x,rfl,hxb,hx⟩:=HF.out.at2 hlt2
     have hx2:=hx.below HB.out (by rw[z05]; have:=HZ.out; omega);have hsz:=z2j HOK.out k hlt2;have HTK:=hid (zez l k hlt2);have HBD:=hid (zas l k hk);have HLEN:=hid (zhz l k hk);obtain ⟨v1,v2,hp⟩:=HP.out;generalize (layF (l.take k) ps0).2=s at hp HTK HBD;generalize (layF (l.take k) ps0).1=sl at hp HTK HLEN;generalize l[k]=f at hx2 hsz HTK;obtain ⟨z,fc,el⟩:=f;obtain ⟨c0,c1,c2⟩:=hx2;obtain ⟨hz1',hz6'⟩:=hsz;have hpa:=hp.alloc (.cells #[.int .i64 z,.bool fc,.int .i64 el] 41);have hba:=HB.out.alloc hp.rs (.cells #[.int .i64 z,.bool fc,.int .i64 el] 41);have HPA:=hid hpa;have HTA:=hid (HT.out.below (R:=w.heap.size) (HAL.out.trans (hba.mono (by omega))) h1w);have hA2:=hpa.cells.2.2.1;have HBA:=hid hba
     have hsll:sl.length≤12:=by have:=HLEN.out; omega
     have hpr:=hpa.rs;obtain ⟨A1,cp1,rfl⟩:=z0h hp.slots
     have hN12:12*k≤900:=by omega
     have hk12:k≤12:=by omega
     have h1R:1<w.heap.size+1:=by omega
     clear hx hxb hp hpa hba;go_wp2
     go_region_law (first
      | (go_simp; go_at_call 42; refine (zhy (w.heap.size+1) (w1.heap.size+1) w1.heap.size k _ v2 s sl (12*k) hN12 h1R HBD.out hk12 z fc el hz1' hz6' _ (by first | exact HTA.out | exact HTA.out.drew) (by first | exact HPA.out | exact HPA.out.drew)).mono ?_; rintro e w5 ⟨v2',rfl,hp5,hb5⟩; have d2:=hp5.cells.2.2.1; have d2a:=(fun o=>(hp5.alloc o).cells.2.2.1); have hr5:=hp5.rs; have HP5:=hid hp5; have HB5:=hid hb5; clear hp5 hb5)
      | (refine z3f rfl (.tmp 26) (.tmp 31) 35 rfl (w.heap.size+1) slotT i0 (.agg #[.int .i64 0]) 1 8 Tryz.underlying35 hi hz0 hz1 hz2 rfl (by decide) (.slice A1 sl.length cp1) sl.length _ (by simp[Act.eval]) (HP5.out.slots.alloc _) ⟨w5.heap.size,0,none⟩ 1 1 [_] (by simp[Act.eval]) rfl (cell_one_new _ _ _) (by simp[Value.oneCell']) (by unfold maxLen; omega) (by omega) (by simp; omega) ?_; intro v' w6 hown6 hgrow6; obtain ⟨A',cap',rfl⟩:=z0h hown6.out; have r6:=HP5.out.grown_row HP5.out.slots (by decide) hgrow6.out; have f6':=z03 r6 2; have c6':w6.cell? ⟨w1.heap.size+1,2,none⟩=some (.slice A1 sl.length cp1):=(by rw[cell_of_row _ _ _ _ _ _ r6]; rfl); clear r6))
     all_goals
      have hdn:=HP5.out.slot_done (a:=(z11 ⟨z,fc,el⟩ s).1) hgrow6.out hown6.out;have HPD:=hid hdn.1;have HBN:=hid (HBA.out.trans ((z67 _ _).trans (HB5.out.trans hdn.2)));clear hdn hown6 hgrow6 d2 d2a f6' c6' hA2;go_wp2
      go_roundw
      case rel=>exact ⟨k+1,by go_num,by omega,by rw[HTK.out]; exact hid ⟨_,_,HPD.out.mono (by omega)⟩,HBN⟩
      case measure=>simp[intOf]; omega
   · obtain rfl:k=l.length:=by omega
     have hkw:wr.heap[w.heap.size]? =some (.cells #[.int .i64 0,.int .i64 0,.slice none 0 0,.int .i64 0] 37 (0,0)):=(HB.out.block w.heap.size (by omega)).trans (heap_alloc_new _ _);have htl:l.take l.length=l:=List.take_of_length_le (Nat.le_refl _);rw[htl] at HP;obtain ⟨v1,v2,hp⟩:=HP.out;obtain ⟨p0,p1,p2,p3, -⟩:=hp.cells;obtain ⟨A1,cp1,rfl⟩:=z0h hp.slots;obtain ⟨g0,g1,g2,g3⟩:=z0p hkw;have fz:=z03 hkw;have hltw:=z00 hkw;have HKW:=hid hkw;have hv:=hp.slots;rw[z0a] at hv p2;have HV:=hid hv;have hll:=z0a l ps0;clear hp hkw hv htl;go_wp2;obtain ⟨wf,e,hr,hg⟩:=zi2 HKW.out (.int .i64 ((layF l ps0).2.ls.words:Int)) (.int .i64 ((layF l ps0).2.ptrs:Int)) (.slice A1 l.length cp1) (.int .i64 (layF l ps0).2.tag);rw[e];obtain ⟨r0,r1,r2,r3⟩:=z0p hr;refine bodyPost_ret (v:= .tuple #[layV l (.slice A1 l.length cp1),.bool true]) (by simp[results,Tryz.results12,go_sem,r0,r1,r2,r3,layV]) rfl (.inl ⟨HOK.out,_,rfl,?_,?_⟩)
     · exact (zan HV.out (Nat.le_succ _)).kept hg (.inr (z0o HV.out HKW.out (by decide)))
     · exact z33 (HAL.out.trans (HB.out.mono (by omega))) hg (Nat.le_refl _) (Nat.le_of_lt hltw)
def isRec (n:Nd):Bool:=decide (n.kind≠2)&&z0l n
theorem zfj (m:Nat)(n:Nd)(h:Hd)(w:World)(S:Nat→Prop)(hn:NdAt w S m n h)(ht:totN m n≤2000000) :
 Calls Tryz.prog 60 #[.agg #[.int .i64 n.kind,.string n.data,.slice h.A n.ptrs.length h.a,.int .i64 n.size,.int .i64 n.count,.slice h.B n.items.length h.b]] w fun e w'=>e= .returned (.bool (isRec n))∧Below w.heap.size w w':=by
 have hb0:=(Below.refl w.heap.size w).alloc (Nat.le_refl _) (.cells #[.int .i64 n.kind,.string n.data,.slice h.A n.ptrs.length h.a,.int .i64 n.size,.int .i64 n.count,.slice h.B n.items.length h.b] nodeT);have HC:=hid (z3n m n h _ S (hn.below hb0) ht);have HB0:=hid hb0;clear hn ht hb0
 by_cases hk:n.kind=2
 · have HX:Hid (isRec n=false):=hid (by unfold isRec; rw[decide_eq_false (by omega)]; rfl)
   have hb:(n.kind != 2)=false:=by simp[hk]
   clear hk HC;go_enter Tryz.func60,Tryz.ntmps60
   go_wp2_with fail
   go_ret;exact ⟨by rw[HX.out]; rfl,HB0.out⟩
 · have HX:Hid (isRec n=z0l n):=hid (by unfold isRec; rw[decide_eq_true hk,Bool.true_and])
   have hb:(n.kind != 2)=true:=by simp[hk]
   generalize z0l n=ok at *;clear hk;go_enter Tryz.func60,Tryz.ntmps60
   go_wp2_with fail
   refine HC.out.mono ?_;rintro e w2 ⟨rfl,hb2⟩;have HB2:=hid (HB0.out.trans (hb2.mono HB0.out.size));clear hb2;go_wp2;go_ret;exact ⟨by rw[HX.out]; rfl,HB2.out⟩
abbrev recT:TypeId:=60
def recB (l:List Fld)(n:Nd):Bool:=z14 l&&isRec n
def tagL (l:List Fld):Int:=(layF l ps0).2.tag
theorem z8d {l:List Fld}(h:z14 l=true): -1≤tagL l∧tagL l<100:=by
 have h1:=zas l l.length (Nat.le_refl _);rw[List.take_length] at h1;have h2:=z0n h;have h3:=h1.tag;unfold tagL;omega
def recV (A:Option Addr)(len c:Nat)(l:List Fld)(v1:Value)(n:Nd)(h:Hd):Value :=
 .agg #[.slice A len c,.int .i64 ((layF l ps0).2.ls.words:Int),.int .i64 ((layF l ps0).2.ptrs:Int),v1,.int .i64 (tagL l),.int .i64 n.kind,.string n.data,.slice h.A n.ptrs.length h.a,.int .i64 n.size,.int .i64 n.count,.slice h.B n.items.length h.b]
def z8b:Value:= .agg #[.slice none 0 0,.int .i64 0,.int .i64 0,.slice none 0 0,.int .i64 0,.int .i64 0,.string ⟨#[]⟩,.slice none 0 0,.int .i64 0,.int .i64 0,.slice none 0 0]
theorem zd9 (v:Value):v.ownBlock=none∨v.ownBlock≠none:=by
 cases v.ownBlock with
 | none=>exact .inl rfl
 | some x=>exact .inr (by simp)
def znx (l:List Fld)(A:Option Addr)(c:Nat)(n:Nd)(h:Hd)(w:World)(e:Ending)(w':World):Prop :=
 (recB l n=true∧∃v1,e= .returned (.tuple #[recV A l.length c l v1 n h,.bool true])∧w'.ownsRow w.heap.size slotT 1 v1 l.length (z1b (layF l ps0).1)∧Below w.heap.size w w') ∨
 (recB l n=false∧e= .returned (.tuple #[z8b,.bool false])∧Below w.heap.size w w')
theorem z36 (A:Option Addr)(c:Nat)(l:List Fld)(m:Nat)(n:Nd)(h:Hd)(w:World)(S:Nat→Prop)(ht:Tab w)(h1w:1<w.heap.size)(hl:Flds w A l)(hll:l.length≤10000000)(hn:NdAt w S m n h)(htn:totN m n≤2000000) :
 Calls Tryz.prog 26 #[.slice A l.length c,.agg #[.int .i64 n.kind,.string n.data,.slice h.A n.ptrs.length h.a,.int .i64 n.size,.int .i64 n.count,.slice h.B n.items.length h.b]] w (znx l A c n h w):=by
 have hax:(w.alloc (.cells #[.int .i64 n.kind,.string n.data,.slice h.A n.ptrs.length h.a,.int .i64 n.size,.int .i64 n.count,.slice h.B n.items.length h.b] nodeT)).heap.size=w.heap.size+1:=by simp
 have hbx:Below w.heap.size w ((w.alloc (.cells #[.int .i64 n.kind,.string n.data,.slice h.A n.ptrs.length h.a,.int .i64 n.size,.int .i64 n.count,.slice h.B n.items.length h.b] nodeT)).alloc (.cells #[.slice none 0 0,.int .i64 0,.int .i64 0,.slice none 0 0,.int .i64 0,.int .i64 0,.string { data:= #[] },.slice none 0 0,.int .i64 0,.int .i64 0,.slice none 0 0] recT)):=((Below.refl _ _).alloc (Nat.le_refl _) _).alloc (by simp) _;have hg0:((w.alloc (.cells #[.int .i64 n.kind,.string n.data,.slice h.A n.ptrs.length h.a,.int .i64 n.size,.int .i64 n.count,.slice h.B n.items.length h.b] nodeT)).alloc (.cells #[.slice none 0 0,.int .i64 0,.int .i64 0,.slice none 0 0,.int .i64 0,.int .i64 0,.string { data:= #[] },.slice none 0 0,.int .i64 0,.int .i64 0,.slice none 0 0] recT)).heap[w.heap.size]? =some (.cells #[.int .i64 n.kind,.string n.data,.slice h.A n.ptrs.length h.a,.int .i64 n.size,.int .i64 n.count,.slice h.B n.items.length h.b] nodeT (0,0)):=z02 (heap_alloc_new w _) _;have hg1:((w.alloc (.cells #[.int .i64 n.kind,.string n.data,.slice h.A n.ptrs.length h.a,.int .i64 n.size,.int .i64 n.count,.slice h.B n.items.length h.b] nodeT)).alloc (.cells #[.slice none 0 0,.int .i64 0,.int .i64 0,.slice none 0 0,.int .i64 0,.int .i64 0,.string { data:= #[] },.slice none 0 0,.int .i64 0,.int .i64 0,.slice none 0 0] recT)).heap[w.heap.size+1]? =some (.cells #[.slice none 0 0,.int .i64 0,.int .i64 0,.slice none 0 0,.int .i64 0,.int .i64 0,.string { data:= #[] },.slice none 0 0,.int .i64 0,.int .i64 0,.slice none 0 0] recT (0,0)):=hax ▸ heap_alloc_new _ _
 have HB0:=hid hbx;have HG0:=hid hg0;have HG1:=hid hg1;have HT:=hid ht;have HL:=hid hl;have HN:=hid hn;have HTN:=hid htn;clear hbx hg0 hg1 ht hl hn htn hax;go_enter Tryz.func26,Tryz.ntmps26
 go_wp2_with fail
 generalize ((w.alloc (.cells #[.int .i64 n.kind,.string n.data,.slice h.A n.ptrs.length h.a,.int .i64 n.size,.int .i64 n.count,.slice h.B n.items.length h.b] nodeT)).alloc (.cells #[.slice none 0 0,.int .i64 0,.int .i64 0,.slice none 0 0,.int .i64 0,.int .i64 0,.string { data:= #[] },.slice none 0 0,.int .i64 0,.int .i64 0,.slice none 0 0] recT))=W at *;have hsW:=HB0.out.size;refine (z4c A c l W (HT.out.below HB0.out h1w) (by omega) (HL.out.below HB0.out) hll).mono ?_
 intro e w1 hLay
 rcases hLay with ⟨hok,v1,rfl,hown,hb1⟩ | ⟨hok,rfl,hb1⟩
 · obtain ⟨A1,cp1,rfl⟩:=z0h hown
   unfold layV;have HX0:=hid (heap_alloc_new w1 (.cells #[.int .i64 ((layF l ps0).2.ls.words:Int),.int .i64 ((layF l ps0).2.ptrs:Int),(.slice A1 l.length cp1),.int .i64 (layF l ps0).2.tag] 37));have hb2:=(Below.refl w1.heap.size w1).alloc (Nat.le_refl _) (.cells #[.int .i64 ((layF l ps0).2.ls.words:Int),.int .i64 ((layF l ps0).2.ptrs:Int),(.slice A1 l.length cp1),.int .i64 (layF l ps0).2.tag] 37);have hs1:=hb1.size;have HL0:=hid (z00 HG0.out);have HL1:=hid (z00 HG1.out);have hr0:=(hb2.block _ (by have:=HL0.out; omega)).trans ((hb1.block _ HL0.out).trans HG0.out);have hr1:=(hb2.block _ (by have:=HL1.out; omega)).trans ((hb1.block _ HL1.out).trans HG1.out);have HR0:=hid hr0;have HR1:=hid hr1;have HB2:=hid ((HB0.out.trans (hb1.mono hsW)).trans (hb2.mono (by omega)));have HOWN:=hid ((zan hown hsW).alloc (.cells #[.int .i64 ((layF l ps0).2.ls.words:Int),.int .i64 ((layF l ps0).2.ptrs:Int),(.slice A1 l.length cp1),.int .i64 (layF l ps0).2.tag] 37));obtain ⟨a0,a1,a2,a3,a4,a5⟩:=z04 hr0;have HOK:=hid hok;have HTG:Hid (tagL l=(layF l ps0).2.tag):=hid rfl;clear hb1 hb2 hown hr0 hr1 hok
   go_wp2_with fail
   clear a0 a1 a2 a3 a4 a5;generalize w1.alloc (.cells #[.int .i64 ((layF l ps0).2.ls.words:Int),.int .i64 ((layF l ps0).2.ptrs:Int),(.slice A1 l.length cp1),.int .i64 (layF l ps0).2.tag] 37)=W5 at *;have HC:=hid (zfj m n h W5 S (HN.out.below HB2.out) HTN.out);have hs5:=HB2.out.size;cases hrec:isRec n
   · have HRF:Hid (recB l n=false):=hid (by unfold recB; rw[hrec,Bool.and_false])
     rw[hrec] at HC;clear hrec;refine HC.out.mono ?_;rintro e w6 ⟨rfl,hb6⟩;have HB6:=hid (HB2.out.trans (hb6.mono hs5));have hr:=(hb6.block _ (z00 HR1.out)).trans HR1.out;have HR:=hid hr;obtain ⟨z0,z1,z2,z3,z4,z5,z6,z7,z8,z9,z10⟩:=z08 hr;have zf:=z03 hr;clear hb6 hr
     go_wp2_with fail
     obtain ⟨wf,hwf,hrw,hbf, -, -⟩:=fin11 (R:=w.heap.size) (.slice none 0 0) (.int .i64 0) (.int .i64 0) (.slice none 0 0) (.int .i64 0) (.int .i64 0) (.string ⟨#[]⟩) (.slice none 0 0) (.int .i64 0) (.int .i64 0) (.slice none 0 0) HR.out HB6.out (by omega);rw[hwf];obtain ⟨e0,e1,e2,e3,e4,e5,e6,e7,e8,e9,e10⟩:=z08 hrw;exact bodyPost_ret (v:= .tuple #[z8b,.bool false]) (by simp[results,Tryz.results26,go_sem,z8b,e0,e1,e2,e3,e4,e5,e6,e7,e8,e9,e10]) rfl (.inr ⟨HRF.out,rfl,hbf⟩)
   · have HRF:Hid (recB l n=true):=hid (by unfold recB; rw[hrec,HOK.out]; rfl)
     rw[hrec] at HC;clear hrec;refine HC.out.mono ?_;rintro e w6 ⟨rfl,hb6⟩;have HB6:=hid (HB2.out.trans (hb6.mono hs5));have hr:=(hb6.block _ (z00 HR1.out)).trans HR1.out;have hr0:=(hb6.block _ (z00 HR0.out)).trans HR0.out;have hx0:=(hb6.block _ (z00 HX0.out)).trans HX0.out;have HR:=hid hr;have HOWN6:=hid (HOWN.out.kept (row:=none) ⟨hb6.os,hb6.tape,hb6.output,hb6.size,fun k hk _=>hb6.block k hk⟩ (zd9 _));obtain ⟨z0,z1,z2,z3,z4,z5,z6,z7,z8,z9,z10⟩:=z08 hr;obtain ⟨a0,a1,a2,a3,a4,a5⟩:=z04 hr0;obtain ⟨y0,y1,y2,y3⟩:=z0p hx0;have zf:=z03 hr;clear hb6 hr hr0 hx0
     go_wp2_with fail
     obtain ⟨wf,hwf,hrw,hbf, -,hgf⟩:=fin11 (R:=w.heap.size) (.slice A l.length c) (.int .i64 ((layF l ps0).2.ls.words:Int)) (.int .i64 ((layF l ps0).2.ptrs:Int)) (.slice A1 l.length cp1) (.int .i64 (layF l ps0).2.tag) (.int .i64 n.kind) (.string n.data) (.slice h.A n.ptrs.length h.a) (.int .i64 n.size) (.int .i64 n.count) (.slice h.B n.items.length h.b) HR.out HB6.out (by omega);rw[hwf];obtain ⟨e0,e1,e2,e3,e4,e5,e6,e7,e8,e9,e10⟩:=z08 hrw;exact bodyPost_ret (v:= .tuple #[recV A l.length c l (.slice A1 l.length cp1) n h,.bool true]) (by simp[results,Tryz.results26,go_sem,recV,HTG.out,e0,e1,e2,e3,e4,e5,e6,e7,e8,e9,e10]) rfl (.inl ⟨HRF.out,_,rfl,HOWN6.out.kept hgf (.inr (z0o HOWN6.out HR.out (by decide))),hbf⟩)
 · have HOK:=hid hok
   have HRF:Hid (recB l n=false):=hid (by unfold recB; rw[hok,Bool.false_and]);have HX0:=hid (heap_alloc_new w1 (.cells #[.int .i64 0,.int .i64 0,.slice none 0 0,.int .i64 0] 37));have hb2:=(Below.refl w1.heap.size w1).alloc (Nat.le_refl _) (.cells #[.int .i64 0,.int .i64 0,.slice none 0 0,.int .i64 0] 37);have HL1:=hid (z00 HG1.out);have hs1:=hb1.size;have hr:=(hb2.block _ (by have:=HL1.out; omega)).trans ((hb1.block _ HL1.out).trans HG1.out);have HR:=hid hr;have HB6:=hid ((HB0.out.trans (hb1.mono hsW)).trans (hb2.mono (by omega)));obtain ⟨z0,z1,z2,z3,z4,z5,z6,z7,z8,z9,z10⟩:=z08 hr;have zf:=z03 hr;clear hb1 hb2 hok hr
   go_wp2_with fail
   obtain ⟨wf,hwf,hrw,hbf, -, -⟩:=fin11 (R:=w.heap.size) (.slice none 0 0) (.int .i64 0) (.int .i64 0) (.slice none 0 0) (.int .i64 0) (.int .i64 0) (.string ⟨#[]⟩) (.slice none 0 0) (.int .i64 0) (.int .i64 0) (.slice none 0 0) HR.out HB6.out (by omega);rw[hwf];obtain ⟨e0,e1,e2,e3,e4,e5,e6,e7,e8,e9,e10⟩:=z08 hrw;exact bodyPost_ret (v:= .tuple #[z8b,.bool false]) (by simp[results,Tryz.results26,go_sem,z8b,e0,e1,e2,e3,e4,e5,e6,e7,e8,e9,e10]) rfl (.inr ⟨HRF.out,rfl,hbf⟩)
def RecAt (w:World)(g:Nat)(A:Option Addr)(len c:Nat)(l:List Fld)(v1:Value)(n:Nd)(h:Hd):Prop :=
 w.heap[g]? =some (.cells #[.slice A len c,.int .i64 ((layF l ps0).2.ls.words:Int),.int .i64 ((layF l ps0).2.ptrs:Int),v1,.int .i64 (tagL l),.int .i64 n.kind,.string n.data,.slice h.A n.ptrs.length h.a,.int .i64 n.size,.int .i64 n.count,.slice h.B n.items.length h.b] recT (0,0))
theorem RecAt.below {w w':World}{g:Nat}{A:Option Addr}{len c:Nat}{l:List Fld}{v1:Value}{n:Nd}{h:Hd}(hr:RecAt w g A len c l v1 n h)(hb:Below w.heap.size w w'):RecAt w' g A len c l v1 n h:=(hb.block _ (z00 hr)).trans hr
theorem zgc (b:Nat)(W:World):(Instr.field 105 (.agg #[.func (.func 127) #[] #[.pointer (some ⟨b,0,none⟩)],.func (.func 129) #[] #[.pointer (some ⟨b,0,none⟩)]]) 0).run Tryz.prog W= .ok (.func (.func 127) #[] #[.pointer (some ⟨b,0,none⟩)]) W:=by kernel_rfl
theorem zim (z k s c:Int)(d:ByteArray)(p i:Value)(W:World):(Instr.field 30 (.agg #[.int .i64 z,.int .i64 k,.string d,p,.int .i64 s,.int .i64 c,i]) 0).run Tryz.prog W= .ok (.int .i64 z) W:=by kernel_rfl
theorem zhe (g:Nat)(A:Option Addr)(len c:Nat)(l:List Fld)(v1:Value)(n:Nd)(h:Hd)(w:World)(hr:RecAt w g A len c l v1 n h)(hd:n.data.size≤maxLen)(h0:0≤tagL l)(h1:tagL l≤10000) :
 Calls Tryz.prog 29 #[.pointer (some ⟨g,0,none⟩)] w fun e w'=>e= .returned (.int .i64 (getI n.data.data.toList (tagL l*2) 2))∧Below w.heap.size w w':=by
 have HR:=hid hr;have hfk:=zgc;have hfn:=zim
 have hdr:Below w.heap.size w w.drew:=⟨rfl,rfl,rfl,Nat.le_refl _,fun _ _=>rfl⟩
 obtain ⟨c0,c1,c2,c3,c4,c5,c6,c7,c8,c9,c10⟩:=z08 hr;obtain ⟨d0,d1,d2,d3,d4,d5,d6,d7,d8,d9,d10⟩:=z08 (hr.below hdr);clear hr;go_enter Tryz.func29,Tryz.ntmps29;go_wp2
 go_region_with (first | (go_at_call 61; refine (z9m _).mono ?_; rintro e w2 ⟨f,gg,rfl,hb2,hk2⟩; obtain ⟨b,rfl,rfl, -,hbx⟩:NumK 2 w.drew w2 f gg:=(by rcases hk2 with ⟨h,_⟩ | ⟨h,_⟩ | ⟨h,_⟩ | ⟨_,h⟩ | ⟨h,_⟩ | ⟨h,_⟩ <;> first | exact h | (exact absurd h (by decide))); have HBX:=hid hbx; obtain ⟨f0,f1,f2,f3,f4,f5,f6,f7,f8,f9,f10⟩:=z08 ((HR.out.below hdr).below hb2); unfold nK1 nK2) | (go_at_call 127; refine (ze5 n h (tagL l) 2 b _ hd HBX.out h0 h1 (by decide) (by decide)).mono ?_; rintro e w3 ⟨rfl,hb3⟩; unfold numV))
 all_goals
  have HBE:=hid (hdr.trans (hb2.trans (hb3.mono hb2.size)));clear hb2 hb3;go_wp2;go_ret;exact ⟨rfl,HBE.out⟩
theorem zb7 (s:ByteArray)(at_ size:Int)(w:World)(hs:s.size≤maxLen)(h0:0≤at_)(ha:at_≤1152921504606846976)(h1:0≤size)(h2:size≤8) :
 Calls Tryz.prog 65 #[.string s,.int .i64 at_,.int .i64 size] w fun e w'=>e= .returned (.int .i64 (wrap64 (leN s.data.toList at_.toNat size.toNat:Nat)))∧w=w':=by
 unfold maxLen at hs;obtain ⟨a,rfl⟩:=Int.eq_ofNat_of_zero_le h0;obtain ⟨z,rfl⟩:=Int.eq_ofNat_of_zero_le h1;go_enter Tryz.func65,Tryz.ntmps65;go_wp2
 go_loop [7,8,9] (fun n i _=>∃k:Nat,k≤z∧i= .int .i64 ((z:Int)-1-k)∧n= .int .i64 (wrap64 (leN s.data.toList (a+z-k) k:Nat))) (fun _ i _=>(intOf i+1).toNat)
 case atStart=>exact ⟨0,by omega,by simp,by simp[leN,wrap64]⟩
 case round =>
  obtain ⟨k,hk,rfl,rfl⟩:=hrel
  by_cases hlt:k<z
  · by_cases hin:a+z-1-k<s.size
    · go_wp2
      go_round
      case rel=>exact ⟨k+1,by omega,by go_num,by rw[zhd s a z k hlt (by omega) (by omega)]⟩
      case measure=>simp[intOf]; omega
    · go_wp2
      go_round
      case rel=>exact ⟨k+1,by omega,by go_num,by rw[zau s a z k hlt (by omega) hin]⟩
      case measure=>simp[intOf]; omega
  · go_wp2
    go_ret;refine ⟨z15 ?_,rfl⟩
    obtain rfl:k=z:=by omega
    simp
end Go.Proofs.YtblcibgphccfkaaGreatDoor
