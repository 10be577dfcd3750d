/- Texts of the proof of the law FnRecordCanon, side by side: part 31. -/
import Derived.Laws.MakeOwn
import Derived.Test.YtblcibgphccfkaaGreatDoorMRecordCanon30
set_option maxHeartbeats 8000000
set_option maxRecDepth 100000
open Go.Lib (hid)
namespace Go.Proofs.YtblcibgphccfkaaGreatDoor
open Go.RowKit
theorem z7u {R:Nat}{w w':World}(h:Keeps w.heap.size R w w'):w.grownBy w' (some R):=⟨h.os,h.tape,h.output,h.size,fun k hk hne=>h.block k hk (fun e=>hne (by rw[e]))⟩
theorem z1j {w w':World}{R n base m z:Nat}{e:TypeId}{v:Value}{xs:List Value}(h:w.ownsRow base e z v m xs)(hp:z0e w R n w')(hR:R<base):w'.ownsRow base e z v m xs:=by
 refine h.kept (z7u hp.2) ?_
 by_cases hv:v.ownBlock=none
 · exact .inl hv
 · refine .inr (fun e=>?_)
   have:=(h.lt R (by rw[e])).1;omega
theorem z2g {w w1 w2:World}{R n base m z:Nat}{e:TypeId}{v:Value}{xs:List Value}{o:Obj}(hp:z0e w R n w1)(hR:R<base)(hb:base≤w1.heap.size)(hwb:w.heap.size≤base)(hown:w1.ownsRow base e z v m xs)(hg:(w1.alloc o).grownBy w2 v.ownBlock):z0e w R n w2:=by
 have hbel:Below base w1 w2:=((Below.refl base w1).alloc hb o).grown hg (by simp <;> omega) (fun k hk=>(hown.lt k hk).1);obtain ⟨⟨a,l,c,p,hpn,hr,hc⟩,hk⟩:=hp;refine ⟨⟨a,l,c,p,hpn,(hbel.block R hR).trans hr,hc.keeps (R:=base) (Keeps.of_below hbel) (Nat.le_of_lt hR) (Nat.le_of_lt hR)⟩,?_⟩;exact ⟨hbel.os.trans hk.os,hbel.tape.trans hk.tape,hbel.output.trans hk.output,Nat.le_trans hk.size hbel.size,fun k hk1 hk2=>(hbel.block k (Nat.lt_of_lt_of_le hk1 hwb)).trans (hk.block k hk1 hk2)⟩
theorem za6 {w w1 w2:World}{R n:Nat}(hp:z0e w R n w1)(hR:R<w.heap.size)(hbel:Below w.heap.size w1 w2):z0e w R n w2:=by
 obtain ⟨⟨a,l,c,p,hpn,hr,hc⟩,hk⟩:=hp;refine ⟨⟨a,l,c,p,hpn,(hbel.block R hR).trans hr,hc.keeps (R:=w.heap.size) (Keeps.of_below hbel) (Nat.le_of_lt hR) (Nat.le_of_lt hR)⟩,?_⟩;exact ⟨hbel.os.trans hk.os,hbel.tape.trans hk.tape,hbel.output.trans hk.output,Nat.le_trans hk.size hbel.size,fun k hk1 hk2=>(hbel.block k hk1).trans (hk.block k hk1 hk2)⟩
theorem zke {w:World}{base m z g i B:Nat}{e:TypeId}{v u:Value}{xs:List Value}(h:w.ownsRow base e z v m xs)(hB:∀k,v.ownBlock=some k→k<B)(hg:B≤g):(w.setCell ⟨g,i,none⟩ u).ownsRow base e z v m xs:=by
 refine h.kept (row:=some g) ⟨rfl,rfl,rfl,by simp[World.setCell],fun k _ hk=>Below.heap_setCell w ⟨g,i,none⟩ u k (fun e=>hk (by rw[e]))⟩ ?_;exact .inr (fun e=>by have:=hB g e; omega)
def zlz:Value→Nat
 | .slice _ n _=>n
 | _=>0
def SomeS (v:Value):Prop:=∃(g:Nat) (n c:Nat),v= .slice (some ⟨g,0,none⟩) n c
theorem z4g {w:World}{B e n z:Nat}{v:Value}{xs:List Value}(h:w.ownsRow B e z v n xs)(hn:0<n):SomeS v:=by
 rcases h.2 with ⟨_,rfl⟩ | ⟨g,cap',cur,rfl,_⟩
 · exact absurd hn (Nat.lt_irrefl _)
 · exact ⟨g,_,_,rfl⟩
def ElsB (l:List Fld):Prop:=∀f∈l,0≤f.els∧f.els≤2
theorem ElsB.snoc {l:List Fld}(h:ElsB l){z:Int}{c:Bool}{e:Int}(he:0≤e∧e≤2):ElsB (l++ [Fld.mk z c e]):=fun f hf=>by
 rcases List.mem_append.1 hf with hf | hf
 · exact h f hf
 · obtain rfl:=List.mem_singleton.1 hf
   exact he
def FldS (b R n:Nat)(w:World)(e:Ending)(w':World):Prop:=∃(v:Value) (l:List Fld),e= .returned v∧l.length≤b∧w'.ownsRow w.heap.size z1q 3 v l.length (z1p l)∧z0e w R n w'∧SomeS v∧ElsB l
theorem zct (R n:Nat)(w:World)(h:Rd w R n)(hn:n≤800000) :
 Calls Tryz.prog 58 #[.pointer (some ⟨R,0,none⟩)] w (FldS 9 R (n+60) w):=by
 have hRw:=h.lt;obtain ⟨i0,hi,hz0,hz1,hz2⟩:=info_parts zgk;have hq0:=h.self.below ((Below.refl w.heap.size w).alloc (Nat.le_refl _) (.cells #[] z1q));have hown0:(w.alloc (.cells #[] z1q)).ownsRow w.heap.size z1q 3 (.slice (some ⟨w.heap.size,0,none⟩) 0 0) 0 []:=World.ownsRow_lit w #[] 0 (Nat.le_refl _) (by decide) rfl;have HQ0:=hid hq0;have HO0:=hid hown0;clear h hq0 hown0;go_enter Tryz.func58,Tryz.ntmps58
 go_wp2_with fail
 refine (z0q R n _ _ HQ0.out.1 (by omega)).mono ?_;rintro e w1 ⟨q,⟨hq0,hq9⟩,rfl,hp1⟩;obtain ⟨q,rfl⟩:=Int.eq_ofNat_of_zero_le hq0
 have hq9':q≤9:=by omega
 clear hq9;have HO1:=hid (z1j HO0.out hp1 hRw);have HQ1:=hid (HQ0.out.then hp1);clear hp1;go_wp2
 go_loopw [3,4] (fun v i wr=>∃(m:Nat) (l:List Fld),i= .int .i64 m∧l.length+m=q∧Hid (wr.ownsRow w.heap.size z1q 3 v l.length (z1p l))∧Hid (z0e w R (n+1+4*l.length) wr)∧Hid (SomeS v∧ElsB l)) (fun _ i _=>(intOf i).toNat)
 case atStart=>exact ⟨q,[],rfl,by simp,by exact HO1,by exact HQ1,hid ⟨⟨_,_,_,rfl⟩,fun f h=>(by cases h)⟩⟩
 case round =>
  obtain ⟨m,l,rfl,hlm,HO,HP,HSM⟩:=hrel;have HLM:=hid hlm
  have hl9:l.length≤9:=by omega
  have hm9:m≤9:=by omega
  clear hlm
  by_cases h0:m=0
  · subst h0
    go_wp2;go_ret;exact ⟨_,l,rfl,hl9,HO.out,HP.out.mono (by omega),HSM.out.1,HSM.out.2⟩
  · have h1:1≤m:=by omega
    obtain ⟨A1,cp1,rfl⟩:=z34 HO.out;clear h0
    go_wp2_with fail
    refine (z0q R (n+1+4*l.length) _ _ HP.out.1 (by omega)).mono ?_;rintro e w2 ⟨v2,⟨hv20,hv21⟩,rfl,hp2⟩
    have hv25:v2≤5:=by omega
    clear hv21;have HO2:=hid (z1j HO.out hp2 hRw);have HP2:=hid (HP.out.then hp2);clear hp2
    go_wp2_with fail
    refine (z0q R (n+1+4*l.length+1) _ _ HP2.out.1 (by omega)).mono ?_;rintro e w3 ⟨v3,⟨hv30,hv31⟩,rfl,hp3⟩;have HO3:=hid (z1j HO2.out hp3 hRw);have HP3:=hid (HP2.out.then hp3);clear hp3
    have hv33:v3≤2:=by omega
    clear hv31
    obtain ⟨b3,hb3⟩:∃b,(v3==0)=b:=⟨_,rfl⟩
    have hb3i:decide (v3=0)=b3:=by rw[← hb3]; rfl
    have hq3:=HP3.out.below ((Below.refl w3.heap.size w3).alloc (Nat.le_refl _) (.cells #[.int .i64 (1+v2),.bool b3,.int .i64 0] z1q));have HO4:=hid (HO3.out.alloc (.cells #[.int .i64 (1+v2),.bool b3,.int .i64 0] z1q));have HP4:=hid hq3;have hs3:=HP3.out.2.size;have hRl:=HP3.out.1.lt;have hs4:=HP4.out.2.size;have HLT:=hid (fun k hk=>(HO3.out.lt k hk).2);clear hq3
    by_cases h5:v2=5
    · subst h5
      go_wp2_with (at_builtin; go_must (refine wpList_append_own _ rfl (.tmp 31) (.tmp 33) 23 rfl w.heap.size z1q i0 (.agg #[.int .i64 0,.bool false,.int .i64 0]) 3 24 Tryz.underlying23 hi hz0 hz1 hz2 rfl (by decide) _ l.length _ rfl (HO4.out.alloc _) ⟨w3.heap.size+1,0,none⟩ 1 1 [.int .i64 6,.bool b3,.int .i64 0] rfl rfl (z2b _ _ (by simp[World.setCell]) _ _ _ _) (by simp[Value.oneCell']) (by unfold maxLen; omega) (by omega) (by simp[World.setCell]; omega) ?_); intro v' wn hown' hgrow _)
      have hpn:=z2g HP4.out hRw HP4.out.2.size (Nat.le_refl _) HO4.out hgrow;have HPN:=hid hpn;have HON:=hid (z8a hown');clear hpn hgrow hown';go_wp2
      go_roundw
      case rel=>exact ⟨m-1,l++ [Fld.mk 6 b3 0],by go_num,by have:=HLM.out; simp; omega,HON,HPN.out.mono (by simp <;> omega),hid ⟨z4g HON.out (by simp),HSM.out.2.snoc (by first | decide | exact HV6.out)⟩⟩
      case measure=>simp[intOf]; omega
    · have hz6:((1+v2:Int) != 6)=true:=by simp; omega
      have hz6':((1+v2:Int)==6)=false:=by simp; omega
      clear h5
      go_wp2_with fail
      refine (z0q R (n+1+4*l.length+1+1) _ _ HP4.out.1 (by omega)).mono ?_;rintro e w5 ⟨v5,⟨hv50,hv51⟩,rfl,hp5⟩;have HO5:=hid (z1j HO4.out hp5 hRw);have HP5:=hid (HP4.out.then hp5);have hs5:=HP5.out.2.size
      have hw5:w3.heap.size<w5.heap.size:=by have:=hp5.2.size; simp at this; omega
      have HR5:=hid ((hp5.2.block w3.heap.size (by simp) (by omega)).trans (heap_alloc_new w3 (.cells #[.int .i64 (1+v2),.bool b3,.int .i64 0] z1q)));clear hp5 hv51
      by_cases h50:v5=0
      · subst h50
        go_wp2_with fail
        refine (z0q R (n+1+4*l.length+1+1+1) _ _ HP5.out.1 (by omega)).mono ?_;rintro e w6 ⟨v6,⟨hv60,hv61⟩,rfl,hp6⟩;have HO6:=hid (z1j HO5.out hp6 hRw);have HP6:=hid (HP5.out.then hp6);have hr6:=(hp6.2.block w3.heap.size hw5 (by omega)).trans HR5.out
        have q0:w6.cell? ⟨w3.heap.size,0,none⟩=some (.int .i64 (1+v2)):=by rw[cell_of_row _ _ _ _ _ _ hr6]; rfl
        have q1:w6.cell? ⟨w3.heap.size,1,none⟩=some (.bool b3):=by rw[cell_of_row _ _ _ _ _ _ hr6]; rfl
        have q2:w6.cell? ⟨w3.heap.size,2,none⟩=some (.int .i64 0):=by rw[cell_of_row _ _ _ _ _ _ hr6]; rfl
        have qf:=z03 hr6 2;have hs6:=HP6.out.2.size;have HO7:=hid (zke (i:=2) (u:= .int .i64 v6) HO6.out HLT.out (Nat.le_refl _));have HP7:=hid (za6 HP6.out hRw ((Below.refl w.heap.size w6).setCell (p:=⟨w3.heap.size,2,none⟩) hs3 (.int .i64 v6)));have HV6:Hid (0≤v6∧v6≤2):=hid (by omega);clear hp6 hv61 hr6
        go_wp2_with (at_builtin; go_must (refine wpList_append_own _ rfl (.tmp 31) (.tmp 33) 23 rfl w.heap.size z1q i0 (.agg #[.int .i64 0,.bool false,.int .i64 0]) 3 24 Tryz.underlying23 hi hz0 hz1 hz2 rfl (by decide) _ l.length _ rfl (HO7.out.alloc _) ⟨w6.heap.size,0,none⟩ 1 1 [.int .i64 (1+v2),.bool b3,.int .i64 v6] rfl rfl (z2b _ _ (by simp[World.setCell]) _ _ _ _) (by simp[Value.oneCell']) (by unfold maxLen; omega) (by omega) (by simp[World.setCell]; omega) ?_); intro v' wn hown' hgrow _)
        have hpn:=z2g HP7.out hRw HP7.out.2.size (Nat.le_refl _) HO7.out hgrow;have HPN:=hid hpn;have HON:=hid (z8a hown');clear hpn hgrow hown';go_wp2
        go_roundw
        case rel=>exact ⟨m-1,l++ [Fld.mk (1+v2) b3 v6],by go_num,by have:=HLM.out; simp; omega,HON,HPN.out.mono (by simp <;> omega),hid ⟨z4g HON.out (by simp),HSM.out.2.snoc (by first | decide | exact HV6.out)⟩⟩
        case measure=>simp[intOf]; omega
      · have h50':(v5==0)=false:=by simpa using h50
        have q0:w5.cell? ⟨w3.heap.size,0,none⟩=some (.int .i64 (1+v2)):=by rw[cell_of_row _ _ _ _ _ _ HR5.out]; rfl
        have q1:w5.cell? ⟨w3.heap.size,1,none⟩=some (.bool b3):=by rw[cell_of_row _ _ _ _ _ _ HR5.out]; rfl
        have q2:w5.cell? ⟨w3.heap.size,2,none⟩=some (.int .i64 0):=by rw[cell_of_row _ _ _ _ _ _ HR5.out]; rfl
        clear h50
        go_wp2_with (at_builtin; go_must (refine wpList_append_own _ rfl (.tmp 31) (.tmp 33) 23 rfl w.heap.size z1q i0 (.agg #[.int .i64 0,.bool false,.int .i64 0]) 3 24 Tryz.underlying23 hi hz0 hz1 hz2 rfl (by decide) _ l.length _ rfl (HO5.out.alloc _) ⟨w5.heap.size,0,none⟩ 1 1 [.int .i64 (1+v2),.bool b3,.int .i64 0] rfl rfl (z2b _ _ (by simp[World.setCell]) _ _ _ _) (by simp[Value.oneCell']) (by unfold maxLen; omega) (by omega) (by simp[World.setCell]; omega) ?_); intro v' wn hown' hgrow _)
        have hpn:=z2g HP5.out hRw HP5.out.2.size (Nat.le_refl _) HO5.out hgrow;have HPN:=hid hpn;have HON:=hid (z8a hown');clear hpn hgrow hown';go_wp2
        go_roundw
        case rel=>exact ⟨m-1,l++ [Fld.mk (1+v2) b3 0],by go_num,by have:=HLM.out; simp; omega,HON,HPN.out.mono (by simp <;> omega),hid ⟨z4g HON.out (by simp),HSM.out.2.snoc (by first | decide | exact HV6.out)⟩⟩
        case measure=>simp[intOf]; omega
theorem z97 (R n:Nat)(w:World)(h:Rd w R n)(hn:n≤700000) :
 Calls Tryz.prog 23 #[.pointer (some ⟨R,0,none⟩)] w (FldS 13 R (n+100) w):=by
 have hRw:=h.lt;obtain ⟨i0,hi,hz0,hz1,hz2⟩:=info_parts zgk;go_enter Tryz.func23,Tryz.ntmps23
 go_wp2_with fail
 refine (zct R n _ h (by omega)).mono ?_;rintro e w1 ⟨v,l,rfl,hl,hown,hp1,hsm1,hsm2⟩;obtain ⟨A1,cp1,rfl⟩:=z34 hown;have HSM:=hid (And.intro hsm1 hsm2);clear hsm1 hsm2;have HO1:=hid hown;have HP1:=hid hp1;clear hown hp1
 go_wp2_with fail
 refine (z0q R (n+60) _ _ HP1.out.1 (by omega)).mono ?_;rintro e w2 ⟨q,⟨hq0,hq1⟩,rfl,hp2⟩;have HO2:=hid (z1j HO1.out hp2 hRw);have HP2:=hid (HP1.out.then hp2);have hs2:=HP2.out.2.size;have hRl2:=HP2.out.1.lt;clear hp2 hq1
 by_cases q0:q=0
 · subst q0
   go_wp2_with fail
   refine (z6l R (n+61) w2.heap.size 3 3 (fun _=>True) _ _ (by exact HP2.out.1.below ((Below.refl _ _).alloc (Nat.le_refl _) _)) (by omega) (by exact Lits.new _ _ _ _) (by
    intro v hv
    simp at hv
    rcases hv with rfl | rfl | rfl
    all_goals exact ⟨_,rfl,trivial⟩) (by omega) (by simp) (by omega) (by omega)).mono ?_
   rintro e w3 ⟨z1, -,rfl,hp3⟩;have HO3:=hid (z1j (HO2.out.alloc _) hp3 hRw);have HP3:=hid ((HP2.out.below ((Below.refl _ _).alloc (Nat.le_refl _) _)).then hp3);have hs3:=HP3.out.2.size;have hRl3:=HP3.out.1.lt;clear hp3
   go_wp2_with fail
   refine (z6l R (n+62) w3.heap.size 2 2 (fun z=>0≤z∧z≤2) _ _ (by exact HP3.out.1.below ((Below.refl _ _).alloc (Nat.le_refl _) _)) (by omega) (by exact Lits.new _ _ _ _) (by
    intro v hv
    simp at hv
    rcases hv with rfl | rfl
    all_goals exact ⟨_,rfl,by decide⟩) (by omega) (by simp) (by omega) (by omega)).mono ?_
   rintro e w4 ⟨z2,hz2b,rfl,hp4⟩;have HZ2:=hid hz2b;clear hz2b;have HO4:=hid (z1j (HO3.out.alloc _) hp4 hRw);have HP4:=hid ((HP3.out.below ((Below.refl _ _).alloc (Nat.le_refl _) _)).then hp4);have hs4:=HP4.out.2.size;clear hp4
   go_wp2_with (at_builtin; go_must (refine wpList_append_own _ rfl (.tmp 10) (.tmp 18) 23 rfl w.heap.size z1q i0 (.agg #[.int .i64 0,.bool false,.int .i64 0]) 3 24 Tryz.underlying23 hi hz0 hz1 hz2 rfl (by decide) _ l.length _ rfl (HO4.out.alloc _) ⟨w4.heap.size,0,none⟩ 1 1 [.int .i64 z1,.bool false,.int .i64 z2] rfl rfl (z2b _ _ rfl _ _ _ _) (by simp[Value.oneCell']) (by unfold maxLen; omega) (by omega) (by simp; omega) ?_); intro v' wn hown' hgrow _)
   have hpn:=z2g HP4.out hRw hs4 (Nat.le_refl _) HO4.out hgrow;go_wp2;go_ret;exact ⟨v',l++ [Fld.mk z1 false z2],rfl,by simp; omega,z8a hown',hpn.mono (by omega),z4g hown' (by omega),HSM.out.2.snoc HZ2.out⟩
 have b0:(q==0)=false:=by simpa using q0
 by_cases q1:q=1
 · subst q1
   go_wp2_with fail
   go_loopw [3] (fun v wr=>∃(l:List Fld),l.length≤13∧Hid (wr.ownsRow w.heap.size z1q 3 v l.length (z1p l))∧Hid (z0e w R (n+61+2*l.length) wr)∧Hid (SomeS v∧ElsB l)) (fun v _=>14-zlz v)
   case atStart=>exact ⟨l,by omega,HO2,hid (HP2.out.mono (by omega)),HSM⟩
   case round =>
    obtain ⟨l,hl,HO,HP,HSV⟩:=hrel;obtain ⟨A2,cp2,rfl⟩:=z34 HO.out
    go_wp2_with fail
    refine (z0q R (n+61+2*l.length) _ _ HP.out.1 (by omega)).mono ?_;rintro e w3 ⟨x,⟨hx0,hx1⟩,rfl,hp3⟩
    have hx2:x≤1:=by omega
    have HO3:=hid (z1j HO.out hp3 hRw);have HP3:=hid (HP.out.then hp3);clear hp3 hx1
    by_cases hlt:(l.length:Int)<12+x
    · go_wp2_with fail
      refine (z0q R (n+61+2*l.length+1) _ _ HP3.out.1 (by omega)).mono ?_;rintro e w4 ⟨y,⟨hy0,hy1⟩,rfl,hp4⟩
      have hy2:y≤5:=by omega
      have HO4:=hid (z1j HO3.out hp4 hRw);have HP4:=hid (HP3.out.then hp4);have hs4:=HP4.out.2.size;clear hp4 hy1
      go_wp2_with (at_builtin; go_must (refine wpList_append_own _ rfl (.tmp 28) (.tmp 33) 23 rfl w.heap.size z1q i0 (.agg #[.int .i64 0,.bool false,.int .i64 0]) 3 24 Tryz.underlying23 hi hz0 hz1 hz2 rfl (by decide) _ l.length _ rfl (HO4.out.alloc _) ⟨w4.heap.size,0,none⟩ 1 1 [.int .i64 (1+y),.bool false,.int .i64 0] rfl rfl (z2b _ _ rfl _ _ _ _) (by simp[Value.oneCell']) (by unfold maxLen; omega) (by omega) (by simp; omega) ?_); intro v' wn hown' hgrow _)
      have hpn:=z2g HP4.out hRw hs4 (Nat.le_refl _) HO4.out hgrow;have HPN:=hid hpn;have HON:=hid (z8a hown');obtain ⟨A3,cp3,rfl⟩:=z34 hown';clear hpn hown' hgrow;go_wp2
      go_roundw
      case rel=>exact ⟨l++ [Fld.mk (1+y) false 0],by simp; omega,HON,HPN.out.mono (by simp; omega),hid ⟨z4g HON.out (by simp),HSV.out.2.snoc (by decide)⟩⟩
      case measure=>simp[zlz]; omega
    · have hge:12+x≤(l.length:Int):=by omega
      go_wp2;go_ret;exact ⟨_,l,rfl,hl,HO3.out,HP3.out.mono (by omega),HSV.out.1,HSV.out.2⟩
 have b1:(q==1)=false:=by simpa using q1
 go_wp2;go_ret;exact ⟨_,l,rfl,by omega,HO2.out,HP2.out.mono (by omega),HSM.out.1,HSM.out.2⟩
open Go.RowKit Go.Deep
def ValD (R k:Nat)(w:World)(e:Ending)(w':World):Prop:=∃(x:Int) (n:Nd) (h:Hd),e= .returned (valV x n h)∧i64v x∧NdAt w' (From w.heap.size) 4 n h∧totN 4 n≤7007∧z0e w R k w'
theorem z7z (w:World)(S:Nat→Prop)(m:Nat):NdAt w S m z07 ⟨.none,0,.none,0⟩:=⟨by decide,NdsAt.nil _ _ _ _,NdsAt.nil _ _ _ _⟩
theorem z5t (m:Nat):totN m z07=0:=by
 cases m <;> rfl
theorem zd8 {w:World}{g:Nat}{v0 v1 v2:Value}{T:TypeId}(h:w.heap[g]? =some (.cells #[v0,v1,v2] T (0,0))) :
 w.cell? ⟨g,0,none⟩=some v0∧w.cell? ⟨g,1,none⟩=some v1∧w.cell? ⟨g,2,none⟩=some v2:=by
 refine ⟨?_,?_,?_⟩ <;> (rw[cell_of_row _ _ _ _ _ _ h]; rfl)
theorem z9c {w w1:World}{R n b:Nat}{T:TypeId}{a0 a1 a2 a3 a4 a5 a6:Value}(h:w1.heap[b]? =some (.cells #[a0,a1,a2,a3,a4,a5,a6] T (0,0)))(hp:z0e w R n w1)(hR:R<w.heap.size)(hb:w.heap.size≤b)(v0 v1 v2 v3 v4 v5 v6:Value) :
 ∃wf,(((((((w1.setCell ⟨b,0,none⟩ v0).setCell ⟨b,1,none⟩ v1).setCell ⟨b,2,none⟩ v2).setCell ⟨b,3,none⟩ v3).setCell ⟨b,4,none⟩ v4).setCell ⟨b,5,none⟩ v5).setCell ⟨b,6,none⟩ v6)=wf∧wf.heap[b]? =some (.cells #[v0,v1,v2,v3,v4,v5,v6] T (0,0))∧z0e w R n wf∧∀k,k≠b→wf.heap[k]? =w1.heap[k]? :=by
 have hn:∀(V:World) (i:Nat) (v:Value) {k:Nat},k≠b→(V.setCell ⟨b,i,none⟩ v).heap[k]? =V.heap[k]? :=fun V i v k h=>Below.heap_setCell V ⟨b,i,none⟩ v k h
 refine ⟨_,rfl,z06 (z06 (z06 (z06 (z06 (z06 (z06 h 0 v0) 1 v1) 2 v2) 3 v3) 4 v4) 5 v5) 6 v6,?_,fun k h=>?_⟩
 · exact z0g (z0g (z0g (z0g (z0g (z0g (z0g hp hR hb 0 v0) hR hb 1 v1) hR hb 2 v2) hR hb 3 v3) hR hb 4 v4) hR hb 5 v5) hR hb 6 v6
 · rw[hn _ _ _ h,hn _ _ _ h,hn _ _ _ h,hn _ _ _ h,hn _ _ _ h,hn _ _ _ h,hn _ _ _ h]
theorem zdn (n:Int)(w:World) :
 Calls Tryz.prog 40 #[.int .i64 0,.int .i64 n] w fun e w'=>∃b:Bool,e= .returned (.bool b)∧Below w.heap.size w w':=by
 go_enter Tryz.func40,Tryz.ntmps40
 go_wp2_with (first | (go_at_call 67; go_must (refine (z4u _ _ (by decide) (by decide)).mono ?_); rintro e w1 ⟨rfl,hb1⟩; simp only[show z1h 0=0 from rfl,show z1h 1=1 from rfl,show z1h 2=8 from rfl,show z1h 3=16 from rfl,show z1h 4=32 from rfl]) | (go_at_call 34; go_must (refine (z0t _ _ _ _).mono ?_); rintro e w2 ⟨rfl,rfl⟩))
 go_ret;exact ⟨_,z0f rfl,hb1⟩
theorem zcj (a n:Int)(w:World)(h0:0≤a)(h1:a≤6) :
 Calls Tryz.prog 40 #[.int .i64 a,.int .i64 n] w fun e w'=>∃b:Bool,e= .returned (.bool b)∧Below w.heap.size w w':=by
 by_cases h:a=0
 · subst h; exact zdn n w
 · exact (z4w a n w (by omega) h1).mono fun e w' ⟨h1,h2⟩=>⟨_,h1,h2⟩
theorem zgh (R n:Nat)(z el:Int)(c:Bool)(w:World)(h:Rd w R n)(hn:n≤300000) :
 Calls Tryz.prog 74 #[.pointer (some ⟨R,0,none⟩),.agg #[.int .i64 z,.bool c,.int .i64 el]] w (ValD R (n+350) w):=by
 have hRw:=h.lt;have q1:=z0m (z0j w (.cells #[.int .i64 z,.bool c,.int .i64 el] z1q)) (.cells #[.int .i64 0,.int .i64 0,.string { data:= #[] },.slice none 0 0,.int .i64 0,.int .i64 0,.slice none 0 0] valT);have HR:=hid (z0s (z0j w (.cells #[.int .i64 z,.bool c,.int .i64 el] z1q)) #[.int .i64 0,.int .i64 0,.string { data:= #[] },.slice none 0 0,.int .i64 0,.int .i64 0,.slice none 0 0] valT);have HF:=hid (z02 (heap_alloc_new w (.cells #[.int .i64 z,.bool c,.int .i64 el] z1q)) (.cells #[.int .i64 0,.int .i64 0,.string { data:= #[] },.slice none 0 0,.int .i64 0,.int .i64 0,.slice none 0 0] valT));have HP:=hid (h.self.below q1.2);have HS:=hid q1.1;clear q1 h;unfold ValD
 by_cases z6:z=6
 · subst z6
   go_enter Tryz.func74,Tryz.ntmps74
   go_wp2_with fail
   generalize ((w.alloc (.cells #[.int .i64 6,.bool c,.int .i64 el] z1q)).alloc (.cells #[.int .i64 0,.int .i64 0,.string { data:= #[] },.slice none 0 0,.int .i64 0,.int .i64 0,.slice none 0 0] valT))=W0 at *;refine (z86 2 (by decide) R n _ HP.out.1 (by rw[show dK 2=350 from rfl]; omega)).mono ?_;rintro e w2 ⟨y,hy,rfl,hny,hty,hp2⟩;have HNY:=hid (And.intro hny hty);have HSZ:=hid hp2.2.size
   replace HR:=hid ((hp2.2.block _ (z00 HR.out) (by omega)).trans HR.out)
   replace HF:=hid ((hp2.2.block _ (z00 HF.out) (by omega)).trans HF.out)
   replace HP:=hid (HP.out.then hp2)
   clear hp2 hny hty;obtain ⟨b0,b1,b2,b3,b4,b5,b6⟩:=z09 HR.out;have f2:=z03 HR.out;obtain ⟨wf,hwf,hrw,hpw,hkw⟩:=z9c (b:=w.heap.size+1) HR.out HP.out hRw (by omega) (.int .i64 0) (.int .i64 y.kind) (.string y.data) (.slice hy.A y.ptrs.length hy.a) (.int .i64 y.size) (.int .i64 y.count) (.slice hy.B y.items.length hy.b);obtain ⟨e0,e1,e2,e3,e4,e5,e6⟩:=z09 hrw;have HWF:=hid hwf;have HPW:=hid hpw;have HNF:Hid (NdAt wf (From w.heap.size) 4 y hy):=hid (HNY.out.1.map (fun k hk=>by have h1:W0.heap.size≤k:=hk.1; have h2:=HS.out; show w.heap.size≤k; omega) (fun p _ _ hs hc=>hc.block (hkw _ (by have h1:W0.heap.size≤p.block:=hs.1; have h2:=HS.out; omega))));have HTY:Hid (totN 4 y≤7007):=hid HNY.out.2.1;clear hwf hrw hpw hkw;go_wp2;rw[HWF.out];exact bodyPost_ret (v:=valV 0 y hy) (by simp[results,Tryz.results74,go_sem,e0,e1,e2,e3,e4,e5,e6]) rfl ⟨0,y,hy,rfl,⟨by decide,by decide⟩,HNF.out,HTY.out,HPW.out.mono (by rw[show dK 2=350 from rfl]; omega)⟩
 have hz6:(z==6)=false:=by simpa using z6
 cases hin:inB z 0 6
 · go_enter Tryz.func74,Tryz.ntmps74
   go_wp2_with fail
   generalize ((w.alloc (.cells #[.int .i64 z,.bool c,.int .i64 el] z1q)).alloc (.cells #[.int .i64 0,.int .i64 0,.string { data:= #[] },.slice none 0 0,.int .i64 0,.int .i64 0,.slice none 0 0] valT))=W0 at *;refine (z0t z 0 6 _).mono ?_;rintro e w1 ⟨rfl,rfl⟩;rw[hin];obtain ⟨d0,d1,d2⟩:=zd8 HF.out
   go_wp2_with fail
   refine (z0q R n _ _ HP.out.1 (by omega)).mono ?_;rintro e w2 ⟨v,⟨hv0,hv1⟩,rfl,hp2⟩
   replace HR:=hid ((hp2.2.block _ (z00 HR.out) (by omega)).trans HR.out)
   replace HF:=hid ((hp2.2.block _ (z00 HF.out) (by omega)).trans HF.out)
   replace HP:=hid (HP.out.then hp2)
   clear hp2 d0 d1 d2;obtain ⟨b0,b1,b2,b3,b4,b5,b6⟩:=z09 HR.out;have f2:=z03 HR.out;obtain ⟨wf,hwf,hrw,hpw, -⟩:=z9c (b:=w.heap.size+1) HR.out HP.out hRw (by omega) (.int .i64 v) (.int .i64 0) (.string { data:= #[] }) (.slice none 0 0) (.int .i64 0) (.int .i64 0) (.slice none 0 0);obtain ⟨e0,e1,e2,e3,e4,e5,e6⟩:=z09 hrw;have HWF:=hid hwf;have HPW:=hid hpw;clear hwf hrw hpw;go_wp2;rw[HWF.out];exact bodyPost_ret (v:= .agg #[.int .i64 v,.int .i64 0,.string { data:= #[] },.slice none 0 0,.int .i64 0,.int .i64 0,.slice none 0 0]) (by simp[results,Tryz.results74,go_sem,e0,e1,e2,e3,e4,e5,e6]) rfl ⟨v,z07,⟨.none,0,.none,0⟩,rfl,⟨by omega,by omega⟩,z7z _ _ _,by rw[z5t]; decide,HPW.out.mono (by omega)⟩
 have hz:0≤z∧z≤5:=by unfold inB at hin; rw[decide_eq_true_eq] at hin; omega
 have LFIT:=hid (fun (n:Int) (W:World)=>zcj z n W hz.1 (by omega));go_enter Tryz.func74,Tryz.ntmps74
 go_wp2_with fail
 generalize ((w.alloc (.cells #[.int .i64 z,.bool c,.int .i64 el] z1q)).alloc (.cells #[.int .i64 0,.int .i64 0,.string { data:= #[] },.slice none 0 0,.int .i64 0,.int .i64 0,.slice none 0 0] valT))=W0 at *;refine (z0t z 0 6 _).mono ?_;rintro e w1 ⟨rfl,rfl⟩;rw[hin];obtain ⟨d0,d1,d2⟩:=zd8 HF.out
 go_wp2_with fail
 have hL:=Lits.new W0 #[.int .i64 0,.int .i64 1,.int .i64 1,.int .i64 200,.int .i64 255,.int .i64 65535,.int .i64 4294967295,.int .i64 (-1)] 3 (0,0)
 have hS:∀v∈(#[.int .i64 0,.int .i64 1,.int .i64 1,.int .i64 200,.int .i64 255,.int .i64 65535,.int .i64 4294967295,.int .i64 (-1)]:Array Value).toList,∃x,v= .int .i64 x∧i64v x:=by
  intro v hv
  simp only[List.mem_cons,List.not_mem_nil,or_false] at hv
  rcases hv with rfl | rfl | rfl | rfl | rfl | rfl | rfl | rfl
  all_goals exact ⟨_,rfl,by decide,by decide⟩
 refine (z6l R n W0.heap.size 8 8 i64v _ _ (HP.out.1.below ((Below.refl W0.heap.size W0).alloc (Nat.le_refl _) _)) (by omega) hL hS (by have:=HP.out.2.size; omega) rfl (by omega) (by omega)).mono ?_;rintro e w2 ⟨v,hvr,rfl,hp2⟩
 have hp:=z0e.from ((Below.refl W0.heap.size W0).alloc (Nat.le_refl _) _) hp2
 replace HR:=hid ((hp.2.block _ (z00 HR.out) (by omega)).trans HR.out)
 replace HF:=hid ((hp.2.block _ (z00 HF.out) (by omega)).trans HF.out)
 replace HP:=hid (HP.out.then hp)
 have HVR:Hid (i64v v):=hid hvr;clear hp hp2 d0 d1 d2 hvr;obtain ⟨d0,d1,d2⟩:=zd8 HF.out
 by_cases z5:z=5
 · subst z5
   obtain ⟨b0,b1,b2,b3,b4,b5,b6⟩:=z09 HR.out;have f2:=z03 HR.out;obtain ⟨wf,hwf,hrw,hpw, -⟩:=z9c (b:=w.heap.size+1) HR.out HP.out hRw (by omega) (.int .i64 v) (.int .i64 0) (.string { data:= #[] }) (.slice none 0 0) (.int .i64 0) (.int .i64 0) (.slice none 0 0);obtain ⟨e0,e1,e2,e3,e4,e5,e6⟩:=z09 hrw;have HWF:=hid hwf;have HPW:=hid hpw;clear hwf hrw hpw;go_wp2;rw[HWF.out];exact bodyPost_ret (v:= .agg #[.int .i64 v,.int .i64 0,.string { data:= #[] },.slice none 0 0,.int .i64 0,.int .i64 0,.slice none 0 0]) (by simp[results,Tryz.results74,go_sem,e0,e1,e2,e3,e4,e5,e6]) rfl ⟨v,z07,⟨.none,0,.none,0⟩,rfl,HVR.out,z7z _ _ _,by rw[z5t]; decide,HPW.out.mono (by omega)⟩
 have hz5:(z != 5)=true:=by simp; omega
 go_wp2_with fail
 refine (LFIT.out v _).mono ?_;rintro e w3 ⟨b,rfl,hb3⟩
 replace HR:=hid ((hb3.block _ (z00 HR.out)).trans HR.out)
 replace HF:=hid ((hb3.block _ (z00 HF.out)).trans HF.out)
 replace HP:=hid (HP.out.below hb3)
 clear hb3 d0 d1 d2;cases b
 · go_wp2_with fail
   refine (z0q R (n+1) _ _ HP.out.1 (by omega)).mono ?_;rintro e w4 ⟨u,⟨hu0,hu1⟩,rfl,hp4⟩
   replace HR:=hid ((hp4.2.block _ (z00 HR.out) (by omega)).trans HR.out)
   replace HF:=hid ((hp4.2.block _ (z00 HF.out) (by omega)).trans HF.out)
   replace HP:=hid (HP.out.then hp4)
   clear hp4
   by_cases u0:u=0
   · subst u0
     obtain ⟨b0,b1,b2,b3,b4,b5,b6⟩:=z09 HR.out;have f2:=z03 HR.out;obtain ⟨wf,hwf,hrw,hpw, -⟩:=z9c (b:=w.heap.size+1) HR.out HP.out hRw (by omega) (.int .i64 v) (.int .i64 0) (.string { data:= #[] }) (.slice none 0 0) (.int .i64 0) (.int .i64 0) (.slice none 0 0);obtain ⟨e0,e1,e2,e3,e4,e5,e6⟩:=z09 hrw;have HWF:=hid hwf;have HPW:=hid hpw;clear hwf hrw hpw;go_wp2;rw[HWF.out];exact bodyPost_ret (v:= .agg #[.int .i64 v,.int .i64 0,.string { data:= #[] },.slice none 0 0,.int .i64 0,.int .i64 0,.slice none 0 0]) (by simp[results,Tryz.results74,go_sem,e0,e1,e2,e3,e4,e5,e6]) rfl ⟨v,z07,⟨.none,0,.none,0⟩,rfl,HVR.out,z7z _ _ _,by rw[z5t]; decide,HPW.out.mono (by omega)⟩
   · have hu2:0<u:=by omega
     clear u0 hu1
     go_wp2_with fail
     refine (z0q R (n+1+1) _ _ HP.out.1 (by omega)).mono ?_;rintro e w5 ⟨t,⟨ht0,ht1⟩,rfl,hp5⟩
     replace HR:=hid ((hp5.2.block _ (z00 HR.out) (by omega)).trans HR.out)
     replace HF:=hid ((hp5.2.block _ (z00 HF.out) (by omega)).trans HF.out)
     replace HP:=hid (HP.out.then hp5)
     clear hp5;obtain ⟨b0,b1,b2,b3,b4,b5,b6⟩:=z09 HR.out;have f2:=z03 HR.out;obtain ⟨wf,hwf,hrw,hpw, -⟩:=z9c (b:=w.heap.size+1) HR.out HP.out hRw (by omega) (.int .i64 t) (.int .i64 0) (.string { data:= #[] }) (.slice none 0 0) (.int .i64 0) (.int .i64 0) (.slice none 0 0);obtain ⟨e0,e1,e2,e3,e4,e5,e6⟩:=z09 hrw;have HWF:=hid hwf;have HPW:=hid hpw;clear hwf hrw hpw;go_wp2;rw[HWF.out];exact bodyPost_ret (v:= .agg #[.int .i64 t,.int .i64 0,.string { data:= #[] },.slice none 0 0,.int .i64 0,.int .i64 0,.slice none 0 0]) (by simp[results,Tryz.results74,go_sem,e0,e1,e2,e3,e4,e5,e6]) rfl ⟨t,z07,⟨.none,0,.none,0⟩,rfl,⟨by omega,by omega⟩,z7z _ _ _,by rw[z5t]; decide,HPW.out.mono (by omega)⟩
 · have hq:True:=trivial
   obtain ⟨b0,b1,b2,b3,b4,b5,b6⟩:=z09 HR.out;have f2:=z03 HR.out;obtain ⟨wf,hwf,hrw,hpw, -⟩:=z9c (b:=w.heap.size+1) HR.out HP.out hRw (by omega) (.int .i64 v) (.int .i64 0) (.string { data:= #[] }) (.slice none 0 0) (.int .i64 0) (.int .i64 0) (.slice none 0 0);obtain ⟨e0,e1,e2,e3,e4,e5,e6⟩:=z09 hrw;have HWF:=hid hwf;have HPW:=hid hpw;clear hwf hrw hpw;go_wp2;rw[HWF.out];exact bodyPost_ret (v:= .agg #[.int .i64 v,.int .i64 0,.string { data:= #[] },.slice none 0 0,.int .i64 0,.int .i64 0,.slice none 0 0]) (by simp[results,Tryz.results74,go_sem,e0,e1,e2,e3,e4,e5,e6]) rfl ⟨v,z07,⟨.none,0,.none,0⟩,rfl,HVR.out,z7z _ _ _,by rw[z5t]; decide,HPW.out.mono (by omega)⟩
theorem z01 {bs:List Nat}{V V':World}(h:OnlyIn bs V V'){p:Addr}{v:Value}(hp:p.block∉bs)(hv:V.cell? p=some v):V'.cell? p=some v:=by
 have hl:=World.block_lt_of_cell? V _ hv;have e:=h.block p.block hl hp;unfold World.cell? at hv ⊢;rw[e];exact hv
theorem z24 (l:List Fld):(layF l ps0).2.ptrs≤l.length∧(layF l ps0).2.ls.words≤2*l.length:=by
 have h1:=zas l l.length (Nat.le_refl _);rw[List.take_length] at h1;exact ⟨h1.ptrs,h1.ls.1⟩
theorem zcn (d:List UInt8):(⟨d.toArray⟩:ByteArray).data.toList=d:=by simp
theorem ba_sz (d:List UInt8):(⟨d.toArray⟩:ByteArray).size=d.length:=by simp[ByteArray.size]
theorem zh8 {l:List UInt8}{a z n:Int}(h:putB l a z n=true):(putT l a z n).length=l.length:=z8f h
theorem zif (d:List UInt8)(a z n:Int):(putT d a z n).length≤d.length:=by
 cases h:putB d a z n
 · unfold putT
   unfold putB at h
   split
   · rename_i hw
     rw[hw,Bool.true_and] at h;rw[if_neg (by rw[h]; decide)];exact Nat.le_refl _
   · exact Nat.zero_le _
 · rw[zh8 h]; exact Nat.le_refl _
theorem zli (l:List Fld)(k:Nat)(d:List UInt8):(tgF l k d).length≤d.length:=by
 unfold tgF
 split
 · exact zif _ _ _ _
 · exact Nat.le_refl _
theorem VAt.cells {w:World}{S:Nat→Prop}{m:Nat}{p:Addr}{v:Vl}{h:Hd}(a:VAt w S m p v h):w.cell? p=some (.int .i64 v.num)∧w.cell? ⟨p.block,p.off+1,none⟩=some (.int .i64 v.nd.kind)∧w.cell? ⟨p.block,p.off+2,none⟩=some (.string v.nd.data)∧w.cell? ⟨p.block,p.off+3,none⟩=some (.slice h.A v.nd.ptrs.length h.a)∧w.cell? ⟨p.block,p.off+4,none⟩=some (.int .i64 v.nd.size)∧w.cell? ⟨p.block,p.off+5,none⟩=some (.int .i64 v.nd.count)∧w.cell? ⟨p.block,p.off+6,none⟩=some (.slice h.B v.nd.items.length h.b) :=
 ⟨a.num,a.cell.c0,a.cell.c1,a.cell.c2,a.cell.c3,a.cell.c4,a.cell.c5⟩
theorem zew {l:List Fld}{vs:List Vl}{k:Nat}(hk:k<l.length)(h:valsB l vs (k+1)=false):valsB l vs l.length=false:=by
 have:∀j,k+1≤j→valsB l vs j=false:=by
  intro j hj
  induction j with
  | zero=>omega
  | succ j ih =>
   rcases Nat.lt_or_ge k j with h1 | h1
   · show (valsB l vs j&&_)=false
     rw[ih (by omega)]; rfl
   · obtain rfl:j=k:=by omega
     exact h
 exact this _ (by omega)
end Go.Proofs.YtblcibgphccfkaaGreatDoor
