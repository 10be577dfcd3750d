/- Texts of the proof of the law FnRecordCanon, side by side: part 39. -/
import Derived.Test.YtblcibgphccfkaaGreatDoorMRecordCanon38
set_option maxHeartbeats 8000000
set_option maxRecDepth 100000
open Go.Lib (hid)
namespace Go.Proofs.YtblcibgphccfkaaGreatDoor
open Go.RowKit Go.Deep
theorem zmq (x:Addr)(c:Nat)(l:List Fld)(B:Option Addr)(cb:Nat)(vs:List Vl)(ch:Int)(m:Nat)(w:World)(h1w:1<w.heap.size)(hxb:x.block<w.heap.size)(hfl:Flds w (some x) l)(hll:l.length≤10000000)(hvs:z4d w Any m B vs)(hvl:vs.length≤10000000)(hsv:sumV vs≤1900000)(hc:l.length≤c)(hrg:∀k, -9223372036854775808≤(vlK vs k).num∧(vlK vs k).num≤9223372036854775807)(hyes:z14 l=true)(hlen:vs.length=l.length)(hch:chB l ch=true)(hpos:inB ch 0 ((plcN l l.length:Int)-1)=true) :
 Calls Tryz.prog 15 #[.slice (some x) l.length c,.slice B vs.length cb,.int .i64 ch] w (NewNb (m+2) (roN l vs ch) (roB l vs ch) w):=by
 have HB0:=hid ((Below.refl w.heap.size w).alloc (Nat.le_refl _) (.cells #[.int .i64 0,.string { data:= #[] },.slice none 0 0,.int .i64 0,.int .i64 0,.slice none 0 0] nodeT));have R0:=hid (heap_alloc_new w (.cells #[.int .i64 0,.string { data:= #[] },.slice none 0 0,.int .i64 0,.int .i64 0,.slice none 0 0] nodeT));have HFO:=hid (fun (W:World) (hW:Below w.heap.size w W)=>z1a (some x) c l W (hfl.below hW) hll);have hl12:=z0n hyes;obtain ⟨hP,hW⟩:=z24 l;have HLY:=hid (fun (W:World) (hW:Below w.heap.size w W)=>z12 (some x) c l W (Nat.lt_of_lt_of_le h1w hW.size) (hfl.below hW) hyes);have HWI:=hid (fun (A1:Option Addr) (cp1:Nat) (W:World)=>za2 (m+1) (layF l ps0).2.ls.words (layF l ps0).2.ptrs A1 l.length cp1 (tagL l) W (by omega) (by omega));have HCO:=hid (fun (W:World) (hW:Below w.heap.size w W)=>z40 x c l l.length (Nat.le_refl _) W (hfl.below hW) hl12);have hpl:=z4k l l.length;rw[hyes] at HFO;rw[hlen];have HFL:=hid hfl;have HVS:=hid hvs;have HYES:=hid hyes;have HLEN:=hid hlen;have HCH:=hid hch;have HRG:=hid hrg;have HXB:=hid hxb;have HSV:=hid hsv;clear hfl hvs hyes hlen hch hrg hxb hsv;go_enter Tryz.func15,Tryz.ntmps15
 go_wp2_with fail
 generalize w.alloc (.cells #[.int .i64 0,.string { data:= #[] },.slice none 0 0,.int .i64 0,.int .i64 0,.slice none 0 0] nodeT)=W at *;refine (HFO.out _ HB0.out).mono ?_;rintro e w1 ⟨rfl,hb1⟩;have HB1:=hid (HB0.out.trans (hb1.mono HB0.out.size));have X0:=hid ((hb1.block _ (z00 R0.out)).trans R0.out);clear hb1
 go_wp2_with fail
 refine (HLY.out _ HB1.out).mono ?_;rintro e w2 ⟨v1,rfl,hown,hb2⟩;have HB2:=hid (HB1.out.trans (hb2.mono HB1.out.size));obtain ⟨A1,cp1,rfl⟩:=z0h hown;have hlv:layV l (.slice A1 l.length cp1)= .agg #[.int .i64 ((layF l ps0).2.ls.words:Int),.int .i64 ((layF l ps0).2.ptrs:Int),.slice A1 l.length cp1,.int .i64 (tagL l)]:=rfl;rw[hlv];have ha2:Below w2.heap.size w2 (w2.alloc (.cells #[.int .i64 ((layF l ps0).2.ls.words:Int),.int .i64 ((layF l ps0).2.ptrs:Int),.slice A1 l.length cp1,.int .i64 (tagL l)] 37)):=(Below.refl _ _).alloc (Nat.le_refl _) _;have HB3:=hid (HB2.out.trans (ha2.mono HB2.out.size));have X3:=hid ((ha2.block _ (z00 ((hb2.block _ (z00 X0.out)).trans X0.out))).trans ((hb2.block _ (z00 X0.out)).trans X0.out));have L3:=hid (heap_alloc_new w2 (.cells #[.int .i64 ((layF l ps0).2.ls.words:Int),.int .i64 ((layF l ps0).2.ptrs:Int),.slice A1 l.length cp1,.int .i64 (tagL l)] 37));have HPB:Hid (w.heap.size<w2.heap.size):=hid (z00 ((hb2.block _ (z00 X0.out)).trans X0.out));obtain ⟨l0,l1,l2,l3⟩:=z0p L3.out
 have HSL:Hid (∀k,k<l.length→∃y,A1=some y∧y.block<(w2.alloc (.cells #[.int .i64 ((layF l ps0).2.ls.words:Int),.int .i64 ((layF l ps0).2.ptrs:Int),.slice A1 l.length cp1,.int .i64 (tagL l)] 37)).heap.size∧(w2.alloc (.cells #[.int .i64 ((layF l ps0).2.ls.words:Int),.int .i64 ((layF l ps0).2.ptrs:Int),.slice A1 l.length cp1,.int .i64 (tagL l)] 37)).cell? (y.add k)=some (.int .i64 (atF l k:Nat))):=hid (fun k hk=>by
  obtain ⟨y,hy,hyb,hsy⟩:=z1f (l:=(layF l ps0).1) (k:=k) (by rw[z0a]; exact hown) (by rw[z0a]; exact hk)
  exact ⟨y,hy,Nat.lt_of_lt_of_le hyb ha2.size,(ha2.cell (p:=y.add k) (by rw[z05]; exact hyb)).trans hsy⟩)
 clear hlv ha2 hb2 hown
 go_wp2_with fail
 clear l0 l1 l2 l3
 obtain ⟨pb,hpb⟩:∃pb,pb=w2.heap.size:=⟨_,rfl⟩
 rw[← hpb] at L3 HPB ⊢;clear hpb;generalize w2.alloc (.cells #[.int .i64 ((layF l ps0).2.ls.words:Int),.int .i64 ((layF l ps0).2.ptrs:Int),.slice A1 l.length cp1,.int .i64 (tagL l)] 37)=W3 at *;refine (HWI.out A1 cp1 _).mono ?_;rintro e w4 ⟨A,cp,bs,rfl,ho,hnd,hge,hb4⟩;have HB4:=hid (HB3.out.trans (hb4.mono HB3.out.size));have ha4:Below w4.heap.size w4 (w4.alloc (.cells #[.int .i64 1,.string (zw (8*(layF l ps0).2.ls.words)),.slice A (layF l ps0).2.ptrs cp,.int .i64 0,.int .i64 0,.slice none 0 0] nodeT)):=(Below.refl _ _).alloc (Nat.le_refl _) _;have HB5:=hid (HB4.out.trans (ha4.mono HB4.out.size));have X5:=hid ((ha4.block _ (z00 ((hb4.block _ (z00 X3.out)).trans X3.out))).trans ((hb4.block _ (z00 X3.out)).trans X3.out));have HO4:=hid (ho.below ha4);have HN4:=hid hnd;have HG4:Hid (∀b∈bs,W3.heap.size≤b∧b<w4.heap.size):=hid (fun b hb=>⟨hge b hb,(ho.lt _ _ _ _ _ b hb).1⟩);have HX4:=hid (heap_alloc_new w4 (.cells #[.int .i64 1,.string (zw (8*(layF l ps0).2.ls.words)),.slice A (layF l ps0).2.ptrs cp,.int .i64 0,.int .i64 0,.slice none 0 0] nodeT));have HW4:Hid (Below W3.heap.size W3 (w4.alloc (.cells #[.int .i64 1,.string (zw (8*(layF l ps0).2.ls.words)),.slice A (layF l ps0).2.ptrs cp,.int .i64 0,.int .i64 0,.slice none 0 0] nodeT))):=hid (hb4.trans (ha4.mono hb4.size));have HS4:Hid (W3.heap.size≤w4.heap.size):=hid hb4.size;clear ho hnd hge hb4 ha4
 go_wp2_with fail
 obtain ⟨nb,hnb⟩:∃nb,nb=w4.heap.size:=⟨_,rfl⟩
 rw[← hnb] at HG4 HX4 HS4 ⊢;clear hnb;generalize w4.alloc (.cells #[.int .i64 1,.string (zw (8*(layF l ps0).2.ls.words)),.slice A (layF l ps0).2.ptrs cp,.int .i64 0,.int .i64 0,.slice none 0 0] nodeT)=W5 at *;refine (HCO.out _ HB5.out).mono ?_;rintro e w6 ⟨rfl,hb6⟩;have HB6:=hid (HB5.out.trans (hb6.mono HB5.out.size));have X6:=hid ((hb6.block _ (z00 X5.out)).trans X5.out);have HO6:=hid (HO4.out.below hb6);have HX6:=hid ((hb6.block _ (z00 HX4.out)).trans HX4.out);have HW6:=hid (HW4.out.trans (hb6.mono HW4.out.size));clear hb6;have HIN:=hid hpos;clear hpos;generalize plcN l l.length=pn at *
 have hpn:pn≤12:=by omega
 go_wp2_with (go_at_call 34; refine (z0t _ _ _ _).mono ?_; rintro e w' ⟨rfl,rfl⟩; rw[HIN.out])
 go_loopw [11] (fun i wr=>∃k:Nat,i= .int .i64 (k:Int)∧k≤l.length∧Hid (valsB l vs k=true)∧Hid (∃bs,wr.heap[nb]? =some (.cells #[.int .i64 1,.string ⟨(fillF l vs ch k).d.toArray⟩,.slice A (fillF l vs ch k).p.length cp,.int .i64 0,.int .i64 0,.slice none 0 0] nodeT (0,0))∧OwS wr (m+2) A cp (fillF l vs ch k).p bs∧bs.Nodup∧∀b∈bs,W3.heap.size≤b∧b≠nb)∧Hid (Below W3.heap.size W3 wr)) (fun i _=>l.length-(intOf i).toNat)
 case atStart=>exact ⟨0,rfl,Nat.zero_le _,hid rfl,hid ⟨bs,by
  have h9:=HX6.out
  have e1:(fillF l vs ch 0).p.length=(layF l ps0).2.ptrs:=by show (List.replicate _ _).length=_; rw[List.length_replicate]
  rw[e1]
  exact h9,HO6.out,HN4.out,fun b hb=>⟨(HG4.out b hb).1,by have:=(HG4.out b hb).2; omega⟩⟩,HW6⟩
 case round =>
  obtain ⟨k,rfl,hk,HVB,HST,HBW⟩:=hrel;obtain ⟨bs9,hrow,ho,hnd,hbs⟩:=HST.out;have HBT:=hid (HB3.out.trans (HBW.out.mono HB3.out.size));have HROW:=hid hrow;have HO:=hid ho;have HND:=hid hnd;have HBS:=hid hbs;clear hrow ho hnd hbs HST
  by_cases hlt:k<l.length
  · obtain ⟨x',hx',hxb,hx2⟩:=(HFL.out.below HBT.out).at2 hlt
    obtain rfl:=Option.some.inj hx';obtain ⟨xb,h,hB,hvb,hva⟩:=(HVS.out.below HBT.out).at_ (i:=k) (by rw[HLEN.out]; exact hlt);subst hB;rw[← zed (by rw[HLEN.out]; exact hlt)] at hva;have HRK:=hid (HRG.out k);have HTN:Hid (totN m (vlK vs k).nd≤2000000):=hid (by have:=zcv vs k; have:=HSV.out; have:=z19 hva.nd; omega)
    obtain ⟨v,hv⟩:∃v,v=vlK vs k:=⟨_,rfl⟩
    rw[← hv] at hva HRK HTN;have HV:=hid hv;have HVA:=hid hva;have HX2:=hid hx2;have HXL:Hid (x.block<wr.heap.size∧xb.block<wr.heap.size):=hid ⟨hxb,hvb⟩;have HVL:=hid (fun (W:World) (hW:Below wr.heap.size wr W)=>zgn l[k] v h m W Any (z2j HYES.out k hlt) (hva.nd.below hW) HTN.out);have HDR:Hid (Below wr.heap.size wr wr.drew):=hid ⟨rfl,rfl,rfl,Nat.le_refl _,fun _ _=>rfl⟩;have hlv9:k<l.length:=hlt;clear hx2 hva hv hxb hvb
    go_upto_region 11 with fail
    refine wp_region_held_drew (S:=(fun V=>Below wr.heap.size wr V)) (by kernel_rfl) ?_ (fun hH0=>?_)
    · exact HDR.out
    refine wpAnyH_take (i:=0) (v:=?_) rfl (by kernel_rfl) (by kernel_rfl) (by kernel_rfl) (fun _ _ _ h=>h) (Or.inl ⟨by rfl,?_⟩) (by assumption) ?_
    rotate_left
    · intro w hSw
      (try dsimp only at hSw)
      obtain ⟨f0,f1,f2⟩:=HX2.out.below hSw (by rw[z05]; exact HXL.out.1);obtain ⟨v0,v1,v2,v3,v4,v5,v6⟩:=(HVA.out.below hSw).cells
      go_simp
      try with_reducible rfl
    try simp only[List.getElem_toArray,List.getElem_cons_succ,List.getElem_cons_zero,Act.put,List.setIfInBounds_toArray,List.set_cons_zero,List.set_cons_succ]
    refine wpAnyH_take (i:=1) (v:=?_) rfl (by kernel_rfl) (by kernel_rfl) (by kernel_rfl) (fun _ _ _ h=>h) (Or.inl ⟨by rfl,?_⟩) (by assumption) ?_
    rotate_left
    · intro w hSw
      (try dsimp only at hSw)
      obtain ⟨f0,f1,f2⟩:=HX2.out.below hSw (by rw[z05]; exact HXL.out.1);obtain ⟨v0,v1,v2,v3,v4,v5,v6⟩:=(HVA.out.below hSw).cells
      go_simp
      try with_reducible rfl
    try simp only[List.getElem_toArray,List.getElem_cons_succ,List.getElem_cons_zero,Act.put,List.setIfInBounds_toArray,List.set_cons_zero,List.set_cons_succ]
    refine wpAnyH_take (i:=2) (v:=?_) rfl (by kernel_rfl) (by kernel_rfl) (by kernel_rfl) (fun _ _ _ h=>h) (Or.inl ⟨by rfl,?_⟩) (by assumption) ?_
    rotate_left
    · intro w hSw
      (try dsimp only at hSw)
      obtain ⟨f0,f1,f2⟩:=HX2.out.below hSw (by rw[z05]; exact HXL.out.1);obtain ⟨v0,v1,v2,v3,v4,v5,v6⟩:=(HVA.out.below hSw).cells
      go_simp
      try with_reducible rfl
    try simp only[List.getElem_toArray,List.getElem_cons_succ,List.getElem_cons_zero,Act.put,List.setIfInBounds_toArray,List.set_cons_zero,List.set_cons_succ]
    refine wpAnyH_take (i:=3) (v:= .agg #[.int .i64 (l[k]).size,.bool (l[k]).choice,.int .i64 (l[k]).els]) rfl (by kernel_rfl) (by kernel_rfl) (by kernel_rfl) (fun _ _ _ h=>h) (Or.inl ⟨by rfl,?_⟩) (by assumption) ?_
    · intro w hSw
      (try dsimp only at hSw)
      obtain ⟨f0,f1,f2⟩:=HX2.out.below hSw (by rw[z05]; exact HXL.out.1);obtain ⟨v0,v1,v2,v3,v4,v5,v6⟩:=(HVA.out.below hSw).cells
      go_simp
    try simp only[List.getElem_toArray,List.getElem_cons_succ,List.getElem_cons_zero,Act.put,List.setIfInBounds_toArray,List.set_cons_zero,List.set_cons_succ]
    refine wpAnyH_take (i:=4) (v:=?_) rfl (by kernel_rfl) (by kernel_rfl) (by kernel_rfl) (fun _ _ _ h=>h) (Or.inl ⟨by rfl,?_⟩) (by assumption) ?_
    rotate_left
    · intro w hSw
      (try dsimp only at hSw)
      obtain ⟨f0,f1,f2⟩:=HX2.out.below hSw (by rw[z05]; exact HXL.out.1);obtain ⟨v0,v1,v2,v3,v4,v5,v6⟩:=(HVA.out.below hSw).cells
      go_simp
      try with_reducible rfl
    try simp only[List.getElem_toArray,List.getElem_cons_succ,List.getElem_cons_zero,Act.put,List.setIfInBounds_toArray,List.set_cons_zero,List.set_cons_succ]
    refine wpAnyH_take (i:=5) (v:=?_) rfl (by kernel_rfl) (by kernel_rfl) (by kernel_rfl) (fun _ _ _ h=>h) (Or.inl ⟨by rfl,?_⟩) (by assumption) ?_
    rotate_left
    · intro w hSw
      (try dsimp only at hSw)
      obtain ⟨f0,f1,f2⟩:=HX2.out.below hSw (by rw[z05]; exact HXL.out.1);obtain ⟨v0,v1,v2,v3,v4,v5,v6⟩:=(HVA.out.below hSw).cells
      go_simp
      try with_reducible rfl
    try simp only[List.getElem_toArray,List.getElem_cons_succ,List.getElem_cons_zero,Act.put,List.setIfInBounds_toArray,List.set_cons_zero,List.set_cons_succ]
    refine wpAnyH_take (i:=6) (v:=?_) rfl (by kernel_rfl) (by kernel_rfl) (by kernel_rfl) (fun _ _ _ h=>h) (Or.inl ⟨by rfl,?_⟩) (by assumption) ?_
    rotate_left
    · intro w hSw
      (try dsimp only at hSw)
      obtain ⟨f0,f1,f2⟩:=HX2.out.below hSw (by rw[z05]; exact HXL.out.1);obtain ⟨v0,v1,v2,v3,v4,v5,v6⟩:=(HVA.out.below hSw).cells
      go_simp
      try with_reducible rfl
    try simp only[List.getElem_toArray,List.getElem_cons_succ,List.getElem_cons_zero,Act.put,List.setIfInBounds_toArray,List.set_cons_zero,List.set_cons_succ]
    refine wpAnyH_take (i:=7) (v:= .agg #[.int .i64 v.num,.int .i64 v.nd.kind,.string v.nd.data,.slice h.A v.nd.ptrs.length h.a,.int .i64 v.nd.size,.int .i64 v.nd.count,.slice h.B v.nd.items.length h.b]) rfl (by kernel_rfl) (by kernel_rfl) (by kernel_rfl) (fun _ _ _ h=>h) (Or.inl ⟨by rfl,?_⟩) (by assumption) ?_
    · intro w hSw
      (try dsimp only at hSw)
      obtain ⟨f0,f1,f2⟩:=HX2.out.below hSw (by rw[z05]; exact HXL.out.1);obtain ⟨v0,v1,v2,v3,v4,v5,v6⟩:=(HVA.out.below hSw).cells
      go_simp
    try simp only[List.getElem_toArray,List.getElem_cons_succ,List.getElem_cons_zero,Act.put,List.setIfInBounds_toArray,List.set_cons_zero,List.set_cons_succ]
    refine wpAnyH_ready (rs:= [8]) (by kernel_rfl) (by simp) ?_;refine AllReadyH.cons rfl (fun K hK=>?_) AllReadyH.nil
    go_simp
    go_at_call 51
    refine (HVL.out _ HDR.out).mono ?_;rintro e w7 ⟨rfl,hb7⟩;have HC7:=hid (HDR.out.trans (hb7.mono HDR.out.size));clear hb7
    go_wp2_with fail
    refine hK.out _ _ HC7.out (fun hHm=>?_);clear hK K hH0
    try simp only[List.getElem_toArray,List.getElem_cons_succ,List.getElem_cons_zero,Act.put,List.setIfInBounds_toArray,List.set_cons_zero,List.set_cons_succ]
    refine wpAnyH_take (i:=9) (v:=?_) rfl (by kernel_rfl) (by kernel_rfl) (by kernel_rfl) (fun _ _ _ h=>h) (Or.inl ⟨by rfl,?_⟩) (by assumption) ?_
    rotate_left
    · intro w hSw
      (try dsimp only at hSw)
      go_simp
      try with_reducible rfl
    try simp only[List.getElem_toArray,List.getElem_cons_succ,List.getElem_cons_zero,Act.put,List.setIfInBounds_toArray,List.set_cons_zero,List.set_cons_succ]
    refine wpAnyH_done (by kernel_rfl) ?_ _;clear hHm;have HB7:=hid (HBT.out.trans (HC7.out.mono HBT.out.size));have HW7:=hid (HBW.out.trans (HC7.out.mono HBW.out.size));have HZ7:=hid ((HW7.out.block _ (z00 X3.out)).trans X3.out);cases hvb2:valB l[k] v
    · have hro:roB l vs ch=false:=by
       have hf:valsB l vs l.length=false:=zew hlt (show (valsB l vs k&&valB (fldK l k) (vlK vs k))=false by rw[z1n hlt,← HV.out,hvb2,Bool.and_false]);unfold roB;rw[hf]
       simp
      have hrn:roN l vs ch=z07:=by unfold roN; rw[hro]; rfl
      have HRO:=hid hro;have HRN:=hid hrn;obtain ⟨z0,z1,z2,z3,z4,z5⟩:=z04 HZ7.out;have zf:=z03 HZ7.out;clear hro hrn hvb2
      go_wp2_with fail
      obtain ⟨wf,hwf,hrw,hbf,hkf⟩:=finN (w:=w) (R:=w.heap.size) (.int .i64 0) (.string { data:= #[] }) (.slice none 0 0) (.int .i64 0) (.int .i64 0) (.slice none 0 0) HZ7.out HB7.out (Nat.le_refl _)
      try rw[hwf]
      obtain ⟨e0,e1,e2,e3,e4,e5⟩:=z04 hrw;exact bodyPost_ret (v:= .tuple #[.agg #[.int .i64 0,.string { data:= #[] },.slice none 0 0,.int .i64 0,.int .i64 0,.slice none 0 0],.bool false]) (by simp[results,Tryz.results15,go_sem,e0,e1,e2,e3,e4,e5]) rfl (by rw[HRO.out,HRN.out]; exact NewNb.none hbf)
    · have HVB7:Hid (valsB l vs (k+1)=true):=hid (show (valsB l vs k&&valB (fldK l k) (vlK vs k))=true by rw[z1n hlt,← HV.out,hvb2,HVB.out]; rfl)
      have HCK:=hid (fun (W:World) (hW:Below w.heap.size w W)=>z40 x c l k hk W (HFL.out.below hW) hl12);obtain ⟨f0,f1,f2⟩:=HX2.out.below HC7.out (by rw[z05]; exact HXL.out.1);clear hvb2;have HVK:Hid (valB (fldK l k) (vlK vs k)=true):=hid (by have:=HVB7.out; unfold valsB at this; rw[Bool.and_eq_true] at this; exact this.2)
      have hW24:(layF l ps0).2.ls.words≤24:=by have:=(z24 l).2; omega
      cases hfc:(l[k]).choice
      · rw[hfc] at f1
        go_upto_region 14 with fail
        have HPK:Hid (fillF l vs ch (k+1)=setF l k v (fillF l vs ch k)):=hid (by
         show (if pickB l k ch=true then _ else _)=_
         rw[if_pos,HV.out];unfold pickB;rw[z1n hlt]
         rw[hfc]; rfl)
        obtain ⟨y,hA1,hyb,hsy⟩:=HSL.out k hlt;subst hA1
        obtain ⟨xb',hxe, -⟩:∃b',some xb=some b'∧True:=⟨xb,rfl,trivial⟩
        have HXN:Hid ((xb.add (k*7)).block∉nb :: bs9):=hid (by
         obtain ⟨x9,h9,he9,hb9, -⟩:=HVS.out.at_ (i:=k) (by rw[HLEN.out]; exact hlt);obtain rfl:=Option.some.inj he9;rw[z05]
         have:=HS4.out; have:=HB3.out.size
         intro hm
         rcases List.mem_cons.1 hm with h8 | h8
         · omega
         · have:=(HBS.out _ h8).1; omega)
        have HPN:Hid (pb∉nb :: bs9):=hid (by
         have:=HS4.out; have:=z00 L3.out
         intro hm
         rcases List.mem_cons.1 hm with h8 | h8
         · omega
         · have:=(HBS.out _ h8).1; omega)
        have HL14:=hid ((HW7.out.block _ (z00 L3.out)).trans L3.out);have HR14:=hid ((HC7.out.block _ (z00 HROW.out)).trans HROW.out);have HB14:=hid (HB3.out.trans (HW7.out.mono HB3.out.size));have HYB:Hid (y.block<W3.heap.size):=hid hyb;have HSY:=hid hsy;have HD14:Hid (Below w7.heap.size w7 w7.drew):=hid ⟨rfl,rfl,rfl,Nat.le_refl _,fun _ _=>rfl⟩;have HO14:=hid ((HO.out.below HC7.out).below HD14.out);have HCD:=hid (HC7.out.trans (HD14.out.mono HC7.out.size));have HSET:=hid (z5u x y c cp1 l (fillF l vs ch k) A cp m k hlt bs9 W3.heap.size Any w7.drew (HFL.out.below (HB14.out.trans (HD14.out.mono HB14.out.size))) HYES.out (z3l l vs ch hW24 k) (z50 l vs ch k).2 (Nat.lt_of_lt_of_le HYB.out (HW7.out.size)) (((HW7.out.cell (p:=y.add k) (by rw[z05]; exact HYB.out))).trans HSY.out) v h (by rw[HV.out]; exact HVK.out) HRK.out HO14.out HND.out (HW7.out.size) (fun b hb=>(HBS.out b hb).1) ((HVA.out.nd.below HCD.out)) HTN.out);clear hyb hsy hxe;refine wp_region_held_drew (S:=(fun V=>OnlyIn (nb :: bs9) w7 V)) (by kernel_rfl) ?_ (fun hH0=>?_)
        · exact OnlyIn.of_below HD14.out
        refine wpAnyH_take (i:=0) (v:=?_) rfl (by kernel_rfl) (by kernel_rfl) (by kernel_rfl) (fun _ _ _ h=>h) (Or.inl ⟨by rfl,?_⟩) (by assumption) ?_
        rotate_left
        · intro w hSw
          (try dsimp only at hSw)
          obtain ⟨u0,u1,u2,u3,u4,u5,u6⟩:=(HVA.out.below HC7.out).cells;have v0:=z01 hSw HXN.out u0;have v1:=z01 (p:=⟨(xb.add (k*7)).block,(xb.add (k*7)).off+1,none⟩) hSw HXN.out u1;have v2:=z01 (p:=⟨(xb.add (k*7)).block,(xb.add (k*7)).off+2,none⟩) hSw HXN.out u2;have v3:=z01 (p:=⟨(xb.add (k*7)).block,(xb.add (k*7)).off+3,none⟩) hSw HXN.out u3;have v4:=z01 (p:=⟨(xb.add (k*7)).block,(xb.add (k*7)).off+4,none⟩) hSw HXN.out u4;have v5:=z01 (p:=⟨(xb.add (k*7)).block,(xb.add (k*7)).off+5,none⟩) hSw HXN.out u5;have v6:=z01 (p:=⟨(xb.add (k*7)).block,(xb.add (k*7)).off+6,none⟩) hSw HXN.out u6;obtain ⟨l0,l1,l2,l3⟩:=z0p ((hSw.block pb (z00 HL14.out) HPN.out).trans HL14.out)
          go_simp
          try with_reducible rfl
        try simp only[List.getElem_toArray,List.getElem_cons_succ,List.getElem_cons_zero,Act.put,List.setIfInBounds_toArray,List.set_cons_zero,List.set_cons_succ]
        refine wpAnyH_take (i:=1) (v:= .agg #[.int .i64 ((layF l ps0).2.ls.words:Int),.int .i64 ((layF l ps0).2.ptrs:Int),.slice (some y) l.length cp1,.int .i64 (tagL l)]) rfl (by kernel_rfl) (by kernel_rfl) (by kernel_rfl) (fun _ _ _ h=>h) (Or.inl ⟨by rfl,?_⟩) (by assumption) ?_
        · intro w hSw
          (try dsimp only at hSw)
          obtain ⟨u0,u1,u2,u3,u4,u5,u6⟩:=(HVA.out.below HC7.out).cells;have v0:=z01 hSw HXN.out u0;have v1:=z01 (p:=⟨(xb.add (k*7)).block,(xb.add (k*7)).off+1,none⟩) hSw HXN.out u1;have v2:=z01 (p:=⟨(xb.add (k*7)).block,(xb.add (k*7)).off+2,none⟩) hSw HXN.out u2;have v3:=z01 (p:=⟨(xb.add (k*7)).block,(xb.add (k*7)).off+3,none⟩) hSw HXN.out u3;have v4:=z01 (p:=⟨(xb.add (k*7)).block,(xb.add (k*7)).off+4,none⟩) hSw HXN.out u4;have v5:=z01 (p:=⟨(xb.add (k*7)).block,(xb.add (k*7)).off+5,none⟩) hSw HXN.out u5;have v6:=z01 (p:=⟨(xb.add (k*7)).block,(xb.add (k*7)).off+6,none⟩) hSw HXN.out u6;obtain ⟨l0,l1,l2,l3⟩:=z0p ((hSw.block pb (z00 HL14.out) HPN.out).trans HL14.out)
          go_simp
        try simp only[List.getElem_toArray,List.getElem_cons_succ,List.getElem_cons_zero,Act.put,List.setIfInBounds_toArray,List.set_cons_zero,List.set_cons_succ]
        refine wpAnyH_take (i:=3) (v:=?_) rfl (by kernel_rfl) (by kernel_rfl) (by kernel_rfl) (fun _ _ _ h=>h) (Or.inl ⟨by rfl,?_⟩) (by assumption) ?_
        rotate_left
        · intro w hSw
          (try dsimp only at hSw)
          obtain ⟨u0,u1,u2,u3,u4,u5,u6⟩:=(HVA.out.below HC7.out).cells;have v0:=z01 hSw HXN.out u0;have v1:=z01 (p:=⟨(xb.add (k*7)).block,(xb.add (k*7)).off+1,none⟩) hSw HXN.out u1;have v2:=z01 (p:=⟨(xb.add (k*7)).block,(xb.add (k*7)).off+2,none⟩) hSw HXN.out u2;have v3:=z01 (p:=⟨(xb.add (k*7)).block,(xb.add (k*7)).off+3,none⟩) hSw HXN.out u3;have v4:=z01 (p:=⟨(xb.add (k*7)).block,(xb.add (k*7)).off+4,none⟩) hSw HXN.out u4;have v5:=z01 (p:=⟨(xb.add (k*7)).block,(xb.add (k*7)).off+5,none⟩) hSw HXN.out u5;have v6:=z01 (p:=⟨(xb.add (k*7)).block,(xb.add (k*7)).off+6,none⟩) hSw HXN.out u6;obtain ⟨l0,l1,l2,l3⟩:=z0p ((hSw.block pb (z00 HL14.out) HPN.out).trans HL14.out)
          go_simp
          try with_reducible rfl
        try simp only[List.getElem_toArray,List.getElem_cons_succ,List.getElem_cons_zero,Act.put,List.setIfInBounds_toArray,List.set_cons_zero,List.set_cons_succ]
        refine wpAnyH_take (i:=4) (v:=?_) rfl (by kernel_rfl) (by kernel_rfl) (by kernel_rfl) (fun _ _ _ h=>h) (Or.inl ⟨by rfl,?_⟩) (by assumption) ?_
        rotate_left
        · intro w hSw
          (try dsimp only at hSw)
          obtain ⟨u0,u1,u2,u3,u4,u5,u6⟩:=(HVA.out.below HC7.out).cells;have v0:=z01 hSw HXN.out u0;have v1:=z01 (p:=⟨(xb.add (k*7)).block,(xb.add (k*7)).off+1,none⟩) hSw HXN.out u1;have v2:=z01 (p:=⟨(xb.add (k*7)).block,(xb.add (k*7)).off+2,none⟩) hSw HXN.out u2;have v3:=z01 (p:=⟨(xb.add (k*7)).block,(xb.add (k*7)).off+3,none⟩) hSw HXN.out u3;have v4:=z01 (p:=⟨(xb.add (k*7)).block,(xb.add (k*7)).off+4,none⟩) hSw HXN.out u4;have v5:=z01 (p:=⟨(xb.add (k*7)).block,(xb.add (k*7)).off+5,none⟩) hSw HXN.out u5;have v6:=z01 (p:=⟨(xb.add (k*7)).block,(xb.add (k*7)).off+6,none⟩) hSw HXN.out u6;obtain ⟨l0,l1,l2,l3⟩:=z0p ((hSw.block pb (z00 HL14.out) HPN.out).trans HL14.out)
          go_simp
          try with_reducible rfl
        try simp only[List.getElem_toArray,List.getElem_cons_succ,List.getElem_cons_zero,Act.put,List.setIfInBounds_toArray,List.set_cons_zero,List.set_cons_succ]
        refine wpAnyH_take (i:=5) (v:=?_) rfl (by kernel_rfl) (by kernel_rfl) (by kernel_rfl) (fun _ _ _ h=>h) (Or.inl ⟨by rfl,?_⟩) (by assumption) ?_
        rotate_left
        · intro w hSw
          (try dsimp only at hSw)
          obtain ⟨u0,u1,u2,u3,u4,u5,u6⟩:=(HVA.out.below HC7.out).cells;have v0:=z01 hSw HXN.out u0;have v1:=z01 (p:=⟨(xb.add (k*7)).block,(xb.add (k*7)).off+1,none⟩) hSw HXN.out u1;have v2:=z01 (p:=⟨(xb.add (k*7)).block,(xb.add (k*7)).off+2,none⟩) hSw HXN.out u2;have v3:=z01 (p:=⟨(xb.add (k*7)).block,(xb.add (k*7)).off+3,none⟩) hSw HXN.out u3;have v4:=z01 (p:=⟨(xb.add (k*7)).block,(xb.add (k*7)).off+4,none⟩) hSw HXN.out u4;have v5:=z01 (p:=⟨(xb.add (k*7)).block,(xb.add (k*7)).off+5,none⟩) hSw HXN.out u5;have v6:=z01 (p:=⟨(xb.add (k*7)).block,(xb.add (k*7)).off+6,none⟩) hSw HXN.out u6;obtain ⟨l0,l1,l2,l3⟩:=z0p ((hSw.block pb (z00 HL14.out) HPN.out).trans HL14.out)
          go_simp
          try with_reducible rfl
        try simp only[List.getElem_toArray,List.getElem_cons_succ,List.getElem_cons_zero,Act.put,List.setIfInBounds_toArray,List.set_cons_zero,List.set_cons_succ]
        refine wpAnyH_take (i:=6) (v:=?_) rfl (by kernel_rfl) (by kernel_rfl) (by kernel_rfl) (fun _ _ _ h=>h) (Or.inl ⟨by rfl,?_⟩) (by assumption) ?_
        rotate_left
        · intro w hSw
          (try dsimp only at hSw)
          obtain ⟨u0,u1,u2,u3,u4,u5,u6⟩:=(HVA.out.below HC7.out).cells;have v0:=z01 hSw HXN.out u0;have v1:=z01 (p:=⟨(xb.add (k*7)).block,(xb.add (k*7)).off+1,none⟩) hSw HXN.out u1;have v2:=z01 (p:=⟨(xb.add (k*7)).block,(xb.add (k*7)).off+2,none⟩) hSw HXN.out u2;have v3:=z01 (p:=⟨(xb.add (k*7)).block,(xb.add (k*7)).off+3,none⟩) hSw HXN.out u3;have v4:=z01 (p:=⟨(xb.add (k*7)).block,(xb.add (k*7)).off+4,none⟩) hSw HXN.out u4;have v5:=z01 (p:=⟨(xb.add (k*7)).block,(xb.add (k*7)).off+5,none⟩) hSw HXN.out u5;have v6:=z01 (p:=⟨(xb.add (k*7)).block,(xb.add (k*7)).off+6,none⟩) hSw HXN.out u6;obtain ⟨l0,l1,l2,l3⟩:=z0p ((hSw.block pb (z00 HL14.out) HPN.out).trans HL14.out)
          go_simp
          try with_reducible rfl
        try simp only[List.getElem_toArray,List.getElem_cons_succ,List.getElem_cons_zero,Act.put,List.setIfInBounds_toArray,List.set_cons_zero,List.set_cons_succ]
        refine wpAnyH_take (i:=7) (v:= .agg #[.int .i64 v.num,.int .i64 v.nd.kind,.string v.nd.data,.slice h.A v.nd.ptrs.length h.a,.int .i64 v.nd.size,.int .i64 v.nd.count,.slice h.B v.nd.items.length h.b]) rfl (by kernel_rfl) (by kernel_rfl) (by kernel_rfl) (fun _ _ _ h=>h) (Or.inl ⟨by rfl,?_⟩) (by assumption) ?_
        · intro w hSw
          (try dsimp only at hSw)
          obtain ⟨u0,u1,u2,u3,u4,u5,u6⟩:=(HVA.out.below HC7.out).cells;have v0:=z01 hSw HXN.out u0;have v1:=z01 (p:=⟨(xb.add (k*7)).block,(xb.add (k*7)).off+1,none⟩) hSw HXN.out u1;have v2:=z01 (p:=⟨(xb.add (k*7)).block,(xb.add (k*7)).off+2,none⟩) hSw HXN.out u2;have v3:=z01 (p:=⟨(xb.add (k*7)).block,(xb.add (k*7)).off+3,none⟩) hSw HXN.out u3;have v4:=z01 (p:=⟨(xb.add (k*7)).block,(xb.add (k*7)).off+4,none⟩) hSw HXN.out u4;have v5:=z01 (p:=⟨(xb.add (k*7)).block,(xb.add (k*7)).off+5,none⟩) hSw HXN.out u5;have v6:=z01 (p:=⟨(xb.add (k*7)).block,(xb.add (k*7)).off+6,none⟩) hSw HXN.out u6;obtain ⟨l0,l1,l2,l3⟩:=z0p ((hSw.block pb (z00 HL14.out) HPN.out).trans HL14.out)
          go_simp
        try simp only[List.getElem_toArray,List.getElem_cons_succ,List.getElem_cons_zero,Act.put,List.setIfInBounds_toArray,List.set_cons_zero,List.set_cons_succ]
        obtain ⟨n0,n1,n2,n3,n4,n5⟩:=z04 HR14.out;refine wpAnyH_ready (rs:= [2]) (by kernel_rfl) (by simp) ?_;refine AllReadyH.cons rfl (fun K hK=>?_) AllReadyH.nil
        go_simp
        refine hK.out _ _ (OnlyIn.of_below HD14.out) (fun hHn=>?_);clear hK K hH0 n0 n1 n2 n3 n4 n5
        try simp only[List.getElem_toArray,List.getElem_cons_succ,List.getElem_cons_zero,Act.put,List.setIfInBounds_toArray,List.set_cons_zero,List.set_cons_succ]
        refine wpAnyH_ready (rs:= [8]) (by kernel_rfl) (by simp) ?_;refine AllReadyH.cons rfl (fun K hK=>?_) AllReadyH.nil
        go_simp
        go_at_call 52
        refine HSET.out.mono ?_;rintro e w10 ⟨bs10,rfl,ho10,hnd10,hbs10,hon10⟩;have HR10:=hid ((hon10.block _ (z00 HR14.out) (fun hm=>(HBS.out nb hm).2 rfl)).trans HR14.out);have HO10:=hid ho10;have HND10:=hid hnd10;have HBS10:=hid hbs10;have HON10:=hid hon10;clear ho10 hnd10 hbs10 hon10;have HS10:Hid (OnlyIn (nb :: bs9) w7 w10):=hid ((OnlyIn.of_below HD14.out).trans (HON10.out.mono (fun b hb=> .inl (List.mem_cons_of_mem _ hb))));have HBW10:Hid (Below W3.heap.size W3 w10):=hid ((HW7.out.trans (HD14.out.mono HW7.out.size)).trans (HON10.out.below HW7.out.size (fun b hb=>(HBS.out b hb).1)));have HNL:Hid (nb<w7.heap.size):=hid (z00 HR14.out);have HWS:Hid (W3.heap.size≤w7.heap.size):=hid HW7.out.size
        go_wp2_with fail
        refine hK.out _ _ HS10.out (fun hHm=>?_);clear hK K hHn
        try simp only[List.getElem_toArray,List.getElem_cons_succ,List.getElem_cons_zero,Act.put,List.setIfInBounds_toArray,List.set_cons_zero,List.set_cons_succ]
        obtain ⟨n0,n1,n2,n3,n4,n5⟩:=z04 HR10.out;have nf:=z03 HR10.out;refine wpAnyH_ready (rs:= [9]) (by kernel_rfl) (by simp) ?_;refine AllReadyH.cons rfl (fun K hK=>?_) AllReadyH.nil
        go_simp
        obtain ⟨w9,hw9,hr9,ho9⟩:=finN6 (.int .i64 1) (.string ⟨(setF l k v (fillF l vs ch k)).d.toArray⟩) (.slice A (setF l k v (fillF l vs ch k)).p.length cp) (.int .i64 0) (.int .i64 0) (.slice none 0 0) HR10.out;rw[hw9];refine hK.out _ _ (HS10.out.trans (ho9.mono (fun b hb=> .inl (by simp at hb; rw[hb]; exact List.mem_cons_self)))) (fun hHl=>?_);have HR9:=hid hr9;have HO9:=hid ho9;clear hK K hHm n0 n1 n2 n3 n4 n5 nf hw9 hr9 ho9
        try simp only[List.getElem_toArray,List.getElem_cons_succ,List.getElem_cons_zero,Act.put,List.setIfInBounds_toArray,List.set_cons_zero,List.set_cons_succ]
        refine wpAnyH_done (by kernel_rfl) ?_ _;clear hHl
        have HB10:Hid (∀b∈bs10,W3.heap.size≤b∧b≠nb):=hid (fun b hb=>by
         rcases HBS10.out b hb with h9 | h9
         · exact HBS.out b h9
         · have h8:w7.heap.size≤b:=h9
           have:=HNL.out; have:=HWS.out
           exact ⟨by omega,by omega⟩)
        go_wp2_with fail
        go_roundw
        case rel=>exact ⟨k+1,by go_num,by omega,HVB7,hid ⟨bs10,by rw[HPK.out]; exact HR9.out,by rw[HPK.out]; exact HO10.out.frame _ _ _ _ _ (fun b hb=>HO9.out.block b (HO10.out.lt _ _ _ _ _ b hb).1 (by have:=(HB10.out b hb).2; simpa using this)),HND10.out,HB10.out⟩,hid (HBW10.out.trans (z0r HO9.out (R:=W3.heap.size) HBW10.out.size HS4.out))⟩
        case measure=>simp[intOf]; omega
      · rw[hfc] at f1
        go_wp2_with fail
        refine (HCK.out _ HB7.out).mono ?_;rintro e w8 ⟨rfl,hb8⟩;have HC8:=hid (HC7.out.trans (hb8.mono HC7.out.size));have HW8:=hid (HBW.out.trans (HC8.out.mono HBW.out.size));clear hb8;have hplk:=z4k l k;generalize hpk:plcN l k=pk at *
        by_cases hpc:((pk:Nat):Int)=ch
        · have hpc2:(((pk:Nat):Int)==ch)=true:=by rw[beq_iff_eq]; exact hpc
          go_upto_region 14 with fail
          have HPK:Hid (fillF l vs ch (k+1)=setF l k v (fillF l vs ch k)):=hid (by
           show (if pickB l k ch=true then _ else _)=_
           rw[if_pos,HV.out];unfold pickB;rw[z1n hlt]
           rw[hfc,hpk]; simpa using hpc)
          obtain ⟨y,hA1,hyb,hsy⟩:=HSL.out k hlt;subst hA1
          obtain ⟨xb',hxe, -⟩:∃b',some xb=some b'∧True:=⟨xb,rfl,trivial⟩
          have HXN:Hid ((xb.add (k*7)).block∉nb :: bs9):=hid (by
           obtain ⟨x9,h9,he9,hb9, -⟩:=HVS.out.at_ (i:=k) (by rw[HLEN.out]; exact hlt);obtain rfl:=Option.some.inj he9;rw[z05]
           have:=HS4.out; have:=HB3.out.size
           intro hm
           rcases List.mem_cons.1 hm with h8 | h8
           · omega
           · have:=(HBS.out _ h8).1; omega)
          have HPN:Hid (pb∉nb :: bs9):=hid (by
           have:=HS4.out; have:=z00 L3.out
           intro hm
           rcases List.mem_cons.1 hm with h8 | h8
           · omega
           · have:=(HBS.out _ h8).1; omega)
          have HL14:=hid ((HW8.out.block _ (z00 L3.out)).trans L3.out);have HR14:=hid ((HC8.out.block _ (z00 HROW.out)).trans HROW.out);have HB14:=hid (HB3.out.trans (HW8.out.mono HB3.out.size));have HYB:Hid (y.block<W3.heap.size):=hid hyb;have HSY:=hid hsy;have HD14:Hid (Below w8.heap.size w8 w8.drew):=hid ⟨rfl,rfl,rfl,Nat.le_refl _,fun _ _=>rfl⟩;have HO14:=hid ((HO.out.below HC8.out).below HD14.out);have HCD:=hid (HC8.out.trans (HD14.out.mono HC8.out.size));have HSET:=hid (z5u x y c cp1 l (fillF l vs ch k) A cp m k hlt bs9 W3.heap.size Any w8.drew (HFL.out.below (HB14.out.trans (HD14.out.mono HB14.out.size))) HYES.out (z3l l vs ch hW24 k) (z50 l vs ch k).2 (Nat.lt_of_lt_of_le HYB.out (HW8.out.size)) (((HW8.out.cell (p:=y.add k) (by rw[z05]; exact HYB.out))).trans HSY.out) v h (by rw[HV.out]; exact HVK.out) HRK.out HO14.out HND.out (HW8.out.size) (fun b hb=>(HBS.out b hb).1) ((HVA.out.nd.below HCD.out)) HTN.out);clear hyb hsy hxe;refine wp_region_held_drew (S:=(fun V=>OnlyIn (nb :: bs9) w8 V)) (by kernel_rfl) ?_ (fun hH0=>?_)
          · exact OnlyIn.of_below HD14.out
          refine wpAnyH_take (i:=0) (v:=?_) rfl (by kernel_rfl) (by kernel_rfl) (by kernel_rfl) (fun _ _ _ h=>h) (Or.inl ⟨by rfl,?_⟩) (by assumption) ?_
          rotate_left
          · intro w hSw
            (try dsimp only at hSw)
            obtain ⟨u0,u1,u2,u3,u4,u5,u6⟩:=(HVA.out.below HC8.out).cells;have v0:=z01 hSw HXN.out u0;have v1:=z01 (p:=⟨(xb.add (k*7)).block,(xb.add (k*7)).off+1,none⟩) hSw HXN.out u1;have v2:=z01 (p:=⟨(xb.add (k*7)).block,(xb.add (k*7)).off+2,none⟩) hSw HXN.out u2;have v3:=z01 (p:=⟨(xb.add (k*7)).block,(xb.add (k*7)).off+3,none⟩) hSw HXN.out u3;have v4:=z01 (p:=⟨(xb.add (k*7)).block,(xb.add (k*7)).off+4,none⟩) hSw HXN.out u4;have v5:=z01 (p:=⟨(xb.add (k*7)).block,(xb.add (k*7)).off+5,none⟩) hSw HXN.out u5;have v6:=z01 (p:=⟨(xb.add (k*7)).block,(xb.add (k*7)).off+6,none⟩) hSw HXN.out u6;obtain ⟨l0,l1,l2,l3⟩:=z0p ((hSw.block pb (z00 HL14.out) HPN.out).trans HL14.out)
            go_simp
            try with_reducible rfl
          try simp only[List.getElem_toArray,List.getElem_cons_succ,List.getElem_cons_zero,Act.put,List.setIfInBounds_toArray,List.set_cons_zero,List.set_cons_succ]
          refine wpAnyH_take (i:=1) (v:= .agg #[.int .i64 ((layF l ps0).2.ls.words:Int),.int .i64 ((layF l ps0).2.ptrs:Int),.slice (some y) l.length cp1,.int .i64 (tagL l)]) rfl (by kernel_rfl) (by kernel_rfl) (by kernel_rfl) (fun _ _ _ h=>h) (Or.inl ⟨by rfl,?_⟩) (by assumption) ?_
          · intro w hSw
            (try dsimp only at hSw)
            obtain ⟨u0,u1,u2,u3,u4,u5,u6⟩:=(HVA.out.below HC8.out).cells;have v0:=z01 hSw HXN.out u0;have v1:=z01 (p:=⟨(xb.add (k*7)).block,(xb.add (k*7)).off+1,none⟩) hSw HXN.out u1;have v2:=z01 (p:=⟨(xb.add (k*7)).block,(xb.add (k*7)).off+2,none⟩) hSw HXN.out u2;have v3:=z01 (p:=⟨(xb.add (k*7)).block,(xb.add (k*7)).off+3,none⟩) hSw HXN.out u3;have v4:=z01 (p:=⟨(xb.add (k*7)).block,(xb.add (k*7)).off+4,none⟩) hSw HXN.out u4;have v5:=z01 (p:=⟨(xb.add (k*7)).block,(xb.add (k*7)).off+5,none⟩) hSw HXN.out u5;have v6:=z01 (p:=⟨(xb.add (k*7)).block,(xb.add (k*7)).off+6,none⟩) hSw HXN.out u6;obtain ⟨l0,l1,l2,l3⟩:=z0p ((hSw.block pb (z00 HL14.out) HPN.out).trans HL14.out)
            go_simp
          try simp only[List.getElem_toArray,List.getElem_cons_succ,List.getElem_cons_zero,Act.put,List.setIfInBounds_toArray,List.set_cons_zero,List.set_cons_succ]
          refine wpAnyH_take (i:=3) (v:=?_) rfl (by kernel_rfl) (by kernel_rfl) (by kernel_rfl) (fun _ _ _ h=>h) (Or.inl ⟨by rfl,?_⟩) (by assumption) ?_
          rotate_left
          · intro w hSw
            (try dsimp only at hSw)
            obtain ⟨u0,u1,u2,u3,u4,u5,u6⟩:=(HVA.out.below HC8.out).cells;have v0:=z01 hSw HXN.out u0;have v1:=z01 (p:=⟨(xb.add (k*7)).block,(xb.add (k*7)).off+1,none⟩) hSw HXN.out u1;have v2:=z01 (p:=⟨(xb.add (k*7)).block,(xb.add (k*7)).off+2,none⟩) hSw HXN.out u2;have v3:=z01 (p:=⟨(xb.add (k*7)).block,(xb.add (k*7)).off+3,none⟩) hSw HXN.out u3;have v4:=z01 (p:=⟨(xb.add (k*7)).block,(xb.add (k*7)).off+4,none⟩) hSw HXN.out u4;have v5:=z01 (p:=⟨(xb.add (k*7)).block,(xb.add (k*7)).off+5,none⟩) hSw HXN.out u5;have v6:=z01 (p:=⟨(xb.add (k*7)).block,(xb.add (k*7)).off+6,none⟩) hSw HXN.out u6;obtain ⟨l0,l1,l2,l3⟩:=z0p ((hSw.block pb (z00 HL14.out) HPN.out).trans HL14.out)
            go_simp
            try with_reducible rfl
          try simp only[List.getElem_toArray,List.getElem_cons_succ,List.getElem_cons_zero,Act.put,List.setIfInBounds_toArray,List.set_cons_zero,List.set_cons_succ]
          refine wpAnyH_take (i:=4) (v:=?_) rfl (by kernel_rfl) (by kernel_rfl) (by kernel_rfl) (fun _ _ _ h=>h) (Or.inl ⟨by rfl,?_⟩) (by assumption) ?_
          rotate_left
          · intro w hSw
            (try dsimp only at hSw)
            obtain ⟨u0,u1,u2,u3,u4,u5,u6⟩:=(HVA.out.below HC8.out).cells;have v0:=z01 hSw HXN.out u0;have v1:=z01 (p:=⟨(xb.add (k*7)).block,(xb.add (k*7)).off+1,none⟩) hSw HXN.out u1;have v2:=z01 (p:=⟨(xb.add (k*7)).block,(xb.add (k*7)).off+2,none⟩) hSw HXN.out u2;have v3:=z01 (p:=⟨(xb.add (k*7)).block,(xb.add (k*7)).off+3,none⟩) hSw HXN.out u3;have v4:=z01 (p:=⟨(xb.add (k*7)).block,(xb.add (k*7)).off+4,none⟩) hSw HXN.out u4;have v5:=z01 (p:=⟨(xb.add (k*7)).block,(xb.add (k*7)).off+5,none⟩) hSw HXN.out u5;have v6:=z01 (p:=⟨(xb.add (k*7)).block,(xb.add (k*7)).off+6,none⟩) hSw HXN.out u6;obtain ⟨l0,l1,l2,l3⟩:=z0p ((hSw.block pb (z00 HL14.out) HPN.out).trans HL14.out)
            go_simp
            try with_reducible rfl
          try simp only[List.getElem_toArray,List.getElem_cons_succ,List.getElem_cons_zero,Act.put,List.setIfInBounds_toArray,List.set_cons_zero,List.set_cons_succ]
          refine wpAnyH_take (i:=5) (v:=?_) rfl (by kernel_rfl) (by kernel_rfl) (by kernel_rfl) (fun _ _ _ h=>h) (Or.inl ⟨by rfl,?_⟩) (by assumption) ?_
          rotate_left
          · intro w hSw
            (try dsimp only at hSw)
            obtain ⟨u0,u1,u2,u3,u4,u5,u6⟩:=(HVA.out.below HC8.out).cells;have v0:=z01 hSw HXN.out u0;have v1:=z01 (p:=⟨(xb.add (k*7)).block,(xb.add (k*7)).off+1,none⟩) hSw HXN.out u1;have v2:=z01 (p:=⟨(xb.add (k*7)).block,(xb.add (k*7)).off+2,none⟩) hSw HXN.out u2;have v3:=z01 (p:=⟨(xb.add (k*7)).block,(xb.add (k*7)).off+3,none⟩) hSw HXN.out u3;have v4:=z01 (p:=⟨(xb.add (k*7)).block,(xb.add (k*7)).off+4,none⟩) hSw HXN.out u4;have v5:=z01 (p:=⟨(xb.add (k*7)).block,(xb.add (k*7)).off+5,none⟩) hSw HXN.out u5;have v6:=z01 (p:=⟨(xb.add (k*7)).block,(xb.add (k*7)).off+6,none⟩) hSw HXN.out u6;obtain ⟨l0,l1,l2,l3⟩:=z0p ((hSw.block pb (z00 HL14.out) HPN.out).trans HL14.out)
            go_simp
            try with_reducible rfl
          try simp only[List.getElem_toArray,List.getElem_cons_succ,List.getElem_cons_zero,Act.put,List.setIfInBounds_toArray,List.set_cons_zero,List.set_cons_succ]
          refine wpAnyH_take (i:=6) (v:=?_) rfl (by kernel_rfl) (by kernel_rfl) (by kernel_rfl) (fun _ _ _ h=>h) (Or.inl ⟨by rfl,?_⟩) (by assumption) ?_
          rotate_left
          · intro w hSw
            (try dsimp only at hSw)
            obtain ⟨u0,u1,u2,u3,u4,u5,u6⟩:=(HVA.out.below HC8.out).cells;have v0:=z01 hSw HXN.out u0;have v1:=z01 (p:=⟨(xb.add (k*7)).block,(xb.add (k*7)).off+1,none⟩) hSw HXN.out u1;have v2:=z01 (p:=⟨(xb.add (k*7)).block,(xb.add (k*7)).off+2,none⟩) hSw HXN.out u2;have v3:=z01 (p:=⟨(xb.add (k*7)).block,(xb.add (k*7)).off+3,none⟩) hSw HXN.out u3;have v4:=z01 (p:=⟨(xb.add (k*7)).block,(xb.add (k*7)).off+4,none⟩) hSw HXN.out u4;have v5:=z01 (p:=⟨(xb.add (k*7)).block,(xb.add (k*7)).off+5,none⟩) hSw HXN.out u5;have v6:=z01 (p:=⟨(xb.add (k*7)).block,(xb.add (k*7)).off+6,none⟩) hSw HXN.out u6;obtain ⟨l0,l1,l2,l3⟩:=z0p ((hSw.block pb (z00 HL14.out) HPN.out).trans HL14.out)
            go_simp
            try with_reducible rfl
          try simp only[List.getElem_toArray,List.getElem_cons_succ,List.getElem_cons_zero,Act.put,List.setIfInBounds_toArray,List.set_cons_zero,List.set_cons_succ]
          refine wpAnyH_take (i:=7) (v:= .agg #[.int .i64 v.num,.int .i64 v.nd.kind,.string v.nd.data,.slice h.A v.nd.ptrs.length h.a,.int .i64 v.nd.size,.int .i64 v.nd.count,.slice h.B v.nd.items.length h.b]) rfl (by kernel_rfl) (by kernel_rfl) (by kernel_rfl) (fun _ _ _ h=>h) (Or.inl ⟨by rfl,?_⟩) (by assumption) ?_
          · intro w hSw
            (try dsimp only at hSw)
            obtain ⟨u0,u1,u2,u3,u4,u5,u6⟩:=(HVA.out.below HC8.out).cells;have v0:=z01 hSw HXN.out u0;have v1:=z01 (p:=⟨(xb.add (k*7)).block,(xb.add (k*7)).off+1,none⟩) hSw HXN.out u1;have v2:=z01 (p:=⟨(xb.add (k*7)).block,(xb.add (k*7)).off+2,none⟩) hSw HXN.out u2;have v3:=z01 (p:=⟨(xb.add (k*7)).block,(xb.add (k*7)).off+3,none⟩) hSw HXN.out u3;have v4:=z01 (p:=⟨(xb.add (k*7)).block,(xb.add (k*7)).off+4,none⟩) hSw HXN.out u4;have v5:=z01 (p:=⟨(xb.add (k*7)).block,(xb.add (k*7)).off+5,none⟩) hSw HXN.out u5;have v6:=z01 (p:=⟨(xb.add (k*7)).block,(xb.add (k*7)).off+6,none⟩) hSw HXN.out u6;obtain ⟨l0,l1,l2,l3⟩:=z0p ((hSw.block pb (z00 HL14.out) HPN.out).trans HL14.out)
            go_simp
          try simp only[List.getElem_toArray,List.getElem_cons_succ,List.getElem_cons_zero,Act.put,List.setIfInBounds_toArray,List.set_cons_zero,List.set_cons_succ]
          obtain ⟨n0,n1,n2,n3,n4,n5⟩:=z04 HR14.out;refine wpAnyH_ready (rs:= [2]) (by kernel_rfl) (by simp) ?_;refine AllReadyH.cons rfl (fun K hK=>?_) AllReadyH.nil
          go_simp
          refine hK.out _ _ (OnlyIn.of_below HD14.out) (fun hHn=>?_);clear hK K hH0 n0 n1 n2 n3 n4 n5
          try simp only[List.getElem_toArray,List.getElem_cons_succ,List.getElem_cons_zero,Act.put,List.setIfInBounds_toArray,List.set_cons_zero,List.set_cons_succ]
          refine wpAnyH_ready (rs:= [8]) (by kernel_rfl) (by simp) ?_;refine AllReadyH.cons rfl (fun K hK=>?_) AllReadyH.nil
          go_simp
          go_at_call 52
          refine HSET.out.mono ?_;rintro e w10 ⟨bs10,rfl,ho10,hnd10,hbs10,hon10⟩;have HR10:=hid ((hon10.block _ (z00 HR14.out) (fun hm=>(HBS.out nb hm).2 rfl)).trans HR14.out);have HO10:=hid ho10;have HND10:=hid hnd10;have HBS10:=hid hbs10;have HON10:=hid hon10;clear ho10 hnd10 hbs10 hon10;have HS10:Hid (OnlyIn (nb :: bs9) w8 w10):=hid ((OnlyIn.of_below HD14.out).trans (HON10.out.mono (fun b hb=> .inl (List.mem_cons_of_mem _ hb))));have HBW10:Hid (Below W3.heap.size W3 w10):=hid ((HW8.out.trans (HD14.out.mono HW8.out.size)).trans (HON10.out.below HW8.out.size (fun b hb=>(HBS.out b hb).1)));have HNL:Hid (nb<w8.heap.size):=hid (z00 HR14.out);have HWS:Hid (W3.heap.size≤w8.heap.size):=hid HW8.out.size
          go_wp2_with fail
          refine hK.out _ _ HS10.out (fun hHm=>?_);clear hK K hHn
          try simp only[List.getElem_toArray,List.getElem_cons_succ,List.getElem_cons_zero,Act.put,List.setIfInBounds_toArray,List.set_cons_zero,List.set_cons_succ]
          obtain ⟨n0,n1,n2,n3,n4,n5⟩:=z04 HR10.out;have nf:=z03 HR10.out;refine wpAnyH_ready (rs:= [9]) (by kernel_rfl) (by simp) ?_;refine AllReadyH.cons rfl (fun K hK=>?_) AllReadyH.nil
          go_simp
          obtain ⟨w9,hw9,hr9,ho9⟩:=finN6 (.int .i64 1) (.string ⟨(setF l k v (fillF l vs ch k)).d.toArray⟩) (.slice A (setF l k v (fillF l vs ch k)).p.length cp) (.int .i64 0) (.int .i64 0) (.slice none 0 0) HR10.out;rw[hw9];refine hK.out _ _ (HS10.out.trans (ho9.mono (fun b hb=> .inl (by simp at hb; rw[hb]; exact List.mem_cons_self)))) (fun hHl=>?_);have HR9:=hid hr9;have HO9:=hid ho9;clear hK K hHm n0 n1 n2 n3 n4 n5 nf hw9 hr9 ho9
          try simp only[List.getElem_toArray,List.getElem_cons_succ,List.getElem_cons_zero,Act.put,List.setIfInBounds_toArray,List.set_cons_zero,List.set_cons_succ]
          refine wpAnyH_done (by kernel_rfl) ?_ _;clear hHl
          have HB10:Hid (∀b∈bs10,W3.heap.size≤b∧b≠nb):=hid (fun b hb=>by
           rcases HBS10.out b hb with h9 | h9
           · exact HBS.out b h9
           · have h8:w8.heap.size≤b:=h9
             have:=HNL.out; have:=HWS.out
             exact ⟨by omega,by omega⟩)
          go_wp2_with fail
          go_roundw
          case rel=>exact ⟨k+1,by go_num,by omega,HVB7,hid ⟨bs10,by rw[HPK.out]; exact HR9.out,by rw[HPK.out]; exact HO10.out.frame _ _ _ _ _ (fun b hb=>HO9.out.block b (HO10.out.lt _ _ _ _ _ b hb).1 (by have:=(HB10.out b hb).2; simpa using this)),HND10.out,HB10.out⟩,hid (HBW10.out.trans (z0r HO9.out (R:=W3.heap.size) HBW10.out.size HS4.out))⟩
          case measure=>simp[intOf]; omega
        · have HFK:Hid (fillF l vs ch (k+1)=fillF l vs ch k):=hid (by
           show (if pickB l k ch=true then _ else _)=_
           rw[if_neg];unfold pickB;rw[z1n hlt,hfc,hpk]
           simpa using hpc)
          have hpc2:(((pk:Nat):Int)==ch)=false:=by rw[beq_eq_false_iff_ne]; exact hpc
          clear hfc hpk
          go_wp2_with fail
          go_roundw
          case rel=>exact ⟨k+1,by go_num,by omega,HVB7,hid ⟨bs9,by rw[HFK.out]; exact (HC8.out.block _ (z00 HROW.out)).trans HROW.out,by rw[HFK.out]; exact HO.out.below HC8.out,HND.out,HBS.out⟩,HW8⟩
          case measure=>simp[intOf]; omega
  · have hkl:k=l.length:=by omega
    subst hkl
    have hN9:OwN wr (m+2) (recN (fillF l vs ch l.length)) ⟨A,cp,none,0⟩ bs9:=⟨by
     show (⟨(fillF l vs ch l.length).d.toArray⟩:ByteArray).size≤_
     rw[ba_sz,z3l l vs ch (by omega) l.length];unfold maxLen
     omega,bs9,[],(List.append_nil _).symm,HO.out,own0 wr (m+2)⟩
    have HNK:=hid (z3m (m+2) _ _ wr _ hN9.clean (by
     rw[z19 hN9.clean]
     exact zdd l vs ch hl12 HSV.out HLEN.out))
    have HN9:=hid hN9;have HPW:Hid (w.heap.size<W3.heap.size):=hid (by have:=z00 L3.out; have:=HPB.out; omega);have HRX:=hid HROW.out;obtain ⟨n0,n1,n2,n3,n4,n5⟩:=z04 HRX.out;clear hN9
    go_wp2_with fail
    refine HNK.out.mono ?_;rintro e w7 ⟨rfl,hb7⟩;have HB7:=hid (HBT.out.trans (hb7.mono HBT.out.size));have HW7:=hid (HBW.out.trans (hb7.mono HBW.out.size));have HZ7:=hid ((HW7.out.block _ (z00 X3.out)).trans X3.out);have HR7:=hid ((hb7.block _ (z00 HROW.out)).trans HROW.out);have HN7:=hid (HN9.out.below hb7);have HL7:=hid hb7.size;clear hb7 n0 n1 n2 n3 n4 n5;obtain ⟨z0,z1,z2,z3,z4,z5⟩:=z04 HZ7.out;have zf:=z03 HZ7.out;obtain ⟨n0,n1,n2,n3,n4,n5⟩:=z04 HR7.out;cases hnk:z0l (recN (fillF l vs ch l.length))
    · have hro:roB l vs ch=false:=by unfold roB; rw[hnk]; simp
      have hrn:roN l vs ch=z07:=by unfold roN; rw[hro]; rfl
      have HRO:=hid hro;have HRN:=hid hrn;clear hro hrn hnk
      go_wp2_with fail
      obtain ⟨wf,hwf,hrw,hbf,hkf⟩:=finN (w:=w) (R:=w.heap.size) (.int .i64 0) (.string { data:= #[] }) (.slice none 0 0) (.int .i64 0) (.int .i64 0) (.slice none 0 0) HZ7.out HB7.out (Nat.le_refl _)
      try rw[hwf]
      obtain ⟨e0,e1,e2,e3,e4,e5⟩:=z04 hrw;exact bodyPost_ret (v:= .tuple #[.agg #[.int .i64 0,.string { data:= #[] },.slice none 0 0,.int .i64 0,.int .i64 0,.slice none 0 0],.bool false]) (by simp[results,Tryz.results15,go_sem,e0,e1,e2,e3,e4,e5]) rfl (by rw[HRO.out,HRN.out]; exact NewNb.none hbf)
    · have hro:roB l vs ch=true:=by unfold roB; rw[hnk,HYES.out,HVB.out,HCH.out,HLEN.out]; simp
      have hrn:roN l vs ch=recN (fillF l vs ch l.length):=by unfold roN; rw[hro]; rfl
      have HRO:=hid hro;have HRN:=hid hrn;clear hro hrn hnk
      go_wp2_with fail
      obtain ⟨w9,hw9,hr9,ho9⟩:=finN6 (.int .i64 1) (.string ⟨(fillF l vs ch l.length).d.toArray⟩) (.slice A (fillF l vs ch l.length).p.length cp) (.int .i64 0) (.int .i64 0) (.slice none 0 0) HZ7.out
      try rw[hw9]
      obtain ⟨e0,e1,e2,e3,e4,e5⟩:=z04 hr9;have hpw:=HPW.out
      exact bodyPost_ret (v:= .tuple #[.agg #[.int .i64 1,.string ⟨(fillF l vs ch l.length).d.toArray⟩,.slice A (fillF l vs ch l.length).p.length cp,.int .i64 0,.int .i64 0,.slice none 0 0],.bool true]) (by simp[results,Tryz.results15,go_sem,e0,e1,e2,e3,e4,e5]) rfl (by
       rw[HRO.out,HRN.out]
       exact ⟨⟨A,cp,none,0⟩,bs9,rfl,HN7.out.frame (fun b hb=>ho9.block b (HN7.out.lt b hb).1 (by have:=(HBS.out b hb).1; simp; omega)),HND.out,fun b hb=>by have:=(HBS.out b hb).1; omega,HB7.out.trans (z0r ho9 (R:=w.heap.size) HB7.out.size (Nat.le_refl _))⟩)
end Go.Proofs.YtblcibgphccfkaaGreatDoor
