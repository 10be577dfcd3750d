/- Texts of the proof of the law FnCanonSent, side by side: part 10. -/
import Derived.Test.YtlbfffokkhccaaaGreatDoorMCanonSent09
set_option maxHeartbeats 8000000
set_option maxRecDepth 100000
open Go.Lib (hid)
namespace Go.Proofs.YtlbfffokkhccaaaGreatDoor
open Go.RowKit Go.Deep
theorem kcR {V V':World}{a:Addr}{v:Value}(hb:Below V.heap.size V V')(h:V.cell? a=some v):V'.cell? a=some v:=(hb.cell (World.block_lt_of_cell? V a h)).trans h
theorem al_sz (w:World)(o:Obj):(w.alloc o).heap.size=w.heap.size+1:=by simp
theorem al5 (w:World)(x y z u v:Array Value)(T1 T2 T3 T4 T5:TypeId)(W:World)(hW:W=((((w.alloc (.cells x T1)).alloc (.cells y T2)).alloc (.cells z T3)).alloc (.cells u T4)).alloc (.cells v T5)):Below w.heap.size w W∧W.heap[w.heap.size]? =some (.cells x T1 (0,0))∧W.heap[w.heap.size+1]? =some (.cells y T2 (0,0))∧W.heap[w.heap.size+1+1]? =some (.cells z T3 (0,0))∧W.heap[w.heap.size+1+1+1]? =some (.cells u T4 (0,0))∧W.heap[w.heap.size+1+1+1+1]? =some (.cells v T5 (0,0)):=by
 obtain ⟨h1,h2,h3,h4⟩:=al3 w x y z T1 T2 T3
 have hs:(((w.alloc (.cells x T1)).alloc (.cells y T2)).alloc (.cells z T3)).heap.size=w.heap.size+1+1+1:=by rw[al_sz,al_sz,al_sz]
 generalize ((w.alloc (.cells x T1)).alloc (.cells y T2)).alloc (.cells z T3)=V at *;have hb:=((Below.refl V.heap.size V).alloc (Nat.le_refl _) (.cells u T4)).alloc (by simp) (.cells v T5);rw[← hW] at hb
 have r3:W.heap[V.heap.size]? =some (.cells u T4 (0,0)):=by rw[hW]; exact heap_alloc2_old V _ _
 have r4:W.heap[V.heap.size+1]? =some (.cells v T5 (0,0)):=by rw[hW]; exact heap_alloc2_new V _ _
 rw[hs] at r3 r4;exact ⟨h1.trans (hb.mono (by omega)),(hb.block _ (by omega)).trans h2,(hb.block _ (by omega)).trans h3,(hb.block _ (by omega)).trans h4,r3,r4⟩
theorem zlt (l ws:Nat):(((l*ws:Nat):Int))=(l:Int)*(ws:Int):=by rw[Int.natCast_mul]
theorem zth {rb cap d:Nat}{A:Option Addr}{zs:List ByteArray}(hI:InC rb A cap zs d){w:World}{L:Int}(h:Rdr w rb A cap zs L){b1 b2:Nat}(hbx:Bx w rb b1 b2 d)(o:Int)(l:List Nd)(D P j c cst:Nat){x:Int×Int×Int×Int×Int×Int×Int×Bool}(hj:j<zs.length)(hcz:c+(1+l.length*(D+P))≤(zs[j]).size/8)(hx:RdW (((zs[j]).data.toList.drop (8*c)).take 8) x)
 (hsh:∀W:World,Calls Tryz.prog 167 #[ptI x] W fun e w'=>e= .returned (.tuple #[.agg #[.int .i64 (l.length:Int),.int .i64 (D:Int),.int .i64 (P:Int)],.bool true])∧Below W.heap.size W w')
 (hy:∀k (hk:k<l.length),l[k]= .mk 1 l[k].data l[k].ptrs 0 0 []∧l[k].data.size=8*D∧l[k].ptrs.length=P∧zs[j].extract (8*(c+1+k*(D+P))) (8*(c+1+k*(D+P))+l[k].data.size)=l[k].data∧(∀p∈l[k].ptrs,okN d p=true∧z03 d p≤199)∧∀i (hi:i<l[k].ptrs.length),RepN (sgz zs) d l[k].ptrs[i] j (c+1+k*(D+P)+D+i))
 (hL:L≤1000) (hl:l.length≤1000) (hws:D+P≤300) (hlc:lcZ 7 l.length (1+(l.length*(D+P):Nat))=cst) (hcost:((cst+(l.map fun y=>(y.ptrs.map (costN d)).sum).sum:Nat):Int)≤L) :
 Calls Tryz.prog 132 #[.pointer (some ⟨rb,0,none⟩),.agg #[.int .i64 o,.int .i64 7,.int .i64 ((l.length*(D+P):Nat):Int)],plV j c,.func (.func 84) #[] #[.pointer (some ⟨b1,0,none⟩),.pointer (some ⟨b2,0,none⟩)]] w (NdQ (2*d+2) rb A cap zs (L-((cst+(l.map fun y=>(y.ptrs.map (costN d)).sum).sum:Nat):Int)) (.mk 2 { data:= #[] } [] 7 l.length l) w):=by
 have hsm:=(h.small _ (List.getElem_mem hj)).1
 obtain ⟨cn,hcn⟩:∃cn:Int,((l.length*(D+P):Nat):Int)=cn:=⟨_,rfl⟩
 obtain ⟨ws,hwse⟩:∃ws:Int,(D:Int)+(P:Int)=ws:=⟨_,rfl⟩
 have hcb:0≤cn∧cn≤300000:=by have:l.length*(D+P)≤1000*300:=Nat.mul_le_mul hl hws; omega
 have hmm:(l.length:Int)*ws=cn:=by rw[← hcn,zlt,← hwse]; push_cast; rfl
 rw[hcn] at hlc ⊢
 have HHA:Hid (∀W:World,Rdr W rb A cap zs L→Calls Tryz.prog 44 #[.pointer (some ⟨rb,0,none⟩),plV j c,.int .i64 (1+cn)] W fun e w'=>e= .returned (.bool true)∧Below W.heap.size W w'):=hid fun W h1=>by
  have:=has_a h1 j c (1+l.length*(D+P)) hj hcz
  rwa [show ((1+l.length*(D+P):Nat):Int)=1+cn by rw[← hcn]; push_cast; rfl] at this
 have HPA:Hid (∀W:World,Rdr W rb A cap zs L→Calls Tryz.prog 85 #[.pointer (some ⟨rb,0,none⟩),plV j c] W fun e w'=>e= .returned (ptI x)∧Below W.heap.size W w'):=hid fun W h1=>z1v h1 j c hj (by omega) hx
 have HSH:=hid hsh
 have HLC:Hid (∀W:World,Calls Tryz.prog 81 #[.int .i64 7,.int .i64 (l.length:Int),.int .i64 (1+cn)] W fun e w'=>e= .returned (.int .i64 (cst:Int))∧W=w'):=hid fun W=>by
  have:=z5f 7 l.length (1+cn) W (by omega) (by omega)
  rwa [hlc] at this
 have HSP:Hid (∀W:World,Rdr W rb A cap zs L→Calls Tryz.prog 165 #[.pointer (some ⟨rb,0,none⟩),.int .i64 (cst:Int)] W fun e w'=>e= .returned .nilIface∧Rdr w' rb A cap zs (L-(cst:Int))∧Keeps W.heap.size rb W w'):=hid fun W h1=>zcd h1 _ (by omega) (by omega) hL
 have HBH:=hid (fun W:World=>z5t j c 1 W (by omega) (by omega) (by omega) (by omega))
 have HE:Hid (∀(ms:Nat) (W:World),Keeps w.heap.size rb w W→Rdr W rb A cap zs (L-(cst:Int))→W.heap[w.heap.size]? =some (.cells #[.pointer (some ⟨rb,0,none⟩)] 64 (0,0))→W.heap[ms]? =some (.cells #[.int .i64 (l.length:Int),.int .i64 (D:Int),.int .i64 (P:Int)] 168 (0,0))→W.heap[w.heap.size+1+1+1]? =some (.cells #[.func (.func 84) #[] #[.pointer (some ⟨b1,0,none⟩),.pointer (some ⟨b2,0,none⟩)]] 72 (0,0))→Calls Tryz.prog 168 #[plV j ((c:Int)+1),.int .i64 (l.length:Int),.int .i64 ws,.func (.func 169) #[] #[.pointer (some ⟨w.heap.size,0,none⟩),.pointer (some ⟨ms,0,none⟩),.pointer (some ⟨w.heap.size+1+1+1,0,none⟩)]] W (NsQ (2*d+1) rb A cap zs (L-((cst+(l.map fun y=>(y.ptrs.map (costN d)).sum).sum:Nat):Int)) l W)):=hid fun ms W h1 h2 g1 g2 g3=>by
  have:=zt7 (fun y=>(y.ptrs.map (costN d)).sum) (2*d+1) h2 w.heap.size ms (w.heap.size+1+1+1) l j (c+1) (D+P) (by omega) hl (by omega) hws (by omega) (fun k hk L' V q1 q2 q3 q4=>by
   obtain ⟨y1,y2,y3,y4,y5,y6⟩:=hy k hk
   have hne:∀b cs T,W.heap[b]? =some (.cells cs T (0,0))→cs≠ #[.slice A zs.length cap,.int .i64 (L-(cst:Int))]→b≠rb:=fun b cs T hb hc e=>by
    rw[e,h2.row] at hb
    injection hb with hb
    injection hb with hb
    exact hc hb.symm
   have n1:w.heap.size≠rb:=hne _ _ _ g1 (by simp);have n2:ms≠rb:=hne _ _ _ g2 (by simp);have n3:w.heap.size+1+1+1≠rb:=hne _ _ _ g3 (by simp)
   have hbd:8*(c+1+k*(D+P))+l[k].data.size≤(zs[j]).size:=by
    have e1:(k+1)*(D+P)≤l.length*(D+P):=Nat.mul_le_mul_right _ (by omega);rw[Nat.add_mul,Nat.one_mul] at e1;omega
   have hb':=hbx.keeps h (h1.then h1.size q3);have:=zsf hI q4 hb' w.heap.size ms (w.heap.size+1+1+1) (l.length:Int) D l[k].data l[k].ptrs j (c+1+k*(D+P)) y2 hj hbd y4 y5 y6 q2 (by omega) q1 ((q3.block _ (z00 g1) n1).trans g1) (by rw[y3]; exact (q3.block _ (z00 g2) n2).trans g2) ((q3.block _ (z00 g3) n3).trans g3);rw[← y1] at this
   rwa [show ((c+1+k*(D+P):Nat):Int)=((c+1:Nat):Int)+(k:Int)*((D+P:Nat):Int) by rw[Int.natCast_add,zlt]] at this)
  rwa [show ((c+1:Nat):Int)=(c:Int)+1 by omega,show ((D+P:Nat):Int)=ws by rw[← hwse]; omega,show L-(cst:Int)-((l.map fun y=>(y.ptrs.map (costN d)).sum).sum:Nat)=L-((cst+(l.map fun y=>(y.ptrs.map (costN d)).sum).sum:Nat):Int) by omega] at this
 have HWS:=hid (z1t (n:=ws) (by omega) (by omega));have HW1:=hid (z1t (n:=1+cn) (by omega) (by omega));have HW3:=hid (z1t (n:=cn) (by omega) (by omega));have HMM:=hid hmm;have HSE:=hid hwse;have hlow:=h.low;have HLOW:=hid hlow;have HR:=hid h;have HLM:Hid (l.length≤1000):=hid hl;generalize L-((cst+(l.map fun y=>(y.ptrs.map (costN d)).sum).sum:Nat):Int)=L2 at *;generalize L-(cst:Int)=L1 at *;clear hI h hbx hj hcz hx hsh hy hL hl hws hlc hcost hsm hcb hmm hwse hcn hlow
 obtain ⟨W,hW⟩:∃W,W=(((((w.alloc (.cells #[.pointer (some ⟨rb,0,none⟩)] 64)).alloc (.cells #[.int .i64 o,.int .i64 7,.int .i64 cn] 170)).alloc (.cells #[.int .i64 (j:Int),.int .i64 (c:Int)] 58)).alloc (.cells #[.func (.func 84) #[] #[.pointer (some ⟨b1,0,none⟩),.pointer (some ⟨b2,0,none⟩)]] 72)).alloc (.cells #[.int .i64 0,.string { data:= #[] },.slice none 0 0,.int .i64 0,.int .i64 0,.slice none 0 0] nodeT)):=⟨_,rfl⟩
 obtain ⟨hb0,hr0,hr1,hr2,hr3,hr4⟩:=al5 w #[.pointer (some ⟨rb,0,none⟩)] #[.int .i64 o,.int .i64 7,.int .i64 cn] #[.int .i64 (j:Int),.int .i64 (c:Int)] #[.func (.func 84) #[] #[.pointer (some ⟨b1,0,none⟩),.pointer (some ⟨b2,0,none⟩)]] #[.int .i64 0,.string { data:= #[] },.slice none 0 0,.int .i64 0,.int .i64 0,.slice none 0 0] 64 170 58 72 nodeT W hW;have HR0:=hid (HR.out.below hb0);have HK0:=hid (Keeps.of_below (b:=rb) hb0);have R0:=hid hr0;have R1:=hid hr1;have R2:=hid hr2;have R3:=hid hr3;have R4:=hid hr4;have HWW:=hid hW;clear hb0 hr0 hr1 hr2 hr3 hr4 hW
 have w0:(l.length:Int)≥0:=by omega
 go_enter Tryz.func132,Tryz.ntmps132;have e1:=HW1.out.1;have e2:=HW1.out.2
 go_wp2_with fail
 rw[← HWW.out];clear e1 e2;refine (HHA.out _ HR0.out).mono ?_;rintro e w2 ⟨rfl,hb2⟩;have HR2:=hid (HR0.out.below hb2);have HK2:=hid (HK0.out.then HK0.out.size (Keeps.of_below (b:=rb) hb2));have q0:=(hb2.block _ (z00 R0.out)).trans R0.out;have q1:=(hb2.block _ (z00 R1.out)).trans R1.out;have q2:=(hb2.block _ (z00 R2.out)).trans R2.out;have q3:=(hb2.block _ (z00 R3.out)).trans R3.out;have q4:=(hb2.block _ (z00 R4.out)).trans R4.out;have Q0:=hid q0;have Q1:=hid q1;have Q2:=hid q2;have Q3:=hid q3;have Q4:=hid q4;have c0:=cell1 q0;obtain ⟨t0,t1⟩:=z04 q2;clear q0 q1 q2 q3 q4 hb2 R0 R1 R2 R3 R4 HR0 HK0
 go_wp2_with fail
 refine (HPA.out _ HR2.out).mono ?_;rintro e w3 ⟨rfl,hb3⟩;have HR3:=hid (HR2.out.below hb3);have HK3:=hid (HK2.out.then HK2.out.size (Keeps.of_below (b:=rb) hb3))
 go_wp2_with fail
 refine (HSH.out _).mono ?_;rintro e w4 ⟨rfl,hb4⟩;have hb24:=hb3.trans (hb4.mono hb3.size);have hba:=(Below.refl w4.heap.size w4).alloc (Nat.le_refl _) (.cells #[.int .i64 (l.length:Int),.int .i64 (D:Int),.int .i64 (P:Int)] 168);have hna:=heap_alloc_new w4 (.cells #[.int .i64 (l.length:Int),.int .i64 (D:Int),.int .i64 (P:Int)] 168);have hb2a:=hb24.trans (hba.mono hb24.size);have HR5:=hid (HR2.out.below hb2a);have HK5:=hid (HK2.out.then HK2.out.size (Keeps.of_below (b:=rb) hb2a));have q0:=(hb2a.block _ (z00 Q0.out)).trans Q0.out;have q1:=(hb2a.block _ (z00 Q1.out)).trans Q1.out;have q2:=(hb2a.block _ (z00 Q2.out)).trans Q2.out;have q3:=(hb2a.block _ (z00 Q3.out)).trans Q3.out;have q4:=(hb2a.block _ (z00 Q4.out)).trans Q4.out;have q1':=(hb24.block _ (z00 Q1.out)).trans Q1.out;obtain ⟨p0',p1',p2'⟩:=z0k q1';have R0:=hid q0;have R1:=hid q1;have R2:=hid q2;have R3:=hid q3;have R4:=hid q4;have RS:=hid hna
 have hsz5:(w4.alloc (.cells #[.int .i64 (l.length:Int),.int .i64 (D:Int),.int .i64 (P:Int)] 168)).heap.size=w4.heap.size+1:=by simp
 have d0:=cell1 q0;obtain ⟨p0,p1,p2⟩:=z0k q1;obtain ⟨u0,u1⟩:=z04 q2;clear c0 t0 t1 q0 q1 q2 q3 q4 q1' hb3 hb4 hb24 hba hna hb2a Q0 Q1 Q2 Q3 Q4 HR2 HK2 HR3 HK3
 have e1:IntKind.i64.wrap ((D:Int)+(P:Int))=ws:=by rw[HSE.out]; exact HWS.out.1
 have e2:wrap64 ((D:Int)+(P:Int))=ws:=by rw[HSE.out]; exact HWS.out.2
 have e3:IntKind.i64.wrap ((l.length:Int)*ws)=cn:=by rw[HMM.out]; exact HW3.out.1
 have e4:wrap64 ((l.length:Int)*ws)=cn:=by rw[HMM.out]; exact HW3.out.2
 obtain ⟨s0,s1,s2⟩:=z0k RS.out
 go_wp2_with fail
 have hms:w4.heap.size≠rb:=fun e=>by have h1:=RS.out; rw[e,HR5.out.row] at h1; simp at h1
 have hst:w4.heap.size<(w4.alloc (.cells #[.int .i64 (l.length:Int),.int .i64 (D:Int),.int .i64 (P:Int)] 168)).heap.size:=by omega
 generalize w4.alloc (.cells #[.int .i64 (l.length:Int),.int .i64 (D:Int),.int .i64 (P:Int)] 168)=V5 at *;generalize w4.heap.size=ms at *;clear e1 e2 e3 e4 s1 s2 p0 p1 u0 u1 hsz5;have e1:=HW1.out.1;have e2:=HW1.out.2;have hdr:(V5.drew).heap.size=V5.heap.size:=rfl;have HRD:Hid (Rdr V5.drew rb A cap zs L):=hid (HR5.out.below (⟨rfl,rfl,rfl,Nat.le_refl _,fun _ _=>rfl⟩:Below V5.heap.size V5 V5.drew));refine wp_region_held_drew (S:=(fun V=>V.cell? ⟨w.heap.size,0,none⟩=some (.pointer (some ⟨rb,0,none⟩))∧V.cell? ⟨w.heap.size+1,2,none⟩=some (.int .i64 cn)∧V.cell? ⟨ms,0,none⟩=some (.int .i64 (l.length:Int)))) (by kernel_rfl) ?_ (fun hH0=>?_)
 · exact ⟨d0,p2,s0⟩
 refine wpAnyH_take (i:=0) (v:=?_) rfl (by kernel_rfl) (by kernel_rfl) (by kernel_rfl) (fun _ _ _ h=>h) (Or.inl ⟨by rfl,?_⟩) (by assumption) ?_
 rotate_left
 · intro w hSw
   (try dsimp only at hSw)
   go_simp
   try with_reducible rfl
 try simp only[List.getElem_toArray,List.getElem_cons_succ,List.getElem_cons_zero,Act.put,List.setIfInBounds_toArray,List.set_cons_zero,List.set_cons_succ]
 refine wpAnyH_take (i:=1) (v:=?_) rfl (by kernel_rfl) (by kernel_rfl) (by kernel_rfl) (fun _ _ _ h=>h) (Or.inl ⟨by rfl,?_⟩) (by assumption) ?_
 rotate_left
 · intro w hSw
   (try dsimp only at hSw)
   go_simp
   try with_reducible rfl
 try simp only[List.getElem_toArray,List.getElem_cons_succ,List.getElem_cons_zero,Act.put,List.setIfInBounds_toArray,List.set_cons_zero,List.set_cons_succ]
 refine wpAnyH_take (i:=2) (v:=?_) rfl (by kernel_rfl) (by kernel_rfl) (by kernel_rfl) (fun _ _ _ h=>h) (Or.inl ⟨by rfl,?_⟩) (by assumption) ?_
 rotate_left
 · intro w hSw
   (try dsimp only at hSw)
   go_simp
   try with_reducible rfl
 try simp only[List.getElem_toArray,List.getElem_cons_succ,List.getElem_cons_zero,Act.put,List.setIfInBounds_toArray,List.set_cons_zero,List.set_cons_succ]
 refine wpAnyH_take (i:=3) (v:=?_) rfl (by kernel_rfl) (by kernel_rfl) (by kernel_rfl) (fun _ _ _ h=>h) (Or.inl ⟨by rfl,?_⟩) (by assumption) ?_
 rotate_left
 · intro w hSw
   (try dsimp only at hSw)
   go_simp
   try with_reducible rfl
 try simp only[List.getElem_toArray,List.getElem_cons_succ,List.getElem_cons_zero,Act.put,List.setIfInBounds_toArray,List.set_cons_zero,List.set_cons_succ]
 refine wpAnyH_take (i:=4) (v:=?_) rfl (by kernel_rfl) (by kernel_rfl) (by kernel_rfl) (fun _ _ _ h=>h) (Or.inl ⟨by rfl,?_⟩) (by assumption) ?_
 rotate_left
 · intro w hSw
   (try dsimp only at hSw)
   go_simp
   try with_reducible rfl
 try simp only[List.getElem_toArray,List.getElem_cons_succ,List.getElem_cons_zero,Act.put,List.setIfInBounds_toArray,List.set_cons_zero,List.set_cons_succ]
 refine wpAnyH_take (i:=5) (v:=?_) rfl (by kernel_rfl) (by kernel_rfl) (by kernel_rfl) (fun _ _ _ h=>h) (Or.inl ⟨by rfl,?_⟩) (by assumption) ?_
 rotate_left
 · intro w hSw
   (try dsimp only at hSw)
   go_simp
   try with_reducible rfl
 try simp only[List.getElem_toArray,List.getElem_cons_succ,List.getElem_cons_zero,Act.put,List.setIfInBounds_toArray,List.set_cons_zero,List.set_cons_succ]
 refine wpAnyH_ready (rs:= [6]) (by kernel_rfl) (by simp) ?_;refine AllReadyH.cons rfl (fun K hK=>?_) AllReadyH.nil
 go_simp
 go_at_call 81
 with_reducible refine (HLC.out _).mono ?_
 rintro e w6 ⟨rfl,rfl⟩
 go_wp2_with fail
 refine hK.out _ _ ?_ (fun hH1=>?_)
 · exact ⟨d0,p2,s0⟩
 clear hK K hH0
 try simp only[List.getElem_toArray,List.getElem_cons_succ,List.getElem_cons_zero,Act.put,List.setIfInBounds_toArray,List.set_cons_zero,List.set_cons_succ]
 refine wpAnyH_ready (rs:= [7]) (by kernel_rfl) (by simp) ?_;refine AllReadyH.cons rfl (fun K hK=>?_) AllReadyH.nil
 go_simp
 go_at_call 165
 with_reducible refine (HSP.out _ HRD.out).mono ?_
 rintro e w7 ⟨rfl,hrd7,hk7⟩;have k0:=cell1 ((hk7.block _ (z00 R0.out) (by have:=HLOW.out.rb; omega)).trans R0.out);have k1:=(z0k ((hk7.block _ (z00 R1.out) (by have:=HLOW.out.rb; have:=HK5.out.size; omega)).trans R1.out)).2.2;have k2:=(z0k ((hk7.block _ (z00 RS.out) hms).trans RS.out)).1
 go_wp2_with fail
 refine hK.out _ _ ?_ (fun hH2=>?_)
 · exact ⟨k0,k1,k2⟩
 clear hK K hH1
 try simp only[List.getElem_toArray,List.getElem_cons_succ,List.getElem_cons_zero,Act.put,List.setIfInBounds_toArray,List.set_cons_zero,List.set_cons_succ]
 refine wpAnyH_take (i:=8) (v:=?_) rfl (by kernel_rfl) (by kernel_rfl) (by kernel_rfl) (fun _ _ _ h=>h) (Or.inl ⟨by rfl,?_⟩) (by assumption) ?_
 rotate_left
 · intro w hSw
   (try dsimp only at hSw)
   go_simp
   try with_reducible rfl
 try simp only[List.getElem_toArray,List.getElem_cons_succ,List.getElem_cons_zero,Act.put,List.setIfInBounds_toArray,List.set_cons_zero,List.set_cons_succ]
 refine wpAnyH_done (by kernel_rfl) ?_ _;clear hH2 k0 k1 k2 e1 e2
 go_wp2_with fail
 have hrl:=HLOW.out.rb;have hz0:=HK5.out.size;have HK7:=hid (HK5.out.drew.trans (hk7.mono (show w.heap.size≤(V5.drew).heap.size by omega)));have HR7:=hid hrd7;have q0:=(hk7.block _ (z00 R0.out) (by omega)).trans R0.out;have q2:=(hk7.block _ (z00 R2.out) (by omega)).trans R2.out;have q3:=(hk7.block _ (z00 R3.out) (by omega)).trans R3.out;have q4:=(hk7.block _ (z00 R4.out) (by omega)).trans R4.out;have qs:=(hk7.block _ (z00 RS.out) hms).trans RS.out;have Q0:=hid q0;have Q3:=hid q3;have Q4:=hid q4;have QS:=hid qs;obtain ⟨t0,t1⟩:=z04 q2;obtain ⟨x0,x1,x2⟩:=z0k qs;clear d0 p2 s0 q0 q2 q3 q4 qs hk7 hrd7 R0 R1 R2 R3 R4 RS HRD hdr hst hrl hz0 hms
 have hmf:∀(fn:Fn) (first cap:Array Value) (w:World),(Instr.makeFunc fn first cap).run Tryz.prog w= .ok (.func fn first cap) w:=fun _ _ _ _=>rfl
 have hdr7:(w7.drew).heap.size=w7.heap.size:=rfl;have HR7D:Hid (Rdr w7.drew rb A cap zs L1):=hid (HR7.out.below (⟨rfl,rfl,rfl,Nat.le_refl _,fun _ _=>rfl⟩:Below w7.heap.size w7 w7.drew));have HK7D:Hid (Keeps w.heap.size rb w w7.drew):=hid HK7.out.drew
 go_wp2_with fail
 refine wp_region_held_drew (S:=(fun V=>(V.cell? ⟨w.heap.size+1+1,0,none⟩=some (.int .i64 (j:Int))∧V.cell? ⟨w.heap.size+1+1,1,none⟩=some (.int .i64 (c:Int)))∧V.cell? ⟨ms,0,none⟩=some (.int .i64 (l.length:Int)))) (by kernel_rfl) ?_ (fun hH0=>?_)
 · exact ⟨⟨t0,t1⟩,x0⟩
 refine wpAnyH_take (i:=0) (v:=?_) rfl (by kernel_rfl) (by kernel_rfl) (by kernel_rfl) (fun _ _ _ h=>h) (Or.inl ⟨by rfl,?_⟩) (by assumption) ?_
 rotate_left
 · intro w hSw
   (try dsimp only at hSw)
   go_simp
   try with_reducible rfl
 try simp only[List.getElem_toArray,List.getElem_cons_succ,List.getElem_cons_zero,Act.put,List.setIfInBounds_toArray,List.set_cons_zero,List.set_cons_succ]
 refine wpAnyH_take (i:=2) (v:=?_) rfl (by kernel_rfl) (by kernel_rfl) (by kernel_rfl) (fun _ _ _ h=>h) (Or.inl ⟨by rfl,?_⟩) (by assumption) ?_
 rotate_left
 · intro w hSw
   (try dsimp only at hSw)
   go_simp
   try with_reducible rfl
 try simp only[List.getElem_toArray,List.getElem_cons_succ,List.getElem_cons_zero,Act.put,List.setIfInBounds_toArray,List.set_cons_zero,List.set_cons_succ]
 refine wpAnyH_take (i:=3) (v:=?_) rfl (by kernel_rfl) (by kernel_rfl) (by kernel_rfl) (fun _ _ _ h=>h) (Or.inl ⟨by rfl,?_⟩) (by assumption) ?_
 rotate_left
 · intro w hSw
   (try dsimp only at hSw)
   go_simp
   try with_reducible rfl
 try simp only[List.getElem_toArray,List.getElem_cons_succ,List.getElem_cons_zero,Act.put,List.setIfInBounds_toArray,List.set_cons_zero,List.set_cons_succ]
 refine wpAnyH_take (i:=4) (v:=?_) rfl (by kernel_rfl) (by kernel_rfl) (by kernel_rfl) (fun _ _ _ h=>h) (Or.inl ⟨by rfl,?_⟩) (by assumption) ?_
 rotate_left
 · intro w hSw
   (try dsimp only at hSw)
   go_simp
   try with_reducible rfl
 try simp only[List.getElem_toArray,List.getElem_cons_succ,List.getElem_cons_zero,Act.put,List.setIfInBounds_toArray,List.set_cons_zero,List.set_cons_succ]
 refine wpAnyH_take (i:=5) (v:=?_) rfl (by kernel_rfl) (by kernel_rfl) (by kernel_rfl) (fun _ _ _ h=>h) (Or.inl ⟨by rfl,?_⟩) (by assumption) ?_
 rotate_left
 · intro w hSw
   (try dsimp only at hSw)
   go_simp
   try with_reducible rfl
 try simp only[List.getElem_toArray,List.getElem_cons_succ,List.getElem_cons_zero,Act.put,List.setIfInBounds_toArray,List.set_cons_zero,List.set_cons_succ]
 refine wpAnyH_ready (rs:= [1]) (by kernel_rfl) (by simp) ?_;refine AllReadyH.cons rfl (fun K hK=>?_) AllReadyH.nil
 go_simp
 go_at_call 118
 with_reducible refine (HBH.out _).mono ?_
 rintro e w8 ⟨rfl,hb8⟩;have s8:=(hb8.block _ (z00 QS.out)).trans QS.out;have y0:=(z0k s8).1;have g0:=(hb8.block _ (z00 Q0.out)).trans Q0.out;have g3:=(hb8.block _ (z00 Q3.out)).trans Q3.out;have j0:=kcR hb8 t0;have j1:=kcR hb8 t1
 go_wp2_with fail
 refine hK.out _ _ ?_ (fun hH1=>?_)
 · exact ⟨⟨j0,j1⟩,y0⟩
 clear hK K hH0
 try simp only[List.getElem_toArray,List.getElem_cons_succ,List.getElem_cons_zero,Act.put,List.setIfInBounds_toArray,List.set_cons_zero,List.set_cons_succ]
 refine wpAnyH_ready (rs:= [6]) (by kernel_rfl) (by simp) ?_;refine AllReadyH.cons rfl (fun K hK=>?_) AllReadyH.nil
 go_simp
 go_at_call 168
 with_reducible refine (HE.out ms _ (HK7D.out.trans (Keeps.of_below (hb8.mono HK7D.out.size))) (HR7D.out.below hb8) g0 s8 g3).mono ?_
 rintro e w9 ⟨A',c',rfl,hnds,hrd9,hk9⟩;have qs9:=(hk9.block _ (z00 s8) (fun e=>by have h1:=s8; rw[e,(HR7D.out.below hb8).row] at h1; simp at h1)).trans s8;have z0':=(z0k qs9).1;have i0':=z0y hk9 ⟨w.heap.size+1+1,0,none⟩ (World.block_lt_of_cell? _ _ j0) (by have:=HLOW.out.rb; show w.heap.size+1+1≠rb; omega);have i1':=z0y hk9 ⟨w.heap.size+1+1,1,none⟩ (World.block_lt_of_cell? _ _ j1) (by have:=HLOW.out.rb; show w.heap.size+1+1≠rb; omega)
 go_wp2_with fail
 refine hK.out _ _ ?_ (fun hH2=>?_)
 · exact ⟨⟨i0'.trans j0,i1'.trans j1⟩,z0'⟩
 clear hK K hH1
 try simp only[List.getElem_toArray,List.getElem_cons_succ,List.getElem_cons_zero,Act.put,List.setIfInBounds_toArray,List.set_cons_zero,List.set_cons_succ]
 refine wpAnyH_take (i:=7) (v:=?_) rfl (by kernel_rfl) (by kernel_rfl) (by kernel_rfl) (fun _ _ _ h=>h) (Or.inl ⟨by rfl,?_⟩) (by assumption) ?_
 rotate_left
 · intro w hSw
   (try dsimp only at hSw)
   go_simp
   try with_reducible rfl
 try simp only[List.getElem_toArray,List.getElem_cons_succ,List.getElem_cons_zero,Act.put,List.setIfInBounds_toArray,List.set_cons_zero,List.set_cons_succ]
 refine wpAnyH_take (i:=8) (v:=?_) rfl (by kernel_rfl) (by kernel_rfl) (by kernel_rfl) (fun _ _ _ h=>h) (Or.inl ⟨by rfl,?_⟩) (by assumption) ?_
 rotate_left
 · intro w hSw
   (try dsimp only at hSw)
   go_simp
   try with_reducible rfl
 try simp only[List.getElem_toArray,List.getElem_cons_succ,List.getElem_cons_zero,Act.put,List.setIfInBounds_toArray,List.set_cons_zero,List.set_cons_succ]
 refine wpAnyH_take (i:=9) (v:=?_) rfl (by kernel_rfl) (by kernel_rfl) (by kernel_rfl) (fun _ _ _ h=>h) (Or.inl ⟨by rfl,?_⟩) (by assumption) ?_
 rotate_left
 · intro w hSw
   (try dsimp only at hSw)
   go_simp
   try with_reducible rfl
 try simp only[List.getElem_toArray,List.getElem_cons_succ,List.getElem_cons_zero,Act.put,List.setIfInBounds_toArray,List.set_cons_zero,List.set_cons_succ]
 refine wpAnyH_take (i:=10) (v:=?_) rfl (by kernel_rfl) (by kernel_rfl) (by kernel_rfl) (fun _ _ _ h=>h) (Or.inl ⟨by rfl,?_⟩) (by assumption) ?_
 rotate_left
 · intro w hSw
   (try dsimp only at hSw)
   go_simp
   try with_reducible rfl
 try simp only[List.getElem_toArray,List.getElem_cons_succ,List.getElem_cons_zero,Act.put,List.setIfInBounds_toArray,List.set_cons_zero,List.set_cons_succ]
 refine wpAnyH_take (i:=11) (v:=?_) rfl (by kernel_rfl) (by kernel_rfl) (by kernel_rfl) (fun _ _ _ h=>h) (Or.inl ⟨by rfl,?_⟩) (by assumption) ?_
 rotate_left
 · intro w hSw
   (try dsimp only at hSw)
   go_simp
   try with_reducible rfl
 try simp only[List.getElem_toArray,List.getElem_cons_succ,List.getElem_cons_zero,Act.put,List.setIfInBounds_toArray,List.set_cons_zero,List.set_cons_succ]
 refine wpAnyH_done (by kernel_rfl) ?_ _;clear hH2 z0' i0' i1' j0 j1 y0;have HK8:Hid (Keeps w.heap.size rb w w8):=hid (HK7D.out.trans (Keeps.of_below (hb8.mono HK7D.out.size)));have hrow8:=(hb8.block _ (z00 Q4.out)).trans Q4.out;have hlt8:=z00 hrow8;have hrl:=HLOW.out.rb;have q4:=(hk9.block _ hlt8 (by omega)).trans hrow8;obtain ⟨z0,z1,z2⟩:=z0k qs9
 have hnq:NdAt w9 (From w8.heap.size) (2*d+2) (.mk 2 { data:= #[] } [] 7 l.length l) ⟨none,0,A',c'⟩:=⟨Nat.zero_le _,NdsAt.nil _ _ _ _,hnds⟩
 obtain ⟨wf,hwf,hrw,hn5,hrd5,hk5⟩:=NdQ.laid HLOW.out HK8.out ⟨by omega,hlt8⟩ hrow8 hnq hrd9 hk9
 dsimp only[boxN,Nd.kind,Nd.data,Nd.ptrs,Nd.size,Nd.count,Nd.items,List.length_nil] at hwf hrw
 have HF:=hid (And.intro hn5 (And.intro hrd5 hk5));have HWF:=hid hwf;have HRW:=hid hrw;obtain ⟨c0,c1,c2,c3,c4,c5⟩:=z01 q4;have hfz:=z02 q4;clear q4 qs9 hnq hn5 hrd5 hk5 hwf hrw hrl hlt8 hrow8 s8 hnds hrd9 hk9 hb8 x0 x1 x2 t0 t1 z1 z2;go_wp2;rw[HWF.out];obtain ⟨e0,e1,e2,e3,e4,e5⟩:=z01 HRW.out;exact bodyPost_ret (v:= .tuple #[.agg #[.int .i64 2,.string { data:= #[] },.slice none 0 0,.int .i64 7,.int .i64 (l.length:Int),.slice A' l.length c'],.nilIface]) (by simp[results,Tryz.results132,go_sem,e0,e1,e2,e3,e4,e5]) rfl ⟨⟨none,0,A',c'⟩,rfl,HF.out⟩
theorem zt5 {M rb cap:Nat}{A:Option Addr}{zs:List ByteArray}{w:World}{L L2:Int}(h:Rdr w rb A cap zs L)(b1 b2:Nat)(o p1 p2:Int)(j c:Nat)(n:Nd)
 (HL:∀W:World,Keeps w.heap.size rb w W→Rdr W rb A cap zs L→Calls Tryz.prog 131 #[.pointer (some ⟨rb,0,none⟩),.agg #[.int .i64 o,.int .i64 p1,.int .i64 p2],plV j c,.func (.func 84) #[] #[.pointer (some ⟨b1,0,none⟩),.pointer (some ⟨b2,0,none⟩)]] W (NdQ M rb A cap zs L2 n W)) :
 Calls Tryz.prog 87 #[.pointer (some ⟨rb,0,none⟩),siV o p1 p2,plV j c,.func (.func 84) #[] #[.pointer (some ⟨b1,0,none⟩),.pointer (some ⟨b2,0,none⟩)]] w (NdQ M rb A cap zs L2 n w):=by
 have HLL:=hid HL;have hlow:=h.low;have HLOW:=hid hlow;have HR:=hid h;obtain ⟨hb0,hr0,hr1,hr2⟩:=al3 w #[.int .i64 (j:Int),.int .i64 (c:Int)] #[.int .i64 0,.string { data:= #[] },.slice none 0 0,.int .i64 0,.int .i64 0,.slice none 0 0] #[.int .i64 o,.int .i64 p1,.int .i64 p2] 58 nodeT 168;have HR0:=hid (HR.out.below hb0);have HK0:=hid (Keeps.of_below (b:=rb) hb0);have HC:=hid (HLL.out _ HK0.out HR0.out);have R1:=hid hr1;obtain ⟨t0,t1⟩:=z04 hr0;obtain ⟨s0,s1,s2⟩:=z0k hr2;unfold NdQ at HC;clear hb0 hr0 hr1 hr2 HL h hlow;have a1:=z3f;have a2:=z4d;have a3:=z4c;go_enter Tryz.func87,Tryz.ntmps87
 go_wp2_with fail
 refine HC.out.mono ?_;rintro e w4 ⟨hy,rfl,hny,hrd4,hk4⟩;have hlt3:=z00 R1.out;have q4:=(hk4.block _ hlt3 (by have:=HLOW.out.rb; omega)).trans R1.out;obtain ⟨c0,c1,c2,c3,c4,c5⟩:=z01 q4;have hfz:=z02 q4;obtain ⟨wf,hwf,hrw,hn5,hrd5,hk5⟩:=NdQ.laid HLOW.out HK0.out ⟨by omega,hlt3⟩ R1.out hny hrd4 hk4;have HF:=hid (And.intro hn5 (And.intro hrd5 hk5));have HWF:=hid hwf;have HRW:=hid hrw;clear q4 t0 t1 s0 s1 s2 HC hny hrd4 hk4 hn5 hrd5 hk5 hwf hrw hlt3 a1 a2 a3;go_wp2;rw[HWF.out];obtain ⟨e0,e1,e2,e3,e4,e5⟩:=z01 HRW.out;exact bodyPost_ret (v:= .tuple #[.agg #[.int .i64 n.kind,.string n.data,.slice hy.A n.ptrs.length hy.a,.int .i64 n.size,.int .i64 n.count,.slice hy.B n.items.length hy.b],.nilIface]) (by simp[results,Tryz.results87,go_sem,e0,e1,e2,e3,e4,e5]) rfl ⟨hy,rfl,HF.out⟩
theorem zt6 {M rb cap:Nat}{A:Option Addr}{zs:List ByteArray}{w:World}{L L2:Int}(h:Rdr w rb A cap zs L)(b1 b2:Nat)(o p2:Int)(j c:Nat)(n:Nd)
 (HL:∀W:World,Keeps w.heap.size rb w W→Rdr W rb A cap zs L→Calls Tryz.prog 132 #[.pointer (some ⟨rb,0,none⟩),.agg #[.int .i64 o,.int .i64 7,.int .i64 p2],plV j c,.func (.func 84) #[] #[.pointer (some ⟨b1,0,none⟩),.pointer (some ⟨b2,0,none⟩)]] W (NdQ M rb A cap zs L2 n W)) :
 Calls Tryz.prog 87 #[.pointer (some ⟨rb,0,none⟩),liV o 7 p2,plV j c,.func (.func 84) #[] #[.pointer (some ⟨b1,0,none⟩),.pointer (some ⟨b2,0,none⟩)]] w (NdQ M rb A cap zs L2 n w):=by
 have HLL:=hid HL;have hlow:=h.low;have HLOW:=hid hlow;have HR:=hid h;obtain ⟨hb0,hr0,hr1,hr2⟩:=al3 w #[.int .i64 (j:Int),.int .i64 (c:Int)] #[.int .i64 0,.string { data:= #[] },.slice none 0 0,.int .i64 0,.int .i64 0,.slice none 0 0] #[.int .i64 o,.int .i64 7,.int .i64 p2] 58 nodeT 170;have HR0:=hid (HR.out.below hb0);have HK0:=hid (Keeps.of_below (b:=rb) hb0);have HC:=hid (HLL.out _ HK0.out HR0.out);have R1:=hid hr1;obtain ⟨t0,t1⟩:=z04 hr0;obtain ⟨s0,s1,s2⟩:=z0k hr2;unfold NdQ at HC;clear hb0 hr0 hr1 hr2 HL h hlow;have a1:=z3f;have a2:=z4d;have a3:=z4c;go_enter Tryz.func87,Tryz.ntmps87
 go_wp2_with fail
 refine HC.out.mono ?_;rintro e w4 ⟨hy,rfl,hny,hrd4,hk4⟩;have hlt3:=z00 R1.out;have q4:=(hk4.block _ hlt3 (by have:=HLOW.out.rb; omega)).trans R1.out;obtain ⟨c0,c1,c2,c3,c4,c5⟩:=z01 q4;have hfz:=z02 q4;obtain ⟨wf,hwf,hrw,hn5,hrd5,hk5⟩:=NdQ.laid HLOW.out HK0.out ⟨by omega,hlt3⟩ R1.out hny hrd4 hk4;have HF:=hid (And.intro hn5 (And.intro hrd5 hk5));have HWF:=hid hwf;have HRW:=hid hrw;clear q4 t0 t1 s0 s1 s2 HC hny hrd4 hk4 hn5 hrd5 hk5 hwf hrw hlt3 a1 a2 a3;go_wp2;rw[HWF.out];obtain ⟨e0,e1,e2,e3,e4,e5⟩:=z01 HRW.out;exact bodyPost_ret (v:= .tuple #[.agg #[.int .i64 n.kind,.string n.data,.slice hy.A n.ptrs.length hy.a,.int .i64 n.size,.int .i64 n.count,.slice hy.B n.items.length hy.b],.nilIface]) (by simp[results,Tryz.results87,go_sem,e0,e1,e2,e3,e4,e5]) rfl ⟨hy,rfl,HF.out⟩
theorem zqk {M rb cap:Nat}{A:Option Addr}{zs:List ByteArray}{w:World}{L L2:Int}(h:Rdr w rb A cap zs L)(b1 b2:Nat)(o p1 p2:Int)(j c:Nat)(n:Nd)(hz7:(p1==7)=false)
 (HL:∀W:World,Keeps w.heap.size rb w W→Rdr W rb A cap zs L→Calls Tryz.prog 133 #[.pointer (some ⟨rb,0,none⟩),.agg #[.int .i64 o,.int .i64 p1,.int .i64 p2],plV j c,.func (.func 84) #[] #[.pointer (some ⟨b1,0,none⟩),.pointer (some ⟨b2,0,none⟩)]] W (NdQ M rb A cap zs L2 n W)) :
 Calls Tryz.prog 87 #[.pointer (some ⟨rb,0,none⟩),liV o p1 p2,plV j c,.func (.func 84) #[] #[.pointer (some ⟨b1,0,none⟩),.pointer (some ⟨b2,0,none⟩)]] w (NdQ M rb A cap zs L2 n w):=by
 have HLL:=hid HL;have hlow:=h.low;have HLOW:=hid hlow;have HR:=hid h;obtain ⟨hb0,hr0,hr1,hr2⟩:=al3 w #[.int .i64 (j:Int),.int .i64 (c:Int)] #[.int .i64 0,.string { data:= #[] },.slice none 0 0,.int .i64 0,.int .i64 0,.slice none 0 0] #[.int .i64 o,.int .i64 p1,.int .i64 p2] 58 nodeT 170;have HR0:=hid (HR.out.below hb0);have HK0:=hid (Keeps.of_below (b:=rb) hb0);have HC:=hid (HLL.out _ HK0.out HR0.out);have R1:=hid hr1;obtain ⟨t0,t1⟩:=z04 hr0;obtain ⟨s0,s1,s2⟩:=z0k hr2;unfold NdQ at HC;clear hb0 hr0 hr1 hr2 HL h hlow;have a1:=z3f;have a2:=z4d;have a3:=z4c;go_enter Tryz.func87,Tryz.ntmps87
 go_wp2_with fail
 refine HC.out.mono ?_;rintro e w4 ⟨hy,rfl,hny,hrd4,hk4⟩;have hlt3:=z00 R1.out;have q4:=(hk4.block _ hlt3 (by have:=HLOW.out.rb; omega)).trans R1.out;obtain ⟨c0,c1,c2,c3,c4,c5⟩:=z01 q4;have hfz:=z02 q4;obtain ⟨wf,hwf,hrw,hn5,hrd5,hk5⟩:=NdQ.laid HLOW.out HK0.out ⟨by omega,hlt3⟩ R1.out hny hrd4 hk4;have HF:=hid (And.intro hn5 (And.intro hrd5 hk5));have HWF:=hid hwf;have HRW:=hid hrw;clear q4 t0 t1 s0 s1 s2 HC hny hrd4 hk4 hn5 hrd5 hk5 hwf hrw hlt3 a1 a2 a3;go_wp2;rw[HWF.out];obtain ⟨e0,e1,e2,e3,e4,e5⟩:=z01 HRW.out;exact bodyPost_ret (v:= .tuple #[.agg #[.int .i64 n.kind,.string n.data,.slice hy.A n.ptrs.length hy.a,.int .i64 n.size,.int .i64 n.count,.slice hy.B n.items.length hy.b],.nilIface]) (by simp[results,Tryz.results87,go_sem,e0,e1,e2,e3,e4,e5]) rfl ⟨hy,rfl,HF.out⟩
theorem ptI_1 (o d p:Int):ptI (1,o,d,p,0,0,0,false)=siV o d p:=by simp[ptI,ptif]
theorem ptI_2 (o z c:Int):ptI (2,o,0,0,z,c,0,false)=liV o z c:=by simp[ptI,ptif]
theorem ptI_0:ptI (0,0,0,0,0,0,0,false)= .iface 129 (.agg #[]):=by simp[ptI,ptif]
theorem ptI_3 (o g:Int):ptI (3,o,0,0,0,0,g,false)=fiV o g:=by simp[ptI,ptif]
theorem zmj (z:Int)(h0:0≤z)(h5:z≤5):z58 z=bz z:=by
 have h:z=0∨z=1∨z=2∨z=3∨z=4∨z=5:=by omega
 rcases h with rfl | rfl | rfl | rfl | rfl | rfl <;> rfl
theorem zib (f:Nd→Nat)(l:List Nd):((l.flatMap Nd.ptrs).map f).sum=(l.map fun y=>(y.ptrs.map f).sum).sum:=by
 induction l with
 | nil=>rfl
 | cons a t ih=>rw[List.flatMap_cons,List.map_append,List.sum_append,ih,List.map_cons,List.sum_cons]
theorem zls {n:Nd}(hl:(n.items.length:Int)=n.count)(W:World):Calls Tryz.prog 167 #[ptI (tgG n)] W fun e w'=>e= .returned (.tuple #[.agg #[.int .i64 (n.items.length:Int),.int .i64 (itD n:Int),.int .i64 (itP n:Int)],.bool true])∧Below W.heap.size W w':=by
 unfold tgG
 by_cases e:n.count=0∧itD n=0∧itP n=0
 · rw[if_pos e,ptI_0,hl,e.1,e.2.1,e.2.2]
   exact zjx W
 · rw[if_neg e,ptI_1,hl]
   exact zkq _ _ _ W
theorem zlx {s:Segs}{d:Nat}{n:Nd}(hf:formN n=true)(ho:ownN n=0)(j c:Nat):FillR (RepN s d) s n j c:=by
 unfold FillR
 by_cases e:n.kind=2∧n.size=7
 · have:=(z2l hf e).2.1
   omega
 · rw[if_neg e]
   rw[(z0z hf e).1] at ho;unfold ownB at ho;have hd:=z0l n.data;exact ⟨fun q hq=>by omega,fun k hk=>by omega⟩
theorem zt8 {rb cap d:Nat}{A:Option Addr}{zs:List ByteArray}(hI:InC rb A cap zs d){w:World}{L:Int}(h:Rdr w rb A cap zs L){b1 b2:Nat}(hbx:Bx w rb b1 b2 d){n:Nd}(hok:okN (d+1) n=true)(hw:z03 (d+1) n≤199)(hk:n.kind≠0)(off:Int)(j c:Nat)(hj:j<zs.length)(hcz:c+ownN n≤(zs[j]).size/8)(hf:FillR (RepN (sgz zs) d) (sgz zs) n j c)(hL:L≤1000)(hcost:(costN (d+1) n:Int)≤L) :
 Calls Tryz.prog 87 #[.pointer (some ⟨rb,0,none⟩),ptI (ptG n off),plV j c,.func (.func 84) #[] #[.pointer (some ⟨b1,0,none⟩),.pointer (some ⟨b2,0,none⟩)]] w (NdQ (2*d+2) rb A cap zs (L-(costN (d+1) n:Nat)) n w):=by
 have fn:=z1m hok
 have hpk:∀p∈ptrsL n,okN d p=true∧z03 d p≤199:=fun p hp=>⟨z1n hok hk p hp,Nat.le_trans (z8p hok hp) hw⟩
 have hck:=z8o hok;rw[Nat.add_sub_cancel] at hck;have hwk:=z1c hok;have hlc:=zl2 fn;have hsm:=h.small _ (List.getElem_mem hj);unfold FillR at hf
 rcases z0d fn with hc | hc | ⟨hc1,hc2,hc⟩
 · omega
 · obtain ⟨k1,k2,k3,k4,k5⟩:=hc
   have hpl:ptrsL n=n.ptrs:=by unfold ptrsL; rw[z06 k5]; simp
   have hn:n= .mk 1 n.data n.ptrs 0 0 []:=z5u k1 rfl rfl k3 k4 (z06 k5);rw[if_neg (by omega)] at hf;have hob:=(z0z fn (by omega)).1;rw[if_neg (by omega)] at hlc;rw[hpl] at hpk hck
   have hds:n.data.size=8*(n.data.size/8):=by omega
   have how:ownN n=n.data.size/8+n.ptrs.length:=by rw[hob]; unfold ownB; omega
   have hpt:ptI (ptG n off)=siV off (n.data.size/8:Nat) (n.ptrs.length:Nat):=by unfold ptG; rw[if_pos k1,ptI_1]
   rw[hpt];refine (zt5 h b1 b2 off (n.data.size/8:Nat) (n.ptrs.length:Nat) j c n (fun W hK hR=>?_)).mono (fun _ _ h=>NdQ.up h);have:=zt2 hI hR (hbx.keeps h hK) off (n.data.size/8) n.data n.ptrs j c hds hj (by omega) (zcb hj hf.1) hpk (fun k hk=>by have:=hf.2 k hk; rwa [show (n.data.size+7)/8=n.data.size/8 by omega] at this) hL (by omega);rw[← hn] at this
   rwa [show ((n.data.size/8+n.ptrs.length+(n.ptrs.map (costN d)).sum:Nat):Int)=(costN (d+1) n:Nat) by omega] at this
 · rcases hc with hc | hc | hc
   · obtain ⟨k1,k2,k3,k4,k5⟩:=hc
     have hpl:ptrsL n= []:=by unfold ptrsL; rw[z06 k4,z06 k5]; rfl
     have hn:n= .mk 2 n.data [] n.size n.count []:=z5u hc1 rfl (z06 k4) rfl rfl (z06 k5);rw[if_neg (by omega)] at hf;have hob:=(z0z fn (by omega)).1;rw[if_pos hc1] at hlc;rw[hpl] at hck
     simp only[List.map_nil,List.sum_nil] at hck
     have how:ownN n=(n.data.size+7)/8:=by rw[hob]; unfold ownB; omega
     unfold bitsB at k3;rw[Bool.and_eq_true,decide_eq_true_eq,Bool.or_eq_true,decide_eq_true_eq,decide_eq_true_eq] at k3;have hbz:=bz_le n.size;have hbb:0≤n.count*bz n.size:=Int.mul_nonneg hc2.1 hbz.1;have hcut:=(zm7 hbb k3.1).2 k3.2
     have hwf:wfI n.size n.count=(ownN n:Nat):=by
      unfold wfI;rw[zmj _ k1 k2,Int.mul_comm];have:=k3.1;omega
     have hpt:ptI (ptG n off)=liV off n.size n.count:=by unfold ptG; rw[if_neg (by omega),if_neg (by omega),ptI_2]
     rw[hpt];refine (zqk h b1 b2 off n.size n.count j c n (by simp; omega) (fun W hK hR=>?_)).mono (fun _ _ h=>NdQ.up h);have:=zqy (d:=d) hR b1 b2 off n.size n.count (lcN n:Nat) (ownN n) n.data j c hj k1 k2 hc2.1 (by omega) hwf hlc.symm hcz (by omega) k3.1 (zcb hj hf.1) hcut hL (by omega) (by omega);rw[← hn] at this
     rwa [show ((lcN n:Nat):Int)=(costN (d+1) n:Nat) by omega] at this
   · obtain ⟨k1,k2,k3,k4⟩:=hc
     have hpl:ptrsL n=n.ptrs:=by unfold ptrsL; rw[z06 k4]; simp
     have hn:n= .mk 2 { data:= #[] } n.ptrs 6 n.ptrs.length []:=z5u hc1 (z9e k2 rfl) rfl k1 k3.symm (z06 k4);rw[if_neg (by omega)] at hf;have hob:=(z0z fn (by omega)).1
     have how:ownN n=n.ptrs.length:=by rw[hob]; unfold ownB; omega
     rw[if_pos hc1,k1,← k3,how,show lcZ 6 (n.ptrs.length:Int) (n.ptrs.length:Nat)=n.ptrs.length by unfold lcZ; simp] at hlc;rw[hpl] at hpk hck
     have hpt:ptI (ptG n off)=liV off 6 (n.ptrs.length:Int):=by unfold ptG; rw[if_neg (by omega),if_neg (by omega),ptI_2,k1,k3]
     rw[hpt];refine (zqk h b1 b2 off 6 (n.ptrs.length:Int) j c n (by rfl) (fun W hK hR=>?_)).mono (fun _ _ h=>NdQ.up h);have:=zse hI hR (hbx.keeps h hK) off n.ptrs j c hj (by omega) hpk (fun k hk=>by have:=hf.2 k hk; rwa [show c+(n.data.size+7)/8+k=c+k by omega] at this) hL (by omega);rw[← hn] at this
     rwa [show ((n.ptrs.length+(n.ptrs.map (costN d)).sum:Nat):Int)=(costN (d+1) n:Nat) by omega] at this
   · obtain ⟨k1,k2,k3,k4,k5⟩:=hc
     have hn:n= .mk 2 { data:= #[] } [] 7 n.items.length n.items:=z5u hc1 (z9e k2 rfl) (z06 k3) k1 k4.symm rfl;rw[if_pos ⟨hc1,k1⟩] at hf;obtain ⟨g1,g2,g3⟩:=z2l fn ⟨hc1,k1⟩
     have hpl:ptrsL n=n.items.flatMap Nd.ptrs:=by unfold ptrsL; rw[g3]; rfl
     rw[if_pos hc1,k1,← k4,g2] at hlc;rw[hpl,zib] at hck
     have hl0:n.items.length=0→itD n=0∧itP n=0:=fun e=>by unfold itD itP; rw[z06 e]; exact ⟨rfl,rfl⟩
     have hmul:n.items.length≠0→itD n+itP n≤n.items.length*(itD n+itP n):=fun e=>by
      have:1*(itD n+itP n)≤n.items.length*(itD n+itP n):=Nat.mul_le_mul_right _ (by omega);omega
     have hws:itD n+itP n≤300:=by
      by_cases e:n.items.length=0
      · have:=hl0 e; omega
      · have:=hmul e; omega
     have hle:n.items.length≤1000:=by
      by_cases e:itD n+itP n=0
      · rw[e,Nat.mul_zero] at hlc
        unfold lcZ at hlc;rw[if_neg (by decide),if_pos ⟨rfl,rfl⟩] at hlc;omega
      · have:n.items.length*1≤n.items.length*(itD n+itP n):=Nat.mul_le_mul_left _ (by omega)
        omega
     have hbd:itD n≤300∧itP n≤300:=by omega
     have hpt:ptI (ptG n off)=liV off 7 ((n.items.length*(itD n+itP n):Nat):Int):=by
      unfold ptG;rw[if_neg (by omega),if_pos k1,ptI_2,k1,g2,show (((1+n.items.length*(itD n+itP n):Nat):Int))-1=((n.items.length*(itD n+itP n):Nat):Int) by omega]
     rw[hpt];refine zt6 h b1 b2 off ((n.items.length*(itD n+itP n):Nat):Int) j c n (fun W hK hR=>?_)
     have hxw:RdW (((zs[j]).data.toList.drop (8*c)).take 8) (tgG n):=by
      have h1:=zgl hf.1 (z0x n);rw[z7q hj] at h1;rw[h1];exact zt9 hc2 hbd
     have:=zth hI hR (hbx.keeps h hK) off n.items (itD n) (itP n) j c (lcN n) hj (by omega) hxw (zls k4) (fun k hk=>by
      have hm:=List.getElem_mem hk;obtain ⟨u1,u2,u3,u4,u5,u6,u7⟩:=z19 g1 _ hm;have hb:=hf.2 k hk
      have hds:n.items[k].data.size=8*itD n:=by unfold itD; omega
      refine ⟨z5u u1 rfl rfl u3 u4 u5,hds,by unfold itP; exact u7,zcb hj hb.1,fun p hp=>hpk p (by rw[hpl]; exact List.mem_flatMap.2 ⟨_,hm,hp⟩),fun i hi=>?_⟩;have:=hb.2 i hi
      rwa [show (n.items[k].data.size+7)/8=itD n by omega] at this) hL hle hws (by rw[hlc]; push_cast; rfl) (by omega)
     rw[← hn] at this
     rwa [show ((lcN n+(n.items.map fun y=>(y.ptrs.map (costN d)).sum).sum:Nat):Int)=(costN (d+1) n:Nat) by omega] at this
theorem ze2 (rb:Nat)(k:Int)(w:World) :
 Calls Tryz.prog 45 #[.pointer (some ⟨rb,0,none⟩),.int .i64 k] w fun e w'=>e= .returned (.func (.func 84) #[] #[.pointer (some ⟨w.heap.size,0,none⟩),.pointer (some ⟨w.heap.size+1,0,none⟩)])∧Below w.heap.size w w'∧w'.heap[w.heap.size]? =some (.cells #[.pointer (some ⟨rb,0,none⟩)] 64 (0,0))∧w'.heap[w.heap.size+1]? =some (.cells #[.int .i64 k] 3 (0,0)):=by
 have hmf:∀(fn:Fn) (first cap:Array Value) (w:World),(Instr.makeFunc fn first cap).run Tryz.prog w= .ok (.func fn first cap) w:=fun _ _ _ _=>rfl
 go_enter Tryz.func45,Tryz.ntmps45;go_wp2;go_ret;exact ⟨rfl,((Below.refl _ _).alloc (Nat.le_refl _) _).alloc (by simp) _,heap_alloc2_old w _ _,heap_alloc2_new w _ _⟩
theorem z7r {rb cap:Nat}{A:Option Addr}{zs:List ByteArray}{w:World}{L:Int}(h:Rdr w rb A cap zs L){b1 b2 d:Nat}(hbx:Bx w rb b1 b2 d)(M i a:Nat)(HPA:∀W:World,Rdr W rb A cap zs L→Calls Tryz.prog 85 #[.pointer (some ⟨rb,0,none⟩),plV i a] W fun e w'=>e= .returned (.iface 129 (.agg #[]))∧Below W.heap.size W w') :
 Calls Tryz.prog 84 #[plV i a,.pointer (some ⟨b1,0,none⟩),.pointer (some ⟨b2,0,none⟩)] w (NdQ M rb A cap zs L (.mk 0 { data:= #[] } [] 0 0 []) w):=by
 have HP:=hid HPA;have hlow:=h.low;have HLOW:=hid hlow;have HR:=hid h;have hb0:=((Below.refl w.heap.size w).alloc (Nat.le_refl _) (.cells #[.int .i64 (i:Int),.int .i64 (a:Int)] 58)).alloc (by simp) (.cells #[.int .i64 0,.string { data:= #[] },.slice none 0 0,.int .i64 0,.int .i64 0,.slice none 0 0] nodeT);have hr1:((w.alloc (.cells #[.int .i64 (i:Int),.int .i64 (a:Int)] 58)).alloc (.cells #[.int .i64 0,.string { data:= #[] },.slice none 0 0,.int .i64 0,.int .i64 0,.slice none 0 0] nodeT)).heap[w.heap.size+1]? =some (.cells #[.int .i64 0,.string { data:= #[] },.slice none 0 0,.int .i64 0,.int .i64 0,.slice none 0 0] nodeT (0,0)):=heap_alloc2_new w _ _;have hr0:((w.alloc (.cells #[.int .i64 (i:Int),.int .i64 (a:Int)] 58)).alloc (.cells #[.int .i64 0,.string { data:= #[] },.slice none 0 0,.int .i64 0,.int .i64 0,.slice none 0 0] nodeT)).heap[w.heap.size]? =some (.cells #[.int .i64 (i:Int),.int .i64 (a:Int)] 58 (0,0)):=heap_alloc2_old w _ _;have HR0:=hid (h.below hb0);have HB0:=hid hb0;have R1:=hid hr1;have g1:=cell1 ((hb0.block _ (z00 hbx.r1)).trans hbx.r1);obtain ⟨t0,t1⟩:=z04 hr0;clear hb0 hr0 hr1 HPA h hlow hbx;have a1:=zbv;go_enter Tryz.func84,Tryz.ntmps84
 go_wp2_with fail
 generalize ((w.alloc (.cells #[.int .i64 (i:Int),.int .i64 (a:Int)] 58)).alloc (.cells #[.int .i64 0,.string { data:= #[] },.slice none 0 0,.int .i64 0,.int .i64 0,.slice none 0 0] nodeT))=W at *;refine (HP.out _ HR0.out).mono ?_;rintro e w4 ⟨rfl,hb4⟩;have hba:=hb4.alloc hb4.size (.cells #[] 129);have q4:=(hba.block _ (z00 R1.out)).trans R1.out;obtain ⟨c0,c1,c2,c3,c4,c5⟩:=z01 q4;have hfz:=z02 q4;have HBA:=hid hba;have Q4:=hid q4;clear g1 t0 t1 hb4 hba q4;go_wp2;obtain ⟨wf,hwf,hrw,hkf⟩:=z7i Q4.out (.int .i64 0) (.string { data:= #[] }) (.slice none 0 0) (.int .i64 0) (.int .i64 0) (.slice none 0 0);rw[hwf];obtain ⟨e0,e1,e2,e3,e4,e5⟩:=z01 hrw;have hbf:Below w.heap.size w wf:=(HB0.out.trans (HBA.out.mono HB0.out.size)).trans (hkf.below (by have h1:=HBA.out.size; have h2:=HB0.out.size; omega) (by omega));exact bodyPost_ret (v:= .tuple #[.agg #[.int .i64 0,.string { data:= #[] },.slice none 0 0,.int .i64 0,.int .i64 0,.slice none 0 0],.nilIface]) (by simp[results,Tryz.results84,go_sem,e0,e1,e2,e3,e4,e5]) rfl ⟨⟨none,0,none,0⟩,rfl,⟨Nat.zero_le _,NdsAt.nil _ _ _ _,NdsAt.nil _ _ _ _⟩,HR.out.below hbf,Keeps.of_below hbf⟩
theorem z6d {M rb cap d:Nat}{A:Option Addr}{zs:List ByteArray}{w:World}{L L2:Int}(h:Rdr w rb A cap zs L){b1 b2:Nat}(hbx:Bx w rb b1 b2 (d+1))(hd:d≤7)(n:Nd)(i a j c:Nat)(PV PV2:Value)
 (HPA:∀W:World,Rdr W rb A cap zs L→Calls Tryz.prog 85 #[.pointer (some ⟨rb,0,none⟩),plV i a] W fun e w'=>e= .returned PV∧Below W.heap.size W w')
 (hta:∀w:World,(Instr.typeAssert PV 91 129 true).run Tryz.prog w= .ok (.tuple #[.agg #[],.bool false]) w)
 (HFO:∀W:World,Rdr W rb A cap zs L→Calls Tryz.prog 86 #[.pointer (some ⟨rb,0,none⟩),PV,plV i a] W fun e w'=>e= .returned (.tuple #[PV2,plV j c,.nilIface])∧Below W.heap.size W w')
 (HNO:∀(W:World) (x y:Nat),Keeps w.heap.size rb w W→Rdr W rb A cap zs L→Bx W rb x y d→Calls Tryz.prog 87 #[.pointer (some ⟨rb,0,none⟩),PV2,plV j c,.func (.func 84) #[] #[.pointer (some ⟨x,0,none⟩),.pointer (some ⟨y,0,none⟩)]] W (NdQ M rb A cap zs L2 n W)) :
 Calls Tryz.prog 84 #[plV i a,.pointer (some ⟨b1,0,none⟩),.pointer (some ⟨b2,0,none⟩)] w (NdQ M rb A cap zs L2 n w):=by
 have HP:=hid HPA;have HFF:=hid HFO;have HN:=hid HNO;have hlow:=h.low;have HLOW:=hid hlow;have HR:=hid h;have HPD:=hid (ze2 rb)
 obtain ⟨dd,hdd⟩:∃dd:Int,9-((d+1:Nat):Int)=dd:=⟨_,rfl⟩
 have hbr2:=hbx.r2;rw[hdd] at hbr2;have HNE:Hid (b1≠rb∧b2≠rb):=hid ⟨fun e=>by have:=hbx.r1; rw[e,h.row] at this; simp at this,fun e=>by have:=hbr2; rw[e,h.row] at this; simp at this⟩;have HB12:Hid (b1<w.heap.size∧b2<w.heap.size):=hid ⟨z00 hbx.r1,z00 hbr2⟩
 have hd8:¬dd>8:=by omega
 have HDD:Hid (dd+1=9-(d:Int)):=hid (by omega);have HWD:=hid (z1t (n:=dd+1) (by omega) (by omega));have hb0:=((Below.refl w.heap.size w).alloc (Nat.le_refl _) (.cells #[.int .i64 (i:Int),.int .i64 (a:Int)] 58)).alloc (by simp) (.cells #[.int .i64 0,.string { data:= #[] },.slice none 0 0,.int .i64 0,.int .i64 0,.slice none 0 0] nodeT);have hr1:((w.alloc (.cells #[.int .i64 (i:Int),.int .i64 (a:Int)] 58)).alloc (.cells #[.int .i64 0,.string { data:= #[] },.slice none 0 0,.int .i64 0,.int .i64 0,.slice none 0 0] nodeT)).heap[w.heap.size+1]? =some (.cells #[.int .i64 0,.string { data:= #[] },.slice none 0 0,.int .i64 0,.int .i64 0,.slice none 0 0] nodeT (0,0)):=heap_alloc2_new w _ _;have hr0:((w.alloc (.cells #[.int .i64 (i:Int),.int .i64 (a:Int)] 58)).alloc (.cells #[.int .i64 0,.string { data:= #[] },.slice none 0 0,.int .i64 0,.int .i64 0,.slice none 0 0] nodeT)).heap[w.heap.size]? =some (.cells #[.int .i64 (i:Int),.int .i64 (a:Int)] 58 (0,0)):=heap_alloc2_old w _ _;have HR0:=hid (h.below hb0);have HB0:=hid hb0;have R0:=hid hr0;have R1:=hid hr1;have hx1:=(hb0.block _ (z00 hbx.r1)).trans hbx.r1;have hx2:=(hb0.block _ (z00 hbr2)).trans hbr2;have X1:=hid hx1;have X2:=hid hx2;have g1:=cell1 hx1;obtain ⟨t0,t1⟩:=z04 hr0;clear hb0 hr0 hr1 HPA HFO HNO h hlow hbx hbr2 hx1 hx2 hdd;go_enter Tryz.func84,Tryz.ntmps84
 go_wp2_with fail
 generalize ((w.alloc (.cells #[.int .i64 (i:Int),.int .i64 (a:Int)] 58)).alloc (.cells #[.int .i64 0,.string { data:= #[] },.slice none 0 0,.int .i64 0,.int .i64 0,.slice none 0 0] nodeT))=W at *;refine (HP.out _ HR0.out).mono ?_;rintro e w4 ⟨rfl,hb4⟩;have hba:=hb4.alloc hb4.size (.cells #[] 129);have HR4:=hid (HR0.out.below hba);have HB4:=hid (HB0.out.trans (hba.mono HB0.out.size));have q0:=(hba.block _ (z00 R0.out)).trans R0.out;have q1:=(hba.block _ (z00 R1.out)).trans R1.out;have y1:=(hba.block _ (z00 X1.out)).trans X1.out;have y2:=(hba.block _ (z00 X2.out)).trans X2.out;have Q1:=hid q1;have Y1:=hid y1;have Y2:=hid y2;have g1':=cell1 y1;obtain ⟨t0',t1'⟩:=z04 q0;have k4:=cell1 ((hb4.block _ (z00 X1.out)).trans X1.out);obtain ⟨k0,k1⟩:=z04 ((hb4.block _ (z00 R0.out)).trans R0.out);clear g1 t0 t1 hb4 hba q0 q1 y1 y2 HR0 HB0 R0 R1 X1 X2
 go_wp2_with fail
 refine (HFF.out _ HR4.out).mono ?_;rintro e w5 ⟨rfl,hb5⟩
 have hpb:w.heap.size+1<w5.heap.size∧rb<w5.heap.size:=by have h1:=hb5.size; have h2:=z00 Q1.out; have h3:=HLOW.out.rb; omega
 have HPB:=hid hpb;clear hpb;have hba:=hb5.alloc hb5.size (.cells #[.int .i64 (j:Int),.int .i64 (c:Int)] 58);have hna:=heap_alloc_new w5 (.cells #[.int .i64 (j:Int),.int .i64 (c:Int)] 58);have HR5:=hid (HR4.out.below hba);have HB5:=hid (HB4.out.trans (hba.mono HB4.out.size));have q1:=(hba.block _ (z00 Q1.out)).trans Q1.out;have y1:=(hba.block _ (z00 Y1.out)).trans Y1.out;have y2:=(hba.block _ (z00 Y2.out)).trans Y2.out;have Q5:=hid q1;have Y5:=hid y1;have Y6:=hid y2;have NA:=hid hna;have g1:=cell1 y1;have g2:=cell1 y2;have g2':=cell1 ((hb5.block _ (z00 Y2.out)).trans Y2.out);obtain ⟨n0,n1⟩:=z04 hna;clear hb5 hba hna q1 y1 y2 HR4 HB4 Q1 Y1 Y2 t0' t1' g1' k0 k1 k4;have hdr:((w5.alloc (.cells #[.int .i64 (j:Int),.int .i64 (c:Int)] 58)).drew).heap.size=(w5.alloc (.cells #[.int .i64 (j:Int),.int .i64 (c:Int)] 58)).heap.size:=rfl
 go_wp2_with fail
 generalize w5.alloc (.cells #[.int .i64 (j:Int),.int .i64 (c:Int)] 58)=W5 at *;generalize w5.heap.size=pb at *;have e1:=HWD.out.1;have e2:=HWD.out.2;have HR5D:Hid (Rdr W5.drew rb A cap zs L):=hid (HR5.out.below (⟨rfl,rfl,rfl,Nat.le_refl _,fun _ _=>rfl⟩:Below W5.heap.size W5 W5.drew));have HB5D:Hid (Below w.heap.size w W5.drew):=hid HB5.out.drew;refine wp_region_held_drew (S:=(fun V=>V.cell? ⟨b1,0,none⟩=some (.pointer (some ⟨rb,0,none⟩))∧V.cell? ⟨b2,0,none⟩=some (.int .i64 dd)∧V.cell? ⟨pb,0,none⟩=some (.int .i64 (j:Int))∧V.cell? ⟨pb,1,none⟩=some (.int .i64 (c:Int)))) (by kernel_rfl) ?_ (fun hH0=>?_)
 · exact ⟨g1,g2,n0,n1⟩
 refine wpAnyH_take (i:=0) (v:=?_) rfl (by kernel_rfl) (by kernel_rfl) (by kernel_rfl) (fun _ _ _ h=>h) (Or.inl ⟨by rfl,?_⟩) (by assumption) ?_
 rotate_left
 · intro w hSw
   (try dsimp only at hSw)
   go_simp
   try with_reducible rfl
 try simp only[List.getElem_toArray,List.getElem_cons_succ,List.getElem_cons_zero,Act.put,List.setIfInBounds_toArray,List.set_cons_zero,List.set_cons_succ]
 refine wpAnyH_take (i:=1) (v:=?_) rfl (by kernel_rfl) (by kernel_rfl) (by kernel_rfl) (fun _ _ _ h=>h) (Or.inl ⟨by rfl,?_⟩) (by assumption) ?_
 rotate_left
 · intro w hSw
   (try dsimp only at hSw)
   go_simp
   try with_reducible rfl
 try simp only[List.getElem_toArray,List.getElem_cons_succ,List.getElem_cons_zero,Act.put,List.setIfInBounds_toArray,List.set_cons_zero,List.set_cons_succ]
 refine wpAnyH_take (i:=2) (v:=?_) rfl (by kernel_rfl) (by kernel_rfl) (by kernel_rfl) (fun _ _ _ h=>h) (Or.inl ⟨by rfl,?_⟩) (by assumption) ?_
 rotate_left
 · intro w hSw
   (try dsimp only at hSw)
   go_simp
   try with_reducible rfl
 try simp only[List.getElem_toArray,List.getElem_cons_succ,List.getElem_cons_zero,Act.put,List.setIfInBounds_toArray,List.set_cons_zero,List.set_cons_succ]
 refine wpAnyH_take (i:=3) (v:=?_) rfl (by kernel_rfl) (by kernel_rfl) (by kernel_rfl) (fun _ _ _ h=>h) (Or.inl ⟨by rfl,?_⟩) (by assumption) ?_
 rotate_left
 · intro w hSw
   (try dsimp only at hSw)
   go_simp
   try with_reducible rfl
 try simp only[List.getElem_toArray,List.getElem_cons_succ,List.getElem_cons_zero,Act.put,List.setIfInBounds_toArray,List.set_cons_zero,List.set_cons_succ]
 refine wpAnyH_take (i:=4) (v:=?_) rfl (by kernel_rfl) (by kernel_rfl) (by kernel_rfl) (fun _ _ _ h=>h) (Or.inl ⟨by rfl,?_⟩) (by assumption) ?_
 rotate_left
 · intro w hSw
   (try dsimp only at hSw)
   go_simp
   try with_reducible rfl
 try simp only[List.getElem_toArray,List.getElem_cons_succ,List.getElem_cons_zero,Act.put,List.setIfInBounds_toArray,List.set_cons_zero,List.set_cons_succ]
 refine wpAnyH_take (i:=5) (v:=?_) rfl (by kernel_rfl) (by kernel_rfl) (by kernel_rfl) (fun _ _ _ h=>h) (Or.inl ⟨by rfl,?_⟩) (by assumption) ?_
 rotate_left
 · intro w hSw
   (try dsimp only at hSw)
   go_simp
   try with_reducible rfl
 try simp only[List.getElem_toArray,List.getElem_cons_succ,List.getElem_cons_zero,Act.put,List.setIfInBounds_toArray,List.set_cons_zero,List.set_cons_succ]
 refine wpAnyH_ready (rs:= [6]) (by kernel_rfl) (by simp) ?_;refine AllReadyH.cons rfl (fun K hK=>?_) AllReadyH.nil
 go_simp
 go_at_call 45
 refine (HPD.out _ _).mono ?_;rintro e w8 ⟨rfl,hb8,hv1,hv2⟩;have z1:=kcR hb8 g1;have z2:=kcR hb8 g2;have z3:=kcR hb8 n0;have z4:=kcR hb8 n1;have hq8:=(hb8.block _ (z00 Q5.out)).trans Q5.out
 go_wp2_with fail
 refine hK.out _ _ ?_ (fun hH1=>?_)
 · exact ⟨z1,z2,z3,z4⟩
 clear hK K hH0
 try simp only[List.getElem_toArray,List.getElem_cons_succ,List.getElem_cons_zero,Act.put,List.setIfInBounds_toArray,List.set_cons_zero,List.set_cons_succ]
 refine wpAnyH_ready (rs:= [7]) (by kernel_rfl) (by simp) ?_;refine AllReadyH.cons rfl (fun K hK=>?_) AllReadyH.nil
 go_simp
 go_at_call 87
 refine (HN.out _ _ _ (Keeps.of_below (HB5D.out.trans (hb8.mono HB5D.out.size))) (HR5D.out.below hb8) ⟨hv1,by rw[← HDD.out]; exact hv2⟩).mono ?_;rintro e w9 ⟨hy,rfl,hny,hrd9,hk9⟩;have hrl:=HLOW.out.rb;have q9:=(hk9.block _ (z00 hq8) (by omega)).trans hq8;have y1:=(z0y hk9 ⟨b1,0,none⟩ (World.block_lt_of_cell? _ _ z1) HNE.out.1).trans z1;have y2:=(z0y hk9 ⟨b2,0,none⟩ (World.block_lt_of_cell? _ _ z2) HNE.out.2).trans z2;have y3:=(z0y hk9 ⟨pb,0,none⟩ (World.block_lt_of_cell? _ _ z3) (by have:=HPB.out; show pb≠rb; omega)).trans z3;have y4:=(z0y hk9 ⟨pb,1,none⟩ (World.block_lt_of_cell? _ _ z4) (by have:=HPB.out; show pb≠rb; omega)).trans z4;obtain ⟨c0,c1,c2,c3,c4,c5⟩:=z01 q9;have hfz:=z02 q9
 go_wp2_with fail
 refine hK.out _ _ ?_ (fun hH2=>?_)
 · exact ⟨y1,y2,y3,y4⟩
 clear hK K hH1
 try simp only[List.getElem_toArray,List.getElem_cons_succ,List.getElem_cons_zero,Act.put,List.setIfInBounds_toArray,List.set_cons_zero,List.set_cons_succ]
 refine wpAnyH_take (i:=8) (v:=?_) rfl (by kernel_rfl) (by kernel_rfl) (by kernel_rfl) (fun _ _ _ h=>h) (Or.inl ⟨by rfl,?_⟩) (by assumption) ?_
 rotate_left
 · intro w hSw
   (try dsimp only at hSw)
   go_simp
   try with_reducible rfl
 try simp only[List.getElem_toArray,List.getElem_cons_succ,List.getElem_cons_zero,Act.put,List.setIfInBounds_toArray,List.set_cons_zero,List.set_cons_succ]
 refine wpAnyH_take (i:=9) (v:=?_) rfl (by kernel_rfl) (by kernel_rfl) (by kernel_rfl) (fun _ _ _ h=>h) (Or.inl ⟨by rfl,?_⟩) (by assumption) ?_
 rotate_left
 · intro w hSw
   (try dsimp only at hSw)
   go_simp
   try with_reducible rfl
 try simp only[List.getElem_toArray,List.getElem_cons_succ,List.getElem_cons_zero,Act.put,List.setIfInBounds_toArray,List.set_cons_zero,List.set_cons_succ]
 have HK8:=(Keeps.of_below (b:=rb) (HB5D.out.trans (hb8.mono HB5D.out.size)))
 obtain ⟨wf,hwf,hrw,hn5,hrd5,hk5⟩:=NdQ.laid HLOW.out HK8 ⟨by omega,z00 hq8⟩ hq8 hny hrd9 hk9;obtain ⟨wf2,hwf2,_,hkf⟩:=z7i q9 (.int .i64 n.kind) (.string n.data) (.slice hy.A n.ptrs.length hy.a) (.int .i64 n.size) (.int .i64 n.count) (.slice hy.B n.items.length hy.b);obtain rfl:wf2=wf:=hwf2.symm.trans hwf;have v1:=(z0y hkf ⟨b1,0,none⟩ (World.block_lt_of_cell? _ _ y1) (by have:=HB12.out.1; show b1≠w.heap.size+1; omega)).trans y1;have v2:=(z0y hkf ⟨b2,0,none⟩ (World.block_lt_of_cell? _ _ y2) (by have:=HB12.out.2; show b2≠w.heap.size+1; omega)).trans y2;have v3:=(z0y hkf ⟨pb,0,none⟩ (World.block_lt_of_cell? _ _ y3) (by have:=HPB.out; show pb≠w.heap.size+1; omega)).trans y3;have v4:=(z0y hkf ⟨pb,1,none⟩ (World.block_lt_of_cell? _ _ y4) (by have:=HPB.out; show pb≠w.heap.size+1; omega)).trans y4;have HF:=hid (And.intro hn5 (And.intro hrd5 hk5));have HRW:=hid hrw;have HWF:=hid hwf;clear hwf hwf2 hrw hn5 hrd5 hk5 HK8 hkf hny hrd9 hk9 hb8 hv1 hv2 hq8 q9 e1 e2 hrl;refine wpAnyH_ready (rs:= [10]) (by kernel_rfl) (by simp) ?_;refine AllReadyH.cons rfl (fun K hK=>?_) AllReadyH.nil
 go_simp
 rw[HWF.out];refine hK.out _ _ ?_ (fun hH3=>?_)
 · exact ⟨v1,v2,v3,v4⟩
 clear hK K hH2 y1 y2 y3 y4 v1 v2 v3 v4 c0 c1 c2 c3 c4 c5 hfz z1 z2 z3 z4 g1 g2 n0 n1;refine wpAnyH_take (i:=11) (v:=?_) rfl (by kernel_rfl) (by kernel_rfl) (by kernel_rfl) (fun _ _ _ h=>h) (Or.inl ⟨by rfl,?_⟩) (by assumption) ?_
 rotate_left
 · intro w hSw
   (try dsimp only at hSw)
   go_simp
   try with_reducible rfl
 try simp only[List.getElem_toArray,List.getElem_cons_succ,List.getElem_cons_zero,Act.put,List.setIfInBounds_toArray,List.set_cons_zero,List.set_cons_succ]
 refine wpAnyH_done (by kernel_rfl) ?_ _;clear hH3;go_wp2;obtain ⟨e0,e1,e2,e3,e4,e5⟩:=z01 HRW.out;exact bodyPost_ret (v:= .tuple #[.agg #[.int .i64 n.kind,.string n.data,.slice hy.A n.ptrs.length hy.a,.int .i64 n.size,.int .i64 n.count,.slice hy.B n.items.length hy.b],.nilIface]) (by simp[results,Tryz.results84,go_sem,e0,e1,e2,e3,e4,e5]) rfl ⟨hy,rfl,HF.out⟩
def noneV:Nd:= .mk 0 { data:= #[] } [] 0 0 []
theorem zbf:formN noneV=true:=by rfl
theorem zjz {n:Nd}(hf:formN n=true)(hk:n.kind=0):n=noneV:=zjd hf zbf hk rfl
theorem ze1 (d:Nat):costN d noneV=0:=by
 cases d with
 | zero=>rfl
 | succ d=>rw[z8o (z3h zbf rfl).1]; rfl
theorem zqb (n:Nd)(off:Int)(w:World):(Instr.typeAssert (ptI (ptG n off)) 91 129 true).run Tryz.prog w= .ok (.tuple #[.agg #[],.bool false]) w:=by
 unfold ptG
 split
 · rw[ptI_1]; exact zbt _ w
 · rw[ptI_2]; exact zix _ w
theorem zba (rb:Nat)(n:Nd)(off s a:Int)(W:World)(h0: -100000≤a)(h1:a≤100000)(k0: -100000≤off)(k1:off≤100000) :
 Calls Tryz.prog 86 #[.pointer (some ⟨rb,0,none⟩),ptI (ptG n off),plV s a] W fun e w'=>e= .returned (.tuple #[ptI (ptG n off),plV s (a+(1+off)),.nilIface])∧Below W.heap.size W w':=by
 unfold ptG
 split
 · rw[ptI_1]; exact znq rb off _ _ s a h0 h1 k0 k1
 · rw[ptI_2]; exact zpf rb off _ _ s a h0 h1 k0 k1
theorem zri {w:World}{rb cap:Nat}{A:Option Addr}{zs:List ByteArray}{L:Int}(h:Rdr w rb A cap zs L)(n:Nd)(s a:Int)(j c:Nat)(hj:j<zs.length)(hc:8*c+8≤(zs[j]).size)(hx:RdW (((zs[j]).data.toList.drop (8*c)).take 8) (ptG n 0)) :
 Calls Tryz.prog 86 #[.pointer (some ⟨rb,0,none⟩),fiV c j,plV s a] w fun e w'=>e= .returned (.tuple #[ptI (ptG n 0),plV j (c+(1+0)),.nilIface])∧Below w.heap.size w w':=by
 by_cases hk:n.kind=1
 · have e:ptI (ptG n 0)=siV 0 (n.data.size/8:Nat) (n.ptrs.length:Nat):=by unfold ptG; rw[if_pos hk,ptI_1]
   rw[e];exact zg0 h 0 _ _ s a j c hj hc hx e (by decide) (by decide)
 · have e:ptI (ptG n 0)=liV 0 n.size (if n.size=7 then (ownN n:Int)-1 else n.count):=by unfold ptG; rw[if_neg hk,ptI_2]
   rw[e];exact zfb h 0 _ _ s a j c hj hc hx e (by decide) (by decide)
theorem z7b {w:World}{rb cap:Nat}{A:Option Addr}{zs:List ByteArray}{L:Int}(h:Rdr w rb A cap zs L){i a:Nat}{t:List UInt8}{x:Int×Int×Int×Int×Int×Int×Int×Bool}(ht:HasT (sgz zs) i (8*a) t)(hx:RdW t x) :
 ∃hi:i<zs.length,8*a+8≤(zs[i]).size∧RdW (((zs[i]).data.toList.drop (8*a)).take 8) x:=by
 have h1:=ht.le (by have:=hx.1; omega);have hi:=zqo (zs:=zs) (j:=i) (p:=8*a) (by have:=hx.1; omega);have h2:=zgl ht hx.1;rw[z7q hi] at h1 h2;rw[z0l,hx.1] at h1;exact ⟨hi,h1,by rw[h2]; exact hx⟩
theorem zlh {rb cap:Nat}{A:Option Addr}{zs:List ByteArray} :∀d,d≤8→InC rb A cap zs d
 | 0,_=>fun n i a L W b1 b2 hok hw hr hc hL hR hbx=>by
   have hn:=zjz (z1m hok) hr.1;subst hn;obtain ⟨hi,h1,h2⟩:=z7b hR hr.2 zlv;have:=z7r hR hbx (2*0) i a (fun V hV=>by have:=z1v hV i a hi h1 h2; rwa [ptI_0] at this);rw[ze1]
   rwa [show L-((0:Nat):Int)=L by omega]
 | d+1,hd=>fun n i a L W b1 b2 hok hw hr hc hL hR hbx=>by
   have fn:=z1m hok
   have hsS:∀j,(sgS (sgz zs) j).length%8=0∧(sgS (sgz zs) j).length≤1600:=fun j=>by
    by_cases e:j<zs.length
    · rw[z7q e,z0l]; have:=hR.small _ (List.getElem_mem e); omega
    · rw[z97 (by unfold sgz; rw[List.length_map]; omega)]; simp
   have hz6:=hR.len;have hIn:=zlh (rb:=rb) (cap:=cap) (A:=A) (zs:=zs) d (by omega);have hwk:=z1c hok
   have hpo:n.kind≠0→PtOk n:=fun hk=>pt_ok fn (by omega) hk
   have hnode:∀(off:Int) (j c:Nat),n.kind≠0→(hj:j<zs.length)→c+ownN n≤(zs[j]).size/8→FillR (RepN (sgz zs) d) (sgz zs) n j c→∀(V:World) (x y:Nat),Keeps W.heap.size rb W V→Rdr V rb A cap zs L→Bx V rb x y d→Calls Tryz.prog 87 #[.pointer (some ⟨rb,0,none⟩),ptI (ptG n off),plV j c,.func (.func 84) #[] #[.pointer (some ⟨x,0,none⟩),.pointer (some ⟨y,0,none⟩)]] V (NdQ (2*(d+1)) rb A cap zs (L-(costN (d+1) n:Nat)) n V) :=
    fun off j c hk hj hcz hf V x y hK hV hB=>zt8 hIn hV hB hok hw hk off j c hj hcz hf hL hc
   rcases hr with ⟨h0,h⟩ | ⟨h0,h1,h⟩ | ⟨h0,h1,j,c,h,hf⟩
   · have hn:=zjz fn h0
     subst hn;obtain ⟨hi,h1,h2⟩:=z7b hR h zlv;have:=z7r hR hbx (2*(d+1)) i a (fun V hV=>by have:=z1v hV i a hi h1 h2; rwa [ptI_0] at this);rw[ze1]
     rwa [show L-((0:Nat):Int)=L by omega]
   · have pn:=hpo h0
     obtain ⟨off,hoff⟩:∃off:Int,(if n.kind=1 then -1 else 0)=off:=⟨_,rfl⟩
     rw[hoff] at h
     have hob: -1≤off∧off≤0:=by rw[← hoff]; split <;> omega
     obtain ⟨hi,g1,g2⟩:=z7b hR h (zn9 pn (by omega) (fun x=>by rw[if_pos x.1] at hoff; omega));have hsi:=hR.small _ (List.getElem_mem hi)
     obtain ⟨c,hcc⟩:∃c:Nat,(c:Int)=(a:Int)+(1+off):=⟨((a:Int)+(1+off)).toNat,by omega⟩
     refine z6d hR hbx (by omega) n i a i c (ptI (ptG n off)) (ptI (ptG n off)) (fun V hV=>z1v hV i a hi g1 g2) (zqb n off) (fun V hV=>?_) (hnode off i c h0 hi (by omega) (zlx fn h1 i c));have:=zba rb n off i a V (by omega) (by omega) (by omega) (by omega)
     rwa [← hcc] at this
   · have pn:=hpo h0
     have hfi:=zsh (hsS j).1 fn hf h1;have hle:=zrj fn hf h1;have hjz:=zqo hle;have hsj:=hR.small _ (List.getElem_mem hjz)
     have hwnj:wn (sgS (sgz zs) j)=(zs[j]).size/8:=by unfold wn; rw[z7q hjz,z0l]
     rw[hwnj] at hfi
     rcases h with ⟨e,h⟩ | ⟨pad,e,h,h'⟩
     · subst e
       have hal:=h.le (by rw[z0f]; omega);rw[z0f] at hal;have hl2:=(hsS j).2;obtain ⟨hi,g1,g2⟩:=z7b hR h (zn9 pn (by omega) (fun x=>by rw[(z0z fn (by omega)).1] at h1; unfold ownB at h1; rcases z0d fn with q | q | q <;> omega));refine z6d hR hbx (by omega) n j a j c (ptI (ptG n ((c:Int)-a-1))) (ptI (ptG n ((c:Int)-a-1))) (fun V hV=>z1v hV j a hi g1 g2) (zqb n _) (fun V hV=>?_) (hnode _ j c h0 hjz hfi hf);have:=zba rb n ((c:Int)-a-1) j a V (by omega) (by omega) (by omega) (by omega)
       rwa [show (a:Int)+(1+((c:Int)-a-1))=c by omega] at this
     · have hl2:=(hsS j).2
       obtain ⟨hi,g1,g2⟩:=z7b hR h (zso (pad:=pad) (j:=j) (by omega) (by omega));obtain ⟨hj',g3,g4⟩:=z7b hR h' (zn9 pn (by omega) (fun x=>by rw[(z0z fn (by omega)).1] at h1; unfold ownB at h1; rcases z0d fn with q | q | q <;> omega));have hsi:=hR.small _ (List.getElem_mem hi);refine z6d hR hbx (by omega) n i a j c (fiV pad j) (ptI (ptG n 0)) (fun V hV=>by have:=z1v hV i a hi g1 g2; rwa [ptI_3] at this) (zit _) (fun V hV=>?_) (hnode 0 j c h0 hjz hfi hf);have:=zri hV n i a j pad hj' g3 g4
       rwa [show (pad:Int)+(1+0)=(c:Int) by omega] at this
end Go.Proofs.YtlbfffokkhccaaaGreatDoor
