/- Texts of the proof of the law FnCanonSent, side by side: part 7. -/
import Derived.Deep.RegionHeld3
import Derived.Stop.BytesEq
import Derived.Test.YtlbfffokkhccaaaGreatDoorMCanonSent06
set_option maxHeartbeats 8000000
set_option maxRecDepth 100000
open Go.Lib (hid)
namespace Go.Proofs.YtlbfffokkhccaaaGreatDoor
open Go.RowKit Go.Deep
theorem zsn (x : Value) (w : World) : (method 395 168 x "loop.example/quoin/impl.bits").run Tryz.prog w = .ok (234, x) w := by kernel_rfl
theorem zsu (x : Value) (w : World) : (method 395 170 x "loop.example/quoin/impl.bits").run Tryz.prog w = .ok (238, x) w := by kernel_rfl
theorem zta (x : Value) (w : World) : (method 395 172 x "loop.example/quoin/impl.bits").run Tryz.prog w = .ok (240, x) w := by kernel_rfl
def SetP (base b size:Nat)(ss:Segs)(i a:Nat)(t:List UInt8)(P:Nat→Prop)(w:World)(e:Ending)(w':World):Prop :=
 e= .returned (.tuple #[])∧KP P w w'∧Bun w' base b size (putS ss i a t) P
theorem z57 {w:World}{x:Nat}{cur:Array Value}{T:TypeId}(h:w.heap[x]? =some (.cells cur T (0,0)))(o n:Nat)(hn:o+n≤cur.size):w.there x o n:=fun j hj=>by
 refine ⟨?_,z02 h _⟩;rw[cell_of_row _ _ _ _ _ _ h,Array.getElem?_eq_getElem (by omega)]
 rfl
theorem kcw {V V':World}{a:Addr}{v:Value}(hb:Below V.heap.size V V')(h:V.cell? a=some v):V'.cell? a=some v:=(hb.cell (World.block_lt_of_cell? V a h)).trans h
theorem zgc (base b size:Nat)(ss:Segs)(P:Nat→Prop)(w:World)(h:Bun w base b size ss P)(hw8:WdS ss)(i a:Nat)(hi:i<ss.length)(ha:a<wn (sgS ss i))(ht:totS ss≤100000)(o d p:Int)(h0: -536870912≤o)(h1:o≤536870911)(hd0:0≤d)(hd1:d<65536)(hp0:0≤p)(hp1:p<65536) :
 Calls Tryz.prog 73 #[.pointer (some ⟨b,0,none⟩),.agg #[.int .i64 (i:Int),.int .i64 (a:Int)],.iface 168 (.agg #[.int .i64 o,.int .i64 d,.int .i64 p])] w (SetP base b size ss i a (w8 (offN o) (d+65536*p)) P w):=by
 obtain ⟨row,g,v,hB,hP⟩:=h;have hme:=zsn (.agg #[.int .i64 o,.int .i64 d,.int .i64 p])
 have hN0:0≤offN o+4294967296*(d+65536*p):=by have:=z2a o; omega
 have hN1:offN o+4294967296*(d+65536*p)<18446744073709551616:=by have:=z2a o; omega
 have hL0:0≤offN o:=by have:=z2a o; omega
 have hL1:offN o<4294967296:=by have:=z2a o; omega
 have HW8:Hid (leB (offN o+4294967296*(d+65536*p)) 8=w8 (offN o) (d+65536*p)):=hid (zff _ _ hL0 hL1);have hlen:=z10 hw8 i;have hwi:=z09 ss i;have hb0:Below w.heap.size w (w.alloc (.cells #[.int .i64 (i:Int),.int .i64 (a:Int)] plT)).drew:=((Below.refl _ w).alloc (Nat.le_refl _) _).drew;obtain ⟨c0,c1,c2⟩:=z0k hB.hb;obtain ⟨r,cap,rfl,hcr⟩:=hB.row hi;obtain ⟨x,cp,cur,hv,hx⟩:=z2s (hB.ho i hi) (by omega)
 have hcg:w.cell? ⟨g i,0,none⟩=some (v i):=by rw[cell_of_row _ _ _ _ _ _ (hB.hg i hi)]; rfl
 rw[hv] at hcg;have hcri:=hcr i hi
 have hlt:(i:Int)<(ss.length:Int):=by omega
 have hlt2:(a:Int)<(wn (sgS ss i):Int):=by omega
 have p0:=kcw hb0 c0;have p1:=kcw hb0 hcri;have p2:=kcw hb0 hcg;obtain ⟨q3,q4⟩:=z04 (heap_alloc_new w (.cells #[.int .i64 (i:Int),.int .i64 (a:Int)] plT));have p3:(w.alloc (.cells #[.int .i64 (i:Int),.int .i64 (a:Int)] plT)).drew.cell? ⟨w.heap.size,0,none⟩=some (.int .i64 (i:Int)):=q3;have p4:(w.alloc (.cells #[.int .i64 (i:Int),.int .i64 (a:Int)] plT)).drew.cell? ⟨w.heap.size,1,none⟩=some (.int .i64 (a:Int)):=q4;have HB:=hid hB;have HP:=hid hP;have HV:=hid hv;have HX:=hid hx;have HB0:=hid hb0;have HLEN:=hid hlen
 obtain ⟨gi,hgi⟩:∃gi,gi=g i:=⟨_,rfl⟩
 rw[← hgi] at p1 p2;have HGI:=hid hgi;clear hB hP hv hx hb0 hlen hcr hcg hcri c0 c1 c2 q3 q4 hgi;go_enter Tryz.func73,Tryz.ntmps73
 go_wp2_with fail
 refine wp_region_held_drew (S:=(fun V=>(V.cell? ⟨b,0,none⟩=some (.slice (some ⟨r,0,none⟩) ss.length cap)∧V.cell? ⟨r,i,none⟩=some (.pointer (some ⟨gi,0,none⟩))∧V.cell? ⟨gi,0,none⟩=some (.slice (some ⟨x,0,none⟩) (wn (sgS ss i)) cp))∧(V.cell? ⟨w.heap.size,0,none⟩=some (.int .i64 (i:Int))∧V.cell? ⟨w.heap.size,1,none⟩=some (.int .i64 (a:Int))))) (by kernel_rfl) ?_ (fun hH0=>?_)
 · exact ⟨⟨p0,p1,p2⟩,⟨p3,p4⟩⟩
 refine wpAnyH_take (i:=0) (v:=?v1) rfl (by kernel_rfl) (by kernel_rfl) (by kernel_rfl) (fun _ _ _ h=>h) (Or.inl ⟨by rfl,?hy1⟩) (by assumption) ?rest1
 case hy1 =>
  intro w hSw
  (try dsimp only at hSw)
  go_simp
  with_reducible rfl
 try simp only[List.getElem_toArray,List.getElem_cons_succ,List.getElem_cons_zero,Act.put,List.setIfInBounds_toArray,List.set_cons_zero,List.set_cons_succ]
 refine wpAnyH_take (i:=1) (v:=?v2) rfl (by kernel_rfl) (by kernel_rfl) (by kernel_rfl) (fun _ _ _ h=>h) (Or.inl ⟨by rfl,?hy2⟩) (by assumption) ?rest2
 case hy2 =>
  intro w hSw
  (try dsimp only at hSw)
  go_simp
  with_reducible rfl
 try simp only[List.getElem_toArray,List.getElem_cons_succ,List.getElem_cons_zero,Act.put,List.setIfInBounds_toArray,List.set_cons_zero,List.set_cons_succ]
 refine wpAnyH_take (i:=2) (v:=?v3) rfl (by kernel_rfl) (by kernel_rfl) (by kernel_rfl) (fun _ _ _ h=>h) (Or.inl ⟨by rfl,?hy3⟩) (by assumption) ?rest3
 case hy3 =>
  intro w hSw
  (try dsimp only at hSw)
  go_simp
  with_reducible rfl
 try simp only[List.getElem_toArray,List.getElem_cons_succ,List.getElem_cons_zero,Act.put,List.setIfInBounds_toArray,List.set_cons_zero,List.set_cons_succ]
 refine wpAnyH_take (i:=3) (v:=?v4) rfl (by kernel_rfl) (by kernel_rfl) (by kernel_rfl) (fun _ _ _ h=>h) (Or.inl ⟨by rfl,?hy4⟩) (by assumption) ?rest4
 case hy4 =>
  intro w hSw
  (try dsimp only at hSw)
  go_simp
  with_reducible rfl
 try simp only[List.getElem_toArray,List.getElem_cons_succ,List.getElem_cons_zero,Act.put,List.setIfInBounds_toArray,List.set_cons_zero,List.set_cons_succ]
 refine wpAnyH_take (i:=4) (v:=?v5) rfl (by kernel_rfl) (by kernel_rfl) (by kernel_rfl) (fun _ _ _ h=>h) (Or.inl ⟨by rfl,?hy5⟩) (by assumption) ?rest5
 case hy5 =>
  intro w hSw
  (try dsimp only at hSw)
  go_simp
  with_reducible rfl
 try simp only[List.getElem_toArray,List.getElem_cons_succ,List.getElem_cons_zero,Act.put,List.setIfInBounds_toArray,List.set_cons_zero,List.set_cons_succ]
 refine wpAnyH_take (i:=5) (v:=?v6) rfl (by kernel_rfl) (by kernel_rfl) (by kernel_rfl) (fun _ _ _ h=>h) (Or.inl ⟨by rfl,?hy6⟩) (by assumption) ?rest6
 case hy6 =>
  intro w hSw
  (try dsimp only at hSw)
  go_simp
  with_reducible rfl
 try simp only[List.getElem_toArray,List.getElem_cons_succ,List.getElem_cons_zero,Act.put,List.setIfInBounds_toArray,List.set_cons_zero,List.set_cons_succ]
 refine wpAnyH_take (i:=6) (v:=?v7) rfl (by kernel_rfl) (by kernel_rfl) (by kernel_rfl) (fun _ _ _ h=>h) (Or.inl ⟨by rfl,?hy7⟩) (by assumption) ?rest7
 case hy7 =>
  intro w hSw
  (try dsimp only at hSw)
  go_simp
  with_reducible rfl
 try simp only[List.getElem_toArray,List.getElem_cons_succ,List.getElem_cons_zero,Act.put,List.setIfInBounds_toArray,List.set_cons_zero,List.set_cons_succ]
 refine wpAnyH_take (i:=7) (v:=?v8) rfl (by kernel_rfl) (by kernel_rfl) (by kernel_rfl) (fun _ _ _ h=>h) (Or.inl ⟨by rfl,?hy8⟩) (by assumption) ?rest8
 case hy8 =>
  intro w hSw
  (try dsimp only at hSw)
  go_simp
  with_reducible rfl
 try simp only[List.getElem_toArray,List.getElem_cons_succ,List.getElem_cons_zero,Act.put,List.setIfInBounds_toArray,List.set_cons_zero,List.set_cons_succ]
 refine wpAnyH_take (i:=8) (v:=?v9) rfl (by kernel_rfl) (by kernel_rfl) (by kernel_rfl) (fun _ _ _ h=>h) (Or.inl ⟨by rfl,?hy9⟩) (by assumption) ?rest9
 case hy9 =>
  intro w hSw
  (try dsimp only at hSw)
  go_simp
  with_reducible rfl
 try simp only[List.getElem_toArray,List.getElem_cons_succ,List.getElem_cons_zero,Act.put,List.setIfInBounds_toArray,List.set_cons_zero,List.set_cons_succ]
 refine wpAnyH_take (i:=9) (v:=?v10) rfl (by kernel_rfl) (by kernel_rfl) (by kernel_rfl) (fun _ _ _ h=>h) (Or.inl ⟨by rfl,?hy10⟩) (by assumption) ?rest10
 case hy10 =>
  intro w hSw
  (try dsimp only at hSw)
  go_simp
  with_reducible rfl
 try simp only[List.getElem_toArray,List.getElem_cons_succ,List.getElem_cons_zero,Act.put,List.setIfInBounds_toArray,List.set_cons_zero,List.set_cons_succ]
 refine wpAnyH_take (i:=10) (v:=?v11) rfl (by kernel_rfl) (by kernel_rfl) (by kernel_rfl) (fun _ _ _ h=>h) (Or.inl ⟨by rfl,?hy11⟩) (by assumption) ?rest11
 case hy11 =>
  intro w hSw
  (try dsimp only at hSw)
  go_simp
  with_reducible rfl
 try simp only[List.getElem_toArray,List.getElem_cons_succ,List.getElem_cons_zero,Act.put,List.setIfInBounds_toArray,List.set_cons_zero,List.set_cons_succ]
 refine wpAnyH_take (i:=11) (v:=?v12) rfl (by kernel_rfl) (by kernel_rfl) (by kernel_rfl) (fun _ _ _ h=>h) (Or.inl ⟨by rfl,?hy12⟩) (by assumption) ?rest12
 case hy12 =>
  intro w hSw
  (try dsimp only at hSw)
  go_simp
  with_reducible rfl
 try simp only[List.getElem_toArray,List.getElem_cons_succ,List.getElem_cons_zero,Act.put,List.setIfInBounds_toArray,List.set_cons_zero,List.set_cons_succ]
 refine wpAnyH_take (i:=12) (v:=?v13) rfl (by kernel_rfl) (by kernel_rfl) (by kernel_rfl) (fun _ _ _ h=>h) (Or.inl ⟨by rfl,?hy13⟩) (by assumption) ?rest13
 case hy13 =>
  intro w hSw
  (try dsimp only at hSw)
  go_simp
  with_reducible rfl
 try simp only[List.getElem_toArray,List.getElem_cons_succ,List.getElem_cons_zero,Act.put,List.setIfInBounds_toArray,List.set_cons_zero,List.set_cons_succ]
 refine wpAnyH_take (i:=13) (v:=?v14) rfl (by kernel_rfl) (by kernel_rfl) (by kernel_rfl) (fun _ _ _ h=>h) (Or.inl ⟨by rfl,?hy14⟩) (by assumption) ?rest14
 case hy14 =>
  intro w hSw
  (try dsimp only at hSw)
  go_simp
  with_reducible rfl
 try simp only[List.getElem_toArray,List.getElem_cons_succ,List.getElem_cons_zero,Act.put,List.setIfInBounds_toArray,List.set_cons_zero,List.set_cons_succ]
 refine wpAnyH_ready (rs:= [14]) (by kernel_rfl) (by simp) ?_;refine AllReadyH.cons rfl (fun K hK=>?_) AllReadyH.nil
 go_simp
 go_at_call 234
 refine (zkk o d p _ h0 h1 hd0 hd1 hp0 (by omega)).mono ?_;rintro e w2 ⟨rfl,hb2⟩
 go_wp2_with fail
 refine hK.out _ _ ?_ (fun hH1=>?_)
 · exact ⟨⟨kcw hb2 p0,kcw hb2 p1,kcw hb2 p2⟩,⟨kcw hb2 p3,kcw hb2 p4⟩⟩
 clear hK K hH0
 try simp only[List.getElem_toArray,List.getElem_cons_succ,List.getElem_cons_zero,Act.put,List.setIfInBounds_toArray,List.set_cons_zero,List.set_cons_succ]
 refine wpAnyH_ready (rs:= [15]) (by kernel_rfl) (by simp) ?_;refine AllReadyH.cons rfl (fun K hK=>?_) AllReadyH.nil
 go_simp
 go_at_call 57
 refine (z5o _ _ hN0 hN1).mono ?_;rintro e w3 ⟨rfl,hb3⟩;rw[HW8.out]
 go_wp2_with fail
 refine hK.out _ _ ?_ (fun hH2=>?_)
 · exact ⟨⟨kcw hb3 (kcw hb2 p0),kcw hb3 (kcw hb2 p1),kcw hb3 (kcw hb2 p2)⟩,⟨kcw hb3 (kcw hb2 p3),kcw hb3 (kcw hb2 p4)⟩⟩
 clear hK K hH1
 try simp only[List.getElem_toArray,List.getElem_cons_succ,List.getElem_cons_zero,Act.put,List.setIfInBounds_toArray,List.set_cons_zero,List.set_cons_succ]
 refine wpAnyH_take (i:=16) (v:=?v15) rfl (by kernel_rfl) (by kernel_rfl) (by kernel_rfl) (fun _ _ _ h=>h) (Or.inl ⟨by rfl,?hy15⟩) (by assumption) ?rest15
 case hy15 =>
  intro w hSw
  (try dsimp only at hSw)
  go_simp
  with_reducible rfl
 try simp only[List.getElem_toArray,List.getElem_cons_succ,List.getElem_cons_zero,Act.put,List.setIfInBounds_toArray,List.set_cons_zero,List.set_cons_succ]
 have hx3:w3.heap[x]? =some (.cells cur wdT (0,0)):=(hb3.block x (Nat.lt_of_lt_of_le (z00 ((HB0.out.block x (z00 HX.out.2.1)).trans HX.out.2.1)) hb2.size)).trans ((hb2.block x (z00 ((HB0.out.block x (z00 HX.out.2.1)).trans HX.out.2.1))).trans ((HB0.out.block x (z00 HX.out.2.1)).trans HX.out.2.1))
 have hcs:8*a+8≤cur.size:=by have:=HX.out.2.2; omega
 have hth:=z57 hx3 (8*a) 8 hcs
 have hsz8:(wd (w8 (offN o) (d+65536*p))).size=8:=by rw[z44,z1l]
 refine wpAnyH_ready (rs:= [17]) (by kernel_rfl) (by simp) ?_;refine AllReadyH.cons rfl (fun K hK=>?_) AllReadyH.nil;rw[if_pos (by rfl)];refine wp_store_mid wdT (.tmp 22) (.tmp 21) rfl x (a*8) (wd (w8 (offN o) (d+65536*p))) ?e1 rfl ?e2 ?e3 (zhi _) ?_
 case e1=>rfl
 case e2=>rw[hsz8,Nat.mul_comm]; exact hth
 case e3=>rw[hsz8]; exact z1w
 have hst:w3.setCells x (a*8) (wd (w8 (offN o) (d+65536*p))).toList=w3.setCells x (8*a) (Lib.byteCells (w8 (offN o) (d+65536*p))):=by rw[Nat.mul_comm]; simp[wd]
 rw[hst];have hb3':=(HB0.out.trans (hb2.mono HB0.out.size)).trans (hb3.mono (Nat.le_trans HB0.out.size hb2.size));have hB3:=(HB.out.keep (w':=w3) (fun k hk=>hb3'.block k (HB.out.lt k hk).2)).put hi (a:=a) (t:=w8 (offN o) (d+65536*p)) (by rw[z1l]; have:=HLEN.out; omega) x _ _ HV.out;have hk3:KP P w (w3.setCells x (8*a) (Lib.byteCells (w8 (offN o) (d+65536*p)))):=(KP.of_below hb3').trans (KP.sets (HP.out x (.inr (.inr ⟨i,hi,.inr (by rw[HV.out]; rfl)⟩))) w3 _ _) (fun _ _ h=>h)
 have hfin:Bun (w3.setCells x (8*a) (Lib.byteCells (w8 (offN o) (d+65536*p)))) base b size (putS ss i a (w8 (offN o) (d+65536*p))) P:=⟨_,_,_,by rw[z1j hi (by rw[z1l]; have:=HLEN.out; omega)]; exact hB3,fun k hk=>HP.out k (by rwa [z0a] at hk)⟩
 have HK3:=hid hk3;have HF3:=hid hfin
 have hxx:∀ {ad:Addr} {u:Value},w3.cell? ad=some u→ad.block≠x→(w3.setCells x (8*a) (Lib.byteCells (w8 (offN o) (d+65536*p)))).cell? ad=some u:=fun {ad u} h hp=>(World.cell?_of_block (z1i _ _ _ _ _ hp)).trans h
 refine hK.out _ _ ?_ (fun hH3=>?_)
 · refine ⟨⟨hxx (kcw hb3 (kcw hb2 p0)) (ne_T HB.out.hb HX.out.2.1 (by decide)),hxx (kcw hb3 (kcw hb2 p1)) ?_,hxx (kcw hb3 (kcw hb2 p2)) ?_⟩,⟨hxx (kcw hb3 (kcw hb2 p3)) ?_,hxx (kcw hb3 (kcw hb2 p4)) ?_⟩⟩
   · obtain ⟨c,hc⟩:=own_T HB.out.hr (k:=r) rfl
     exact ne_T hc HX.out.2.1 (by decide)
   · rw[HGI.out]; exact ne_T (HB.out.hg i hi) HX.out.2.1 (by decide)
   · have:=z00 HX.out.2.1; show w.heap.size≠x; omega
   · have:=z00 HX.out.2.1; show w.heap.size≠x; omega
 clear hK K hH2 hB3 hk3 hfin hxx hst hth hx3 hb3';generalize w3.setCells x (8*a) (Lib.byteCells (w8 (offN o) (d+65536*p)))=w4 at *;refine wpAnyH_done (by kernel_rfl) ?_ _;go_wp2
 go_end0
 exact ⟨rfl,HK3.out,HF3.out⟩
theorem zm5 (base b size:Nat)(ss:Segs)(P:Nat→Prop)(w:World)(h:Bun w base b size ss P)(hw8:WdS ss)(i a:Nat)(hi:i<ss.length)(ha:a<wn (sgS ss i))(ht:totS ss≤100000)(o z c:Int)(h0: -536870912≤o)(h1:o≤536870911)(hz0:0≤z)(hz1:z<8)(hc0:0≤c)(hc1:c<536870912) :
 Calls Tryz.prog 73 #[.pointer (some ⟨b,0,none⟩),.agg #[.int .i64 (i:Int),.int .i64 (a:Int)],.iface 170 (.agg #[.int .i64 o,.int .i64 z,.int .i64 c])] w (SetP base b size ss i a (w8 (offN o+1) (c*8+z)) P w):=by
 obtain ⟨row,g,v,hB,hP⟩:=h;have hme:=zsu (.agg #[.int .i64 o,.int .i64 z,.int .i64 c])
 have hN0:0≤offN o+1+4294967296*(c*8+z):=by have:=z2a o; omega
 have hN1:offN o+1+4294967296*(c*8+z)<18446744073709551616:=by have:=z2a o; omega
 have hL0:0≤offN o+1:=by have:=z2a o; omega
 have hL1:offN o+1<4294967296:=by have:=z2a o; omega
 have HW8:Hid (leB (offN o+1+4294967296*(c*8+z)) 8=w8 (offN o+1) (c*8+z)):=hid (zff _ _ hL0 hL1);have hlen:=z10 hw8 i;have hwi:=z09 ss i;have hb0:Below w.heap.size w (w.alloc (.cells #[.int .i64 (i:Int),.int .i64 (a:Int)] plT)).drew:=((Below.refl _ w).alloc (Nat.le_refl _) _).drew;obtain ⟨c0,c1,c2⟩:=z0k hB.hb;obtain ⟨r,cap,rfl,hcr⟩:=hB.row hi;obtain ⟨x,cp,cur,hv,hx⟩:=z2s (hB.ho i hi) (by omega)
 have hcg:w.cell? ⟨g i,0,none⟩=some (v i):=by rw[cell_of_row _ _ _ _ _ _ (hB.hg i hi)]; rfl
 rw[hv] at hcg;have hcri:=hcr i hi
 have hlt:(i:Int)<(ss.length:Int):=by omega
 have hlt2:(a:Int)<(wn (sgS ss i):Int):=by omega
 have p0:=kcw hb0 c0;have p1:=kcw hb0 hcri;have p2:=kcw hb0 hcg;obtain ⟨q3,q4⟩:=z04 (heap_alloc_new w (.cells #[.int .i64 (i:Int),.int .i64 (a:Int)] plT));have p3:(w.alloc (.cells #[.int .i64 (i:Int),.int .i64 (a:Int)] plT)).drew.cell? ⟨w.heap.size,0,none⟩=some (.int .i64 (i:Int)):=q3;have p4:(w.alloc (.cells #[.int .i64 (i:Int),.int .i64 (a:Int)] plT)).drew.cell? ⟨w.heap.size,1,none⟩=some (.int .i64 (a:Int)):=q4;have HB:=hid hB;have HP:=hid hP;have HV:=hid hv;have HX:=hid hx;have HB0:=hid hb0;have HLEN:=hid hlen
 obtain ⟨gi,hgi⟩:∃gi,gi=g i:=⟨_,rfl⟩
 rw[← hgi] at p1 p2;have HGI:=hid hgi;clear hB hP hv hx hb0 hlen hcr hcg hcri c0 c1 c2 q3 q4 hgi;go_enter Tryz.func73,Tryz.ntmps73
 go_wp2_with fail
 refine wp_region_held_drew (S:=(fun V=>(V.cell? ⟨b,0,none⟩=some (.slice (some ⟨r,0,none⟩) ss.length cap)∧V.cell? ⟨r,i,none⟩=some (.pointer (some ⟨gi,0,none⟩))∧V.cell? ⟨gi,0,none⟩=some (.slice (some ⟨x,0,none⟩) (wn (sgS ss i)) cp))∧(V.cell? ⟨w.heap.size,0,none⟩=some (.int .i64 (i:Int))∧V.cell? ⟨w.heap.size,1,none⟩=some (.int .i64 (a:Int))))) (by kernel_rfl) ?_ (fun hH0=>?_)
 · exact ⟨⟨p0,p1,p2⟩,⟨p3,p4⟩⟩
 refine wpAnyH_take (i:=0) (v:=?v16) rfl (by kernel_rfl) (by kernel_rfl) (by kernel_rfl) (fun _ _ _ h=>h) (Or.inl ⟨by rfl,?hy16⟩) (by assumption) ?rest16
 case hy16 =>
  intro w hSw
  (try dsimp only at hSw)
  go_simp
  with_reducible rfl
 try simp only[List.getElem_toArray,List.getElem_cons_succ,List.getElem_cons_zero,Act.put,List.setIfInBounds_toArray,List.set_cons_zero,List.set_cons_succ]
 refine wpAnyH_take (i:=1) (v:=?v17) rfl (by kernel_rfl) (by kernel_rfl) (by kernel_rfl) (fun _ _ _ h=>h) (Or.inl ⟨by rfl,?hy17⟩) (by assumption) ?rest17
 case hy17 =>
  intro w hSw
  (try dsimp only at hSw)
  go_simp
  with_reducible rfl
 try simp only[List.getElem_toArray,List.getElem_cons_succ,List.getElem_cons_zero,Act.put,List.setIfInBounds_toArray,List.set_cons_zero,List.set_cons_succ]
 refine wpAnyH_take (i:=2) (v:=?v18) rfl (by kernel_rfl) (by kernel_rfl) (by kernel_rfl) (fun _ _ _ h=>h) (Or.inl ⟨by rfl,?hy18⟩) (by assumption) ?rest18
 case hy18 =>
  intro w hSw
  (try dsimp only at hSw)
  go_simp
  with_reducible rfl
 try simp only[List.getElem_toArray,List.getElem_cons_succ,List.getElem_cons_zero,Act.put,List.setIfInBounds_toArray,List.set_cons_zero,List.set_cons_succ]
 refine wpAnyH_take (i:=3) (v:=?v19) rfl (by kernel_rfl) (by kernel_rfl) (by kernel_rfl) (fun _ _ _ h=>h) (Or.inl ⟨by rfl,?hy19⟩) (by assumption) ?rest19
 case hy19 =>
  intro w hSw
  (try dsimp only at hSw)
  go_simp
  with_reducible rfl
 try simp only[List.getElem_toArray,List.getElem_cons_succ,List.getElem_cons_zero,Act.put,List.setIfInBounds_toArray,List.set_cons_zero,List.set_cons_succ]
 refine wpAnyH_take (i:=4) (v:=?v20) rfl (by kernel_rfl) (by kernel_rfl) (by kernel_rfl) (fun _ _ _ h=>h) (Or.inl ⟨by rfl,?hy20⟩) (by assumption) ?rest20
 case hy20 =>
  intro w hSw
  (try dsimp only at hSw)
  go_simp
  with_reducible rfl
 try simp only[List.getElem_toArray,List.getElem_cons_succ,List.getElem_cons_zero,Act.put,List.setIfInBounds_toArray,List.set_cons_zero,List.set_cons_succ]
 refine wpAnyH_take (i:=5) (v:=?v21) rfl (by kernel_rfl) (by kernel_rfl) (by kernel_rfl) (fun _ _ _ h=>h) (Or.inl ⟨by rfl,?hy21⟩) (by assumption) ?rest21
 case hy21 =>
  intro w hSw
  (try dsimp only at hSw)
  go_simp
  with_reducible rfl
 try simp only[List.getElem_toArray,List.getElem_cons_succ,List.getElem_cons_zero,Act.put,List.setIfInBounds_toArray,List.set_cons_zero,List.set_cons_succ]
 refine wpAnyH_take (i:=6) (v:=?v22) rfl (by kernel_rfl) (by kernel_rfl) (by kernel_rfl) (fun _ _ _ h=>h) (Or.inl ⟨by rfl,?hy22⟩) (by assumption) ?rest22
 case hy22 =>
  intro w hSw
  (try dsimp only at hSw)
  go_simp
  with_reducible rfl
 try simp only[List.getElem_toArray,List.getElem_cons_succ,List.getElem_cons_zero,Act.put,List.setIfInBounds_toArray,List.set_cons_zero,List.set_cons_succ]
 refine wpAnyH_take (i:=7) (v:=?v23) rfl (by kernel_rfl) (by kernel_rfl) (by kernel_rfl) (fun _ _ _ h=>h) (Or.inl ⟨by rfl,?hy23⟩) (by assumption) ?rest23
 case hy23 =>
  intro w hSw
  (try dsimp only at hSw)
  go_simp
  with_reducible rfl
 try simp only[List.getElem_toArray,List.getElem_cons_succ,List.getElem_cons_zero,Act.put,List.setIfInBounds_toArray,List.set_cons_zero,List.set_cons_succ]
 refine wpAnyH_take (i:=8) (v:=?v24) rfl (by kernel_rfl) (by kernel_rfl) (by kernel_rfl) (fun _ _ _ h=>h) (Or.inl ⟨by rfl,?hy24⟩) (by assumption) ?rest24
 case hy24 =>
  intro w hSw
  (try dsimp only at hSw)
  go_simp
  with_reducible rfl
 try simp only[List.getElem_toArray,List.getElem_cons_succ,List.getElem_cons_zero,Act.put,List.setIfInBounds_toArray,List.set_cons_zero,List.set_cons_succ]
 refine wpAnyH_take (i:=9) (v:=?v25) rfl (by kernel_rfl) (by kernel_rfl) (by kernel_rfl) (fun _ _ _ h=>h) (Or.inl ⟨by rfl,?hy25⟩) (by assumption) ?rest25
 case hy25 =>
  intro w hSw
  (try dsimp only at hSw)
  go_simp
  with_reducible rfl
 try simp only[List.getElem_toArray,List.getElem_cons_succ,List.getElem_cons_zero,Act.put,List.setIfInBounds_toArray,List.set_cons_zero,List.set_cons_succ]
 refine wpAnyH_take (i:=10) (v:=?v26) rfl (by kernel_rfl) (by kernel_rfl) (by kernel_rfl) (fun _ _ _ h=>h) (Or.inl ⟨by rfl,?hy26⟩) (by assumption) ?rest26
 case hy26 =>
  intro w hSw
  (try dsimp only at hSw)
  go_simp
  with_reducible rfl
 try simp only[List.getElem_toArray,List.getElem_cons_succ,List.getElem_cons_zero,Act.put,List.setIfInBounds_toArray,List.set_cons_zero,List.set_cons_succ]
 refine wpAnyH_take (i:=11) (v:=?v27) rfl (by kernel_rfl) (by kernel_rfl) (by kernel_rfl) (fun _ _ _ h=>h) (Or.inl ⟨by rfl,?hy27⟩) (by assumption) ?rest27
 case hy27 =>
  intro w hSw
  (try dsimp only at hSw)
  go_simp
  with_reducible rfl
 try simp only[List.getElem_toArray,List.getElem_cons_succ,List.getElem_cons_zero,Act.put,List.setIfInBounds_toArray,List.set_cons_zero,List.set_cons_succ]
 refine wpAnyH_take (i:=12) (v:=?v28) rfl (by kernel_rfl) (by kernel_rfl) (by kernel_rfl) (fun _ _ _ h=>h) (Or.inl ⟨by rfl,?hy28⟩) (by assumption) ?rest28
 case hy28 =>
  intro w hSw
  (try dsimp only at hSw)
  go_simp
  with_reducible rfl
 try simp only[List.getElem_toArray,List.getElem_cons_succ,List.getElem_cons_zero,Act.put,List.setIfInBounds_toArray,List.set_cons_zero,List.set_cons_succ]
 refine wpAnyH_take (i:=13) (v:=?v29) rfl (by kernel_rfl) (by kernel_rfl) (by kernel_rfl) (fun _ _ _ h=>h) (Or.inl ⟨by rfl,?hy29⟩) (by assumption) ?rest29
 case hy29 =>
  intro w hSw
  (try dsimp only at hSw)
  go_simp
  with_reducible rfl
 try simp only[List.getElem_toArray,List.getElem_cons_succ,List.getElem_cons_zero,Act.put,List.setIfInBounds_toArray,List.set_cons_zero,List.set_cons_succ]
 refine wpAnyH_ready (rs:= [14]) (by kernel_rfl) (by simp) ?_;refine AllReadyH.cons rfl (fun K hK=>?_) AllReadyH.nil
 go_simp
 go_at_call 238
 refine (zkv o z c _ h0 h1 hz0 hz1 hc0 (by omega)).mono ?_;rintro e w2 ⟨rfl,hb2⟩
 go_wp2_with fail
 refine hK.out _ _ ?_ (fun hH1=>?_)
 · exact ⟨⟨kcw hb2 p0,kcw hb2 p1,kcw hb2 p2⟩,⟨kcw hb2 p3,kcw hb2 p4⟩⟩
 clear hK K hH0
 try simp only[List.getElem_toArray,List.getElem_cons_succ,List.getElem_cons_zero,Act.put,List.setIfInBounds_toArray,List.set_cons_zero,List.set_cons_succ]
 refine wpAnyH_ready (rs:= [15]) (by kernel_rfl) (by simp) ?_;refine AllReadyH.cons rfl (fun K hK=>?_) AllReadyH.nil
 go_simp
 go_at_call 57
 refine (z5o _ _ hN0 hN1).mono ?_;rintro e w3 ⟨rfl,hb3⟩;rw[HW8.out]
 go_wp2_with fail
 refine hK.out _ _ ?_ (fun hH2=>?_)
 · exact ⟨⟨kcw hb3 (kcw hb2 p0),kcw hb3 (kcw hb2 p1),kcw hb3 (kcw hb2 p2)⟩,⟨kcw hb3 (kcw hb2 p3),kcw hb3 (kcw hb2 p4)⟩⟩
 clear hK K hH1
 try simp only[List.getElem_toArray,List.getElem_cons_succ,List.getElem_cons_zero,Act.put,List.setIfInBounds_toArray,List.set_cons_zero,List.set_cons_succ]
 refine wpAnyH_take (i:=16) (v:=?v30) rfl (by kernel_rfl) (by kernel_rfl) (by kernel_rfl) (fun _ _ _ h=>h) (Or.inl ⟨by rfl,?hy30⟩) (by assumption) ?rest30
 case hy30 =>
  intro w hSw
  (try dsimp only at hSw)
  go_simp
  with_reducible rfl
 try simp only[List.getElem_toArray,List.getElem_cons_succ,List.getElem_cons_zero,Act.put,List.setIfInBounds_toArray,List.set_cons_zero,List.set_cons_succ]
 have hx3:w3.heap[x]? =some (.cells cur wdT (0,0)):=(hb3.block x (Nat.lt_of_lt_of_le (z00 ((HB0.out.block x (z00 HX.out.2.1)).trans HX.out.2.1)) hb2.size)).trans ((hb2.block x (z00 ((HB0.out.block x (z00 HX.out.2.1)).trans HX.out.2.1))).trans ((HB0.out.block x (z00 HX.out.2.1)).trans HX.out.2.1))
 have hcs:8*a+8≤cur.size:=by have:=HX.out.2.2; omega
 have hth:=z57 hx3 (8*a) 8 hcs
 have hsz8:(wd (w8 (offN o+1) (c*8+z))).size=8:=by rw[z44,z1l]
 refine wpAnyH_ready (rs:= [17]) (by kernel_rfl) (by simp) ?_;refine AllReadyH.cons rfl (fun K hK=>?_) AllReadyH.nil;rw[if_pos (by rfl)];refine wp_store_mid wdT (.tmp 22) (.tmp 21) rfl x (a*8) (wd (w8 (offN o+1) (c*8+z))) ?e1 rfl ?e2 ?e3 (zhi _) ?_
 case e1=>rfl
 case e2=>rw[hsz8,Nat.mul_comm]; exact hth
 case e3=>rw[hsz8]; exact z1w
 have hst:w3.setCells x (a*8) (wd (w8 (offN o+1) (c*8+z))).toList=w3.setCells x (8*a) (Lib.byteCells (w8 (offN o+1) (c*8+z))):=by rw[Nat.mul_comm]; simp[wd]
 rw[hst];have hb3':=(HB0.out.trans (hb2.mono HB0.out.size)).trans (hb3.mono (Nat.le_trans HB0.out.size hb2.size));have hB3:=(HB.out.keep (w':=w3) (fun k hk=>hb3'.block k (HB.out.lt k hk).2)).put hi (a:=a) (t:=w8 (offN o+1) (c*8+z)) (by rw[z1l]; have:=HLEN.out; omega) x _ _ HV.out;have hk3:KP P w (w3.setCells x (8*a) (Lib.byteCells (w8 (offN o+1) (c*8+z)))):=(KP.of_below hb3').trans (KP.sets (HP.out x (.inr (.inr ⟨i,hi,.inr (by rw[HV.out]; rfl)⟩))) w3 _ _) (fun _ _ h=>h)
 have hfin:Bun (w3.setCells x (8*a) (Lib.byteCells (w8 (offN o+1) (c*8+z)))) base b size (putS ss i a (w8 (offN o+1) (c*8+z))) P:=⟨_,_,_,by rw[z1j hi (by rw[z1l]; have:=HLEN.out; omega)]; exact hB3,fun k hk=>HP.out k (by rwa [z0a] at hk)⟩
 have HK3:=hid hk3;have HF3:=hid hfin
 have hxx:∀ {ad:Addr} {u:Value},w3.cell? ad=some u→ad.block≠x→(w3.setCells x (8*a) (Lib.byteCells (w8 (offN o+1) (c*8+z)))).cell? ad=some u:=fun {ad u} h hp=>(World.cell?_of_block (z1i _ _ _ _ _ hp)).trans h
 refine hK.out _ _ ?_ (fun hH3=>?_)
 · refine ⟨⟨hxx (kcw hb3 (kcw hb2 p0)) (ne_T HB.out.hb HX.out.2.1 (by decide)),hxx (kcw hb3 (kcw hb2 p1)) ?_,hxx (kcw hb3 (kcw hb2 p2)) ?_⟩,⟨hxx (kcw hb3 (kcw hb2 p3)) ?_,hxx (kcw hb3 (kcw hb2 p4)) ?_⟩⟩
   · obtain ⟨c,hc⟩:=own_T HB.out.hr (k:=r) rfl
     exact ne_T hc HX.out.2.1 (by decide)
   · rw[HGI.out]; exact ne_T (HB.out.hg i hi) HX.out.2.1 (by decide)
   · have:=z00 HX.out.2.1; show w.heap.size≠x; omega
   · have:=z00 HX.out.2.1; show w.heap.size≠x; omega
 clear hK K hH2 hB3 hk3 hfin hxx hst hth hx3 hb3';generalize w3.setCells x (8*a) (Lib.byteCells (w8 (offN o+1) (c*8+z)))=w4 at *;refine wpAnyH_done (by kernel_rfl) ?_ _;go_wp2
 go_end0
 exact ⟨rfl,HK3.out,HF3.out⟩
theorem zs5 (base b size:Nat)(ss:Segs)(P:Nat→Prop)(w:World)(h:Bun w base b size ss P)(hw8:WdS ss)(i a:Nat)(hi:i<ss.length)(ha:a<wn (sgS ss i))(ht:totS ss≤100000)(o q:Int)(h0:0≤o)(h1:o≤536870911)(hg0:0≤q)(hg1:q<4294967296) :
 Calls Tryz.prog 73 #[.pointer (some ⟨b,0,none⟩),.agg #[.int .i64 (i:Int),.int .i64 (a:Int)],.iface 172 (.agg #[.int .i64 o,.int .i64 q,.bool false])] w (SetP base b size ss i a (w8 (o*8+2) (q)) P w):=by
 obtain ⟨row,g,v,hB,hP⟩:=h;have hme:=zta (.agg #[.int .i64 o,.int .i64 q,.bool false])
 have hN0:0≤o*8+2+4294967296*(q):=by omega
 have hN1:o*8+2+4294967296*(q)<18446744073709551616:=by omega
 have hL0:0≤o*8+2:=by omega
 have hL1:o*8+2<4294967296:=by omega
 have HW8:Hid (leB (o*8+2+4294967296*(q)) 8=w8 (o*8+2) (q)):=hid (zff _ _ hL0 hL1);have hlen:=z10 hw8 i;have hwi:=z09 ss i;have hb0:Below w.heap.size w (w.alloc (.cells #[.int .i64 (i:Int),.int .i64 (a:Int)] plT)).drew:=((Below.refl _ w).alloc (Nat.le_refl _) _).drew;obtain ⟨c0,c1,c2⟩:=z0k hB.hb;obtain ⟨r,cap,rfl,hcr⟩:=hB.row hi;obtain ⟨x,cp,cur,hv,hx⟩:=z2s (hB.ho i hi) (by omega)
 have hcg:w.cell? ⟨g i,0,none⟩=some (v i):=by rw[cell_of_row _ _ _ _ _ _ (hB.hg i hi)]; rfl
 rw[hv] at hcg;have hcri:=hcr i hi
 have hlt:(i:Int)<(ss.length:Int):=by omega
 have hlt2:(a:Int)<(wn (sgS ss i):Int):=by omega
 have p0:=kcw hb0 c0;have p1:=kcw hb0 hcri;have p2:=kcw hb0 hcg;obtain ⟨q3,q4⟩:=z04 (heap_alloc_new w (.cells #[.int .i64 (i:Int),.int .i64 (a:Int)] plT));have p3:(w.alloc (.cells #[.int .i64 (i:Int),.int .i64 (a:Int)] plT)).drew.cell? ⟨w.heap.size,0,none⟩=some (.int .i64 (i:Int)):=q3;have p4:(w.alloc (.cells #[.int .i64 (i:Int),.int .i64 (a:Int)] plT)).drew.cell? ⟨w.heap.size,1,none⟩=some (.int .i64 (a:Int)):=q4;have HB:=hid hB;have HP:=hid hP;have HV:=hid hv;have HX:=hid hx;have HB0:=hid hb0;have HLEN:=hid hlen
 obtain ⟨gi,hgi⟩:∃gi,gi=g i:=⟨_,rfl⟩
 rw[← hgi] at p1 p2;have HGI:=hid hgi;clear hB hP hv hx hb0 hlen hcr hcg hcri c0 c1 c2 q3 q4 hgi;go_enter Tryz.func73,Tryz.ntmps73
 go_wp2_with fail
 refine wp_region_held_drew (S:=(fun V=>(V.cell? ⟨b,0,none⟩=some (.slice (some ⟨r,0,none⟩) ss.length cap)∧V.cell? ⟨r,i,none⟩=some (.pointer (some ⟨gi,0,none⟩))∧V.cell? ⟨gi,0,none⟩=some (.slice (some ⟨x,0,none⟩) (wn (sgS ss i)) cp))∧(V.cell? ⟨w.heap.size,0,none⟩=some (.int .i64 (i:Int))∧V.cell? ⟨w.heap.size,1,none⟩=some (.int .i64 (a:Int))))) (by kernel_rfl) ?_ (fun hH0=>?_)
 · exact ⟨⟨p0,p1,p2⟩,⟨p3,p4⟩⟩
 refine wpAnyH_take (i:=0) (v:=?v31) rfl (by kernel_rfl) (by kernel_rfl) (by kernel_rfl) (fun _ _ _ h=>h) (Or.inl ⟨by rfl,?hy31⟩) (by assumption) ?rest31
 case hy31 =>
  intro w hSw
  (try dsimp only at hSw)
  go_simp
  with_reducible rfl
 try simp only[List.getElem_toArray,List.getElem_cons_succ,List.getElem_cons_zero,Act.put,List.setIfInBounds_toArray,List.set_cons_zero,List.set_cons_succ]
 refine wpAnyH_take (i:=1) (v:=?v32) rfl (by kernel_rfl) (by kernel_rfl) (by kernel_rfl) (fun _ _ _ h=>h) (Or.inl ⟨by rfl,?hy32⟩) (by assumption) ?rest32
 case hy32 =>
  intro w hSw
  (try dsimp only at hSw)
  go_simp
  with_reducible rfl
 try simp only[List.getElem_toArray,List.getElem_cons_succ,List.getElem_cons_zero,Act.put,List.setIfInBounds_toArray,List.set_cons_zero,List.set_cons_succ]
 refine wpAnyH_take (i:=2) (v:=?v33) rfl (by kernel_rfl) (by kernel_rfl) (by kernel_rfl) (fun _ _ _ h=>h) (Or.inl ⟨by rfl,?hy33⟩) (by assumption) ?rest33
 case hy33 =>
  intro w hSw
  (try dsimp only at hSw)
  go_simp
  with_reducible rfl
 try simp only[List.getElem_toArray,List.getElem_cons_succ,List.getElem_cons_zero,Act.put,List.setIfInBounds_toArray,List.set_cons_zero,List.set_cons_succ]
 refine wpAnyH_take (i:=3) (v:=?v34) rfl (by kernel_rfl) (by kernel_rfl) (by kernel_rfl) (fun _ _ _ h=>h) (Or.inl ⟨by rfl,?hy34⟩) (by assumption) ?rest34
 case hy34 =>
  intro w hSw
  (try dsimp only at hSw)
  go_simp
  with_reducible rfl
 try simp only[List.getElem_toArray,List.getElem_cons_succ,List.getElem_cons_zero,Act.put,List.setIfInBounds_toArray,List.set_cons_zero,List.set_cons_succ]
 refine wpAnyH_take (i:=4) (v:=?v35) rfl (by kernel_rfl) (by kernel_rfl) (by kernel_rfl) (fun _ _ _ h=>h) (Or.inl ⟨by rfl,?hy35⟩) (by assumption) ?rest35
 case hy35 =>
  intro w hSw
  (try dsimp only at hSw)
  go_simp
  with_reducible rfl
 try simp only[List.getElem_toArray,List.getElem_cons_succ,List.getElem_cons_zero,Act.put,List.setIfInBounds_toArray,List.set_cons_zero,List.set_cons_succ]
 refine wpAnyH_take (i:=5) (v:=?v36) rfl (by kernel_rfl) (by kernel_rfl) (by kernel_rfl) (fun _ _ _ h=>h) (Or.inl ⟨by rfl,?hy36⟩) (by assumption) ?rest36
 case hy36 =>
  intro w hSw
  (try dsimp only at hSw)
  go_simp
  with_reducible rfl
 try simp only[List.getElem_toArray,List.getElem_cons_succ,List.getElem_cons_zero,Act.put,List.setIfInBounds_toArray,List.set_cons_zero,List.set_cons_succ]
 refine wpAnyH_take (i:=6) (v:=?v37) rfl (by kernel_rfl) (by kernel_rfl) (by kernel_rfl) (fun _ _ _ h=>h) (Or.inl ⟨by rfl,?hy37⟩) (by assumption) ?rest37
 case hy37 =>
  intro w hSw
  (try dsimp only at hSw)
  go_simp
  with_reducible rfl
 try simp only[List.getElem_toArray,List.getElem_cons_succ,List.getElem_cons_zero,Act.put,List.setIfInBounds_toArray,List.set_cons_zero,List.set_cons_succ]
 refine wpAnyH_take (i:=7) (v:=?v38) rfl (by kernel_rfl) (by kernel_rfl) (by kernel_rfl) (fun _ _ _ h=>h) (Or.inl ⟨by rfl,?hy38⟩) (by assumption) ?rest38
 case hy38 =>
  intro w hSw
  (try dsimp only at hSw)
  go_simp
  with_reducible rfl
 try simp only[List.getElem_toArray,List.getElem_cons_succ,List.getElem_cons_zero,Act.put,List.setIfInBounds_toArray,List.set_cons_zero,List.set_cons_succ]
 refine wpAnyH_take (i:=8) (v:=?v39) rfl (by kernel_rfl) (by kernel_rfl) (by kernel_rfl) (fun _ _ _ h=>h) (Or.inl ⟨by rfl,?hy39⟩) (by assumption) ?rest39
 case hy39 =>
  intro w hSw
  (try dsimp only at hSw)
  go_simp
  with_reducible rfl
 try simp only[List.getElem_toArray,List.getElem_cons_succ,List.getElem_cons_zero,Act.put,List.setIfInBounds_toArray,List.set_cons_zero,List.set_cons_succ]
 refine wpAnyH_take (i:=9) (v:=?v40) rfl (by kernel_rfl) (by kernel_rfl) (by kernel_rfl) (fun _ _ _ h=>h) (Or.inl ⟨by rfl,?hy40⟩) (by assumption) ?rest40
 case hy40 =>
  intro w hSw
  (try dsimp only at hSw)
  go_simp
  with_reducible rfl
 try simp only[List.getElem_toArray,List.getElem_cons_succ,List.getElem_cons_zero,Act.put,List.setIfInBounds_toArray,List.set_cons_zero,List.set_cons_succ]
 refine wpAnyH_take (i:=10) (v:=?v41) rfl (by kernel_rfl) (by kernel_rfl) (by kernel_rfl) (fun _ _ _ h=>h) (Or.inl ⟨by rfl,?hy41⟩) (by assumption) ?rest41
 case hy41 =>
  intro w hSw
  (try dsimp only at hSw)
  go_simp
  with_reducible rfl
 try simp only[List.getElem_toArray,List.getElem_cons_succ,List.getElem_cons_zero,Act.put,List.setIfInBounds_toArray,List.set_cons_zero,List.set_cons_succ]
 refine wpAnyH_take (i:=11) (v:=?v42) rfl (by kernel_rfl) (by kernel_rfl) (by kernel_rfl) (fun _ _ _ h=>h) (Or.inl ⟨by rfl,?hy42⟩) (by assumption) ?rest42
 case hy42 =>
  intro w hSw
  (try dsimp only at hSw)
  go_simp
  with_reducible rfl
 try simp only[List.getElem_toArray,List.getElem_cons_succ,List.getElem_cons_zero,Act.put,List.setIfInBounds_toArray,List.set_cons_zero,List.set_cons_succ]
 refine wpAnyH_take (i:=12) (v:=?v43) rfl (by kernel_rfl) (by kernel_rfl) (by kernel_rfl) (fun _ _ _ h=>h) (Or.inl ⟨by rfl,?hy43⟩) (by assumption) ?rest43
 case hy43 =>
  intro w hSw
  (try dsimp only at hSw)
  go_simp
  with_reducible rfl
 try simp only[List.getElem_toArray,List.getElem_cons_succ,List.getElem_cons_zero,Act.put,List.setIfInBounds_toArray,List.set_cons_zero,List.set_cons_succ]
 refine wpAnyH_take (i:=13) (v:=?v44) rfl (by kernel_rfl) (by kernel_rfl) (by kernel_rfl) (fun _ _ _ h=>h) (Or.inl ⟨by rfl,?hy44⟩) (by assumption) ?rest44
 case hy44 =>
  intro w hSw
  (try dsimp only at hSw)
  go_simp
  with_reducible rfl
 try simp only[List.getElem_toArray,List.getElem_cons_succ,List.getElem_cons_zero,Act.put,List.setIfInBounds_toArray,List.set_cons_zero,List.set_cons_succ]
 refine wpAnyH_ready (rs:= [14]) (by kernel_rfl) (by simp) ?_;refine AllReadyH.cons rfl (fun K hK=>?_) AllReadyH.nil
 go_simp
 go_at_call 240
 refine (zjj o q _ h0 h1 hg0 (by omega)).mono ?_;rintro e w2 ⟨rfl,hb2⟩
 go_wp2_with fail
 refine hK.out _ _ ?_ (fun hH1=>?_)
 · exact ⟨⟨kcw hb2 p0,kcw hb2 p1,kcw hb2 p2⟩,⟨kcw hb2 p3,kcw hb2 p4⟩⟩
 clear hK K hH0
 try simp only[List.getElem_toArray,List.getElem_cons_succ,List.getElem_cons_zero,Act.put,List.setIfInBounds_toArray,List.set_cons_zero,List.set_cons_succ]
 refine wpAnyH_ready (rs:= [15]) (by kernel_rfl) (by simp) ?_;refine AllReadyH.cons rfl (fun K hK=>?_) AllReadyH.nil
 go_simp
 go_at_call 57
 refine (z5o _ _ hN0 hN1).mono ?_;rintro e w3 ⟨rfl,hb3⟩;rw[HW8.out]
 go_wp2_with fail
 refine hK.out _ _ ?_ (fun hH2=>?_)
 · exact ⟨⟨kcw hb3 (kcw hb2 p0),kcw hb3 (kcw hb2 p1),kcw hb3 (kcw hb2 p2)⟩,⟨kcw hb3 (kcw hb2 p3),kcw hb3 (kcw hb2 p4)⟩⟩
 clear hK K hH1
 try simp only[List.getElem_toArray,List.getElem_cons_succ,List.getElem_cons_zero,Act.put,List.setIfInBounds_toArray,List.set_cons_zero,List.set_cons_succ]
 refine wpAnyH_take (i:=16) (v:=?v45) rfl (by kernel_rfl) (by kernel_rfl) (by kernel_rfl) (fun _ _ _ h=>h) (Or.inl ⟨by rfl,?hy45⟩) (by assumption) ?rest45
 case hy45 =>
  intro w hSw
  (try dsimp only at hSw)
  go_simp
  with_reducible rfl
 try simp only[List.getElem_toArray,List.getElem_cons_succ,List.getElem_cons_zero,Act.put,List.setIfInBounds_toArray,List.set_cons_zero,List.set_cons_succ]
 have hx3:w3.heap[x]? =some (.cells cur wdT (0,0)):=(hb3.block x (Nat.lt_of_lt_of_le (z00 ((HB0.out.block x (z00 HX.out.2.1)).trans HX.out.2.1)) hb2.size)).trans ((hb2.block x (z00 ((HB0.out.block x (z00 HX.out.2.1)).trans HX.out.2.1))).trans ((HB0.out.block x (z00 HX.out.2.1)).trans HX.out.2.1))
 have hcs:8*a+8≤cur.size:=by have:=HX.out.2.2; omega
 have hth:=z57 hx3 (8*a) 8 hcs
 have hsz8:(wd (w8 (o*8+2) (q))).size=8:=by rw[z44,z1l]
 refine wpAnyH_ready (rs:= [17]) (by kernel_rfl) (by simp) ?_;refine AllReadyH.cons rfl (fun K hK=>?_) AllReadyH.nil;rw[if_pos (by rfl)];refine wp_store_mid wdT (.tmp 22) (.tmp 21) rfl x (a*8) (wd (w8 (o*8+2) (q))) ?e1 rfl ?e2 ?e3 (zhi _) ?_
 case e1=>rfl
 case e2=>rw[hsz8,Nat.mul_comm]; exact hth
 case e3=>rw[hsz8]; exact z1w
 have hst:w3.setCells x (a*8) (wd (w8 (o*8+2) (q))).toList=w3.setCells x (8*a) (Lib.byteCells (w8 (o*8+2) (q))):=by rw[Nat.mul_comm]; simp[wd]
 rw[hst];have hb3':=(HB0.out.trans (hb2.mono HB0.out.size)).trans (hb3.mono (Nat.le_trans HB0.out.size hb2.size));have hB3:=(HB.out.keep (w':=w3) (fun k hk=>hb3'.block k (HB.out.lt k hk).2)).put hi (a:=a) (t:=w8 (o*8+2) (q)) (by rw[z1l]; have:=HLEN.out; omega) x _ _ HV.out;have hk3:KP P w (w3.setCells x (8*a) (Lib.byteCells (w8 (o*8+2) (q)))):=(KP.of_below hb3').trans (KP.sets (HP.out x (.inr (.inr ⟨i,hi,.inr (by rw[HV.out]; rfl)⟩))) w3 _ _) (fun _ _ h=>h)
 have hfin:Bun (w3.setCells x (8*a) (Lib.byteCells (w8 (o*8+2) (q)))) base b size (putS ss i a (w8 (o*8+2) (q))) P:=⟨_,_,_,by rw[z1j hi (by rw[z1l]; have:=HLEN.out; omega)]; exact hB3,fun k hk=>HP.out k (by rwa [z0a] at hk)⟩
 have HK3:=hid hk3;have HF3:=hid hfin
 have hxx:∀ {ad:Addr} {u:Value},w3.cell? ad=some u→ad.block≠x→(w3.setCells x (8*a) (Lib.byteCells (w8 (o*8+2) (q)))).cell? ad=some u:=fun {ad u} h hp=>(World.cell?_of_block (z1i _ _ _ _ _ hp)).trans h
 refine hK.out _ _ ?_ (fun hH3=>?_)
 · refine ⟨⟨hxx (kcw hb3 (kcw hb2 p0)) (ne_T HB.out.hb HX.out.2.1 (by decide)),hxx (kcw hb3 (kcw hb2 p1)) ?_,hxx (kcw hb3 (kcw hb2 p2)) ?_⟩,⟨hxx (kcw hb3 (kcw hb2 p3)) ?_,hxx (kcw hb3 (kcw hb2 p4)) ?_⟩⟩
   · obtain ⟨c,hc⟩:=own_T HB.out.hr (k:=r) rfl
     exact ne_T hc HX.out.2.1 (by decide)
   · rw[HGI.out]; exact ne_T (HB.out.hg i hi) HX.out.2.1 (by decide)
   · have:=z00 HX.out.2.1; show w.heap.size≠x; omega
   · have:=z00 HX.out.2.1; show w.heap.size≠x; omega
 clear hK K hH2 hB3 hk3 hfin hxx hst hth hx3 hb3';generalize w3.setCells x (8*a) (Lib.byteCells (w8 (o*8+2) (q)))=w4 at *;refine wpAnyH_done (by kernel_rfl) ?_ _;go_wp2
 go_end0
 exact ⟨rfl,HK3.out,HF3.out⟩
def ptV (n:Nd)(off:Int):Value :=
 if n.kind=1 then .iface 168 (.agg #[.int .i64 off,.int .i64 (n.data.size/8:Nat),.int .i64 (n.ptrs.length:Nat)])
 else if n.size=7 then .iface 170 (.agg #[.int .i64 off,.int .i64 7,.int .i64 ((ownN n:Int)-1)]) else .iface 170 (.agg #[.int .i64 off,.int .i64 n.size,.int .i64 n.count])
theorem z49 {n:Nd}(hf:formN n=true)(ho:ownN n≤300):n.data.size≤2400∧n.ptrs.length≤300∧n.items.length≤20000∧(n.kind≠0→n.kind=1∨n.kind=2)∧(n.kind=2→0≤n.size∧n.size≤7∧0≤n.count∧n.count<12801)∧(n.kind=2→n.size=7→1≤ownN n∧(n.items.length:Int)=n.count∧n.data.size=0∧n.ptrs.length=0)∧(n.kind=1→n.data.size%8=0):=by
 have hb:ownB n≤ownN n:=by unfold ownN; omega
 have hd:n.data.size≤2400:=by unfold ownB at hb; omega
 have hp:n.ptrs.length≤300:=by unfold ownB at hb; omega
 rcases z0d hf with h | h | ⟨h1,h2,h | h | h⟩
 · exact ⟨hd,hp,by omega,fun e=>by omega,fun e=>by omega,fun e=>by omega,fun e=>by omega⟩
 · exact ⟨hd,hp,by omega,fun _=> .inl h.1,fun e=>by omega,fun e=>by omega,fun _=>by omega⟩
 · exact ⟨hd,hp,by omega,fun _=> .inr h1,fun _=>by omega,fun _ e=>by omega,fun e=>by omega⟩
 · exact ⟨hd,hp,by omega,fun _=> .inr h1,fun _=>by omega,fun _ e=>by omega,fun e=>by omega⟩
 · refine ⟨hd,hp,by omega,fun _=> .inr h1,fun _=>by omega,fun _ _=>⟨?_,by omega,by omega,by omega⟩,fun e=>by omega⟩
   unfold ownN;rw[if_pos ⟨h1,h.1⟩];omega
theorem z4n (m:Nat)(n:Nd)(h:Hd)(off:Int)(w:World)(S:Nat→Prop)(hn:NdAt w S m n h)(hf:formN n=true)(ht:totN m n≤2000000)(ho:ownN n≤300)(hk:n.kind≠0) :
 Calls Tryz.prog 74 #[.agg #[.int .i64 n.kind,.string n.data,.slice h.A n.ptrs.length h.a,.int .i64 n.size,.int .i64 n.count,.slice h.B n.items.length h.b],.int .i64 off] w fun e w'=>e= .returned (ptV n off)∧Below w.heap.size w w':=by
 obtain ⟨qA,qa,qB,qb⟩:=h;obtain ⟨hd,hp,_,hkk,hs,h7,h8⟩:=z49 hf ho;have hb0:Below w.heap.size w (w.alloc (.cells #[.int .i64 n.kind,.string n.data,.slice qA n.ptrs.length qa,.int .i64 n.size,.int .i64 n.count,.slice qB n.items.length qb] nodeT)):=(Below.refl _ w).alloc (Nat.le_refl _) _
 rcases hkk hk with k1 | k2
 · have hkb:(n.kind==1)=true:=by rw[k1]; rfl
   have HE:Hid (ptV n off= .iface 168 (.agg #[.int .i64 off,.int .i64 (n.data.size/8:Nat),.int .i64 (n.ptrs.length:Nat)])):=hid (by unfold ptV; rw[if_pos k1]);rw[HE.out];have HB:=hid hb0
   have e8:(n.data.size:Int)/8=((n.data.size/8:Nat):Int):=by omega
   rw[← e8];clear hn hf hkk hs h7 h8 hk k1 hb0 e8
   dsimp only
   go_enter Tryz.func74,Tryz.ntmps74;go_wp2;go_ret;exact ⟨rfl,HB.out⟩
 · have hkb:(n.kind==1)=false:=by rw[k2]; rfl
   have HOW:=hid (z30 m n ⟨qA,qa,qB,qb⟩ _ S (hn.below hb0) hf ht);have HB:=hid hb0;have hs':=hs k2
   have k1:¬n.kind=1:=by omega
   dsimp only at HOW
   by_cases e7:n.size=7
   · have hsb:(n.size==7)=true:=by rw[e7]; rfl
     have HE:Hid (ptV n off= .iface 170 (.agg #[.int .i64 off,.int .i64 7,.int .i64 ((ownN n:Int)-1)])):=hid (by unfold ptV; rw[if_neg k1,if_pos e7]);rw[HE.out];have h1:=(h7 k2 e7).1;generalize ownN n=on at *;clear hn hf hkk hs h7 h8 hk k1 k2 hb0 e7 hs'
     dsimp only
     go_enter Tryz.func74,Tryz.ntmps74
     go_wp2_with fail
     refine HOW.out.mono ?_;rintro e w1 ⟨rfl,hb1⟩;have HB1:=hid (HB.out.trans (hb1.mono HB.out.size));clear hb1;go_wp2;go_ret;exact ⟨rfl,HB1.out⟩
   · have hsb:(n.size==7)=false:=by simpa using e7
     have HE:Hid (ptV n off= .iface 170 (.agg #[.int .i64 off,.int .i64 n.size,.int .i64 n.count])):=hid (by unfold ptV; rw[if_neg k1,if_neg e7]);rw[HE.out];clear hn hf hkk hs h7 h8 hk k1 k2 hb0 e7 hs' HOW
     dsimp only
     go_enter Tryz.func74,Tryz.ntmps74;go_wp2;go_ret;exact ⟨rfl,HB.out⟩
theorem zd1 (base b size:Nat)(ss:Segs)(P:Nat→Prop)(w:World)(h:Bun w base b size ss P)(hw8:WdS ss)(i a:Nat)(hi:i<ss.length)(ha:a<wn (sgS ss i))(ht:totS ss≤100000)(n:Nd)(hf:formN n=true)(ho:ownN n≤300)(hk:n.kind≠0)(off:Int)(h0: -100000≤off)(h1:off≤100000) :
 Calls Tryz.prog 73 #[.pointer (some ⟨b,0,none⟩),.agg #[.int .i64 (i:Int),.int .i64 (a:Int)],ptV n off] w (SetP base b size ss i a (ptrW n off) P w):=by
 obtain ⟨hd,hp,_,hkk,hs,h7,h8⟩:=z49 hf ho;unfold ptV ptrW
 split
 · exact zgc base b size ss P w h hw8 i a hi ha ht off _ _ (by omega) (by omega) (by omega) (by omega) (by omega) (by omega)
 · have k2:n.kind=2:=by rcases hkk hk with e | e <;> omega
   have:=hs k2
   split
   · rename_i e7
     have:=h7 k2 e7;exact zm5 base b size ss P w h hw8 i a hi ha ht off 7 _ (by omega) (by omega) (by omega) (by omega) (by omega) (by omega)
   · exact zm5 base b size ss P w h hw8 i a hi ha ht off _ _ (by omega) (by omega) (by omega) (by omega) (by omega) (by omega)
end Go.Proofs.YtlbfffokkhccaaaGreatDoor
namespace Go.Proofs.YtlbfffokkhccaaaGreatDoor
theorem zh0 {a b:ByteArray}(h:a.data.toList=b.data.toList):a=b:=by
 obtain ⟨⟨a⟩⟩:=a;obtain ⟨⟨b⟩⟩:=b
 simp only at h
 rw[h]
theorem z9e {a b:ByteArray}(h:a.size=0)(g:b.size=0):a=b:=zh0 (by
 have h1:=z0l a;have h2:=z0l b
 rw[List.eq_nil_of_length_eq_zero (h1.trans h),List.eq_nil_of_length_eq_zero (h2.trans g)])
theorem z5u {n m:Nd}(h1:n.kind=m.kind)(h2:n.data=m.data)(h3:n.ptrs=m.ptrs)(h4:n.size=m.size)(h5:n.count=m.count)(h6:n.items=m.items):n=m:=by
 cases n; cases m
 simp only[Nd.kind,Nd.data,Nd.ptrs,Nd.size,Nd.count,Nd.items] at h1 h2 h3 h4 h5 h6
 subst h1 h2 h3 h4 h5 h6
 rfl
theorem zjd {n m:Nd}(hn:formN n=true)(hm:formN m=true)(h:n.kind=0)(g:m.kind=0):n=m:=by
 rcases z0d hn with c | c | c
 · rcases z0d hm with e | e | e
   · exact z5u (by omega) (z9e c.2.1 e.2.1) ((z06 c.2.2.1).trans (z06 e.2.2.1).symm) (by omega) (by omega) ((z06 c.2.2.2.2.2).trans (z06 e.2.2.2.2.2).symm)
   · omega
   · omega
 · omega
 · omega
theorem pt_ok {n:Nd}(hf:formN n=true)(ho:ownN n≤300)(hk:n.kind≠0):PtOk n:=by
 obtain ⟨h1,h2,h3,h4,h5,h6,h7⟩:=z49 hf ho;exact ⟨h1,h2,h4 hk,h5,fun a b=>⟨(h6 a b).1,ho⟩⟩
open Go.RowKit
theorem zax (l:List UInt8)(at_ size:Int)(w:World)(hl:l.length=8)(h0:0≤at_)(h1:0≤size)(h2:at_+size≤8) :
 Calls Tryz.prog 108 #[.agg (wd l),.int .i64 at_,.int .i64 size] w fun e w'=>e= .returned (.int .u64 (leN l at_.toNat size.toNat:Nat))∧Below w.heap.size w w':=by
 obtain ⟨a,rfl⟩:=Int.eq_ofNat_of_zero_le h0;obtain ⟨z,rfl⟩:=Int.eq_ofNat_of_zero_le h1
 have hc:=fun i (h:i<8)=>zqu w l 87 i (by omega)
 have HC:=hid hc;have HL:=hid hl;clear hc hl;go_enter Tryz.func108,Tryz.ntmps108;go_wp2
 go_loop [7,8] (fun n i=>∃k:Nat,k≤z∧i= .int .i64 ((a:Int)+z-1-k)∧n= .int .u64 (leN l (a+z-k) k:Nat)) (fun _ i=>(intOf i+1-a).toNat)
 case atStart=>exact ⟨0,by omega,by simp,by simp[leN]⟩
 case round =>
  obtain ⟨k,hk,rfl,rfl⟩:=hrel
  by_cases hlt:k<z
  · have hcell:=HC.out (a+z-1-k) (by omega)
    go_wp2
    go_round
    case rel=>exact ⟨k+1,by omega,by go_num,by rw[zfo l a z k hlt (by omega)]⟩
    case measure=>simp[intOf]; omega
  · go_wp2
    go_ret;refine ⟨z2n ?_,(Below.refl _ _).alloc (Nat.le_refl _) _⟩
    obtain rfl:k=z:=by omega
    simp
def ptif (k o d p s c g:Int)(t:Bool):Value :=
 if k=0 then .iface 129 (.agg #[]) else if k=1 then .iface 168 (.agg #[.int .i64 o,.int .i64 d,.int .i64 p])
 else if k=2 then .iface 170 (.agg #[.int .i64 o,.int .i64 s,.int .i64 c]) else if k=3 then .iface 172 (.agg #[.int .i64 o,.int .i64 g,.bool t]) else .iface 173 (.agg #[])
theorem z6c {a b:Value}(h:a=b):Ending.returned a= .returned b:=by rw[h]
theorem zbv (x:Value)(w:World):(Instr.typeAssert (.iface 129 x) 91 129 true).run Tryz.prog w= .ok (.tuple #[x,.bool true]) w:=by kernel_rfl
theorem zbt (x:Value)(w:World):(Instr.typeAssert (.iface 168 x) 91 129 true).run Tryz.prog w= .ok (.tuple #[.agg #[],.bool false]) w:=by kernel_rfl
theorem z3f (x:Value)(w:World):(Instr.typeAssert (.iface 168 x) 91 168 true).run Tryz.prog w= .ok (.tuple #[x,.bool true]) w:=by kernel_rfl
theorem zix (x:Value)(w:World):(Instr.typeAssert (.iface 170 x) 91 129 true).run Tryz.prog w= .ok (.tuple #[.agg #[],.bool false]) w:=by kernel_rfl
theorem z4d (x:Value)(w:World):(Instr.typeAssert (.iface 170 x) 91 168 true).run Tryz.prog w= .ok (.tuple #[.agg #[.int .i64 0,.int .i64 0,.int .i64 0],.bool false]) w:=by kernel_rfl
theorem z4c (x:Value)(w:World):(Instr.typeAssert (.iface 170 x) 91 170 true).run Tryz.prog w= .ok (.tuple #[x,.bool true]) w:=by kernel_rfl
theorem zit (x:Value)(w:World):(Instr.typeAssert (.iface 172 x) 91 129 true).run Tryz.prog w= .ok (.tuple #[.agg #[],.bool false]) w:=by kernel_rfl
theorem z5m (x:Value)(w:World):(Instr.typeAssert (.iface 172 x) 91 172 true).run Tryz.prog w= .ok (.tuple #[x,.bool true]) w:=by kernel_rfl
def z58 (n:Int):Int:=if n=1 then 1 else if n=2 then 8 else if n=3 then 16 else if n=4 then 32 else if n=5 then 64 else if n=6 then 64 else 0
theorem zf6 (n:Int)(w:World)(h0:0≤n)(h1:n≤6) :
 Calls Tryz.prog 170 #[.int .i64 n] w fun e w'=>e= .returned (.int .i64 (z58 n))∧w=w':=by
 have h:n=0∨n=1∨n=2∨n=3∨n=4∨n=5∨n=6:=by omega
 rcases h with rfl | rfl | rfl | rfl | rfl | rfl | rfl
 all_goals
  go_enter Tryz.func170,Tryz.ntmps170;go_wp2;go_ret;exact ⟨z2n (by decide),rfl⟩
theorem zmm (n:Int):0≤z58 n∧z58 n≤64:=by unfold z58; split <;> (try split) <;> (try split) <;> (try split) <;> (try split) <;> (try split) <;> omega
def wfI (size count:Int):Int:=(z58 size*count+63)/64
theorem z5b (size count:Int)(w:World)(a1:0≤size)(a2:size≤6)(c1:0≤count)(c2:count≤1000000000) :
 Calls Tryz.prog 160 #[.int .i64 size,.int .i64 count] w fun e w'=>e= .returned (.int .i64 (wfI size count))∧w=w':=by
 have hb:=zmm size
 have hfin:wfI size count=(count*z58 size+64-1)/64:=by
  rw[wfI,Int.mul_comm]; congr 1; omega
 obtain ⟨b1,b2⟩:=hb;have m0:0≤count*z58 size:=Int.mul_nonneg c1 b1;have m1:count*z58 size≤1000000000*64:=Int.mul_le_mul c2 b2 b1 (by decide);rw[hfin];clear hfin;go_enter Tryz.func160,Tryz.ntmps160
 go_wp2_with (first | (go_at_call 170; refine (zf6 _ _ a1 a2).mono ?_; rintro e w' ⟨rfl,rfl⟩))
 go_ret;exact ⟨z2n rfl,rfl⟩
theorem z2c {w:World}{b:Nat}{a0 a1 a2 a3 a4 a5 a6 a7:Value}{T:TypeId}(h:w.heap[b]? =some (.cells #[a0,a1,a2,a3,a4,a5,a6,a7] T (0,0))) :
 w.cell? ⟨b,0,none⟩=some a0∧w.cell? ⟨b,1,none⟩=some a1∧w.cell? ⟨b,2,none⟩=some a2∧w.cell? ⟨b,3,none⟩=some a3∧w.cell? ⟨b,4,none⟩=some a4∧w.cell? ⟨b,5,none⟩=some a5∧w.cell? ⟨b,6,none⟩=some a6∧w.cell? ⟨b,7,none⟩=some a7:=by
 simp[World.cell?,h]
theorem kept8 {w w':World}{b:Nat}{o:Obj}(h:w.heap[b]? =some o)(hb:Below w.heap.size w w'):w'.heap[b]? =some o:=by
 have hlt:b<w.heap.size:=by
  rcases Nat.lt_or_ge b w.heap.size with hlt | hge
  · exact hlt
  · rw[Array.getElem?_eq_none hge] at h; cases h
 exact (hb.block b hlt).trans h
def leI (l:List UInt8)(a:Int):Int:=((leN l a.toNat 4:Nat):Int)
def wv (a b c d e f g i:UInt8):Value:= .agg #[.int .u8 a.toNat,.int .u8 b.toNat,.int .u8 c.toNat,.int .u8 d.toNat,.int .u8 e.toNat,.int .u8 f.toNat,.int .u8 g.toNat,.int .u8 i.toNat]
def zer8 (a b c d e f g i:UInt8):Bool:= [a,b,c,d,e,f,g,i]== [0,0,0,0,0,0,0,0]
theorem zok (a b c d e f g i:UInt8)(w:World) :
 (binOp .eql 87 (.agg #[.int .u8 a.toNat,.int .u8 b.toNat,.int .u8 c.toNat,.int .u8 d.toNat,.int .u8 e.toNat,.int .u8 f.toNat,.int .u8 g.toNat,.int .u8 i.toNat]) (.agg #[.int .u8 0,.int .u8 0,.int .u8 0,.int .u8 0,.int .u8 0,.int .u8 0,.int .u8 0,.int .u8 0])).run Tryz.prog w= .ok (.bool (zer8 a b c d e f g i)) w :=
 run_eql_bytes w 87 5 8 Tryz.underlying87 Tryz.underlying5 (fun w=>by kernel_rfl) [a,b,c,d,e,f,g,i] [0,0,0,0,0,0,0,0] rfl rfl
theorem zic (op:BinOp)(x y:Operand)(xs ys:Array Value)(w:World):(eqGuard op 87 x y (.agg xs) (.agg ys)).run Tryz.prog w= .ok () w:=run_eqGuard_agg w _ _ _ _ _ _ (by kernel_rfl)
theorem zrt (a b c d e f g i:UInt8):zer8 a b c d e f g i=decide (leN [a,b,c,d,e,f,g,i] 0 4=0∧leN [a,b,c,d,e,f,g,i] 4 4=0):=by
 have h1:leN [a,b,c,d,e,f,g,i] 0 4=a.toNat+256*(b.toNat+256*(c.toNat+256*(d.toNat+256*0))):=rfl;have h2:leN [a,b,c,d,e,f,g,i] 4 4=e.toNat+256*(f.toNat+256*(g.toNat+256*(i.toNat+256*0))):=rfl;rw[h1,h2,zer8,Bool.eq_iff_iff]
 simp[← UInt8.toNat_inj]
 omega
theorem zbn (n:Int)(h:0≤n∧n<4294967296):IntKind.i64.wrap n=n∧wrap64 n=n:=by
 constructor
 · rw[IntKind.wrap_i64]; omega
 · unfold wrap64; omega
def ptI (x:Int×Int×Int×Int×Int×Int×Int×Bool):Value:=ptif x.1 x.2.1 x.2.2.1 x.2.2.2.1 x.2.2.2.2.1 x.2.2.2.2.2.1 x.2.2.2.2.2.2.1 x.2.2.2.2.2.2.2
theorem z9x (a b c d e f g i:UInt8)(w:World) :
 Calls Tryz.prog 61 #[wv a b c d e f g i] w fun e' w'=>e'= .returned (ptI (getP (leN [a,b,c,d,e,f,g,i] 0 4) (leN [a,b,c,d,e,f,g,i] 4 4)))∧Below w.heap.size w w':=by
 have hl:=zdb [a,b,c,d,e,f,g,i] 4 0;have hh:=zdb [a,b,c,d,e,f,g,i] 4 4
 have hL:∀(n:Int) (w:World),(n=0∨n=4)→Calls Tryz.prog 108 #[wv a b c d e f g i,.int .i64 n,.int .i64 4] w fun e' w'=>e'= .returned (.int .u64 (leI [a,b,c,d,e,f,g,i] n))∧Below w.heap.size w w' :=
  fun n w hn=>zax [a,b,c,d,e,f,g,i] n 4 w rfl (by omega) (by decide) (by omega)
 have e0:leI [a,b,c,d,e,f,g,i] 0=((leN [a,b,c,d,e,f,g,i] 0 4:Nat):Int):=rfl;have e4:leI [a,b,c,d,e,f,g,i] 4=((leN [a,b,c,d,e,f,g,i] 4 4:Nat):Int):=rfl;have hz:=zrt a b c d e f g i;generalize leN [a,b,c,d,e,f,g,i] 0 4=lo at *;generalize leN [a,b,c,d,e,f,g,i] 4 4=hi at *;generalize leI [a,b,c,d,e,f,g,i]=LE at *;have he:=zok a b c d e f g i
 have hg0:=fun op x y w=>zic op x y #[.int .u8 a.toNat,.int .u8 b.toNat,.int .u8 c.toNat,.int .u8 d.toNat,.int .u8 e.toNat,.int .u8 f.toNat,.int .u8 g.toNat,.int .u8 i.toNat] #[.int .u8 0,.int .u8 0,.int .u8 0,.int .u8 0,.int .u8 0,.int .u8 0,.int .u8 0,.int .u8 0] w
 generalize zer8 a b c d e f g i=z at *;have HL:=hid hL;have HZ:=hid hz;clear hL hz;have hlo:lo<4294967296:=hl;have hhi:hi<4294967296:=hh;clear hl hh
 have c0:lo%4=0∨lo%4=1∨lo%4=2∨lo%4=3:=by omega
 have c4:lo/4%2=0∨lo/4%2=1:=by omega
 have U0:=hid (zbn ((hi:Int)%65536) (by omega)).1;have U1:=hid (zbn ((hi:Int)/65536) (by omega)).1;have U2:=hid (zbn ((hi:Int)%8) (by omega)).1;have U3:=hid (zbn ((hi:Int)/8) (by omega)).1;have U4:=hid (zbn ((lo:Int)/8) (by omega)).1;have U5:=hid (zbn (hi:Int) (by omega)).1
 have cu:IntKind.u32.wrap (lo:Int)=lo:=by rw[IntKind.wrap_u32]; omega
 have ch:IntKind.u32.wrap (hi:Int)=hi:=by rw[IntKind.wrap_u32]; omega
 have hm:∃m:Int,IntKind.i32.wrap (lo:Int)=m∧m/4=sgn lo∧IntKind.i64.wrap (sgn lo)=sgn lo:=by
  refine ⟨_,rfl,?_,?_⟩
  · rw[IntKind.wrap_i32]; unfold sgn; split <;> omega
  · rw[IntKind.wrap_i64]; unfold sgn; split <;> omega
 obtain ⟨m,m1,m3,m4⟩:=hm;have a3:=zs1 lo hlo
 have z3:bits .and .u32 0 3=0:=by decide
 unfold wv at HL ⊢
 by_cases h0:lo=0
 · have e0':LE 0=0:=by rw[e0,h0]; rfl
   have cu0:IntKind.u32.wrap 0=0:=by decide
   have ci0:IntKind.i32.wrap 0=0:=by decide
   clear e0 a3 cu m1 m3 m4 c0 c4
   by_cases h1:hi=0
   · have e4':LE 4=0:=by rw[e4,h1]; rfl
     have hz:z=true:=by rw[HZ.out]; simp[h0,h1]
     subst hz;clear e4 ch
     have hg:getP lo hi=(0,0,0,0,0,0,0,false):=by simp[getP,h0,h1]
     have HG:=hid hg;clear hg;clear h0 h1;go_enter Tryz.func61,Tryz.ntmps61;go_wp2;have hblk:=heap_alloc_new w (.cells #[.int .u8 a.toNat,.int .u8 b.toNat,.int .u8 c.toNat,.int .u8 d.toNat,.int .u8 e.toNat,.int .u8 f.toNat,.int .u8 g.toNat,.int .u8 i.toNat] 87 (0,0));obtain ⟨q0,q1,q2,q3,q4,q5,q6,q7⟩:=z2c hblk;have HK:=hid hblk;clear hblk
     go_region_law (first | (go_simp; go_at_call 108; have hx:=hb2; refine (HL.out _ _ (by decide)).mono ?_; rintro e' w3 ⟨rfl,hb3⟩) | (go_simp; go_at_call 108; refine (HL.out _ _ (by decide)).mono ?_; rintro e' w2 ⟨rfl,hb2⟩; have hk2:=kept8 (w:=(w.alloc _).drew) HK.out hb2; obtain ⟨f0,f1,f2,f3,f4,f5,f6,f7⟩:=z2c hk2; clear hk2))
     all_goals
      have hk3:=kept8 (kept8 (w:=(w.alloc _).drew) HK.out hb2) hb3;obtain ⟨r0,r1,r2,r3,r4,r5,r6,r7⟩:=z2c hk3;have HB1:Hid (Below w.heap.size w w2):=(((Below.refl w.heap.size w).alloc (Nat.le_refl _) _).drew).trans (hb2.mono (by simp));have HB3:Hid (Below w.heap.size w w3):=HB1.out.trans (hb3.mono HB1.out.size);clear hk3 hb2 hb3 q0 q1 q2 q3 q4 q5 q6 q7 f0 f1 f2 f3 f4 f5 f6 f7;go_wp2;go_ret;exact ⟨z6c (by rw[HG.out]; simp[ptI,ptif]),HB3.out⟩
   · have hz:z=false:=by rw[HZ.out]; simp[h0,h1]
     subst hz;have aw:=zjt hi hhi;have u0:=U0.out;have u1:=U1.out
     have hg:getP lo hi=(1,0,(hi:Int)%65536,(hi:Int)/65536,0,0,0,false):=by simp[getP,h0,h1,sgn]
     have HG:=hid hg;clear hg;clear h0 h1;go_enter Tryz.func61,Tryz.ntmps61;go_wp2;have hblk:=heap_alloc_new w (.cells #[.int .u8 a.toNat,.int .u8 b.toNat,.int .u8 c.toNat,.int .u8 d.toNat,.int .u8 e.toNat,.int .u8 f.toNat,.int .u8 g.toNat,.int .u8 i.toNat] 87 (0,0));obtain ⟨q0,q1,q2,q3,q4,q5,q6,q7⟩:=z2c hblk;have HK:=hid hblk;clear hblk
     go_region_law (first | (go_simp; go_at_call 108; have hx:=hb2; refine (HL.out _ _ (by decide)).mono ?_; rintro e' w3 ⟨rfl,hb3⟩) | (go_simp; go_at_call 108; refine (HL.out _ _ (by decide)).mono ?_; rintro e' w2 ⟨rfl,hb2⟩; have hk2:=kept8 (w:=(w.alloc _).drew) HK.out hb2; obtain ⟨f0,f1,f2,f3,f4,f5,f6,f7⟩:=z2c hk2; clear hk2))
     all_goals
      have hk3:=kept8 (kept8 (w:=(w.alloc _).drew) HK.out hb2) hb3;obtain ⟨r0,r1,r2,r3,r4,r5,r6,r7⟩:=z2c hk3;have HB1:Hid (Below w.heap.size w w2):=(((Below.refl w.heap.size w).alloc (Nat.le_refl _) _).drew).trans (hb2.mono (by simp));have HB3:Hid (Below w.heap.size w w3):=HB1.out.trans (hb3.mono HB1.out.size);clear hk3 hb2 hb3 q0 q1 q2 q3 q4 q5 q6 q7 f0 f1 f2 f3 f4 f5 f6 f7;go_wp2;go_ret;exact ⟨z6c (by rw[HG.out]; simp[ptI,ptif]),HB3.out⟩
 · have hz:z=false:=by rw[HZ.out]; simp[h0]
   subst hz
   rcases c0 with c | c | c | c
   all_goals rw[c] at a3
   · have aw:=zjt hi hhi
     have u0:=U0.out;have u1:=U1.out
     have hg:getP lo hi=(1,sgn lo,(hi:Int)%65536,(hi:Int)/65536,0,0,0,false):=by simp[getP,h0,c]
     have HG:=hid hg;clear hg;clear h0 c;go_enter Tryz.func61,Tryz.ntmps61;go_wp2;have hblk:=heap_alloc_new w (.cells #[.int .u8 a.toNat,.int .u8 b.toNat,.int .u8 c.toNat,.int .u8 d.toNat,.int .u8 e.toNat,.int .u8 f.toNat,.int .u8 g.toNat,.int .u8 i.toNat] 87 (0,0));obtain ⟨q0,q1,q2,q3,q4,q5,q6,q7⟩:=z2c hblk;have HK:=hid hblk;clear hblk
     go_region_law (first | (go_simp; go_at_call 108; have hx:=hb2; refine (HL.out _ _ (by decide)).mono ?_; rintro e' w3 ⟨rfl,hb3⟩) | (go_simp; go_at_call 108; refine (HL.out _ _ (by decide)).mono ?_; rintro e' w2 ⟨rfl,hb2⟩; have hk2:=kept8 (w:=(w.alloc _).drew) HK.out hb2; obtain ⟨f0,f1,f2,f3,f4,f5,f6,f7⟩:=z2c hk2; clear hk2))
     all_goals
      have hk3:=kept8 (kept8 (w:=(w.alloc _).drew) HK.out hb2) hb3;obtain ⟨r0,r1,r2,r3,r4,r5,r6,r7⟩:=z2c hk3;have HB1:Hid (Below w.heap.size w w2):=(((Below.refl w.heap.size w).alloc (Nat.le_refl _) _).drew).trans (hb2.mono (by simp));have HB3:Hid (Below w.heap.size w w3):=HB1.out.trans (hb3.mono HB1.out.size);clear hk3 hb2 hb3 q0 q1 q2 q3 q4 q5 q6 q7 f0 f1 f2 f3 f4 f5 f6 f7;go_wp2;go_ret;exact ⟨z6c (by rw[HG.out]; simp[ptI,ptif]),HB3.out⟩
   · have aw:=zr4 hi hhi
     have u0:=U2.out;have u1:=U3.out
     have hg:getP lo hi=(2,sgn lo,0,0,(hi:Int)%8,(hi:Int)/8,0,false):=by simp[getP,h0,c]
     have HG:=hid hg;clear hg;clear h0 c;go_enter Tryz.func61,Tryz.ntmps61;go_wp2;have hblk:=heap_alloc_new w (.cells #[.int .u8 a.toNat,.int .u8 b.toNat,.int .u8 c.toNat,.int .u8 d.toNat,.int .u8 e.toNat,.int .u8 f.toNat,.int .u8 g.toNat,.int .u8 i.toNat] 87 (0,0));obtain ⟨q0,q1,q2,q3,q4,q5,q6,q7⟩:=z2c hblk;have HK:=hid hblk;clear hblk
     go_region_law (first | (go_simp; go_at_call 108; have hx:=hb2; refine (HL.out _ _ (by decide)).mono ?_; rintro e' w3 ⟨rfl,hb3⟩) | (go_simp; go_at_call 108; refine (HL.out _ _ (by decide)).mono ?_; rintro e' w2 ⟨rfl,hb2⟩; have hk2:=kept8 (w:=(w.alloc _).drew) HK.out hb2; obtain ⟨f0,f1,f2,f3,f4,f5,f6,f7⟩:=z2c hk2; clear hk2))
     all_goals
      have hk3:=kept8 (kept8 (w:=(w.alloc _).drew) HK.out hb2) hb3;obtain ⟨r0,r1,r2,r3,r4,r5,r6,r7⟩:=z2c hk3;have HB1:Hid (Below w.heap.size w w2):=(((Below.refl w.heap.size w).alloc (Nat.le_refl _) _).drew).trans (hb2.mono (by simp));have HB3:Hid (Below w.heap.size w w3):=HB1.out.trans (hb3.mono HB1.out.size);clear hk3 hb2 hb3 q0 q1 q2 q3 q4 q5 q6 q7 f0 f1 f2 f3 f4 f5 f6 f7;go_wp2;go_ret;exact ⟨z6c (by rw[HG.out]; simp[ptI,ptif]),HB3.out⟩
   · have a4:=zrp lo hlo
     have u0:=U4.out;have u1:=U5.out
     rcases c4 with dd | dd
     all_goals rw[dd] at a4
     · have hg:getP lo hi=(3,(lo:Int)/8,0,0,0,0,(hi:Int),false):=by simp[getP,h0,c,dd]
       have HG:=hid hg;clear hg;clear h0 c dd;go_enter Tryz.func61,Tryz.ntmps61;go_wp2;have hblk:=heap_alloc_new w (.cells #[.int .u8 a.toNat,.int .u8 b.toNat,.int .u8 c.toNat,.int .u8 d.toNat,.int .u8 e.toNat,.int .u8 f.toNat,.int .u8 g.toNat,.int .u8 i.toNat] 87 (0,0));obtain ⟨q0,q1,q2,q3,q4,q5,q6,q7⟩:=z2c hblk;have HK:=hid hblk;clear hblk
       go_region_law (first | (go_simp; go_at_call 108; have hx:=hb2; refine (HL.out _ _ (by decide)).mono ?_; rintro e' w3 ⟨rfl,hb3⟩) | (go_simp; go_at_call 108; refine (HL.out _ _ (by decide)).mono ?_; rintro e' w2 ⟨rfl,hb2⟩; have hk2:=kept8 (w:=(w.alloc _).drew) HK.out hb2; obtain ⟨f0,f1,f2,f3,f4,f5,f6,f7⟩:=z2c hk2; clear hk2))
       all_goals
        have hk3:=kept8 (kept8 (w:=(w.alloc _).drew) HK.out hb2) hb3;obtain ⟨r0,r1,r2,r3,r4,r5,r6,r7⟩:=z2c hk3;have HB1:Hid (Below w.heap.size w w2):=(((Below.refl w.heap.size w).alloc (Nat.le_refl _) _).drew).trans (hb2.mono (by simp));have HB3:Hid (Below w.heap.size w w3):=HB1.out.trans (hb3.mono HB1.out.size);clear hk3 hb2 hb3 q0 q1 q2 q3 q4 q5 q6 q7 f0 f1 f2 f3 f4 f5 f6 f7;go_wp2;go_ret;exact ⟨z6c (by rw[HG.out]; simp[ptI,ptif]),HB3.out⟩
     · have hg:getP lo hi=(3,(lo:Int)/8,0,0,0,0,(hi:Int),true):=by simp[getP,h0,c,dd]
       have HG:=hid hg;clear hg;clear h0 c dd;go_enter Tryz.func61,Tryz.ntmps61;go_wp2;have hblk:=heap_alloc_new w (.cells #[.int .u8 a.toNat,.int .u8 b.toNat,.int .u8 c.toNat,.int .u8 d.toNat,.int .u8 e.toNat,.int .u8 f.toNat,.int .u8 g.toNat,.int .u8 i.toNat] 87 (0,0));obtain ⟨q0,q1,q2,q3,q4,q5,q6,q7⟩:=z2c hblk;have HK:=hid hblk;clear hblk
       go_region_law (first | (go_simp; go_at_call 108; have hx:=hb2; refine (HL.out _ _ (by decide)).mono ?_; rintro e' w3 ⟨rfl,hb3⟩) | (go_simp; go_at_call 108; refine (HL.out _ _ (by decide)).mono ?_; rintro e' w2 ⟨rfl,hb2⟩; have hk2:=kept8 (w:=(w.alloc _).drew) HK.out hb2; obtain ⟨f0,f1,f2,f3,f4,f5,f6,f7⟩:=z2c hk2; clear hk2))
       all_goals
        have hk3:=kept8 (kept8 (w:=(w.alloc _).drew) HK.out hb2) hb3;obtain ⟨r0,r1,r2,r3,r4,r5,r6,r7⟩:=z2c hk3;have HB1:Hid (Below w.heap.size w w2):=(((Below.refl w.heap.size w).alloc (Nat.le_refl _) _).drew).trans (hb2.mono (by simp));have HB3:Hid (Below w.heap.size w w3):=HB1.out.trans (hb3.mono HB1.out.size);clear hk3 hb2 hb3 q0 q1 q2 q3 q4 q5 q6 q7 f0 f1 f2 f3 f4 f5 f6 f7;go_wp2;go_ret;exact ⟨z6c (by rw[HG.out]; simp[ptI,ptif]),HB3.out⟩
   · have hg:getP lo hi=(4,0,0,0,0,0,0,false):=by simp[getP,h0,c]
     have HG:=hid hg;clear hg;clear h0 c;go_enter Tryz.func61,Tryz.ntmps61;go_wp2;have hblk:=heap_alloc_new w (.cells #[.int .u8 a.toNat,.int .u8 b.toNat,.int .u8 c.toNat,.int .u8 d.toNat,.int .u8 e.toNat,.int .u8 f.toNat,.int .u8 g.toNat,.int .u8 i.toNat] 87 (0,0));obtain ⟨q0,q1,q2,q3,q4,q5,q6,q7⟩:=z2c hblk;have HK:=hid hblk;clear hblk
     go_region_law (first | (go_simp; go_at_call 108; have hx:=hb2; refine (HL.out _ _ (by decide)).mono ?_; rintro e' w3 ⟨rfl,hb3⟩) | (go_simp; go_at_call 108; refine (HL.out _ _ (by decide)).mono ?_; rintro e' w2 ⟨rfl,hb2⟩; have hk2:=kept8 (w:=(w.alloc _).drew) HK.out hb2; obtain ⟨f0,f1,f2,f3,f4,f5,f6,f7⟩:=z2c hk2; clear hk2))
     all_goals
      have hk3:=kept8 (kept8 (w:=(w.alloc _).drew) HK.out hb2) hb3;obtain ⟨r0,r1,r2,r3,r4,r5,r6,r7⟩:=z2c hk3;have HB1:Hid (Below w.heap.size w w2):=(((Below.refl w.heap.size w).alloc (Nat.le_refl _) _).drew).trans (hb2.mono (by simp));have HB3:Hid (Below w.heap.size w w3):=HB1.out.trans (hb3.mono HB1.out.size);clear hk3 hb2 hb3 q0 q1 q2 q3 q4 q5 q6 q7 f0 f1 f2 f3 f4 f5 f6 f7;go_wp2;go_ret;exact ⟨z6c (by rw[HG.out]; simp[ptI,ptif]),HB3.out⟩
end Go.Proofs.YtlbfffokkhccaaaGreatDoor
