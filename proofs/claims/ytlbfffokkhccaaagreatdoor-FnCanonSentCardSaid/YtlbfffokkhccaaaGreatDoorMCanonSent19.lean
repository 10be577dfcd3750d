/- Texts of the proof of the law FnCanonSent, side by side: part 19. -/
import Derived.Defers
import Derived.Recover
import Derived.Laws.Pointers
import Derived.Test.YtlbfffokkhccaaaGreatDoorMCanonSent18
set_option maxHeartbeats 8000000
set_option maxRecDepth 100000
open Go.Lib (hid)
namespace Go.Proofs.YtlbfffokkhccaaaGreatDoor
open Go.RowKit Go.Deep
theorem zmp (base b size:Nat)(ss:Segs)(P:Nat→Prop)(w:World)(h:Bun w base b size ss P)(hP0:∀k,P k→base≤k∧k<w.heap.size)(hk:SOk 200 ss)(i a:Nat)(hi:i<ss.length)(ha:a<wn (sgS ss i))(hz:size≤200)
 (m:Nat) (n:Nd) (h1:Hd) (hn:NdAt w (fun k=>k<base) m n h1) (hf:formN n=true) (hm:totN m n≤2000000) (ho:ownN n≤300) (hk0:n.kind≠0) :
 Calls Tryz.prog 72 #[.pointer (some ⟨b,0,none⟩),.agg #[.int .i64 n.kind,.string n.data,.slice h1.A n.ptrs.length h1.a,.int .i64 n.size,.int .i64 n.count,.slice h1.B n.items.length h1.b],.agg #[.int .i64 (i:Int),.int .i64 (a:Int)]] w (RoomQ base b size P w (roomP 200 size n ss i a)):=by
 by_cases hfit:wn (sgS ss i)+ownN n≤size
 · exact zmd base b size ss P w h hP0 hk.wds i a hi ha hk.totS hz m n h1 hn hf hm ho hk0 hfit
 · exact zj4 base b size ss P w h hP0 hk.wds i a hi ha hk.totS hz m n h1 hn hf hm ho hk0 hfit hk.one hk.six
theorem zpd (size d:Nat)(IH:WrD size d)(base b:Nat)(ss:Segs)(P:Nat→Prop)(w:World)(i a m:Nat)(n:Nd)(h1:Hd)(h:Bun w base b size ss P)(hP0:∀k,P k→base≤k∧k<w.heap.size)(hk:SOk 200 ss)(hi:i<ss.length)(ha:a+ownN n≤wn (sgS ss i))(hw1:1≤ownN n)
 (hn:NdAt w (fun k=>k<base) m n h1) (hf:formN n=true) (ho:∀p∈ptrsL n,okN d p=true) (hm:totN m n≤2000000) (hws:((ptrsL n).map (z03 d)).sum≤300) :
 Calls Tryz.prog 71 #[.pointer (some ⟨b,0,none⟩),.agg #[.int .i64 n.kind,.string n.data,.slice h1.A n.ptrs.length h1.a,.int .i64 n.size,.int .i64 n.count,.slice h1.B n.items.length h1.b],.agg #[.int .i64 (i:Int),.int .i64 (a:Int)]] w (WrQ base b size P w (fillP (wrP 200 size d) n ss i a)):=by
 by_cases hmany:n.kind=2∧n.size=7
 · exact zlb size d IH base b ss P w i a m n h1 h hP0 hk hi ha hw1 hn hf ho hm hws hmany
 · exact zjn size d IH base b ss P w i a m n h1 h hP0 hk hi ha hw1 hn hf ho hm hws hmany
theorem zb4 (size d:Nat)(base b:Nat)(ss:Segs)(P:Nat→Prop)(w:World)(i a m:Nat)(n:Nd)(h1:Hd)(h:Bun w base b size ss P)(hP0:∀k,P k→base≤k∧k<w.heap.size)(hk:SOk 200 ss)(hi:i<ss.length)(ha:a<wn (sgS ss i))
 (hn:NdAt w (fun k=>k<base) m n h1) (hok:okN d n=true) (hm:totN m n≤2000000) (hws:z03 d n≤300) (hk0:n.kind=0) :
 Calls Tryz.prog 34 #[.pointer (some ⟨b,0,none⟩),.agg #[.int .i64 n.kind,.string n.data,.slice h1.A n.ptrs.length h1.a,.int .i64 n.size,.int .i64 n.count,.slice h1.B n.items.length h1.b],.agg #[.int .i64 (i:Int),.int .i64 (a:Int)]] w (WrQ base b size P w (wrP 200 size d n ss i a)):=by
 obtain ⟨qA,qa,qB,qb⟩:=h1
 dsimp only at hn ⊢
 have hf:=z1m hok;have hwi:=z09 ss i;have hto:=hk.totS;have hb0:Below w.heap.size w ((w.alloc (.cells #[.int .i64 n.kind,.string n.data,.slice qA n.ptrs.length qa,.int .i64 n.size,.int .i64 n.count,.slice qB n.items.length qb] nodeT)).alloc (.cells #[.int .i64 (i:Int),.int .i64 (a:Int)] plT)):=((Below.refl _ w).alloc (Nat.le_refl _) _).alloc (by simp) _;have r0:((w.alloc (.cells #[.int .i64 n.kind,.string n.data,.slice qA n.ptrs.length qa,.int .i64 n.size,.int .i64 n.count,.slice qB n.items.length qb] nodeT)).alloc (.cells #[.int .i64 (i:Int),.int .i64 (a:Int)] plT)).heap[w.heap.size]? =some (.cells #[.int .i64 n.kind,.string n.data,.slice qA n.ptrs.length qa,.int .i64 n.size,.int .i64 n.count,.slice qB n.items.length qb] nodeT (0,0)):=z05 (heap_alloc_new w _) _
 have r1:((w.alloc (.cells #[.int .i64 n.kind,.string n.data,.slice qA n.ptrs.length qa,.int .i64 n.size,.int .i64 n.count,.slice qB n.items.length qb] nodeT)).alloc (.cells #[.int .i64 (i:Int),.int .i64 (a:Int)] plT)).heap[w.heap.size+1]? =some (.cells #[.int .i64 (i:Int),.int .i64 (a:Int)] plT (0,0)):=by
  have:=heap_alloc_new (w.alloc (.cells #[.int .i64 n.kind,.string n.data,.slice qA n.ptrs.length qa,.int .i64 n.size,.int .i64 n.count,.slice qB n.items.length qb] nodeT)) (.cells #[.int .i64 (i:Int),.int .i64 (a:Int)] plT)
  simpa using this
 have hs0:((w.alloc (.cells #[.int .i64 n.kind,.string n.data,.slice qA n.ptrs.length qa,.int .i64 n.size,.int .i64 n.count,.slice qB n.items.length qb] nodeT)).alloc (.cells #[.int .i64 (i:Int),.int .i64 (a:Int)] plT)).heap.size=w.heap.size+2:=by simp
 have hbb:base≤w.heap.size:=by obtain ⟨_,_,_,hX,_⟩:=h; have:=(hX.lt b (.inl rfl)); omega
 have HH:=hid h;have HN:=hid hn;have HB0:=hid hb0;have R0:=hid r0;have R1:=hid r1;have HP0:=hid hP0;have HS0:=hid hs0
 have hkb:(n.kind==0)=true:=by rw[hk0]; rfl
 have HE:Hid (wrP 200 size d n ss i a=some ss):=hid (by cases d <;> simp[wrP,hk0]);clear hn h hb0 r0 r1 hP0 hs0 hk0 hf hok hk;go_enter Tryz.func34,Tryz.ntmps34;go_wp2
 go_end0
 exact .inr ⟨ss,HE.out,rfl,KP.of_below HB0.out,(HH.out.low HB0.out).weak (fun _ h=> .inl h)⟩
theorem zmg (size d:Nat)(IH:WrD size d)(hz:size≤200)(base b:Nat)(ss:Segs)(P:Nat→Prop)(w:World)(i a m:Nat)(n:Nd)(h1:Hd)(h:Bun w base b size ss P)(hP0:∀k,P k→base≤k∧k<w.heap.size)(hk:SOk 200 ss)(hi:i<ss.length)(ha:a<wn (sgS ss i))
 (hn:NdAt w (fun k=>k<base) m n h1) (hok:okN (d+1) n=true) (hm:totN m n≤2000000) (hws:z03 (d+1) n≤300) (hk0:n.kind≠0) (hp:0<ownN n) :
 Calls Tryz.prog 34 #[.pointer (some ⟨b,0,none⟩),.agg #[.int .i64 n.kind,.string n.data,.slice h1.A n.ptrs.length h1.a,.int .i64 n.size,.int .i64 n.count,.slice h1.B n.items.length h1.b],.agg #[.int .i64 (i:Int),.int .i64 (a:Int)]] w (WrQ base b size P w (wrP 200 size (d+1) n ss i a)):=by
 obtain ⟨qA,qa,qB,qb⟩:=h1
 dsimp only at hn ⊢
 have hf:=z1m hok;have hwi:=z09 ss i;have hto:=hk.totS;have hb0:Below w.heap.size w ((w.alloc (.cells #[.int .i64 n.kind,.string n.data,.slice qA n.ptrs.length qa,.int .i64 n.size,.int .i64 n.count,.slice qB n.items.length qb] nodeT)).alloc (.cells #[.int .i64 (i:Int),.int .i64 (a:Int)] plT)):=((Below.refl _ w).alloc (Nat.le_refl _) _).alloc (by simp) _;have r0:((w.alloc (.cells #[.int .i64 n.kind,.string n.data,.slice qA n.ptrs.length qa,.int .i64 n.size,.int .i64 n.count,.slice qB n.items.length qb] nodeT)).alloc (.cells #[.int .i64 (i:Int),.int .i64 (a:Int)] plT)).heap[w.heap.size]? =some (.cells #[.int .i64 n.kind,.string n.data,.slice qA n.ptrs.length qa,.int .i64 n.size,.int .i64 n.count,.slice qB n.items.length qb] nodeT (0,0)):=z05 (heap_alloc_new w _) _
 have r1:((w.alloc (.cells #[.int .i64 n.kind,.string n.data,.slice qA n.ptrs.length qa,.int .i64 n.size,.int .i64 n.count,.slice qB n.items.length qb] nodeT)).alloc (.cells #[.int .i64 (i:Int),.int .i64 (a:Int)] plT)).heap[w.heap.size+1]? =some (.cells #[.int .i64 (i:Int),.int .i64 (a:Int)] plT (0,0)):=by
  have:=heap_alloc_new (w.alloc (.cells #[.int .i64 n.kind,.string n.data,.slice qA n.ptrs.length qa,.int .i64 n.size,.int .i64 n.count,.slice qB n.items.length qb] nodeT)) (.cells #[.int .i64 (i:Int),.int .i64 (a:Int)] plT)
  simpa using this
 have hs0:((w.alloc (.cells #[.int .i64 n.kind,.string n.data,.slice qA n.ptrs.length qa,.int .i64 n.size,.int .i64 n.count,.slice qB n.items.length qb] nodeT)).alloc (.cells #[.int .i64 (i:Int),.int .i64 (a:Int)] plT)).heap.size=w.heap.size+2:=by simp
 have hbb:base≤w.heap.size:=by obtain ⟨_,_,_,hX,_⟩:=h; have:=(hX.lt b (.inl rfl)); omega
 have HH:=hid h;have HN:=hid hn;have HB0:=hid hb0;have R0:=hid r0;have R1:=hid r1;have HP0:=hid hP0;have HS0:=hid hs0;have hown:ownN n≤300:=Nat.le_trans z3z hws
 have hwin:((ptrsL n).map (z03 d)).sum≤300:=by have:z03 (d+1) n=ownN n+((ptrsL n).map (z03 d)).sum:=rfl; omega
 have HWI:=hid (z1n hok hk0)
 have hkb:(n.kind==0)=false:=by simpa using hk0
 have HOW:=hid (fun (W:World) (hW:Below w.heap.size w W)=>z30 m n ⟨qA,qa,qB,qb⟩ W _ (hn.below hW) hf hm)
 dsimp only at HOW
 have HK:=hid hk;have HK0:=hid hk0;have HF:=hid hf;have HE:Hid (wrP 200 size (d+1) n ss i a=(roomP 200 size n ss i a).bind fun r=>fillP (wrP 200 size d) n r.1 r.2.1 r.2.2):=hid (by simp only[wrP]; rw[if_neg hk0,if_neg (by omega)]);have hd0:decide ((0:Int)<(ownN n:Int))=true:=decide_eq_true (by omega);have HPO:=hid hp;clear hn h hb0 r0 r1 hP0 hs0 hk0 hf hok hk hp;go_enter Tryz.func34,Tryz.ntmps34
 go_wp2_with fail
 refine (HOW.out _ HB0.out).mono ?_;rintro e w1 ⟨rfl,hb1⟩;have hr0:=(hb1.block _ (by have:=HS0.out; omega)).trans R0.out;have hr1:=(hb1.block _ (by have:=HS0.out; omega)).trans R1.out
 have hsz1:w.heap.size+2≤w1.heap.size:=by have:=hb1.size; have:=HS0.out; omega
 have HB1:=hid (HB0.out.trans (hb1.mono HB0.out.size));have R0':=hid hr0;have R1':=hid hr1;obtain ⟨n0,n1,n2,n3,n4,n5⟩:=z01 hr0;obtain ⟨t0,t1⟩:=z04 hr1;clear hb1 hr0 hr1 R0 R1 HB0 HS0
 go_wp2_with fail
 replace n0:w1.drew.cell? ⟨w.heap.size,0,none⟩=some (.int .i64 n.kind):=n0
 replace n1:w1.drew.cell? ⟨w.heap.size,1,none⟩=some (.string n.data):=n1
 replace n2:w1.drew.cell? ⟨w.heap.size,2,none⟩=some (.slice qA n.ptrs.length qa):=n2
 replace n3:w1.drew.cell? ⟨w.heap.size,3,none⟩=some (.int .i64 n.size):=n3
 replace n4:w1.drew.cell? ⟨w.heap.size,4,none⟩=some (.int .i64 n.count):=n4
 replace n5:w1.drew.cell? ⟨w.heap.size,5,none⟩=some (.slice qB n.items.length qb):=n5
 replace t0:w1.drew.cell? ⟨w.heap.size+1,0,none⟩=some (.int .i64 (i:Int)):=t0
 replace t1:w1.drew.cell? ⟨w.heap.size+1,1,none⟩=some (.int .i64 (a:Int)):=t1
 have HBD:Hid (Below w.heap.size w w1.drew):=hid HB1.out.drew;refine wp_region_held_drew (S:=(fun V=>(V.cell? ⟨w.heap.size,0,none⟩=some (.int .i64 n.kind)∧V.cell? ⟨w.heap.size,1,none⟩=some (.string n.data)∧V.cell? ⟨w.heap.size,2,none⟩=some (.slice qA n.ptrs.length qa)∧V.cell? ⟨w.heap.size,3,none⟩=some (.int .i64 n.size)∧V.cell? ⟨w.heap.size,4,none⟩=some (.int .i64 n.count)∧V.cell? ⟨w.heap.size,5,none⟩=some (.slice qB n.items.length qb))∧(V.cell? ⟨w.heap.size+1,0,none⟩=some (.int .i64 (i:Int))∧V.cell? ⟨w.heap.size+1,1,none⟩=some (.int .i64 (a:Int))))) (by kernel_rfl) ?_ (fun hH0=>?_)
 · exact ⟨⟨n0,n1,n2,n3,n4,n5⟩,⟨t0,t1⟩⟩
 refine wpAnyH_take (i:=0) (v:=?_) rfl (by kernel_rfl) (by kernel_rfl) (by kernel_rfl) (fun _ _ _ h=>h) (Or.inl ⟨by rfl,?_⟩) (by assumption) ?_
 rotate_left
 · intro w hSw
   (try dsimp only at hSw)
   go_simp
   try with_reducible rfl
 try simp only[List.getElem_toArray,List.getElem_cons_succ,List.getElem_cons_zero,Act.put,List.setIfInBounds_toArray,List.set_cons_zero,List.set_cons_succ]
 refine wpAnyH_take (i:=1) (v:=?_) rfl (by kernel_rfl) (by kernel_rfl) (by kernel_rfl) (fun _ _ _ h=>h) (Or.inl ⟨by rfl,?_⟩) (by assumption) ?_
 rotate_left
 · intro w hSw
   (try dsimp only at hSw)
   go_simp
   try with_reducible rfl
 try simp only[List.getElem_toArray,List.getElem_cons_succ,List.getElem_cons_zero,Act.put,List.setIfInBounds_toArray,List.set_cons_zero,List.set_cons_succ]
 refine wpAnyH_take (i:=2) (v:=?_) rfl (by kernel_rfl) (by kernel_rfl) (by kernel_rfl) (fun _ _ _ h=>h) (Or.inl ⟨by rfl,?_⟩) (by assumption) ?_
 rotate_left
 · intro w hSw
   (try dsimp only at hSw)
   go_simp
   try with_reducible rfl
 try simp only[List.getElem_toArray,List.getElem_cons_succ,List.getElem_cons_zero,Act.put,List.setIfInBounds_toArray,List.set_cons_zero,List.set_cons_succ]
 refine wpAnyH_take (i:=3) (v:=?_) rfl (by kernel_rfl) (by kernel_rfl) (by kernel_rfl) (fun _ _ _ h=>h) (Or.inl ⟨by rfl,?_⟩) (by assumption) ?_
 rotate_left
 · intro w hSw
   (try dsimp only at hSw)
   go_simp
   try with_reducible rfl
 try simp only[List.getElem_toArray,List.getElem_cons_succ,List.getElem_cons_zero,Act.put,List.setIfInBounds_toArray,List.set_cons_zero,List.set_cons_succ]
 refine wpAnyH_take (i:=4) (v:=?_) rfl (by kernel_rfl) (by kernel_rfl) (by kernel_rfl) (fun _ _ _ h=>h) (Or.inl ⟨by rfl,?_⟩) (by assumption) ?_
 rotate_left
 · intro w hSw
   (try dsimp only at hSw)
   go_simp
   try with_reducible rfl
 try simp only[List.getElem_toArray,List.getElem_cons_succ,List.getElem_cons_zero,Act.put,List.setIfInBounds_toArray,List.set_cons_zero,List.set_cons_succ]
 have HROOM:=hid (zmp base b size ss P w1.drew (HH.out.low HBD.out) (fun x hx=>⟨(HP0.out x hx).1,Nat.lt_of_lt_of_le (HP0.out x hx).2 HBD.out.size⟩) HK.out i a hi ha hz m n ⟨qA,qa,qB,qb⟩ (z2v HN.out (HBD.out.mono hbb)) HF.out hm hown HK0.out)
 dsimp only at HROOM
 refine wpAnyH_ready (rs:= [5]) (by kernel_rfl) (by simp) ?_;refine AllReadyH.cons rfl (fun K hK=>?_) AllReadyH.nil
 go_simp
 go_at_call 72
 refine HROOM.out.mono ?_;rintro e w2 (⟨hnone,rfl,hk2⟩ | ⟨s1,j,c,hsome,rfl,hk2,hB2⟩)
 · have HE9:Hid (wrP 200 size (d+1) n ss i a=none):=hid (by rw[HE.out,hnone]; rfl)
   have HK2:=hid ((KP.of_below HBD.out).trans hk2 (fun _ _ h=>h));clear hk2 hnone hK;go_wp2;exact ⟨rfl,.inl ⟨HE9.out,rfl,HK2.out⟩⟩
 have HE1:Hid (wrP 200 size (d+1) n ss i a=fillP (wrP 200 size d) n s1 j c):=hid (by rw[HE.out,hsome]; rfl);obtain ⟨k2a,k2b,k2c,k2d⟩:=z3l HK.out hi ha hsome;have HKW:=hid ((KP.of_below HBD.out).trans hk2 (fun _ _ h=>h):KP P w w2);have HBT:=hid hB2.tight;have hs2:=hk2.size;have hs1d:w1.drew.heap.size=w1.heap.size:=rfl;have n0':=z0n hk2 n0 (fun hp=>by have:=(HP0.out _ hp).2; simp at this);have n1':=z0n hk2 n1 (fun hp=>by have:=(HP0.out _ hp).2; simp at this);have n2':=z0n hk2 n2 (fun hp=>by have:=(HP0.out _ hp).2; simp at this);have n3':=z0n hk2 n3 (fun hp=>by have:=(HP0.out _ hp).2; simp at this);have n4':=z0n hk2 n4 (fun hp=>by have:=(HP0.out _ hp).2; simp at this);have n5':=z0n hk2 n5 (fun hp=>by have:=(HP0.out _ hp).2; simp at this);have t0':=z0n hk2 t0 (fun hp=>by have:=(HP0.out _ hp).2; simp at this; omega);have t1':=z0n hk2 t1 (fun hp=>by have:=(HP0.out _ hp).2; simp at this; omega);refine hK.out _ _ ?_ (fun hH1=>?_)
 · exact ⟨⟨n0',n1',n2',n3',n4',n5'⟩,⟨t0',t1'⟩⟩
 clear hK K hH0 hk2 hB2 hsome n0 n1 n2 n3 n4 n5 t0 t1
 try simp only[List.getElem_toArray,List.getElem_cons_succ,List.getElem_cons_zero,Act.put,List.setIfInBounds_toArray,List.set_cons_zero,List.set_cons_succ]
 have HFILL:=hid (zpd size d IH base b s1 _ w2 j c m n ⟨qA,qa,qB,qb⟩ HBT.out (fun x hx=>⟨hx.2.1,hx.2.2⟩) k2a k2c k2d HPO.out (z2v HN.out (HKW.out.below hbb (fun x hx=>(HP0.out x hx).1))) HF.out HWI.out hm hwin)
 dsimp only at HFILL
 have HPW:Hid (∀x,x<w.heap.size→((P x∨w1.drew.heap.size≤x)∧base≤x∧x<w2.heap.size)→P x):=hid (fun x hx hp=>by
  rcases hp.1 with h | h
  · exact h
  · omega)
 have HNP:Hid (∀x,w.heap.size≤x∧x<w.heap.size+2→¬((P x∨w1.drew.heap.size≤x)∧base≤x∧x<w2.heap.size)):=hid (fun x hx hp=>by
  rcases hp.1 with h | h
  · have:=(HP0.out x h).2; omega
  · omega)
 refine wpAnyH_ready (rs:= [6]) (by kernel_rfl) (by simp) ?_;refine AllReadyH.cons rfl (fun K hK=>?_) AllReadyH.nil
 go_simp
 go_at_call 71
 refine HFILL.out.mono ?_;rintro e w3 (⟨hnone,rfl,hk3⟩ | ⟨s2,hsome,rfl,hk3,hB3⟩)
 · have HE9:Hid (wrP 200 size (d+1) n ss i a=none):=hid (by rw[HE1.out]; exact hnone)
   have HK3:=hid (HKW.out.trans hk3 HPW.out);clear hk3 hnone hK;go_wp2;exact ⟨rfl,.inl ⟨HE9.out,rfl,HK3.out⟩⟩
 have HE9:Hid (wrP 200 size (d+1) n ss i a=some s2):=hid (by rw[HE1.out]; exact hsome);have HK3:=hid (HKW.out.trans hk3 HPW.out)
 have HB3:=hid (hB3.weak (Q:=fun x=>P x∨w.heap.size≤x) (fun x hx=>by
  rcases hx with hx | hx
  · exact hx.1.imp id (fun h=>by omega)
  · exact .inr (by omega)))
 have n0:=z0n hk3 n0' (HNP.out _ (by simp));have n1:=z0n hk3 n1' (HNP.out _ (by simp));have n2:=z0n hk3 n2' (HNP.out _ (by simp));have n3:=z0n hk3 n3' (HNP.out _ (by simp));have n4:=z0n hk3 n4' (HNP.out _ (by simp));have n5:=z0n hk3 n5' (HNP.out _ (by simp));have t0:=z0n hk3 t0' (HNP.out _ (by simp));have t1:=z0n hk3 t1' (HNP.out _ (by simp));refine hK.out _ _ ?_ (fun hH2=>?_)
 · exact ⟨⟨n0,n1,n2,n3,n4,n5⟩,⟨t0,t1⟩⟩
 clear hK K hH1 hk3 hB3 hsome n0 n1 n2 n3 n4 n5 t0 t1 n0' n1' n2' n3' n4' n5' t0' t1';refine wpAnyH_done (by kernel_rfl) ?_ _;clear hH2;go_wp2
 go_end0
 exact .inr ⟨s2,HE9.out,rfl,HK3.out,HB3.out⟩
theorem zjb (size d:Nat)(base b:Nat)(ss:Segs)(P:Nat→Prop)(w:World)(i a m:Nat)(n:Nd)(h1:Hd)(h:Bun w base b size ss P)(hP0:∀k,P k→base≤k∧k<w.heap.size)(hk:SOk 200 ss)(hi:i<ss.length)(ha:a<wn (sgS ss i))
 (hn:NdAt w (fun k=>k<base) m n h1) (hok:okN (d+1) n=true) (hm:totN m n≤2000000) (hws:z03 (d+1) n≤300) (hk0:n.kind≠0) (hp:ownN n=0) :
 Calls Tryz.prog 34 #[.pointer (some ⟨b,0,none⟩),.agg #[.int .i64 n.kind,.string n.data,.slice h1.A n.ptrs.length h1.a,.int .i64 n.size,.int .i64 n.count,.slice h1.B n.items.length h1.b],.agg #[.int .i64 (i:Int),.int .i64 (a:Int)]] w (WrQ base b size P w (wrP 200 size (d+1) n ss i a)):=by
 obtain ⟨qA,qa,qB,qb⟩:=h1
 dsimp only at hn ⊢
 have hf:=z1m hok;have hwi:=z09 ss i;have hto:=hk.totS;have hb0:Below w.heap.size w ((w.alloc (.cells #[.int .i64 n.kind,.string n.data,.slice qA n.ptrs.length qa,.int .i64 n.size,.int .i64 n.count,.slice qB n.items.length qb] nodeT)).alloc (.cells #[.int .i64 (i:Int),.int .i64 (a:Int)] plT)):=((Below.refl _ w).alloc (Nat.le_refl _) _).alloc (by simp) _;have r0:((w.alloc (.cells #[.int .i64 n.kind,.string n.data,.slice qA n.ptrs.length qa,.int .i64 n.size,.int .i64 n.count,.slice qB n.items.length qb] nodeT)).alloc (.cells #[.int .i64 (i:Int),.int .i64 (a:Int)] plT)).heap[w.heap.size]? =some (.cells #[.int .i64 n.kind,.string n.data,.slice qA n.ptrs.length qa,.int .i64 n.size,.int .i64 n.count,.slice qB n.items.length qb] nodeT (0,0)):=z05 (heap_alloc_new w _) _
 have r1:((w.alloc (.cells #[.int .i64 n.kind,.string n.data,.slice qA n.ptrs.length qa,.int .i64 n.size,.int .i64 n.count,.slice qB n.items.length qb] nodeT)).alloc (.cells #[.int .i64 (i:Int),.int .i64 (a:Int)] plT)).heap[w.heap.size+1]? =some (.cells #[.int .i64 (i:Int),.int .i64 (a:Int)] plT (0,0)):=by
  have:=heap_alloc_new (w.alloc (.cells #[.int .i64 n.kind,.string n.data,.slice qA n.ptrs.length qa,.int .i64 n.size,.int .i64 n.count,.slice qB n.items.length qb] nodeT)) (.cells #[.int .i64 (i:Int),.int .i64 (a:Int)] plT)
  simpa using this
 have hs0:((w.alloc (.cells #[.int .i64 n.kind,.string n.data,.slice qA n.ptrs.length qa,.int .i64 n.size,.int .i64 n.count,.slice qB n.items.length qb] nodeT)).alloc (.cells #[.int .i64 (i:Int),.int .i64 (a:Int)] plT)).heap.size=w.heap.size+2:=by simp
 have hbb:base≤w.heap.size:=by obtain ⟨_,_,_,hX,_⟩:=h; have:=(hX.lt b (.inl rfl)); omega
 have HH:=hid h;have HN:=hid hn;have HB0:=hid hb0;have R0:=hid r0;have R1:=hid r1;have HP0:=hid hP0;have HS0:=hid hs0;have hown:ownN n≤300:=Nat.le_trans z3z hws
 have hwin:((ptrsL n).map (z03 d)).sum≤300:=by have:z03 (d+1) n=ownN n+((ptrsL n).map (z03 d)).sum:=rfl; omega
 have HWI:=hid (z1n hok hk0)
 have hkb:(n.kind==0)=false:=by simpa using hk0
 have HOW:=hid (fun (W:World) (hW:Below w.heap.size w W)=>z30 m n ⟨qA,qa,qB,qb⟩ W _ (hn.below hW) hf hm)
 dsimp only at HOW
 have HK:=hid hk;have HK0:=hid hk0;have HF:=hid hf;have HE:Hid (wrP 200 size (d+1) n ss i a=some (putS ss i a (ptrW n (if n.kind=1 then -1 else 0)))):=hid (by simp only[wrP]; rw[if_neg hk0,if_pos hp]);have hd0:decide ((0:Int)<(ownN n:Int))=false:=decide_eq_false (by omega);have hd1:decide (0<ownN n)=false:=decide_eq_false (by omega);have HPT:=hid (fun (W:World) (off:Int) (hW:Below base w W)=>z4n m n ⟨qA,qa,qB,qb⟩ off W _ (z2v hn hW) hf hm hown hk0)
 dsimp only at HPT
 have HST:=hid (fun (W:World) (off:Int) (h0: -100000≤off) (h1:off≤100000) (hW:Bun W base b size ss P)=>zd1 base b size ss P W hW hk.wds i a hi ha (by omega) n hf hown hk0 off h0 h1);obtain ⟨hA1,hA2,hA3,hkk,_⟩:=z49 hf hown
 obtain ⟨B,hB⟩:∃B:Bool,(n.kind==1)=B:=⟨_,rfl⟩
 have HOFF:Hid ((if n.kind=1 then (-1:Int) else 0)=if B=true then -1 else 0):=hid (by
  rw[← hB]
  by_cases h:n.kind=1
  · simp[h]
  · simp[h])
 clear hn h hb0 r0 r1 hP0 hs0 hk0 hf hok hk hp hkk;cases B
 all_goals
  go_enter Tryz.func34,Tryz.ntmps34
  go_wp2_with fail
  refine (HOW.out _ HB0.out).mono ?_;rintro e w1 ⟨rfl,hb1⟩;have hr0:=(hb1.block _ (by have:=HS0.out; omega)).trans R0.out;have hr1:=(hb1.block _ (by have:=HS0.out; omega)).trans R1.out
  have hsz1:w.heap.size+2≤w1.heap.size:=by have:=hb1.size; have:=HS0.out; omega
  have HB1:=hid (HB0.out.trans (hb1.mono HB0.out.size));obtain ⟨n0,n1,n2,n3,n4,n5⟩:=z01 hr0;obtain ⟨t0,t1⟩:=z04 hr1;clear hb1 hr0 hr1 R0 R1 HB0 HS0
  go_wp2_with fail
  replace n0:w1.drew.cell? ⟨w.heap.size,0,none⟩=some (.int .i64 n.kind):=n0
  replace n1:w1.drew.cell? ⟨w.heap.size,1,none⟩=some (.string n.data):=n1
  replace n2:w1.drew.cell? ⟨w.heap.size,2,none⟩=some (.slice qA n.ptrs.length qa):=n2
  replace n3:w1.drew.cell? ⟨w.heap.size,3,none⟩=some (.int .i64 n.size):=n3
  replace n4:w1.drew.cell? ⟨w.heap.size,4,none⟩=some (.int .i64 n.count):=n4
  replace n5:w1.drew.cell? ⟨w.heap.size,5,none⟩=some (.slice qB n.items.length qb):=n5
  replace t0:w1.drew.cell? ⟨w.heap.size+1,0,none⟩=some (.int .i64 (i:Int)):=t0
  replace t1:w1.drew.cell? ⟨w.heap.size+1,1,none⟩=some (.int .i64 (a:Int)):=t1
  have HBD:Hid (Below w.heap.size w w1.drew):=hid HB1.out.drew
  go_region_held3 (fun V=>(V.cell? ⟨w.heap.size,0,none⟩=some (.int .i64 n.kind)∧V.cell? ⟨w.heap.size,1,none⟩=some (.string n.data)∧V.cell? ⟨w.heap.size,2,none⟩=some (.slice qA n.ptrs.length qa)∧V.cell? ⟨w.heap.size,3,none⟩=some (.int .i64 n.size)∧V.cell? ⟨w.heap.size,4,none⟩=some (.int .i64 n.count)∧V.cell? ⟨w.heap.size,5,none⟩=some (.slice qB n.items.length qb))∧(V.cell? ⟨w.heap.size+1,0,none⟩=some (.int .i64 (i:Int))∧V.cell? ⟨w.heap.size+1,1,none⟩=some (.int .i64 (a:Int)))) (((first | exact ⟨⟨n0,n1,n2,n3,n4,n5⟩,⟨t0,t1⟩⟩ | exact ⟨⟨kcw hb2 n0,kcw hb2 n1,kcw hb2 n2,kcw hb2 n3,kcw hb2 n4,kcw hb2 n5⟩,⟨kcw hb2 t0,kcw hb2 t1⟩⟩ | exact ⟨⟨hk3c (kcw hb2 n0) (by simp),hk3c (kcw hb2 n1) (by simp),hk3c (kcw hb2 n2) (by simp),hk3c (kcw hb2 n3) (by simp),hk3c (kcw hb2 n4) (by simp),hk3c (kcw hb2 n5) (by simp)⟩,⟨hk3c (kcw hb2 t0) (by simp),hk3c (kcw hb2 t1) (by simp)⟩⟩))) (first | (go_at_call 74; (with_reducible refine (HPT.out _ _ (HBD.out.mono hbb)).mono ?_); rintro e w2 ⟨rfl,hb2⟩) | (go_at_call 73; (with_reducible refine (HST.out w2 _ (by omega) (by omega) (HH.out.low (HBD.out.trans (hb2.mono HBD.out.size)))).mono ?_); rintro e w3 ⟨rfl,hk3,hB3⟩; have hk3c:=fun {q:Addr} {u:Value} (hq:w2.cell? q=some u) (hp:w.heap.size≤q.block)=>z0n hk3 hq (fun h=>by have:=(HP0.out _ h).2; omega)))
  have HK3:=hid ((KP.of_below (HBD.out.trans (hb2.mono HBD.out.size))).trans hk3 (fun _ _ h=>h));have HB3:=hid (hB3.weak (Q:=fun x=>P x∨w.heap.size≤x) (fun _ h=> .inl h));clear hk3 hB3 hb2 hk3c n0 n1 n2 n3 n4 n5 t0 t1;go_wp2
  go_end0
  exact .inr ⟨_,by rw[HE.out,HOFF.out]; rfl,rfl,HK3.out,HB3.out⟩
theorem ze5 (size:Nat)(hz:size≤200):∀d,WrD size d
 | 0=>fun base b ss P w i a m n h1 h hP0 hk hi ha hn hok hm hws=>zb4 size 0 base b ss P w i a m n h1 h hP0 hk hi ha hn hok hm hws (by simp only[okN,Bool.and_eq_true,decide_eq_true_eq] at hok; exact hok.2)
 | d+1=>fun base b ss P w i a m n h1 h hP0 hk hi ha hn hok hm hws=>by
   by_cases hk0:n.kind=0
   · exact zb4 size (d+1) base b ss P w i a m n h1 h hP0 hk hi ha hn hok hm hws hk0
   · by_cases hp:ownN n=0
     · exact zjb size d base b ss P w i a m n h1 h hP0 hk hi ha hn hok hm hws hk0 hp
     · exact zmg size d (ze5 size hz d) hz base b ss P w i a m n h1 h hP0 hk hi ha hn hok hm hws hk0 (by omega)
abbrev strV (s:List UInt8):Value:= .string ⟨s.toArray⟩
theorem zp7:(Tryz.prog.info? 9).map (fun i=>(i.zero,i.size,i.bytes))=some (some (.string ByteArray.empty),1,16):=by kernel_rfl
def zsy (ss:Segs)(w:World)(e:Ending)(w':World):Prop:=∃A c,e= .returned (.slice A ss.length c)∧w'.ownsRow w.heap.size 9 1 (.slice A ss.length c) ss.length (ss.map strV)∧Below w.heap.size w w'
theorem ztj {s:List UInt8}{q:Nat}(h8:s.length%8=0)(hq:q<s.length/8):∃b0 b1 b2 b3 b4 b5 b6 b7:UInt8,s.take (8*(q+1))=s.take (8*q)++ [b0,b1,b2,b3,b4,b5,b6,b7]∧∀j u,[b0,b1,b2,b3,b4,b5,b6,b7][j]? =some u→s[8*q+j]? =some u:=by
 have hl:((s.drop (8*q)).take 8).length=8:=by rw[List.length_take,List.length_drop]; omega
 obtain ⟨b0,b1,b2,b3,b4,b5,b6,b7,he⟩:=len8 hl;refine ⟨b0,b1,b2,b3,b4,b5,b6,b7,?_,fun j u h=>?_⟩
 · rw[← he,show 8*(q+1)=8*q+8 by omega,List.take_add]
 · rw[← he] at h
   have hj:j<8:=by
    rcases Nat.lt_or_ge j 8 with h' | h'
    · exact h'
    · rw[List.getElem?_eq_none (by omega)] at h; cases h
   rw[List.getElem?_take_of_lt hj,List.getElem?_drop] at h;exact h
theorem zjq (base b size:Nat)(ss:Segs)(P:Nat→Prop)(w:World)(h:Bun w base b size ss P)(hk:SOk 200 ss) :
 Calls Tryz.prog 37 #[.pointer (some ⟨b,0,none⟩)] w (zsy ss w):=by
 obtain ⟨i0,hi,hz0,hz1,hz2⟩:=info_parts zp7;obtain ⟨row,g,v,hB,hP⟩:=h;obtain ⟨c0,c1,c2⟩:=z0k hB.hb;obtain ⟨r,cap,rfl,hcr⟩:=hB.row (i:=0) hk.one;have h6:=hk.six;have hto:=hk.totS;have HB:=hid hB;have HK:=hid hk;have HCR:=hid hcr;clear hB hP hk hcr;go_enter Tryz.func37,Tryz.ntmps37
 go_wp2_with fail
 go_loopw [14,3] (fun c v wr=>∃k:Nat,c= .int .i64 k∧k≤ss.length∧Hid (wr.ownsRow w.heap.size 9 1 v k ((ss.take k).map strV)∧Below w.heap.size w wr)) (fun c _ _=>ss.length-(intOf c).toNat)
 case atStart=>exact ⟨0,rfl,by omega,hid ⟨World.ownsRow_nil _ _ _ _,Below.refl _ _⟩⟩
 case round =>
  obtain ⟨wo,rfl⟩:∃wo:World,wo=wr:=⟨_,rfl⟩
  obtain ⟨k,rfl,hkk,HR⟩:=hrel
  by_cases hlt:k<ss.length
  · have hrb:r<w.heap.size:=(HB.out.lt r (.inr (.inl rfl))).2
    have hgb:g k<w.heap.size:=(HB.out.lt (g k) (.inr (.inr ⟨k,hlt,.inl rfl⟩))).2;have p0:=(HR.out.2.cell (p:=⟨r,k,none⟩) hrb).trans (HCR.out k hlt);obtain ⟨A,cp,hv,hcg, -⟩:=HB.out.seg hlt;rw[hv] at hcg;have p1:=(HR.out.2.cell (p:=⟨g k,0,none⟩) hgb).trans hcg
    have p1a:∀o,(wo.alloc o).cell? ⟨g k,0,none⟩=some (.slice A (wn (sgS ss k)) cp):=fun o=>by
     rw[World.cell?_alloc_lt _ _ _ (by have:=HR.out.2.size; show g k<_; omega)]; exact p1
    have HV:=hid hv;have hwk:=z09 ss k;have hz:=heap_alloc_new wo (.cells #[.pointer none,.slice none 0 0] 119);have HBL:Hid (Bld (wo.heap.size+1) wo.heap.size [] (wo.alloc (.cells #[.pointer none,.slice none 0 0] 119))∧Below wo.heap.size wo (wo.alloc (.cells #[.pointer none,.slice none 0 0] 119))∧wo.heap.size+1≤(wo.alloc (.cells #[.pointer none,.slice none 0 0] 119)).heap.size):=hid ⟨Bld.fresh _ hz,(Below.refl _ _).alloc (Nat.le_refl _) _,by simp⟩;have HL8:=hid (HK.out.wds k)
    have hkl:(k:Int)<(ss.length:Int):=by omega
    obtain ⟨s,hs⟩:∃s,sgS ss k=s:=⟨_,rfl⟩
    rw[hs] at p1 p1a HV hwk HL8;have HS:=hid hs;clear hv hcg hz hs
    have hcase:(A=none∧wn s≤0)∨∃x cur,A=some ⟨x,0,none⟩∧w.heap[x]? =some (.cells cur wdT (0,0))∧cur.toList.take (wn (sgS ss k)*8)=Lib.byteCells (sgS ss k):=by
     rcases (HB.out.ho k hlt).2 with ⟨h1,h2⟩ | ⟨x,cp',cur,h1,h2,h3,h4,h5,h6,h7⟩
     · rw[HV.out] at h1; injection h1 with h1; rw[HS.out] at h2; exact .inl ⟨h1,by omega⟩
     · rw[HV.out] at h1; injection h1 with h1; exact .inr ⟨x,cur,h1,h3,h7⟩
    rcases hcase with ⟨rfl,h0⟩ | ⟨x,cur,rfl,hx2',hx6'⟩
    case' inr=>(have HX2:=hid hx2'; have HX6:=hid hx6'; clear hx2' hx6')
    all_goals
     go_wp2_with fail
     go_loopw [23] (fun c wi=>∃q:Nat,c= .int .i64 q∧q≤wn s∧Hid (Bld (wo.heap.size+1) wo.heap.size (Lib.byteCells (s.take (8*q))) wi∧Below wo.heap.size wo wi∧wo.heap.size+1≤wi.heap.size)) (fun c _=>wn s-(intOf c).toNat)
     case atStart=>exact ⟨0,rfl,by omega,hid HBL.out⟩
     case round =>
      obtain ⟨q,rfl,hqq,HI⟩:=hrel
      by_cases hq:q<wn s
      · try (exfalso; omega)
        all_goals
         obtain ⟨b0,b1,b2,b3,b4,b5,b6,b7,htk,hcc⟩:=ztj HL8.out hq
         have hr2:wr.rangeAt x (q*8) [.int .u8 b0.toNat,.int .u8 b1.toNat,.int .u8 b2.toNat,.int .u8 b3.toNat,.int .u8 b4.toNat,.int .u8 b5.toNat,.int .u8 b6.toNat,.int .u8 b7.toNat]:=fun j u hu=>by
          have hxl:x<w.heap.size:=z00 HX2.out;rw[HI.out.2.1.cell (p:=⟨x,q*8+j,none⟩) (by have:=HR.out.2.size; show x<_; omega),HR.out.2.cell (p:=⟨x,q*8+j,none⟩) hxl,cell_of_row _ _ _ _ _ _ HX2.out]
          have hu2:∃c,[b0,b1,b2,b3,b4,b5,b6,b7][j]? =some c∧u= .int .u8 c.toNat:=by
           have: [Value.int .u8 b0.toNat,.int .u8 b1.toNat,.int .u8 b2.toNat,.int .u8 b3.toNat,.int .u8 b4.toNat,.int .u8 b5.toNat,.int .u8 b6.toNat,.int .u8 b7.toNat]= [b0,b1,b2,b3,b4,b5,b6,b7].map (fun c:UInt8=>Value.int .u8 c.toNat):=rfl;rw[this,List.getElem?_map,Option.map_eq_some_iff] at hu;obtain ⟨c,h1,h2⟩:=hu;exact ⟨c,h1,h2.symm⟩
          obtain ⟨c,hc1,rfl⟩:=hu2;have h3:=hcc j c hc1;have hjl:8*q+j<s.length:=(List.getElem?_eq_some_iff.1 h3).1
          have h4:(Lib.byteCells (sgS ss k))[q*8+j]? =some (.int .u8 c.toNat):=by
           rw[HS.out,Nat.mul_comm]
           simp only[Lib.byteCells,List.getElem?_map,h3,Option.map_some]
          rw[← HX6.out] at h4
          have hlt2:q*8+j<wn (sgS ss k)*8:=by
           rcases Nat.lt_or_ge (q*8+j) (wn (sgS ss k)*8) with h | h
           · exact h
           · rw[List.getElem?_eq_none (by rw[List.length_take]; omega)] at h4; cases h4
          rw[List.getElem?_take_of_lt hlt2] at h4
          simpa using h4
         have HR2:=hid hr2;have HTK:=hid htk
         have hqw:(q:Int)<(wn s:Int):=by omega
         have hslen:s.length≤2000:=by have:=HL8.out; unfold wn at hwk; omega
         clear hr2 htk hcc
         go_wp2_with (refine wpList_load_mid rfl wdT (.tmp 25) rfl x (q*8) rfl [.int .u8 b0.toNat,.int .u8 b1.toNat,.int .u8 b2.toNat,.int .u8 b3.toNat,.int .u8 b4.toNat,.int .u8 b5.toNat,.int .u8 b6.toNat,.int .u8 b7.toNat] _ HR2.out Tryz.underlying87 rfl z1w ?_)
         have hlen:(Lib.byteCells (s.take (8*q))).length≤1099511627776:=by rw[z1f,List.length_take]; omega
         have HLen:=hid hlen
         have hcat:∀l:List UInt8,Lib.byteCells l++Lib.strCells ⟨#[b0,b1,b2,b3,b4,b5,b6,b7]⟩=Lib.byteCells (l++ [b0,b1,b2,b3,b4,b5,b6,b7]):=fun l=>by simp[Lib.byteCells,Lib.strCells]
         have HCat:=hid hcat;clear hlen hcat;refine (zgz b0 b1 b2 b3 b4 b5 b6 b7 _).mono ?_;rintro e wt ⟨rfl,hbt⟩;have HBT:Hid (Below wr.heap.size wr wt):=hid (((Below.refl wr.heap.size wr).alloc (Nat.le_refl _) _).trans (hbt.mono (by simp)));clear hbt
         go_wp2_with fail
         refine (z1k (wo.heap.size+1) wo.heap.size (Lib.byteCells (s.take (8*q))) _ wt (z9r HI.out.1 HBT.out) HLen.out (by show 8≤1099511627776; decide) (Nat.le_trans HI.out.2.2 HBT.out.size)).mono ?_;rintro e w4 ⟨rfl,h4,k4⟩
         have HN:Hid (Bld (wo.heap.size+1) wo.heap.size (Lib.byteCells (s.take (8*(q+1)))) w4∧Below wo.heap.size wo w4∧wo.heap.size+1≤w4.heap.size):=by
          refine ⟨?_,?_,Nat.le_trans HI.out.2.2 (Nat.le_trans HBT.out.size k4.size)⟩
          · rw[HTK.out,← HCat.out]; exact h4
          · exact (HI.out.2.1.trans (HBT.out.mono HI.out.2.1.size)).trans (k4.below (by omega) (Nat.le_refl _))
         clear h4 k4;go_wp2
         go_roundw
         case rel=>exact ⟨q+1,by go_num,by omega,HN⟩
         case measure=>simp[intOf]; omega
      · obtain rfl:q=wn s:=by omega
        have hfull:s.take (8*wn s)=s:=List.take_of_length_le (by have:=HL8.out; unfold wn; omega);have hI:=HI.out;rw[hfull] at hI;have HI2:=hid hI;clear hI hfull
        go_wp2_with fail
        refine (z7p wo.heap.size wo.heap.size s wr (HI2.out.1.is (by omega) (Nat.le_refl _)) (by have:=HI2.out.2.2; omega)).mono ?_;rintro e w5 ⟨rfl,hb5⟩;have hb05:Below wo.heap.size wo w5:=HI2.out.2.1.trans (hb5.mono (Nat.le_refl _));have HO5:=hid (z13 HR.out.1 (fun k hk=>hb05.block k (HR.out.1.lt k hk).2));have HB5:=hid (HR.out.2.trans (hb05.mono HR.out.2.size));have hsz5:=HB5.out.size;clear hb5 hb05
        go_wp2_with (at_builtin; go_must (refine wpList_append_own _ rfl (.tmp 31) (.tmp 33) 28 rfl w.heap.size 9 i0 (.string ByteArray.empty) 1 16 Tryz.underlying28 hi hz0 hz1 hz2 rfl (by decide) _ _ _ rfl (HO5.out.alloc _) ⟨w5.heap.size,0,none⟩ 1 1 [.string ⟨s.toArray⟩] rfl rfl (cell_one_new _ _ _) (by simp[Value.oneCell']) (by unfold maxLen; omega) (by omega) (by simp <;> omega) ?_); intro v' wn1 hown' hgrow _)
        have HON:=hid (show wn1.ownsRow w.heap.size 9 1 v' (k+1) ((ss.take (k+1)).map strV) by
         have e1:ss[k]=s:=by rw[← HS.out]; unfold sgS; rw[List.getElem?_eq_getElem hlt]; rfl
         rw[List.take_succ_eq_append_getElem hlt,List.map_append,e1]; exact hown')
        have HBN:=hid (z3y HB5.out hsz5 HO5.out hgrow);clear hgrow hown';go_wp2
        go_roundw
        case rel=>exact ⟨k+1,by go_num,by omega,hid ⟨HON.out,HBN.out⟩⟩
        case measure=>simp[intOf]; omega
  · obtain rfl:k=ss.length:=by omega
    obtain ⟨A,c,rfl⟩:=z4h HR.out.1;have HR1:=HR.out;rw[List.take_of_length_le (Nat.le_refl _)] at HR1;have HR2:=hid HR1;clear HR1;go_wp2;go_ret;exact ⟨A,c,rfl,HR2.out.1,HR2.out.2⟩
theorem za2 (p q:Nat)(u:TypeId)(pv:Value)(older:List PanicEntry)(w:World)(x y:Value)(hp:w.heap[p]? =some (.cells #[x] 28 (0,0)))(hq:w.heap[q]? =some (.cells #[y] 4 (0,0)))(hpq:p≠q) :
 CallsD Tryz.prog 33 #[.pointer (some ⟨p,0,none⟩),.pointer (some ⟨q,0,none⟩)] (.panicking ({ v:= .iface u pv,recovered:=false } :: older)) w fun e u' w' =>
  e= .returned (.tuple #[])∧u'= .panicking ({ v:= .iface u pv,recovered:=true } :: older)∧w'=(w.setCell ⟨p,0,none⟩ (.slice none 0 0)).setCell ⟨q,0,none⟩ (.bool false):=by
 have c0:w.cell? ⟨p,0,none⟩=some x:=by rw[cell_of_row _ _ _ _ _ _ hp]; rfl
 have c1:w.cell? ⟨q,0,none⟩=some y:=by rw[cell_of_row _ _ _ _ _ _ hq]; rfl
 have f0:=z02 hp 0;have f1:=z02 hq 0
 have hpq':q≠p:=fun e=>hpq e.symm
 refine callsD_of_wpS Tryz.func33 rfl fun c₀ cs hu=>?_
 apply wpS_seq
 apply wpS_region
 simp[wpOpsS,go_sem,recoverD,hu,Tryz.ntmps33,Exit.thenS]
 refine wpS_cond (t:=true) (by simp[Act.eval,Array.replicate]) ?_
 simp only[if_true]
 apply wpS_region
 simp[wpOpsS,go_sem,c0,c1,f0,f1,hpq,hpq',bodyPostS,results,Tryz.results33]
theorem zjk (p q:Addr)(w:World) :
 CallsD Tryz.prog 33 #[.pointer (some p),.pointer (some q)] .returning w fun e u' w'=>e= .returned (.tuple #[])∧u'= .returning∧w'=w:=by
 refine callsD_of_wpS Tryz.func33 rfl fun c₀ cs hu=>?_
 apply wpS_seq
 apply wpS_region
 simp[wpOpsS,go_sem,recoverD,hu,Tryz.ntmps33,Exit.thenS]
 refine wpS_cond (t:=false) (by simp[Act.eval,Array.replicate]) ?_
 simp only[Bool.false_eq_true,if_false]
 refine wpS_of_wp (wp_skip ?_);cases c₀
 simp_all [bodyPostS,results,Tryz.results33]
def bldV (n:Nd)(size:Int):Option Segs:=if z0g n=true∧1≤size∧size≤200 then z36 200 size.toNat n else none
def zda (r:Option Segs)(w:World)(e:Ending)(w':World):Prop :=
 (r=none∧e= .returned (.tuple #[.slice none 0 0,.bool false])∧Below w.heap.size w w') ∨
 ∃ss A c,r=some ss∧e= .returned (.tuple #[.slice A ss.length c,.bool true])∧w'.ownsRow w.heap.size 9 1 (.slice A ss.length c) ss.length (ss.map strV)∧Below w.heap.size w w'
theorem NdsAt.lt' {w:World}{S:Nat→Prop} :∀(m:Nat) (A:Option Addr) (l:List Nd),NdsAt w S m A l→NdsAt w (fun k=>k<w.heap.size) m A l
 | 0,_,_,h=>h
 | m+1,A,l,⟨hl,q,hq,hc,hr⟩=>by
   refine ⟨hl,q,hq,?_,fun r h=>⟨(hr r h).1,NdsAt.lt' m _ _ (hr r h).2.1,NdsAt.lt' m _ _ (hr r h).2.2⟩⟩
   cases q with
   | nil=>exact .inl rfl
   | cons r t =>
    rcases hc with h | ⟨x,hx,hs,hk⟩
    · cases h
    · refine .inr ⟨x,hx,?_,hk⟩
      have:=(hk 0 r rfl).lt
      rwa [z0r] at this
theorem NdAt.lt' {w:World}{S:Nat→Prop}{m:Nat}{n:Nd}{h:Hd}(hn:NdAt w S m n h):NdAt w (fun k=>k<w.heap.size) m n h:=⟨hn.1,NdsAt.lt' _ _ _ hn.2.1,NdsAt.lt' _ _ _ hn.2.2⟩
theorem zeh (m:Nat)(n:Nd)(h:Hd)(w:World)(S:Nat→Prop)(size:Int)(hn:NdAt w S m n h)(ht:totN m n≤2000000)(hno:¬(z0g n=true∧1≤size∧size≤200)) :
 Calls Tryz.prog 10 #[.agg #[.int .i64 n.kind,.string n.data,.slice h.A n.ptrs.length h.a,.int .i64 n.size,.int .i64 n.count,.slice h.B n.items.length h.b],.int .i64 size] w (zda (bldV n size) w):=by
 have HE:Hid (bldV n size=none):=hid (by unfold bldV; rw[if_neg hno]);obtain ⟨qA,qa,qB,qb⟩:=h;have HOK:=hid (fun (W:World) (hW:Below w.heap.size w W)=>z1s m n ⟨qA,qa,qB,qb⟩ W S (hn.below hW) ht)
 dsimp only at HOK ⊢
 have hb0:Below w.heap.size w (((w.alloc (.cells #[.int .i64 n.kind,.string n.data,.slice qA n.ptrs.length qa,.int .i64 n.size,.int .i64 n.count,.slice qB n.items.length qb] nodeT)).alloc (.cells #[.slice none 0 0] 28)).alloc (.cells #[.bool false] 4)):=(((Below.refl _ w).alloc (Nat.le_refl _) _).alloc (by simp) _).alloc (by simp; omega) _;have HB0:=hid hb0
 have r4:(((w.alloc (.cells #[.int .i64 n.kind,.string n.data,.slice qA n.ptrs.length qa,.int .i64 n.size,.int .i64 n.count,.slice qB n.items.length qb] nodeT)).alloc (.cells #[.slice none 0 0] 28)).alloc (.cells #[.bool false] 4)).heap[w.heap.size+1]? =some (.cells #[.slice none 0 0] 28 (0,0)):=by
  have:=z05 (heap_alloc_new (w.alloc (.cells #[.int .i64 n.kind,.string n.data,.slice qA n.ptrs.length qa,.int .i64 n.size,.int .i64 n.count,.slice qB n.items.length qb] nodeT)) (.cells #[.slice none 0 0] 28)) (.cells #[.bool false] 4)
  simpa using this
 have r5:(((w.alloc (.cells #[.int .i64 n.kind,.string n.data,.slice qA n.ptrs.length qa,.int .i64 n.size,.int .i64 n.count,.slice qB n.items.length qb] nodeT)).alloc (.cells #[.slice none 0 0] 28)).alloc (.cells #[.bool false] 4)).heap[w.heap.size+2]? =some (.cells #[.bool false] 4 (0,0)):=by
  have:=heap_alloc_new ((w.alloc (.cells #[.int .i64 n.kind,.string n.data,.slice qA n.ptrs.length qa,.int .i64 n.size,.int .i64 n.count,.slice qB n.items.length qb] nodeT)).alloc (.cells #[.slice none 0 0] 28)) (.cells #[.bool false] 4)
  simpa using this
 have hs0:(((w.alloc (.cells #[.int .i64 n.kind,.string n.data,.slice qA n.ptrs.length qa,.int .i64 n.size,.int .i64 n.count,.slice qB n.items.length qb] nodeT)).alloc (.cells #[.slice none 0 0] 28)).alloc (.cells #[.bool false] 4)).heap.size=w.heap.size+3:=by simp
 have R4:=hid r4;have R5:=hid r5;have HS0:=hid hs0;clear hn hb0 r4 r5 hs0
 obtain ⟨B1,hB1⟩:∃B1,z0g n=B1:=⟨_,rfl⟩
 rw[hB1] at HOK hno;clear hB1
 have hd1:∃B2,decide (size<1)=B2:=⟨_,rfl⟩
 have hd2:∃B3,decide (200<size)=B3:=⟨_,rfl⟩
 obtain ⟨B2,hd1⟩:=hd1;obtain ⟨B3,hd2⟩:=hd2
 have hone:B1=false∨B2=true∨B3=true:=by
  cases B1
  · exact .inl rfl
  · right
    rw[← hd1,← hd2]
    simp only[decide_eq_true_eq]
    simp only[true_and] at hno
    omega
 cases B1 <;> cases B2 <;> cases B3 <;> try (exfalso; (rcases hone with h | h | h <;> cases h); done)
 all_goals
  clear hone hno
  go_enter_defers Tryz.func10,Tryz.ntmps10
  go_wp2_with fail
  refine (HOK.out _ HB0.out).mono ?_;rintro e w1 ⟨rfl,hb1⟩;have x4:=(hb1.block (w.heap.size+1) (by have:=HS0.out; omega)).trans R4.out;have x5:=(hb1.block (w.heap.size+2) (by have:=HS0.out; omega)).trans R5.out
  have c4:w1.cell? ⟨w.heap.size+1,0,none⟩=some (.slice none 0 0):=by rw[cell_of_row _ _ _ _ _ _ x4]; rfl
  have c5:w1.cell? ⟨w.heap.size+2,0,none⟩=some (.bool false):=by rw[cell_of_row _ _ _ _ _ _ x5]; rfl
  have f4:=z02 x4 0;have f5:=z02 x5 0;have HX4:=hid x4;have HX5:=hid x5;have HB1:=hid (HB0.out.trans (hb1.mono HB0.out.size));clear hb1 x4 x5
  go_wp2_with fail
  refine ⟨.tuple #[.slice none 0 0,.bool false],?_,.inl ⟨HE.out,rfl,?_⟩⟩
  · simp[results,Tryz.results10,go_sem,c4,c5]
  · exact (HB1.out.setCell (p:=⟨w.heap.size+1,0,none⟩) (by show w.heap.size≤w.heap.size+1; omega) _).setCell (p:=⟨w.heap.size+2,0,none⟩) (by show w.heap.size≤w.heap.size+2; omega) _
def PanQ (t4 t5:Value)(ds:List Deferred)(RR:List PanicEntry→World→Prop)(Q:Exit→Act→World→Prop):Exit→Act→World→Prop
 | .panic c,a,w=>(a.tmps.getD 4 undef=t4∧a.tmps.getD 5 undef=t5∧a.defers=ds)∧RR c w
 | e,a,w=>Q e a w
theorem WDS1:WdS ([]++ [[]]):=fun i=>by
 match i with
 | 0=>rfl
 | i+1=>rfl
theorem SOK1:SOk 200 [zer 1]:=⟨fun i=>by
 match i with
 | 0=>rfl
 | i+1=>rfl,by decide,by decide,by decide⟩
theorem zaq {P:Program}{id:Nat}{ops:Array Oper}{b:Bool}{Q:Exit→Act→World→Prop}{a:Act}{w:World}{t4 t5:Value}{ds:List Deferred}{RR:List PanicEntry→World→Prop}
 (h:∀c a w,a.tmps.getD 4 undef=t4→a.tmps.getD 5 undef=t5→a.defers=ds→RR c w→Q (.panic c) a w) (hr:(Code.region id ops b).wp P (PanQ t4 t5 ds RR Q) a w):(Code.region id ops b).wp P Q a w :=
 Code.wp_mono (fun e a w hh=>by
  cases e <;> first | exact hh | exact h _ _ _ hh.1.1 hh.1.2.1 hh.1.2.2 hh.2) hr
theorem zfa {t4 t5:Value}{ds:List Deferred}{RR:List PanicEntry→World→Prop}{Q:Exit→Act→World→Prop}{a:Act}{w:World}(h:Q .normal a w):PanQ t4 t5 ds RR Q .normal a w:=h
theorem zrm {w:World}{B B' T sz n:Nat}{v:Value}{xs:List Value}(h:w.ownsRow B T sz v n xs)(hB:B'≤B):w.ownsRow B' T sz v n xs:=⟨h.1,h.2.imp id (fun ⟨g,cap,cur,h1,h2,h3⟩=>⟨g,cap,cur,h1,Nat.le_trans hB h2,h3⟩)⟩
theorem z8h {t4 t5:Value}{ds:List Deferred}{RR:List PanicEntry→World→Prop}{Q:Exit→Act→World→Prop}{c:List PanicEntry}{a:Act}{w:World}{d:Nat}{v:Value}(h4:d≠4)(h5:d≠5)(h:PanQ t4 t5 ds RR Q (.panic c) (a.put (some d) v) w):PanQ t4 t5 ds RR Q (.panic c) a w:=by
 obtain ⟨⟨g4,g5,g6⟩,hR⟩:=h;refine ⟨⟨?_,?_,g6⟩,hR⟩
 · rw[← g4]; simp[Act.put,Array.getD_eq_getD_getElem?,Array.getElem?_setIfInBounds,h4]
 · rw[← g5]; simp[Act.put,Array.getD_eq_getD_getElem?,Array.getElem?_setIfInBounds,h5]
theorem zc9 (m:Nat)(n:Nd)(h:Hd)(w:World)(S:Nat→Prop)(size:Nat)(hn:NdAt w S m n h)(ht:totN m n≤2000000)(hok:z0g n=true)(h1:1≤size)(h200:size≤200) :
 Calls Tryz.prog 10 #[.agg #[.int .i64 n.kind,.string n.data,.slice h.A n.ptrs.length h.a,.int .i64 n.size,.int .i64 n.count,.slice h.B n.items.length h.b],.int .i64 (size:Int)] w (zda (z36 200 size n) w):=by
 obtain ⟨qA,qa,qB,qb⟩:=h;have HOK:=hid (fun (W:World) (hW:Below w.heap.size w W)=>z1s m n ⟨qA,qa,qB,qb⟩ W S (hn.below hW) ht)
 dsimp only at HOK ⊢
 have hb0:Below w.heap.size w (((w.alloc (.cells #[.int .i64 n.kind,.string n.data,.slice qA n.ptrs.length qa,.int .i64 n.size,.int .i64 n.count,.slice qB n.items.length qb] nodeT)).alloc (.cells #[.slice none 0 0] 28)).alloc (.cells #[.bool false] 4)):=(((Below.refl _ w).alloc (Nat.le_refl _) _).alloc (by simp) _).alloc (by simp; omega) _;have HB0:=hid hb0
 have r4:(((w.alloc (.cells #[.int .i64 n.kind,.string n.data,.slice qA n.ptrs.length qa,.int .i64 n.size,.int .i64 n.count,.slice qB n.items.length qb] nodeT)).alloc (.cells #[.slice none 0 0] 28)).alloc (.cells #[.bool false] 4)).heap[w.heap.size+1]? =some (.cells #[.slice none 0 0] 28 (0,0)):=by
  have:=z05 (heap_alloc_new (w.alloc (.cells #[.int .i64 n.kind,.string n.data,.slice qA n.ptrs.length qa,.int .i64 n.size,.int .i64 n.count,.slice qB n.items.length qb] nodeT)) (.cells #[.slice none 0 0] 28)) (.cells #[.bool false] 4)
  simpa using this
 have r5:(((w.alloc (.cells #[.int .i64 n.kind,.string n.data,.slice qA n.ptrs.length qa,.int .i64 n.size,.int .i64 n.count,.slice qB n.items.length qb] nodeT)).alloc (.cells #[.slice none 0 0] 28)).alloc (.cells #[.bool false] 4)).heap[w.heap.size+2]? =some (.cells #[.bool false] 4 (0,0)):=by
  have:=heap_alloc_new ((w.alloc (.cells #[.int .i64 n.kind,.string n.data,.slice qA n.ptrs.length qa,.int .i64 n.size,.int .i64 n.count,.slice qB n.items.length qb] nodeT)).alloc (.cells #[.slice none 0 0] 28)) (.cells #[.bool false] 4)
  simpa using this
 have hs0:(((w.alloc (.cells #[.int .i64 n.kind,.string n.data,.slice qA n.ptrs.length qa,.int .i64 n.size,.int .i64 n.count,.slice qB n.items.length qb] nodeT)).alloc (.cells #[.slice none 0 0] 28)).alloc (.cells #[.bool false] 4)).heap.size=w.heap.size+3:=by simp
 have R4:=hid r4;have R5:=hid r5;have HS0:=hid hs0;have HN:=hid hn.lt';have r2:(((w.alloc (.cells #[.int .i64 n.kind,.string n.data,.slice qA n.ptrs.length qa,.int .i64 n.size,.int .i64 n.count,.slice qB n.items.length qb] nodeT)).alloc (.cells #[.slice none 0 0] 28)).alloc (.cells #[.bool false] 4)).heap[w.heap.size]? =some (.cells #[.int .i64 n.kind,.string n.data,.slice qA n.ptrs.length qa,.int .i64 n.size,.int .i64 n.count,.slice qB n.items.length qb] nodeT (0,0)):=z05 (z05 (heap_alloc_new w _) _) _;have R2:=hid r2;clear hn hb0 r2 r4 r5 hs0;rw[hok] at HOK;have hd1:decide ((size:Int)<1)=false:=decide_eq_false (by omega);have hd2:decide ((200:Int)<(size:Int))=false:=decide_eq_false (by omega);have hd3:decide (200<size)=false:=decide_eq_false (by omega);have hd4:decide (size<1)=false:=decide_eq_false (by omega)
 have hmf:∀(fn:Fn) (first cap:Array Value) (w:World),(Instr.makeFunc fn first cap).run Tryz.prog w= .ok (.func fn first cap) w:=fun _ _ _ _=>rfl
 have HNO:=hid (z21 hok);clear hok
 go_enter_defers Tryz.func10,Tryz.ntmps10
 go_wp2_with fail
 refine (HOK.out _ HB0.out).mono ?_;rintro e w1 ⟨rfl,hb1⟩;have x2:=(hb1.block w.heap.size (by have:=HS0.out; omega)).trans R2.out;have x4:=(hb1.block (w.heap.size+1) (by have:=HS0.out; omega)).trans R4.out;have x5:=(hb1.block (w.heap.size+2) (by have:=HS0.out; omega)).trans R5.out
 have hsz1:w.heap.size+3≤w1.heap.size:=by have:=HS0.out; have:=hb1.size; omega
 have HX2:=hid x2;have HX4:=hid x4;have HX5:=hid x5;have HB1:=hid (HB0.out.trans (hb1.mono HB0.out.size));clear hb1 x2 x4 x5 R2 R4 R5 HB0 HS0
 go_wp2_with fail
 -- REGION
 have HE1:Hid (z0g n=true):=hid (zcj HNO.out.1 HNO.out.2)
 have hBu:Bun (w1.alloc (.cells #[.slice none 0 0,.int .i64 (size:Int),.int .i64 0] buT)).drew w.heap.size w1.heap.size size [] (fun k=>w1.heap.size≤k):=by
  refine ⟨.slice none 0 0,fun _=>0,fun _=> .slice none 0 0,⟨heap_alloc_new w1 _,World.ownsRow_nil _ _ _ _,fun i hi=>(by cases hi),fun i hi=>(by cases hi),fun i j hi=>(by cases hi),fun i j k hi=>(by cases hi),by omega,fun i hi=>(by cases hi)⟩,?_⟩;rintro k (rfl | e | ⟨i,hi,_⟩)
  · exact Nat.le_refl _
  · cases e
  · cases hi
 have HBU:=hid hBu;have hk2:KP (fun k=>w1.heap.size≤k) w1 (w1.alloc (.cells #[.slice none 0 0,.int .i64 (size:Int),.int .i64 0] buT)).drew:=KP.of_below ((Below.refl _ _).alloc (Nat.le_refl _) _).drew;have HK2:=hid hk2;obtain ⟨n0,n1,n2,n3,n4,n5⟩:=z01 (hk2.row HX2.out (by omega));have HND2:=hid (z2v HN.out (HB1.out.trans (hk2.below (by omega) (fun k hk=>by omega))));clear hBu hk2;refine zaq (t4:= .pointer (some ⟨w.heap.size+1,0,none⟩)) (t5:= .pointer (some ⟨w.heap.size+1+1,0,none⟩)) (ds:= [{ target:= .fn (Fn.func 33) #[.pointer (some ⟨w.heap.size+1,0,none⟩),.pointer (some ⟨w.heap.size+1+1,0,none⟩)],args:= #[] }]) (RR:=fun c wp=>z36 200 size n=none∧c= [{ v:= .iface tmT (.agg #[]),recovered:=false }]∧KP (fun k=>w1.heap.size≤k) w1 wp) ?_ ?_
 · rintro c a wp h4 h5 hds ⟨hnone,rfl,hkp⟩
   have HKP:=hid hkp;have y4:=hkp.row HX4.out (by omega);have y5:=hkp.row HX5.out (by omega)
   show Leaves Tryz.prog _ a.tmps _ a.defers (.panicking _) wp
   rw[hds];refine leaves_cons (f:=33) (args:= #[.pointer (some ⟨w.heap.size+1,0,none⟩),.pointer (some ⟨w.heap.size+1+1,0,none⟩)]) (by simp) (by simp[go_sem]) ?_;refine (za2 (w.heap.size+1) (w.heap.size+1+1) tmT _ [] wp _ _ y4 y5 (by omega)).mono ?_;rintro e u' w'' ⟨rfl,rfl,rfl⟩;refine ⟨.tuple #[.slice none 0 0,.bool false],?_,.inl ⟨hnone,rfl,?_⟩⟩
   · have h4':=h4
     have h5':=h5;rw[Array.getD_eq_getD_getElem?] at h4' h5'
     have c4:wp.cell? ⟨w.heap.size+1,0,none⟩=some (.slice none 0 0):=by rw[cell_of_row _ _ _ _ _ _ y4]; rfl
     have c5:wp.cell? ⟨w.heap.size+1+1,0,none⟩=some (.bool false):=by rw[cell_of_row _ _ _ _ _ _ y5]; rfl
     simp[results,Tryz.results10,go_sem,c4,c5,h4',h5']
   · exact ((HB1.out.trans (HKP.out.below (by omega) (fun k hk=>by omega))).setCell (p:=⟨w.heap.size+1,0,none⟩) (by show w.heap.size≤w.heap.size+1; omega) _).setCell (p:=⟨w.heap.size+1+1,0,none⟩) (by show w.heap.size≤w.heap.size+1+1; omega) _
 refine wp_region_held_drew (S:=(fun V=>V.cell? ⟨w.heap.size,0,none⟩=some (.int .i64 n.kind)∧V.cell? ⟨w.heap.size,1,none⟩=some (.string n.data)∧V.cell? ⟨w.heap.size,2,none⟩=some (.slice qA n.ptrs.length qa)∧V.cell? ⟨w.heap.size,3,none⟩=some (.int .i64 n.size)∧V.cell? ⟨w.heap.size,4,none⟩=some (.int .i64 n.count)∧V.cell? ⟨w.heap.size,5,none⟩=some (.slice qB n.items.length qb))) (by kernel_rfl) ?_ (fun hH0=>?_)
 · exact ⟨n0,n1,n2,n3,n4,n5⟩
 refine wpAnyH_take (i:=0) (v:=?_) rfl (by kernel_rfl) (by kernel_rfl) (by kernel_rfl) (fun _ _ _ h=>z8h (d:=22) (by decide) (by decide) h) (Or.inl ⟨by rfl,?_⟩) (by assumption) ?_
 rotate_left
 · intro w hSw
   (try dsimp only at hSw)
   go_simp
   try with_reducible rfl
 try simp only[List.getElem_toArray,List.getElem_cons_succ,List.getElem_cons_zero,Act.put,List.setIfInBounds_toArray,List.set_cons_zero,List.set_cons_succ]
 refine wpAnyH_take (i:=1) (v:=?_) rfl (by kernel_rfl) (by kernel_rfl) (by kernel_rfl) (fun _ _ _ h=>z8h (d:=23) (by decide) (by decide) h) (Or.inl ⟨by rfl,?_⟩) (by assumption) ?_
 rotate_left
 · intro w hSw
   (try dsimp only at hSw)
   go_simp
   try with_reducible rfl
 try simp only[List.getElem_toArray,List.getElem_cons_succ,List.getElem_cons_zero,Act.put,List.setIfInBounds_toArray,List.set_cons_zero,List.set_cons_succ]
 refine wpAnyH_take (i:=2) (v:=?_) rfl (by kernel_rfl) (by kernel_rfl) (by kernel_rfl) (fun _ _ _ h=>z8h (d:=24) (by decide) (by decide) h) (Or.inl ⟨by rfl,?_⟩) (by assumption) ?_
 rotate_left
 · intro w hSw
   (try dsimp only at hSw)
   go_simp
   try with_reducible rfl
 try simp only[List.getElem_toArray,List.getElem_cons_succ,List.getElem_cons_zero,Act.put,List.setIfInBounds_toArray,List.set_cons_zero,List.set_cons_succ]
 refine wpAnyH_take (i:=3) (v:=?_) rfl (by kernel_rfl) (by kernel_rfl) (by kernel_rfl) (fun _ _ _ h=>z8h (d:=25) (by decide) (by decide) h) (Or.inl ⟨by rfl,?_⟩) (by assumption) ?_
 rotate_left
 · intro w hSw
   (try dsimp only at hSw)
   go_simp
   try with_reducible rfl
 try simp only[List.getElem_toArray,List.getElem_cons_succ,List.getElem_cons_zero,Act.put,List.setIfInBounds_toArray,List.set_cons_zero,List.set_cons_succ]
 refine wpAnyH_ready (rs:= [4]) (by kernel_rfl) (by simp) ?_;refine AllReadyH.cons rfl (fun K hK=>?_) AllReadyH.nil
 go_simp
 go_at_call 36
 refine (zen w.heap.size w1.heap.size size [] _ _ HBU.out (by decide)).mono ?_;rintro e w3 ⟨rfl,hk3,hB3⟩;have HB3:=hid (hB3.weak (Q:=fun k=>w1.heap.size≤k) (fun k h=>by simp at h; omega));have HK3:=hid (HK2.out.trans hk3 (fun _ _ h=>h));have m0:=z0n hk3 n0 (by simp; omega);have m1:=z0n hk3 n1 (by simp; omega);have m2:=z0n hk3 n2 (by simp; omega);have m3:=z0n hk3 n3 (by simp; omega);have m4:=z0n hk3 n4 (by simp; omega);have m5:=z0n hk3 n5 (by simp; omega);clear hk3 hB3
 go_wp2_with fail
 refine hK.out _ _ ?_ (fun hH1=>?_)
 · exact ⟨m0,m1,m2,m3,m4,m5⟩
 clear hK K hH0
 try simp only[List.getElem_toArray,List.getElem_cons_succ,List.getElem_cons_zero,Act.put,List.setIfInBounds_toArray,List.set_cons_zero,List.set_cons_succ]
 refine wpAnyH_ready (rs:= [5]) (by kernel_rfl) (by simp) ?_;refine AllReadyH.cons rfl (fun K hK=>?_) AllReadyH.nil
 go_simp
 go_at_call 35
 refine (z9z w.heap.size w1.heap.size size ([]++ [[]]) _ _ HB3.out WDS1 0 1 (by decide) (by decide)).mono ?_;rintro e w4 ⟨rfl,hk4,hB4⟩;have HB4:=hid ((hB4.weak (Q:=fun k=>w1.heap.size≤k) (fun k h=>by have:=HK3.out.size; omega)).tight);have HK4:=hid (HK3.out.trans hk4 (fun _ _ h=>h));have o0:=z0n hk4 m0 (by simp; omega);have o1:=z0n hk4 m1 (by simp; omega);have o2:=z0n hk4 m2 (by simp; omega);have o3:=z0n hk4 m3 (by simp; omega);have o4:=z0n hk4 m4 (by simp; omega);have o5:=z0n hk4 m5 (by simp; omega);clear hk4 hB4
 go_wp2_with fail
 refine hK.out _ _ ?_ (fun hH2=>?_)
 · exact ⟨o0,o1,o2,o3,o4,o5⟩
 clear hK K hH1
 try simp only[List.getElem_toArray,List.getElem_cons_succ,List.getElem_cons_zero,Act.put,List.setIfInBounds_toArray,List.set_cons_zero,List.set_cons_succ]
 have HE2:growB ([]++ [[]]) 0 1= [zer 1]:=rfl;rw[HE2] at HB4;have HND4:=hid (z2v HN.out (HB1.out.trans (HK4.out.below (by omega) (fun k hk=>by omega))));have HCALL:=hid (ze5 size h200 8 w.heap.size w1.heap.size [zer 1] _ w4 0 0 m n ⟨qA,qa,qB,qb⟩ HB4.out (fun k hk=>⟨hk.2.1,hk.2.2⟩) SOK1 (by decide) (by decide) HND4.out HNO.out.1 ht (by have:=HNO.out.2; omega))
 dsimp only at HCALL
 refine wpAnyH_ready (rs:= [6]) (by kernel_rfl) (by simp) ?_;refine AllReadyH.cons rfl (fun K hK=>?_) AllReadyH.nil
 go_simp
 go_at_call 34
 refine HCALL.out.mono ?_;rintro e w5 (⟨hnone,rfl,hk5⟩ | ⟨s2,hsome,rfl,hk5,hB5⟩)
 · have HK5:=hid (HK4.out.trans hk5 (fun k hk h=>h.1))
   clear hk5 hK;go_wp2;exact ⟨⟨rfl,rfl,rfl⟩,hnone,rfl,HK5.out⟩
 have HK5:=hid (HK4.out.trans hk5 (fun k hk h=>h.1));have HB5:=hid hB5;have HS5:=hid hsome;have HSK:=hid (z2b 200 size 8 n [zer 1] 0 0 s2 HNO.out.1 SOK1 (by decide) (by decide) hsome).1;have q0:=z0n hk5 o0 (by simp; omega);have q1:=z0n hk5 o1 (by simp; omega);have q2:=z0n hk5 o2 (by simp; omega);have q3:=z0n hk5 o3 (by simp; omega);have q4:=z0n hk5 o4 (by simp; omega);have q5:=z0n hk5 o5 (by simp; omega);refine hK.out _ _ ?_ (fun hH3=>?_)
 · exact ⟨q0,q1,q2,q3,q4,q5⟩
 clear hK K hH2 hk5 hB5 hsome n0 n1 n2 n3 n4 n5 m0 m1 m2 m3 m4 m5 o0 o1 o2 o3 o4 o5 q0 q1 q2 q3 q4 q5;refine wpAnyH_done (by kernel_rfl) ?_ _;clear hH3;refine zfa ?_;have HX4':=hid (HK5.out.row HX4.out (by omega));have HX5':=hid (HK5.out.row HX5.out (by omega))
 go_wp2_with fail
 refine (zjq w.heap.size w1.heap.size size s2 _ w5 HB5.out HSK.out).mono ?_;rintro e w6 ⟨A,c,rfl,hown,hb6⟩;have z4:=(hb6.block _ (z00 HX4'.out)).trans HX4'.out;have z5:=(hb6.block _ (z00 HX5'.out)).trans HX5'.out
 have c4:w6.cell? ⟨w.heap.size+1,0,none⟩=some (.slice none 0 0):=by rw[cell_of_row _ _ _ _ _ _ z4]; rfl
 have c5:w6.cell? ⟨w.heap.size+2,0,none⟩=some (.bool false):=by rw[cell_of_row _ _ _ _ _ _ z5]; rfl
 have f4:=z02 z4 0;have f5:=z02 z5 0;have HOWN:=hid hown;have HB6:=hid ((HB1.out.trans (HK5.out.below (by omega) (fun k hk=>by omega))).trans (hb6.mono (by have:=HK5.out.size; omega)));have Z4:=hid z4;have Z5:=hid z5;clear z4 z5 hown hb6
 go_wp2_with fail
 refine leaves_cons (f:=33) (args:= #[.pointer (some ⟨w.heap.size+1,0,none⟩),.pointer (some ⟨w.heap.size+1+1,0,none⟩)]) (by simp) (by simp[go_sem]) ?_;refine (zjk ⟨w.heap.size+1,0,none⟩ ⟨w.heap.size+1+1,0,none⟩ _).mono ?_;rintro e u' w'' ⟨rfl,rfl,rfl⟩;refine ⟨.tuple #[.slice A s2.length c,.bool true],?_,.inr ⟨s2,A,c,HS5.out,rfl,?_,?_⟩⟩
 · simp[results,Tryz.results10,go_sem,c4,c5]
 · refine z13 (zrm HOWN.out (by have:=HK5.out.size; omega)) (fun k hk=>?_)
   obtain ⟨cu,hcu⟩:=own_T HOWN.out hk;exact (Below.heap_setCell _ ⟨w.heap.size+1+1,0,none⟩ _ k (ne_T hcu Z5.out (by decide))).trans (Below.heap_setCell _ ⟨w.heap.size+1,0,none⟩ _ k (ne_T hcu Z4.out (by decide)))
 · exact (HB6.out.setCell (p:=⟨w.heap.size+1,0,none⟩) (by show w.heap.size≤w.heap.size+1; omega) _).setCell (p:=⟨w.heap.size+1+1,0,none⟩) (by show w.heap.size≤w.heap.size+1+1; omega) _
theorem zag (m:Nat)(n:Nd)(h:Hd)(w:World)(S:Nat→Prop)(size:Int)(hn:NdAt w S m n h)(ht:totN m n≤2000000) :
 Calls Tryz.prog 10 #[.agg #[.int .i64 n.kind,.string n.data,.slice h.A n.ptrs.length h.a,.int .i64 n.size,.int .i64 n.count,.slice h.B n.items.length h.b],.int .i64 size] w (zda (bldV n size) w):=by
 by_cases hh:z0g n=true∧1≤size∧size≤200
 · obtain ⟨z,rfl⟩:=Int.eq_ofNat_of_zero_le (show 0≤size by omega)
   have:=zc9 m n h w S z hn ht hh.1 (by omega) (by omega)
   have e:bldV n (z:Int)=z36 200 z n:=by unfold bldV; rw[if_pos hh]; rfl
   rw[e];exact this
 · exact zeh m n h w S size hn ht hh
def One1 (r:Option Segs)(w:World)(e:Ending)(w':World):Prop:=(∃s t,r=some (s :: t)∧e= .returned (.tuple #[strV s,.bool true])∧Below w.heap.size w w')∨(r=none∧e= .returned (.tuple #[.string { data:= #[] },.bool false])∧Below w.heap.size w w')
theorem zas (m:Nat)(n:Nd)(h:Hd)(w:World)(S:Nat→Prop)(hn:NdAt w S m n h)(ht:totN m n≤2000000) :
 Calls Tryz.prog 19 #[.agg #[.int .i64 n.kind,.string n.data,.slice h.A n.ptrs.length h.a,.int .i64 n.size,.int .i64 n.count,.slice h.B n.items.length h.b]] w (One1 (bldV n 200) w):=by
 have hne:∀ss,bldV n 200=some ss→∃s t,ss=s :: t:=fun ss hss=>by
  unfold bldV at hss
  split at hss
  · rename_i hh
    obtain ⟨s,hs,_⟩:=zee (size:=200) hh.1 (by have:=z21 hh.1; unfold z2r; rw[if_pos hh.1]; omega);rw[show (200:Int).toNat=200 from rfl,hs] at hss
    injection hss with hss
    exact ⟨s,[],hss.symm⟩
  · cases hss
 have HNE:=hid hne;obtain ⟨qA,qa,qB,qb⟩:=h;have hb0:=(Below.refl w.heap.size w).alloc (Nat.le_refl _) (.cells #[.int .i64 n.kind,.string n.data,.slice qA n.ptrs.length qa,.int .i64 n.size,.int .i64 n.count,.slice qB n.items.length qb] nodeT);have HB:=hid (zag m n ⟨qA,qa,qB,qb⟩ _ S 200 (hn.below hb0) ht)
 dsimp only at HB ⊢
 have HB0:=hid hb0;generalize bldV n 200=r at *;clear hn hb0 hne;go_enter Tryz.func19,Tryz.ntmps19
 go_wp2_with fail
 refine HB.out.mono ?_;rintro e w1 (⟨rfl,rfl,hb1⟩ | ⟨ss,A,c,rfl,rfl,ho,hb1⟩)
 · have HB1:=hid (HB0.out.trans (hb1.mono HB0.out.size))
   clear hb1;go_wp2;exact bodyPost_ret (v:= .tuple #[.string { data:= #[] },.bool false]) (by simp[results,Tryz.results19,go_sem]) rfl (.inr ⟨rfl,rfl,HB1.out⟩)
 · have HB1:=hid (HB0.out.trans (hb1.mono HB0.out.size))
   obtain ⟨s,t,rfl⟩:=HNE.out ss rfl;obtain ⟨g,cap,cur,hv, -⟩:=z2s ho (by simp)
   injection hv with e1 e2 e3
   subst e1;have hc:=ho.cells (g:=g) rfl 0 (strV s) (by simp);rw[z1r] at hc;clear hb1 ho;go_wp2;exact bodyPost_ret (v:= .tuple #[strV s,.bool true]) (by simp[results,Tryz.results19,go_sem]) rfl (.inl ⟨s,t,rfl,rfl,HB1.out⟩)
end Go.Proofs.YtlbfffokkhccaaaGreatDoor
