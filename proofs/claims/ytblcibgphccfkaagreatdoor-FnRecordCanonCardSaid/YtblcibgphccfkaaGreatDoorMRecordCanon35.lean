/- Texts of the proof of the law FnRecordCanon, side by side: part 35. -/
import Derived.Deep.DeepCutAuto
import Derived.Test.YtblcibgphccfkaaGreatDoorMRecordCanon34
set_option maxHeartbeats 8000000
set_option maxRecDepth 100000
open Go.Lib (hid)
namespace Go.Proofs.YtblcibgphccfkaaGreatDoor
open Go.RowKit Go.Deep
theorem finN6 {W:World}{g:Nat}{T:TypeId}{u0 u1 u2 u3 u4 u5:Value}(v0 v1 v2 v3 v4 v5:Value)(hz:W.heap[g]? =some (.cells #[u0,u1,u2,u3,u4,u5] T (0,0))) :
 ∃wf,((((((W.setCell ⟨g,0,none⟩ v0).setCell ⟨g,1,none⟩ v1).setCell ⟨g,2,none⟩ v2).setCell ⟨g,3,none⟩ v3).setCell ⟨g,4,none⟩ v4).setCell ⟨g,5,none⟩ v5)=wf∧wf.heap[g]? =some (.cells #[v0,v1,v2,v3,v4,v5] T (0,0))∧OnlyIn [g] W wf:=by
 refine ⟨_,rfl,z06 (z06 (z06 (z06 (z06 (z06 hz 0 v0) 1 v1) 2 v2) 3 v3) 4 v4) 5 v5,?_⟩
 have st:∀(V:World) (i:Nat) (v:Value),OnlyIn [g] W V→OnlyIn [g] W (V.setCell ⟨g,i,none⟩ v):=fun V i v hV=>hV.trans (OnlyIn.setCell (p:=⟨g,i,none⟩) (by simp) v)
 exact st _ _ _ (st _ _ _ (st _ _ _ (st _ _ _ (st _ _ _ (st _ _ _ (OnlyIn.refl _ _))))))
theorem setN1 {W:World}{g:Nat}{T:TypeId}{u0 u1 u2 u3 u4 u5:Value}(D':ByteArray)(hz:W.heap[g]? =some (.cells #[u0,u1,u2,u3,u4,u5] T (0,0))) :
 ∃wf,W.setCell ⟨g,1,none⟩ (.string D')=wf∧wf.heap[g]? =some (.cells #[u0,.string D',u2,u3,u4,u5] T (0,0))∧OnlyIn [g] W wf :=
 ⟨_,rfl,z06 hz 1 _,OnlyIn.setCell (p:=⟨g,1,none⟩) (by simp) _⟩
theorem z0r {w w':World}{g:Nat}(h:OnlyIn [g] w w'){R:Nat}(hR:R≤w.heap.size)(hg:R≤g):Below R w w':=h.below hR (fun b hb=>by simp at hb; omega)
theorem zfr (x:Addr)(c:Nat)(l:List Fld)(v1:Value)(D:ByteArray)(G:Option Addr)(P cp:Nat)(k:Nat)(hk:k<l.length)(w:World)(hfl:Flds w (some x) l)(hl:l.length≤12)(htb:z2v l k=false) :
 Calls Tryz.prog 79 #[.slice (some x) l.length c,.agg #[.int .i64 ((layF l ps0).2.ls.words:Int),.int .i64 ((layF l ps0).2.ptrs:Int),v1,.int .i64 (tagL l)],.agg #[.int .i64 1,.string D,.slice G P cp,.int .i64 0,.int .i64 0,.slice none 0 0],.int .i64 (k:Int)] w fun e w'=>e= .returned (.agg #[.int .i64 1,.string D,.slice G P cp,.int .i64 0,.int .i64 0,.slice none 0 0])∧Below w.heap.size w w':=by
 have q0:=z0j w (.cells #[.int .i64 ((layF l ps0).2.ls.words:Int),.int .i64 ((layF l ps0).2.ptrs:Int),v1,.int .i64 (tagL l)] 37);have q1:=z0m q0 (.cells #[.int .i64 1,.string D,.slice G P cp,.int .i64 0,.int .i64 0,.slice none 0 0] nodeT);have q2:=z0m q1 (.cells #[.int .i64 0,.string { data:= #[] },.slice none 0 0,.int .i64 0,.int .i64 0,.slice none 0 0] nodeT);have r0:=z02 (z02 (heap_alloc_new w (.cells #[.int .i64 ((layF l ps0).2.ls.words:Int),.int .i64 ((layF l ps0).2.ptrs:Int),v1,.int .i64 (tagL l)] 37)) (.cells #[.int .i64 1,.string D,.slice G P cp,.int .i64 0,.int .i64 0,.slice none 0 0] nodeT)) (.cells #[.int .i64 0,.string { data:= #[] },.slice none 0 0,.int .i64 0,.int .i64 0,.slice none 0 0] nodeT);have r1:=z02 (z0s q0 #[.int .i64 1,.string D,.slice G P cp,.int .i64 0,.int .i64 0,.slice none 0 0] nodeT) (.cells #[.int .i64 0,.string { data:= #[] },.slice none 0 0,.int .i64 0,.int .i64 0,.slice none 0 0] nodeT);have r2:=z0s q1 #[.int .i64 0,.string { data:= #[] },.slice none 0 0,.int .i64 0,.int .i64 0,.slice none 0 0] nodeT;rw[show w.heap.size+(1+1)=w.heap.size+2 from rfl] at r2;have HB0:=hid q2.2;have HS0:=hid q2.1;have HQ1:=hid q1;have R0:=hid r0;have R1:=hid r1;have R2:=hid r2;have HFL:=hid hfl;obtain ⟨x0,hx0,hxb,hx2⟩:=(hfl.below q2.2).at2 hk;obtain rfl:=Option.some.inj hx0
 obtain ⟨z,fc,el,hf⟩:∃z fc el,l[k]=Fld.mk z fc el:=⟨_,_,_,rfl⟩
 have hte:=z43 hk;rw[hf] at hx2 hte
 dsimp only at hte
 obtain ⟨c0,c1,c2⟩:=hx2;obtain ⟨a0,a1,a2,a3⟩:=z0p r0;obtain ⟨n0,n1,n2,n3,n4,n5⟩:=z04 r1;obtain ⟨z0,z1,z2,z3,z4,z5⟩:=z04 r2;have zf:=z03 r2;clear q0 q1 q2 r0 r1 r2 hf hxb;rw[htb] at hte;have HTE:=hid hte;clear hte htb hfl;cases fc
 · clear HTE
   go_enter Tryz.func79,Tryz.ntmps79
   go_wp2_with fail
   have hrw:=z0s HQ1.out #[.int .i64 1,.string D,.slice G P cp,.int .i64 0,.int .i64 0,.slice none 0 0] nodeT;rw[show w.heap.size+(1+1)=w.heap.size+2 from rfl] at hrw;obtain ⟨e0,e1,e2,e3,e4,e5⟩:=z04 hrw;exact bodyPost_ret (v:= .agg #[.int .i64 1,.string D,.slice G P cp,.int .i64 0,.int .i64 0,.slice none 0 0]) (by simp[results,Tryz.results79,go_sem,e0,e1,e2,e3,e4,e5]) rfl ⟨rfl,(z0m HQ1.out (.cells #[.int .i64 1,.string D,.slice G P cp,.int .i64 0,.int .i64 0,.slice none 0 0] nodeT)).2⟩
 · have htg:decide (0≤tagL l)=false:=by have:=HTE.out; simpa using this.symm
   have htg2:¬0≤tagL l:=by simpa using htg
   clear HTE;go_enter Tryz.func79,Tryz.ntmps79
   go_wp2_with fail
   have hrw:=z0s HQ1.out #[.int .i64 1,.string D,.slice G P cp,.int .i64 0,.int .i64 0,.slice none 0 0] nodeT;rw[show w.heap.size+(1+1)=w.heap.size+2 from rfl] at hrw;obtain ⟨e0,e1,e2,e3,e4,e5⟩:=z04 hrw;exact bodyPost_ret (v:= .agg #[.int .i64 1,.string D,.slice G P cp,.int .i64 0,.int .i64 0,.slice none 0 0]) (by simp[results,Tryz.results79,go_sem,e0,e1,e2,e3,e4,e5]) rfl ⟨rfl,(z0m HQ1.out (.cells #[.int .i64 1,.string D,.slice G P cp,.int .i64 0,.int .i64 0,.slice none 0 0] nodeT)).2⟩
theorem zgg (x:Addr)(c:Nat)(l:List Fld)(v1:Value)(D:ByteArray)(G:Option Addr)(P cp:Nat)(k:Nat)(hk:k<l.length)(w:World)(hfl:Flds w (some x) l)(hl:l.length≤12)(htb:z2v l k=true)(a:Nat)(ha:tagL l*2=(a:Int))(hd:D.size≤1600)(hin:a+2≤D.size) :
 Calls Tryz.prog 79 #[.slice (some x) l.length c,.agg #[.int .i64 ((layF l ps0).2.ls.words:Int),.int .i64 ((layF l ps0).2.ptrs:Int),v1,.int .i64 (tagL l)],.agg #[.int .i64 1,.string D,.slice G P cp,.int .i64 0,.int .i64 0,.slice none 0 0],.int .i64 (k:Int)] w fun e w'=>e= .returned (.agg #[.int .i64 1,.string ⟨(putL D.data.toList a (leB ((plcN l k:Nat):Int) 2)).toArray⟩,.slice G P cp,.int .i64 0,.int .i64 0,.slice none 0 0])∧Below w.heap.size w w':=by
 have q0:=z0j w (.cells #[.int .i64 ((layF l ps0).2.ls.words:Int),.int .i64 ((layF l ps0).2.ptrs:Int),v1,.int .i64 (tagL l)] 37);have q1:=z0m q0 (.cells #[.int .i64 1,.string D,.slice G P cp,.int .i64 0,.int .i64 0,.slice none 0 0] nodeT);have q2:=z0m q1 (.cells #[.int .i64 0,.string { data:= #[] },.slice none 0 0,.int .i64 0,.int .i64 0,.slice none 0 0] nodeT);have r0:=z02 (z02 (heap_alloc_new w (.cells #[.int .i64 ((layF l ps0).2.ls.words:Int),.int .i64 ((layF l ps0).2.ptrs:Int),v1,.int .i64 (tagL l)] 37)) (.cells #[.int .i64 1,.string D,.slice G P cp,.int .i64 0,.int .i64 0,.slice none 0 0] nodeT)) (.cells #[.int .i64 0,.string { data:= #[] },.slice none 0 0,.int .i64 0,.int .i64 0,.slice none 0 0] nodeT);have r1:=z02 (z0s q0 #[.int .i64 1,.string D,.slice G P cp,.int .i64 0,.int .i64 0,.slice none 0 0] nodeT) (.cells #[.int .i64 0,.string { data:= #[] },.slice none 0 0,.int .i64 0,.int .i64 0,.slice none 0 0] nodeT);have r2:=z0s q1 #[.int .i64 0,.string { data:= #[] },.slice none 0 0,.int .i64 0,.int .i64 0,.slice none 0 0] nodeT;rw[show w.heap.size+(1+1)=w.heap.size+2 from rfl] at r2;have HB0:=hid q2.2;have HS0:=hid q2.1;have HQ1:=hid q1;have R0:=hid r0;have R1:=hid r1;have R2:=hid r2;have HFL:=hid hfl;obtain ⟨x0,hx0,hxb,hx2⟩:=(hfl.below q2.2).at2 hk;obtain rfl:=Option.some.inj hx0
 obtain ⟨z,fc,el,hf⟩:∃z fc el,l[k]=Fld.mk z fc el:=⟨_,_,_,rfl⟩
 have hte:=z43 hk;rw[hf] at hx2 hte
 dsimp only at hte
 obtain ⟨c0,c1,c2⟩:=hx2;obtain ⟨a0,a1,a2,a3⟩:=z0p r0;obtain ⟨n0,n1,n2,n3,n4,n5⟩:=z04 r1;obtain ⟨z0,z1,z2,z3,z4,z5⟩:=z04 r2;have zf:=z03 r2;clear q0 q1 q2 r0 r1 r2 hf hxb;rw[htb] at hte
 have h2:fc=true∧0≤tagL l:=by simpa using hte.symm
 obtain ⟨rfl,htg2⟩:=h2
 have htg:decide (0≤tagL l)=true:=by simpa using htg2
 have hfin:=z9s D a (leB ((plcN l k:Nat):Int) 2) 2 (z2s _ 2) hin;rw[← hfin];have HPL:=hid (fun (W:World) (hW:Below w.heap.size w W)=>z1m (some x) c l k hk W (hfl.below hW) hl);have HLB:=hid (fun W:World=>z8p ((plcN l k:Nat):Int) 2 (by decide) W)
 have hls:(⟨(leB ((plcN l k:Nat):Int) 2).toArray⟩:ByteArray).size=2:=by rw[ba_sz,z2s]
 generalize (⟨(leB ((plcN l k:Nat):Int) 2).toArray⟩:ByteArray)=LE at *;generalize ((plcN l k:Nat):Int)=pv at *;have HAA:=hid ha;clear hte htb hfl hfin ha;go_enter Tryz.func79,Tryz.ntmps79
 go_upto_region 2 with fail
 clear a0 a1 a2 a3 n0 n1 n2 n3 n4 n5 z0 z1 z2 z3 z4 z5 zf c0 c1 c2;generalize ((w.alloc (.cells #[.int .i64 ((layF l ps0).2.ls.words:Int),.int .i64 ((layF l ps0).2.ptrs:Int),v1,.int .i64 (tagL l)] 37)).alloc (.cells #[.int .i64 1,.string D,.slice G P cp,.int .i64 0,.int .i64 0,.slice none 0 0] nodeT)).alloc (.cells #[.int .i64 0,.string { data:= #[] },.slice none 0 0,.int .i64 0,.int .i64 0,.slice none 0 0] nodeT)=W at *
 have ka:∀V:World,Below W.heap.size W V→V.cell? ⟨w.heap.size,3,none⟩=some (.int .i64 (tagL l))∧V.cell? ⟨w.heap.size+1,1,none⟩=some (.string D)∧V.frozen? ⟨w.heap.size+1,1,none⟩=false:=fun V hV=>by
  obtain ⟨-, -, -,b3⟩:=z0p ((hV.block _ (z00 R0.out)).trans R0.out);obtain ⟨-,b1, -⟩:=z04 ((hV.block _ (z00 R1.out)).trans R1.out);exact ⟨b3,b1,z03 ((hV.block _ (z00 R1.out)).trans R1.out) 1⟩
 have HKA:=hid ka;clear ka
 go_cut [38] (fun s38 wx=>s38= .pointer (some ⟨w.heap.size+1,1,none⟩)∧Hid (wx.heap[w.heap.size+1]? =some (.cells #[.int .i64 1,.string ((D.extract 0 a++LE)++D.extract (a+2) D.size),.slice G P cp,.int .i64 0,.int .i64 0,.slice none 0 0] nodeT (0,0)))∧Hid (wx.heap[w.heap.size+2]? =some (.cells #[.int .i64 0,.string { data:= #[] },.slice none 0 0,.int .i64 0,.int .i64 0,.slice none 0 0] nodeT (0,0)))∧Hid (Below w.heap.size w wx))
 case first =>
  have HDR:Hid (Below W.heap.size W W.drew):=hid ⟨rfl,rfl,rfl,Nat.le_refl _,fun _ _=>rfl⟩
  have e1:(2:Int)*tagL l=(a:Int):=by have:=HAA.out; omega
  have e2:IntKind.i64.wrap (a:Int)=(a:Int):=by rw[IntKind.wrap_i64]; omega
  have e3:IntKind.i64.wrap ((a:Int)+2)=(a:Int)+2:=by rw[IntKind.wrap_i64]; omega
  have g0:(0:Int)≤(a:Int):=by omega
  have g1:(a:Int)≤(D.size:Int):=by omega
  have g2:(0:Int)≤(a:Int)+2:=by omega
  have g3:(a:Int)+2≤(D.size:Int):=by omega
  have g4:((a:Int)+2).toNat=a+2:=by omega
  have gm:min a D.size=a:=by omega
  have f1:¬9223372036854775807<a+2:=by omega
  have f3:¬9223372036854775807<D.size:=by omega
  have f2:¬9223372036854775807<a+2+(D.size-(a+2)):=by omega
  refine wp_region_held_drew (S:=(fun V=>V.cell? ⟨w.heap.size,3,none⟩=some (.int .i64 (tagL l)))) (by kernel_rfl) ?_ (fun hH=>?_)
  · exact (HKA.out _ HDR.out).1
  refine wpAnyH_take (i:=0) (v:=?_) rfl (by kernel_rfl) (by kernel_rfl) (by kernel_rfl) (fun _ _ _ h=>h) (Or.inl ⟨by rfl,?_⟩) (by assumption) ?_
  rotate_left
  · intro w hSw
    (try dsimp only at hSw)
    go_simp
    try with_reducible rfl
  try simp only[List.getElem_toArray,List.getElem_cons_succ,List.getElem_cons_zero,Act.put,List.setIfInBounds_toArray,List.set_cons_zero,List.set_cons_succ]
  refine wpAnyH_take (i:=2) (v:=?_) rfl (by kernel_rfl) (by kernel_rfl) (by kernel_rfl) (fun _ _ _ h=>h) (Or.inl ⟨by rfl,?_⟩) (by assumption) ?_
  rotate_left
  · intro w hSw
    (try dsimp only at hSw)
    go_simp
    try with_reducible rfl
  try simp only[List.getElem_toArray,List.getElem_cons_succ,List.getElem_cons_zero,Act.put,List.setIfInBounds_toArray,List.set_cons_zero,List.set_cons_succ]
  refine wpAnyH_take (i:=3) (v:=?_) rfl (by kernel_rfl) (by kernel_rfl) (by kernel_rfl) (fun _ _ _ h=>h) (Or.inl ⟨by rfl,?_⟩) (by assumption) ?_
  rotate_left
  · intro w hSw
    (try dsimp only at hSw)
    go_simp
    try with_reducible rfl
  try simp only[List.getElem_toArray,List.getElem_cons_succ,List.getElem_cons_zero,Act.put,List.setIfInBounds_toArray,List.set_cons_zero,List.set_cons_succ]
  refine wpAnyH_take (i:=4) (v:= .int .i64 (a:Int)) rfl (by kernel_rfl) (by kernel_rfl) (by kernel_rfl) (fun _ _ _ h=>h) (Or.inl ⟨by rfl,?_⟩) (by assumption) ?_
  · intro w hSw
    go_simp
    try omega
  try simp only[List.getElem_toArray,List.getElem_cons_succ,List.getElem_cons_zero,Act.put,List.setIfInBounds_toArray,List.set_cons_zero,List.set_cons_succ]
  refine wpAnyH_take (i:=6) (v:=?_) rfl (by kernel_rfl) (by kernel_rfl) (by kernel_rfl) (fun _ _ _ h=>h) (Or.inl ⟨by rfl,?_⟩) (by assumption) ?_
  rotate_left
  · intro w hSw
    (try dsimp only at hSw)
    go_simp
    try with_reducible rfl
  try simp only[List.getElem_toArray,List.getElem_cons_succ,List.getElem_cons_zero,Act.put,List.setIfInBounds_toArray,List.set_cons_zero,List.set_cons_succ]
  refine wpAnyH_take (i:=7) (v:=?_) rfl (by kernel_rfl) (by kernel_rfl) (by kernel_rfl) (fun _ _ _ h=>h) (Or.inl ⟨by rfl,?_⟩) (by assumption) ?_
  rotate_left
  · intro w hSw
    (try dsimp only at hSw)
    go_simp
    try with_reducible rfl
  try simp only[List.getElem_toArray,List.getElem_cons_succ,List.getElem_cons_zero,Act.put,List.setIfInBounds_toArray,List.set_cons_zero,List.set_cons_succ]
  refine wpAnyH_take (i:=11) (v:=?_) rfl (by kernel_rfl) (by kernel_rfl) (by kernel_rfl) (fun _ _ _ h=>h) (Or.inl ⟨by rfl,?_⟩) (by assumption) ?_
  rotate_left
  · intro w hSw
    (try dsimp only at hSw)
    go_simp
    try with_reducible rfl
  try simp only[List.getElem_toArray,List.getElem_cons_succ,List.getElem_cons_zero,Act.put,List.setIfInBounds_toArray,List.set_cons_zero,List.set_cons_succ]
  refine wpAnyH_take (i:=13) (v:=?_) rfl (by kernel_rfl) (by kernel_rfl) (by kernel_rfl) (fun _ _ _ h=>h) (Or.inl ⟨by rfl,?_⟩) (by assumption) ?_
  rotate_left
  · intro w hSw
    (try dsimp only at hSw)
    go_simp
    try with_reducible rfl
  try simp only[List.getElem_toArray,List.getElem_cons_succ,List.getElem_cons_zero,Act.put,List.setIfInBounds_toArray,List.set_cons_zero,List.set_cons_succ]
  refine wpAnyH_take (i:=14) (v:=?_) rfl (by kernel_rfl) (by kernel_rfl) (by kernel_rfl) (fun _ _ _ h=>h) (Or.inl ⟨by rfl,?_⟩) (by assumption) ?_
  rotate_left
  · intro w hSw
    (try dsimp only at hSw)
    go_simp
    try with_reducible rfl
  try simp only[List.getElem_toArray,List.getElem_cons_succ,List.getElem_cons_zero,Act.put,List.setIfInBounds_toArray,List.set_cons_zero,List.set_cons_succ]
  refine wpAnyH_take (i:=15) (v:= .int .i64 (a:Int)) rfl (by kernel_rfl) (by kernel_rfl) (by kernel_rfl) (fun _ _ _ h=>h) (Or.inl ⟨by rfl,?_⟩) (by assumption) ?_
  · intro w hSw
    go_simp
    try omega
  try simp only[List.getElem_toArray,List.getElem_cons_succ,List.getElem_cons_zero,Act.put,List.setIfInBounds_toArray,List.set_cons_zero,List.set_cons_succ]
  refine wpAnyH_take (i:=16) (v:= .int .i64 ((a:Int)+2)) rfl (by kernel_rfl) (by kernel_rfl) (by kernel_rfl) (fun _ _ _ h=>h) (Or.inl ⟨by rfl,?_⟩) (by assumption) ?_
  · intro w hSw
    go_simp
    try omega
  try simp only[List.getElem_toArray,List.getElem_cons_succ,List.getElem_cons_zero,Act.put,List.setIfInBounds_toArray,List.set_cons_zero,List.set_cons_succ]
  refine wpAnyH_ready (rs:= [1,8,12]) (by kernel_rfl) (by simp) ?_;refine AllReadyH.cons rfl (fun K hK=>?_) (AllReadyH.cons rfl (fun K hK=>?_) (AllReadyH.cons rfl (fun K hK=>?_) AllReadyH.nil))
  · obtain ⟨k3,k1,kf⟩:=HKA.out _ HDR.out
    go_simp
    refine hK.out _ _ k3 (fun hHn=>?_);clear hK K k1 kf hH k3;have hH:=hHn;clear hHn
    try simp only[List.getElem_toArray,List.getElem_cons_succ,List.getElem_cons_zero,Act.put,List.setIfInBounds_toArray,List.set_cons_zero,List.set_cons_succ]
    refine wpAnyH_take (i:=5) (v:=?_) rfl (by kernel_rfl) (by kernel_rfl) (by kernel_rfl) (fun _ _ _ h=>h) (Or.inl ⟨by rfl,?_⟩) (by assumption) ?_
    rotate_left
    · intro w hSw
      (try dsimp only at hSw)
      go_simp
      try with_reducible rfl
    try simp only[List.getElem_toArray,List.getElem_cons_succ,List.getElem_cons_zero,Act.put,List.setIfInBounds_toArray,List.set_cons_zero,List.set_cons_succ]
    refine wpAnyH_ready (rs:= [8,12]) (by kernel_rfl) (by simp) ?_;refine AllReadyH.cons rfl (fun K hK=>?_) (AllReadyH.cons rfl (fun K hK=>?_) AllReadyH.nil)
    · go_simp
      go_at_call 37
      refine (HPL.out _ (HB0.out.trans (HDR.out.mono HB0.out.size))).mono ?_;rintro e w12 ⟨rfl,hb9⟩;have HE2:=hid (HDR.out.trans (hb9.mono HDR.out.size));clear hb9;have k3:=(HKA.out _ HE2.out).1
      go_wp2_with fail
      refine hK.out _ _ k3 (fun hHn=>?_);clear hK K hH k3;have hH:=hHn;clear hHn
      try simp only[List.getElem_toArray,List.getElem_cons_succ,List.getElem_cons_zero,Act.put,List.setIfInBounds_toArray,List.set_cons_zero,List.set_cons_succ]
      refine wpAnyH_ready (rs:= [9,12]) (by kernel_rfl) (by simp) ?_;refine AllReadyH.cons rfl (fun K hK=>?_) (AllReadyH.cons rfl (fun K hK=>?_) AllReadyH.nil)
      · go_simp
        go_at_call 78
        refine (HLB.out _).mono ?_;rintro e w13 ⟨rfl,hb9⟩;have HE3:=hid (HE2.out.trans (hb9.mono HE2.out.size));clear hb9;have k3:=(HKA.out _ HE3.out).1
        go_wp2_with fail
        refine hK.out _ _ k3 (fun hHn=>?_);clear hK K hH k3;have hH:=hHn;clear hHn
        try simp only[List.getElem_toArray,List.getElem_cons_succ,List.getElem_cons_zero,Act.put,List.setIfInBounds_toArray,List.set_cons_zero,List.set_cons_succ]
        refine wpAnyH_take (i:=10) (v:= .string (D.extract 0 a++LE)) rfl (by kernel_rfl) (by kernel_rfl) (by kernel_rfl) (fun _ _ _ h=>h) (Or.inl ⟨by rfl,?_⟩) (by assumption) ?_
        · intro w hSw
          go_simp
          try omega
        try simp only[List.getElem_toArray,List.getElem_cons_succ,List.getElem_cons_zero,Act.put,List.setIfInBounds_toArray,List.set_cons_zero,List.set_cons_succ]
        refine wpAnyH_ready (rs:= [12]) (by kernel_rfl) (by simp) ?_;refine AllReadyH.cons rfl (fun K hK=>?_) AllReadyH.nil;obtain ⟨k3,k1,kf⟩:=HKA.out _ HE3.out
        go_simp
        refine hK.out _ _ k3 (fun hHn=>?_);clear hK K k1 kf hH k3;have hH:=hHn;clear hHn
        try simp only[List.getElem_toArray,List.getElem_cons_succ,List.getElem_cons_zero,Act.put,List.setIfInBounds_toArray,List.set_cons_zero,List.set_cons_succ]
        refine wpAnyH_take (i:=17) (v:=?_) rfl (by kernel_rfl) (by kernel_rfl) (by kernel_rfl) (fun _ _ _ h=>h) (Or.inl ⟨by rfl,?_⟩) (by assumption) ?_
        rotate_left
        · intro w hSw
          (try dsimp only at hSw)
          go_simp
          try with_reducible rfl
        try simp only[List.getElem_toArray,List.getElem_cons_succ,List.getElem_cons_zero,Act.put,List.setIfInBounds_toArray,List.set_cons_zero,List.set_cons_succ]
        refine wpAnyH_take (i:=18) (v:= .string ((D.extract 0 a++LE)++D.extract (a+2) D.size)) rfl (by kernel_rfl) (by kernel_rfl) (by kernel_rfl) (fun _ _ _ h=>h) (Or.inl ⟨by rfl,?_⟩) (by assumption) ?_
        · intro w hSw
          go_simp
          try omega
        try simp only[List.getElem_toArray,List.getElem_cons_succ,List.getElem_cons_zero,Act.put,List.setIfInBounds_toArray,List.set_cons_zero,List.set_cons_succ]
        refine wpAnyH_take (i:=19) (v:=?_) rfl (by kernel_rfl) (by kernel_rfl) (by kernel_rfl) (fun _ _ _ h=>h) (Or.inl ⟨by rfl,?_⟩) (by assumption) ?_
        rotate_left
        · intro w hSw
          (try dsimp only at hSw)
          go_simp
          try with_reducible rfl
        try simp only[List.getElem_toArray,List.getElem_cons_succ,List.getElem_cons_zero,Act.put,List.setIfInBounds_toArray,List.set_cons_zero,List.set_cons_succ]
        obtain ⟨k3,k1,kf⟩:=HKA.out _ HE3.out;refine wpAnyH_ready (rs:= [20]) (by kernel_rfl) (by simp) ?_;refine AllReadyH.cons rfl (fun K hK=>?_) AllReadyH.nil
        go_simp
        clear k1 kf;obtain ⟨wf,hwf,hrw,hof⟩:=setN1 ((D.extract 0 a++LE)++D.extract (a+2) D.size) (((HE3.out).block _ (z00 R1.out)).trans R1.out);rw[hwf];have HRF:=hid hrw;have HZF:=hid ((hof.block _ (z00 (((HE3.out).block _ (z00 R2.out)).trans R2.out)) (by simp)).trans (((HE3.out).block _ (z00 R2.out)).trans R2.out));have HOF:=hid ((HB0.out.trans (HE3.out.mono HB0.out.size)).trans (z0r hof (R:=w.heap.size) (HB0.out.trans (HE3.out.mono HB0.out.size)).size (Nat.le_succ _)));have k9:=z01 hof (p:=⟨w.heap.size,3,none⟩) (by simp) k3;refine hK.out _ _ k9 (fun hHn=>?_);clear hK K hH k3 k9 hwf hrw hof
        try simp only[List.getElem_toArray,List.getElem_cons_succ,List.getElem_cons_zero,Act.put,List.setIfInBounds_toArray,List.set_cons_zero,List.set_cons_succ]
        refine wpAnyH_done (by kernel_rfl) ?_ _;clear hHn
        go_wp2_with fail
        go_meet
        case rel=>exact ⟨rfl,HRF,HZF,HOF⟩
      · obtain ⟨k3,k1,kf⟩:=HKA.out _ HE2.out
        go_simp
        refine hK.out _ _ k3 (fun hHn=>?_);clear hK K k1 kf hH k3;have hH:=hHn;clear hHn
        try simp only[List.getElem_toArray,List.getElem_cons_succ,List.getElem_cons_zero,Act.put,List.setIfInBounds_toArray,List.set_cons_zero,List.set_cons_succ]
        refine wpAnyH_take (i:=17) (v:=?_) rfl (by kernel_rfl) (by kernel_rfl) (by kernel_rfl) (fun _ _ _ h=>h) (Or.inl ⟨by rfl,?_⟩) (by assumption) ?_
        rotate_left
        · intro w hSw
          (try dsimp only at hSw)
          go_simp
          try with_reducible rfl
        try simp only[List.getElem_toArray,List.getElem_cons_succ,List.getElem_cons_zero,Act.put,List.setIfInBounds_toArray,List.set_cons_zero,List.set_cons_succ]
        refine wpAnyH_ready (rs:= [9]) (by kernel_rfl) (by simp) ?_;refine AllReadyH.cons rfl (fun K hK=>?_) AllReadyH.nil
        go_simp
        go_at_call 78
        refine (HLB.out _).mono ?_;rintro e w15 ⟨rfl,hb9⟩;have HE5:=hid (HE2.out.trans (hb9.mono HE2.out.size));clear hb9;have k3:=(HKA.out _ HE5.out).1
        go_wp2_with fail
        refine hK.out _ _ k3 (fun hHn=>?_);clear hK K hH k3;have hH:=hHn;clear hHn
        try simp only[List.getElem_toArray,List.getElem_cons_succ,List.getElem_cons_zero,Act.put,List.setIfInBounds_toArray,List.set_cons_zero,List.set_cons_succ]
        refine wpAnyH_take (i:=10) (v:= .string (D.extract 0 a++LE)) rfl (by kernel_rfl) (by kernel_rfl) (by kernel_rfl) (fun _ _ _ h=>h) (Or.inl ⟨by rfl,?_⟩) (by assumption) ?_
        · intro w hSw
          go_simp
          try omega
        try simp only[List.getElem_toArray,List.getElem_cons_succ,List.getElem_cons_zero,Act.put,List.setIfInBounds_toArray,List.set_cons_zero,List.set_cons_succ]
        refine wpAnyH_take (i:=18) (v:= .string ((D.extract 0 a++LE)++D.extract (a+2) D.size)) rfl (by kernel_rfl) (by kernel_rfl) (by kernel_rfl) (fun _ _ _ h=>h) (Or.inl ⟨by rfl,?_⟩) (by assumption) ?_
        · intro w hSw
          go_simp
          try omega
        try simp only[List.getElem_toArray,List.getElem_cons_succ,List.getElem_cons_zero,Act.put,List.setIfInBounds_toArray,List.set_cons_zero,List.set_cons_succ]
        refine wpAnyH_take (i:=19) (v:=?_) rfl (by kernel_rfl) (by kernel_rfl) (by kernel_rfl) (fun _ _ _ h=>h) (Or.inl ⟨by rfl,?_⟩) (by assumption) ?_
        rotate_left
        · intro w hSw
          (try dsimp only at hSw)
          go_simp
          try with_reducible rfl
        try simp only[List.getElem_toArray,List.getElem_cons_succ,List.getElem_cons_zero,Act.put,List.setIfInBounds_toArray,List.set_cons_zero,List.set_cons_succ]
        obtain ⟨k3,k1,kf⟩:=HKA.out _ HE5.out;refine wpAnyH_ready (rs:= [20]) (by kernel_rfl) (by simp) ?_;refine AllReadyH.cons rfl (fun K hK=>?_) AllReadyH.nil
        go_simp
        clear k1 kf;obtain ⟨wf,hwf,hrw,hof⟩:=setN1 ((D.extract 0 a++LE)++D.extract (a+2) D.size) (((HE5.out).block _ (z00 R1.out)).trans R1.out);rw[hwf];have HRF:=hid hrw;have HZF:=hid ((hof.block _ (z00 (((HE5.out).block _ (z00 R2.out)).trans R2.out)) (by simp)).trans (((HE5.out).block _ (z00 R2.out)).trans R2.out));have HOF:=hid ((HB0.out.trans (HE5.out.mono HB0.out.size)).trans (z0r hof (R:=w.heap.size) (HB0.out.trans (HE5.out.mono HB0.out.size)).size (Nat.le_succ _)));have k9:=z01 hof (p:=⟨w.heap.size,3,none⟩) (by simp) k3;refine hK.out _ _ k9 (fun hHn=>?_);clear hK K hH k3 k9 hwf hrw hof
        try simp only[List.getElem_toArray,List.getElem_cons_succ,List.getElem_cons_zero,Act.put,List.setIfInBounds_toArray,List.set_cons_zero,List.set_cons_succ]
        refine wpAnyH_done (by kernel_rfl) ?_ _;clear hHn
        go_wp2_with fail
        go_meet
        case rel=>exact ⟨rfl,HRF,HZF,HOF⟩
    · obtain ⟨k3,k1,kf⟩:=HKA.out _ HDR.out
      go_simp
      refine hK.out _ _ k3 (fun hHn=>?_);clear hK K k1 kf hH k3;have hH:=hHn;clear hHn
      try simp only[List.getElem_toArray,List.getElem_cons_succ,List.getElem_cons_zero,Act.put,List.setIfInBounds_toArray,List.set_cons_zero,List.set_cons_succ]
      refine wpAnyH_take (i:=17) (v:=?_) rfl (by kernel_rfl) (by kernel_rfl) (by kernel_rfl) (fun _ _ _ h=>h) (Or.inl ⟨by rfl,?_⟩) (by assumption) ?_
      rotate_left
      · intro w hSw
        (try dsimp only at hSw)
        go_simp
        try with_reducible rfl
      try simp only[List.getElem_toArray,List.getElem_cons_succ,List.getElem_cons_zero,Act.put,List.setIfInBounds_toArray,List.set_cons_zero,List.set_cons_succ]
      refine wpAnyH_ready (rs:= [8]) (by kernel_rfl) (by simp) ?_;refine AllReadyH.cons rfl (fun K hK=>?_) AllReadyH.nil
      go_simp
      go_at_call 37
      refine (HPL.out _ (HB0.out.trans (HDR.out.mono HB0.out.size))).mono ?_;rintro e w16 ⟨rfl,hb9⟩;have HE6:=hid (HDR.out.trans (hb9.mono HDR.out.size));clear hb9;have k3:=(HKA.out _ HE6.out).1
      go_wp2_with fail
      refine hK.out _ _ k3 (fun hHn=>?_);clear hK K hH k3;have hH:=hHn;clear hHn
      try simp only[List.getElem_toArray,List.getElem_cons_succ,List.getElem_cons_zero,Act.put,List.setIfInBounds_toArray,List.set_cons_zero,List.set_cons_succ]
      refine wpAnyH_ready (rs:= [9]) (by kernel_rfl) (by simp) ?_;refine AllReadyH.cons rfl (fun K hK=>?_) AllReadyH.nil
      go_simp
      go_at_call 78
      refine (HLB.out _).mono ?_;rintro e w17 ⟨rfl,hb9⟩;have HE7:=hid (HE6.out.trans (hb9.mono HE6.out.size));clear hb9;have k3:=(HKA.out _ HE7.out).1
      go_wp2_with fail
      refine hK.out _ _ k3 (fun hHn=>?_);clear hK K hH k3;have hH:=hHn;clear hHn
      try simp only[List.getElem_toArray,List.getElem_cons_succ,List.getElem_cons_zero,Act.put,List.setIfInBounds_toArray,List.set_cons_zero,List.set_cons_succ]
      refine wpAnyH_take (i:=10) (v:= .string (D.extract 0 a++LE)) rfl (by kernel_rfl) (by kernel_rfl) (by kernel_rfl) (fun _ _ _ h=>h) (Or.inl ⟨by rfl,?_⟩) (by assumption) ?_
      · intro w hSw
        go_simp
        try omega
      try simp only[List.getElem_toArray,List.getElem_cons_succ,List.getElem_cons_zero,Act.put,List.setIfInBounds_toArray,List.set_cons_zero,List.set_cons_succ]
      refine wpAnyH_take (i:=18) (v:= .string ((D.extract 0 a++LE)++D.extract (a+2) D.size)) rfl (by kernel_rfl) (by kernel_rfl) (by kernel_rfl) (fun _ _ _ h=>h) (Or.inl ⟨by rfl,?_⟩) (by assumption) ?_
      · intro w hSw
        go_simp
        try omega
      try simp only[List.getElem_toArray,List.getElem_cons_succ,List.getElem_cons_zero,Act.put,List.setIfInBounds_toArray,List.set_cons_zero,List.set_cons_succ]
      refine wpAnyH_take (i:=19) (v:=?_) rfl (by kernel_rfl) (by kernel_rfl) (by kernel_rfl) (fun _ _ _ h=>h) (Or.inl ⟨by rfl,?_⟩) (by assumption) ?_
      rotate_left
      · intro w hSw
        (try dsimp only at hSw)
        go_simp
        try with_reducible rfl
      try simp only[List.getElem_toArray,List.getElem_cons_succ,List.getElem_cons_zero,Act.put,List.setIfInBounds_toArray,List.set_cons_zero,List.set_cons_succ]
      obtain ⟨k3,k1,kf⟩:=HKA.out _ HE7.out;refine wpAnyH_ready (rs:= [20]) (by kernel_rfl) (by simp) ?_;refine AllReadyH.cons rfl (fun K hK=>?_) AllReadyH.nil
      go_simp
      clear k1 kf;obtain ⟨wf,hwf,hrw,hof⟩:=setN1 ((D.extract 0 a++LE)++D.extract (a+2) D.size) (((HE7.out).block _ (z00 R1.out)).trans R1.out);rw[hwf];have HRF:=hid hrw;have HZF:=hid ((hof.block _ (z00 (((HE7.out).block _ (z00 R2.out)).trans R2.out)) (by simp)).trans (((HE7.out).block _ (z00 R2.out)).trans R2.out));have HOF:=hid ((HB0.out.trans (HE7.out.mono HB0.out.size)).trans (z0r hof (R:=w.heap.size) (HB0.out.trans (HE7.out.mono HB0.out.size)).size (Nat.le_succ _)));have k9:=z01 hof (p:=⟨w.heap.size,3,none⟩) (by simp) k3;refine hK.out _ _ k9 (fun hHn=>?_);clear hK K hH k3 k9 hwf hrw hof
      try simp only[List.getElem_toArray,List.getElem_cons_succ,List.getElem_cons_zero,Act.put,List.setIfInBounds_toArray,List.set_cons_zero,List.set_cons_succ]
      refine wpAnyH_done (by kernel_rfl) ?_ _;clear hHn
      go_wp2_with fail
      go_meet
      case rel=>exact ⟨rfl,HRF,HZF,HOF⟩
  · go_simp
    go_at_call 37
    refine (HPL.out _ (HB0.out.trans (HDR.out.mono HB0.out.size))).mono ?_;rintro e w11 ⟨rfl,hb9⟩;have HE1:=hid (HDR.out.trans (hb9.mono HDR.out.size));clear hb9;have k3:=(HKA.out _ HE1.out).1
    go_wp2_with fail
    refine hK.out _ _ k3 (fun hHn=>?_);clear hK K hH k3;have hH:=hHn;clear hHn
    try simp only[List.getElem_toArray,List.getElem_cons_succ,List.getElem_cons_zero,Act.put,List.setIfInBounds_toArray,List.set_cons_zero,List.set_cons_succ]
    refine wpAnyH_ready (rs:= [1,9,12]) (by kernel_rfl) (by simp) ?_;refine AllReadyH.cons rfl (fun K hK=>?_) (AllReadyH.cons rfl (fun K hK=>?_) (AllReadyH.cons rfl (fun K hK=>?_) AllReadyH.nil))
    · obtain ⟨k3,k1,kf⟩:=HKA.out _ HE1.out
      go_simp
      refine hK.out _ _ k3 (fun hHn=>?_);clear hK K k1 kf hH k3;have hH:=hHn;clear hHn
      try simp only[List.getElem_toArray,List.getElem_cons_succ,List.getElem_cons_zero,Act.put,List.setIfInBounds_toArray,List.set_cons_zero,List.set_cons_succ]
      refine wpAnyH_take (i:=5) (v:=?_) rfl (by kernel_rfl) (by kernel_rfl) (by kernel_rfl) (fun _ _ _ h=>h) (Or.inl ⟨by rfl,?_⟩) (by assumption) ?_
      rotate_left
      · intro w hSw
        (try dsimp only at hSw)
        go_simp
        try with_reducible rfl
      try simp only[List.getElem_toArray,List.getElem_cons_succ,List.getElem_cons_zero,Act.put,List.setIfInBounds_toArray,List.set_cons_zero,List.set_cons_succ]
      refine wpAnyH_ready (rs:= [9,12]) (by kernel_rfl) (by simp) ?_;refine AllReadyH.cons rfl (fun K hK=>?_) (AllReadyH.cons rfl (fun K hK=>?_) AllReadyH.nil)
      · go_simp
        go_at_call 78
        refine (HLB.out _).mono ?_;rintro e w19 ⟨rfl,hb9⟩;have HE9:=hid (HE1.out.trans (hb9.mono HE1.out.size));clear hb9;have k3:=(HKA.out _ HE9.out).1
        go_wp2_with fail
        refine hK.out _ _ k3 (fun hHn=>?_);clear hK K hH k3;have hH:=hHn;clear hHn
        try simp only[List.getElem_toArray,List.getElem_cons_succ,List.getElem_cons_zero,Act.put,List.setIfInBounds_toArray,List.set_cons_zero,List.set_cons_succ]
        refine wpAnyH_take (i:=10) (v:= .string (D.extract 0 a++LE)) rfl (by kernel_rfl) (by kernel_rfl) (by kernel_rfl) (fun _ _ _ h=>h) (Or.inl ⟨by rfl,?_⟩) (by assumption) ?_
        · intro w hSw
          go_simp
          try omega
        try simp only[List.getElem_toArray,List.getElem_cons_succ,List.getElem_cons_zero,Act.put,List.setIfInBounds_toArray,List.set_cons_zero,List.set_cons_succ]
        refine wpAnyH_ready (rs:= [12]) (by kernel_rfl) (by simp) ?_;refine AllReadyH.cons rfl (fun K hK=>?_) AllReadyH.nil;obtain ⟨k3,k1,kf⟩:=HKA.out _ HE9.out
        go_simp
        refine hK.out _ _ k3 (fun hHn=>?_);clear hK K k1 kf hH k3;have hH:=hHn;clear hHn
        try simp only[List.getElem_toArray,List.getElem_cons_succ,List.getElem_cons_zero,Act.put,List.setIfInBounds_toArray,List.set_cons_zero,List.set_cons_succ]
        refine wpAnyH_take (i:=17) (v:=?_) rfl (by kernel_rfl) (by kernel_rfl) (by kernel_rfl) (fun _ _ _ h=>h) (Or.inl ⟨by rfl,?_⟩) (by assumption) ?_
        rotate_left
        · intro w hSw
          (try dsimp only at hSw)
          go_simp
          try with_reducible rfl
        try simp only[List.getElem_toArray,List.getElem_cons_succ,List.getElem_cons_zero,Act.put,List.setIfInBounds_toArray,List.set_cons_zero,List.set_cons_succ]
        refine wpAnyH_take (i:=18) (v:= .string ((D.extract 0 a++LE)++D.extract (a+2) D.size)) rfl (by kernel_rfl) (by kernel_rfl) (by kernel_rfl) (fun _ _ _ h=>h) (Or.inl ⟨by rfl,?_⟩) (by assumption) ?_
        · intro w hSw
          go_simp
          try omega
        try simp only[List.getElem_toArray,List.getElem_cons_succ,List.getElem_cons_zero,Act.put,List.setIfInBounds_toArray,List.set_cons_zero,List.set_cons_succ]
        refine wpAnyH_take (i:=19) (v:=?_) rfl (by kernel_rfl) (by kernel_rfl) (by kernel_rfl) (fun _ _ _ h=>h) (Or.inl ⟨by rfl,?_⟩) (by assumption) ?_
        rotate_left
        · intro w hSw
          (try dsimp only at hSw)
          go_simp
          try with_reducible rfl
        try simp only[List.getElem_toArray,List.getElem_cons_succ,List.getElem_cons_zero,Act.put,List.setIfInBounds_toArray,List.set_cons_zero,List.set_cons_succ]
        obtain ⟨k3,k1,kf⟩:=HKA.out _ HE9.out;refine wpAnyH_ready (rs:= [20]) (by kernel_rfl) (by simp) ?_;refine AllReadyH.cons rfl (fun K hK=>?_) AllReadyH.nil
        go_simp
        clear k1 kf;obtain ⟨wf,hwf,hrw,hof⟩:=setN1 ((D.extract 0 a++LE)++D.extract (a+2) D.size) (((HE9.out).block _ (z00 R1.out)).trans R1.out);rw[hwf];have HRF:=hid hrw;have HZF:=hid ((hof.block _ (z00 (((HE9.out).block _ (z00 R2.out)).trans R2.out)) (by simp)).trans (((HE9.out).block _ (z00 R2.out)).trans R2.out));have HOF:=hid ((HB0.out.trans (HE9.out.mono HB0.out.size)).trans (z0r hof (R:=w.heap.size) (HB0.out.trans (HE9.out.mono HB0.out.size)).size (Nat.le_succ _)));have k9:=z01 hof (p:=⟨w.heap.size,3,none⟩) (by simp) k3;refine hK.out _ _ k9 (fun hHn=>?_);clear hK K hH k3 k9 hwf hrw hof
        try simp only[List.getElem_toArray,List.getElem_cons_succ,List.getElem_cons_zero,Act.put,List.setIfInBounds_toArray,List.set_cons_zero,List.set_cons_succ]
        refine wpAnyH_done (by kernel_rfl) ?_ _;clear hHn
        go_wp2_with fail
        go_meet
        case rel=>exact ⟨rfl,HRF,HZF,HOF⟩
      · obtain ⟨k3,k1,kf⟩:=HKA.out _ HE1.out
        go_simp
        refine hK.out _ _ k3 (fun hHn=>?_);clear hK K k1 kf hH k3;have hH:=hHn;clear hHn
        try simp only[List.getElem_toArray,List.getElem_cons_succ,List.getElem_cons_zero,Act.put,List.setIfInBounds_toArray,List.set_cons_zero,List.set_cons_succ]
        refine wpAnyH_take (i:=17) (v:=?_) rfl (by kernel_rfl) (by kernel_rfl) (by kernel_rfl) (fun _ _ _ h=>h) (Or.inl ⟨by rfl,?_⟩) (by assumption) ?_
        rotate_left
        · intro w hSw
          (try dsimp only at hSw)
          go_simp
          try with_reducible rfl
        try simp only[List.getElem_toArray,List.getElem_cons_succ,List.getElem_cons_zero,Act.put,List.setIfInBounds_toArray,List.set_cons_zero,List.set_cons_succ]
        refine wpAnyH_ready (rs:= [9]) (by kernel_rfl) (by simp) ?_;refine AllReadyH.cons rfl (fun K hK=>?_) AllReadyH.nil
        go_simp
        go_at_call 78
        refine (HLB.out _).mono ?_;rintro e w21 ⟨rfl,hb9⟩;have HE11:=hid (HE1.out.trans (hb9.mono HE1.out.size));clear hb9;have k3:=(HKA.out _ HE11.out).1
        go_wp2_with fail
        refine hK.out _ _ k3 (fun hHn=>?_);clear hK K hH k3;have hH:=hHn;clear hHn
        try simp only[List.getElem_toArray,List.getElem_cons_succ,List.getElem_cons_zero,Act.put,List.setIfInBounds_toArray,List.set_cons_zero,List.set_cons_succ]
        refine wpAnyH_take (i:=10) (v:= .string (D.extract 0 a++LE)) rfl (by kernel_rfl) (by kernel_rfl) (by kernel_rfl) (fun _ _ _ h=>h) (Or.inl ⟨by rfl,?_⟩) (by assumption) ?_
        · intro w hSw
          go_simp
          try omega
        try simp only[List.getElem_toArray,List.getElem_cons_succ,List.getElem_cons_zero,Act.put,List.setIfInBounds_toArray,List.set_cons_zero,List.set_cons_succ]
        refine wpAnyH_take (i:=18) (v:= .string ((D.extract 0 a++LE)++D.extract (a+2) D.size)) rfl (by kernel_rfl) (by kernel_rfl) (by kernel_rfl) (fun _ _ _ h=>h) (Or.inl ⟨by rfl,?_⟩) (by assumption) ?_
        · intro w hSw
          go_simp
          try omega
        try simp only[List.getElem_toArray,List.getElem_cons_succ,List.getElem_cons_zero,Act.put,List.setIfInBounds_toArray,List.set_cons_zero,List.set_cons_succ]
        refine wpAnyH_take (i:=19) (v:=?_) rfl (by kernel_rfl) (by kernel_rfl) (by kernel_rfl) (fun _ _ _ h=>h) (Or.inl ⟨by rfl,?_⟩) (by assumption) ?_
        rotate_left
        · intro w hSw
          (try dsimp only at hSw)
          go_simp
          try with_reducible rfl
        try simp only[List.getElem_toArray,List.getElem_cons_succ,List.getElem_cons_zero,Act.put,List.setIfInBounds_toArray,List.set_cons_zero,List.set_cons_succ]
        obtain ⟨k3,k1,kf⟩:=HKA.out _ HE11.out;refine wpAnyH_ready (rs:= [20]) (by kernel_rfl) (by simp) ?_;refine AllReadyH.cons rfl (fun K hK=>?_) AllReadyH.nil
        go_simp
        clear k1 kf;obtain ⟨wf,hwf,hrw,hof⟩:=setN1 ((D.extract 0 a++LE)++D.extract (a+2) D.size) (((HE11.out).block _ (z00 R1.out)).trans R1.out);rw[hwf];have HRF:=hid hrw;have HZF:=hid ((hof.block _ (z00 (((HE11.out).block _ (z00 R2.out)).trans R2.out)) (by simp)).trans (((HE11.out).block _ (z00 R2.out)).trans R2.out));have HOF:=hid ((HB0.out.trans (HE11.out.mono HB0.out.size)).trans (z0r hof (R:=w.heap.size) (HB0.out.trans (HE11.out.mono HB0.out.size)).size (Nat.le_succ _)));have k9:=z01 hof (p:=⟨w.heap.size,3,none⟩) (by simp) k3;refine hK.out _ _ k9 (fun hHn=>?_);clear hK K hH k3 k9 hwf hrw hof
        try simp only[List.getElem_toArray,List.getElem_cons_succ,List.getElem_cons_zero,Act.put,List.setIfInBounds_toArray,List.set_cons_zero,List.set_cons_succ]
        refine wpAnyH_done (by kernel_rfl) ?_ _;clear hHn
        go_wp2_with fail
        go_meet
        case rel=>exact ⟨rfl,HRF,HZF,HOF⟩
    · go_simp
      go_at_call 78
      refine (HLB.out _).mono ?_;rintro e w18 ⟨rfl,hb9⟩;have HE8:=hid (HE1.out.trans (hb9.mono HE1.out.size));clear hb9;have k3:=(HKA.out _ HE8.out).1
      go_wp2_with fail
      refine hK.out _ _ k3 (fun hHn=>?_);clear hK K hH k3;have hH:=hHn;clear hHn
      try simp only[List.getElem_toArray,List.getElem_cons_succ,List.getElem_cons_zero,Act.put,List.setIfInBounds_toArray,List.set_cons_zero,List.set_cons_succ]
      refine wpAnyH_ready (rs:= [1,12]) (by kernel_rfl) (by simp) ?_;refine AllReadyH.cons rfl (fun K hK=>?_) (AllReadyH.cons rfl (fun K hK=>?_) AllReadyH.nil)
      · obtain ⟨k3,k1,kf⟩:=HKA.out _ HE8.out
        go_simp
        refine hK.out _ _ k3 (fun hHn=>?_);clear hK K k1 kf hH k3;have hH:=hHn;clear hHn
        try simp only[List.getElem_toArray,List.getElem_cons_succ,List.getElem_cons_zero,Act.put,List.setIfInBounds_toArray,List.set_cons_zero,List.set_cons_succ]
        refine wpAnyH_take (i:=5) (v:=?_) rfl (by kernel_rfl) (by kernel_rfl) (by kernel_rfl) (fun _ _ _ h=>h) (Or.inl ⟨by rfl,?_⟩) (by assumption) ?_
        rotate_left
        · intro w hSw
          (try dsimp only at hSw)
          go_simp
          try with_reducible rfl
        try simp only[List.getElem_toArray,List.getElem_cons_succ,List.getElem_cons_zero,Act.put,List.setIfInBounds_toArray,List.set_cons_zero,List.set_cons_succ]
        refine wpAnyH_take (i:=10) (v:= .string (D.extract 0 a++LE)) rfl (by kernel_rfl) (by kernel_rfl) (by kernel_rfl) (fun _ _ _ h=>h) (Or.inl ⟨by rfl,?_⟩) (by assumption) ?_
        · intro w hSw
          go_simp
          try omega
        try simp only[List.getElem_toArray,List.getElem_cons_succ,List.getElem_cons_zero,Act.put,List.setIfInBounds_toArray,List.set_cons_zero,List.set_cons_succ]
        refine wpAnyH_ready (rs:= [12]) (by kernel_rfl) (by simp) ?_;refine AllReadyH.cons rfl (fun K hK=>?_) AllReadyH.nil;obtain ⟨k3,k1,kf⟩:=HKA.out _ HE8.out
        go_simp
        refine hK.out _ _ k3 (fun hHn=>?_);clear hK K k1 kf hH k3;have hH:=hHn;clear hHn
        try simp only[List.getElem_toArray,List.getElem_cons_succ,List.getElem_cons_zero,Act.put,List.setIfInBounds_toArray,List.set_cons_zero,List.set_cons_succ]
        refine wpAnyH_take (i:=17) (v:=?_) rfl (by kernel_rfl) (by kernel_rfl) (by kernel_rfl) (fun _ _ _ h=>h) (Or.inl ⟨by rfl,?_⟩) (by assumption) ?_
        rotate_left
        · intro w hSw
          (try dsimp only at hSw)
          go_simp
          try with_reducible rfl
        try simp only[List.getElem_toArray,List.getElem_cons_succ,List.getElem_cons_zero,Act.put,List.setIfInBounds_toArray,List.set_cons_zero,List.set_cons_succ]
        refine wpAnyH_take (i:=18) (v:= .string ((D.extract 0 a++LE)++D.extract (a+2) D.size)) rfl (by kernel_rfl) (by kernel_rfl) (by kernel_rfl) (fun _ _ _ h=>h) (Or.inl ⟨by rfl,?_⟩) (by assumption) ?_
        · intro w hSw
          go_simp
          try omega
        try simp only[List.getElem_toArray,List.getElem_cons_succ,List.getElem_cons_zero,Act.put,List.setIfInBounds_toArray,List.set_cons_zero,List.set_cons_succ]
        refine wpAnyH_take (i:=19) (v:=?_) rfl (by kernel_rfl) (by kernel_rfl) (by kernel_rfl) (fun _ _ _ h=>h) (Or.inl ⟨by rfl,?_⟩) (by assumption) ?_
        rotate_left
        · intro w hSw
          (try dsimp only at hSw)
          go_simp
          try with_reducible rfl
        try simp only[List.getElem_toArray,List.getElem_cons_succ,List.getElem_cons_zero,Act.put,List.setIfInBounds_toArray,List.set_cons_zero,List.set_cons_succ]
        obtain ⟨k3,k1,kf⟩:=HKA.out _ HE8.out;refine wpAnyH_ready (rs:= [20]) (by kernel_rfl) (by simp) ?_;refine AllReadyH.cons rfl (fun K hK=>?_) AllReadyH.nil
        go_simp
        clear k1 kf;obtain ⟨wf,hwf,hrw,hof⟩:=setN1 ((D.extract 0 a++LE)++D.extract (a+2) D.size) (((HE8.out).block _ (z00 R1.out)).trans R1.out);rw[hwf];have HRF:=hid hrw;have HZF:=hid ((hof.block _ (z00 (((HE8.out).block _ (z00 R2.out)).trans R2.out)) (by simp)).trans (((HE8.out).block _ (z00 R2.out)).trans R2.out));have HOF:=hid ((HB0.out.trans (HE8.out.mono HB0.out.size)).trans (z0r hof (R:=w.heap.size) (HB0.out.trans (HE8.out.mono HB0.out.size)).size (Nat.le_succ _)));have k9:=z01 hof (p:=⟨w.heap.size,3,none⟩) (by simp) k3;refine hK.out _ _ k9 (fun hHn=>?_);clear hK K hH k3 k9 hwf hrw hof
        try simp only[List.getElem_toArray,List.getElem_cons_succ,List.getElem_cons_zero,Act.put,List.setIfInBounds_toArray,List.set_cons_zero,List.set_cons_succ]
        refine wpAnyH_done (by kernel_rfl) ?_ _;clear hHn
        go_wp2_with fail
        go_meet
        case rel=>exact ⟨rfl,HRF,HZF,HOF⟩
      · obtain ⟨k3,k1,kf⟩:=HKA.out _ HE8.out
        go_simp
        refine hK.out _ _ k3 (fun hHn=>?_);clear hK K k1 kf hH k3;have hH:=hHn;clear hHn
        try simp only[List.getElem_toArray,List.getElem_cons_succ,List.getElem_cons_zero,Act.put,List.setIfInBounds_toArray,List.set_cons_zero,List.set_cons_succ]
        refine wpAnyH_take (i:=17) (v:=?_) rfl (by kernel_rfl) (by kernel_rfl) (by kernel_rfl) (fun _ _ _ h=>h) (Or.inl ⟨by rfl,?_⟩) (by assumption) ?_
        rotate_left
        · intro w hSw
          (try dsimp only at hSw)
          go_simp
          try with_reducible rfl
        try simp only[List.getElem_toArray,List.getElem_cons_succ,List.getElem_cons_zero,Act.put,List.setIfInBounds_toArray,List.set_cons_zero,List.set_cons_succ]
        refine wpAnyH_ready (rs:= [1]) (by kernel_rfl) (by simp) ?_;refine AllReadyH.cons rfl (fun K hK=>?_) AllReadyH.nil;obtain ⟨k3,k1,kf⟩:=HKA.out _ HE8.out
        go_simp
        refine hK.out _ _ k3 (fun hHn=>?_);clear hK K k1 kf hH k3;have hH:=hHn;clear hHn
        try simp only[List.getElem_toArray,List.getElem_cons_succ,List.getElem_cons_zero,Act.put,List.setIfInBounds_toArray,List.set_cons_zero,List.set_cons_succ]
        refine wpAnyH_take (i:=5) (v:=?_) rfl (by kernel_rfl) (by kernel_rfl) (by kernel_rfl) (fun _ _ _ h=>h) (Or.inl ⟨by rfl,?_⟩) (by assumption) ?_
        rotate_left
        · intro w hSw
          (try dsimp only at hSw)
          go_simp
          try with_reducible rfl
        try simp only[List.getElem_toArray,List.getElem_cons_succ,List.getElem_cons_zero,Act.put,List.setIfInBounds_toArray,List.set_cons_zero,List.set_cons_succ]
        refine wpAnyH_take (i:=10) (v:= .string (D.extract 0 a++LE)) rfl (by kernel_rfl) (by kernel_rfl) (by kernel_rfl) (fun _ _ _ h=>h) (Or.inl ⟨by rfl,?_⟩) (by assumption) ?_
        · intro w hSw
          go_simp
          try omega
        try simp only[List.getElem_toArray,List.getElem_cons_succ,List.getElem_cons_zero,Act.put,List.setIfInBounds_toArray,List.set_cons_zero,List.set_cons_succ]
        refine wpAnyH_take (i:=18) (v:= .string ((D.extract 0 a++LE)++D.extract (a+2) D.size)) rfl (by kernel_rfl) (by kernel_rfl) (by kernel_rfl) (fun _ _ _ h=>h) (Or.inl ⟨by rfl,?_⟩) (by assumption) ?_
        · intro w hSw
          go_simp
          try omega
        try simp only[List.getElem_toArray,List.getElem_cons_succ,List.getElem_cons_zero,Act.put,List.setIfInBounds_toArray,List.set_cons_zero,List.set_cons_succ]
        refine wpAnyH_take (i:=19) (v:=?_) rfl (by kernel_rfl) (by kernel_rfl) (by kernel_rfl) (fun _ _ _ h=>h) (Or.inl ⟨by rfl,?_⟩) (by assumption) ?_
        rotate_left
        · intro w hSw
          (try dsimp only at hSw)
          go_simp
          try with_reducible rfl
        try simp only[List.getElem_toArray,List.getElem_cons_succ,List.getElem_cons_zero,Act.put,List.setIfInBounds_toArray,List.set_cons_zero,List.set_cons_succ]
        obtain ⟨k3,k1,kf⟩:=HKA.out _ HE8.out;refine wpAnyH_ready (rs:= [20]) (by kernel_rfl) (by simp) ?_;refine AllReadyH.cons rfl (fun K hK=>?_) AllReadyH.nil
        go_simp
        clear k1 kf;obtain ⟨wf,hwf,hrw,hof⟩:=setN1 ((D.extract 0 a++LE)++D.extract (a+2) D.size) (((HE8.out).block _ (z00 R1.out)).trans R1.out);rw[hwf];have HRF:=hid hrw;have HZF:=hid ((hof.block _ (z00 (((HE8.out).block _ (z00 R2.out)).trans R2.out)) (by simp)).trans (((HE8.out).block _ (z00 R2.out)).trans R2.out));have HOF:=hid ((HB0.out.trans (HE8.out.mono HB0.out.size)).trans (z0r hof (R:=w.heap.size) (HB0.out.trans (HE8.out.mono HB0.out.size)).size (Nat.le_succ _)));have k9:=z01 hof (p:=⟨w.heap.size,3,none⟩) (by simp) k3;refine hK.out _ _ k9 (fun hHn=>?_);clear hK K hH k3 k9 hwf hrw hof
        try simp only[List.getElem_toArray,List.getElem_cons_succ,List.getElem_cons_zero,Act.put,List.setIfInBounds_toArray,List.set_cons_zero,List.set_cons_succ]
        refine wpAnyH_done (by kernel_rfl) ?_ _;clear hHn
        go_wp2_with fail
        go_meet
        case rel=>exact ⟨rfl,HRF,HZF,HOF⟩
    · obtain ⟨k3,k1,kf⟩:=HKA.out _ HE1.out
      go_simp
      refine hK.out _ _ k3 (fun hHn=>?_);clear hK K k1 kf hH k3;have hH:=hHn;clear hHn
      try simp only[List.getElem_toArray,List.getElem_cons_succ,List.getElem_cons_zero,Act.put,List.setIfInBounds_toArray,List.set_cons_zero,List.set_cons_succ]
      refine wpAnyH_take (i:=17) (v:=?_) rfl (by kernel_rfl) (by kernel_rfl) (by kernel_rfl) (fun _ _ _ h=>h) (Or.inl ⟨by rfl,?_⟩) (by assumption) ?_
      rotate_left
      · intro w hSw
        (try dsimp only at hSw)
        go_simp
        try with_reducible rfl
      try simp only[List.getElem_toArray,List.getElem_cons_succ,List.getElem_cons_zero,Act.put,List.setIfInBounds_toArray,List.set_cons_zero,List.set_cons_succ]
      refine wpAnyH_ready (rs:= [1,9]) (by kernel_rfl) (by simp) ?_;refine AllReadyH.cons rfl (fun K hK=>?_) (AllReadyH.cons rfl (fun K hK=>?_) AllReadyH.nil)
      · obtain ⟨k3,k1,kf⟩:=HKA.out _ HE1.out
        go_simp
        refine hK.out _ _ k3 (fun hHn=>?_);clear hK K k1 kf hH k3;have hH:=hHn;clear hHn
        try simp only[List.getElem_toArray,List.getElem_cons_succ,List.getElem_cons_zero,Act.put,List.setIfInBounds_toArray,List.set_cons_zero,List.set_cons_succ]
        refine wpAnyH_take (i:=5) (v:=?_) rfl (by kernel_rfl) (by kernel_rfl) (by kernel_rfl) (fun _ _ _ h=>h) (Or.inl ⟨by rfl,?_⟩) (by assumption) ?_
        rotate_left
        · intro w hSw
          (try dsimp only at hSw)
          go_simp
          try with_reducible rfl
        try simp only[List.getElem_toArray,List.getElem_cons_succ,List.getElem_cons_zero,Act.put,List.setIfInBounds_toArray,List.set_cons_zero,List.set_cons_succ]
        refine wpAnyH_ready (rs:= [9]) (by kernel_rfl) (by simp) ?_;refine AllReadyH.cons rfl (fun K hK=>?_) AllReadyH.nil
        go_simp
        go_at_call 78
        refine (HLB.out _).mono ?_;rintro e w26 ⟨rfl,hb9⟩;have HE16:=hid (HE1.out.trans (hb9.mono HE1.out.size));clear hb9;have k3:=(HKA.out _ HE16.out).1
        go_wp2_with fail
        refine hK.out _ _ k3 (fun hHn=>?_);clear hK K hH k3;have hH:=hHn;clear hHn
        try simp only[List.getElem_toArray,List.getElem_cons_succ,List.getElem_cons_zero,Act.put,List.setIfInBounds_toArray,List.set_cons_zero,List.set_cons_succ]
        refine wpAnyH_take (i:=10) (v:= .string (D.extract 0 a++LE)) rfl (by kernel_rfl) (by kernel_rfl) (by kernel_rfl) (fun _ _ _ h=>h) (Or.inl ⟨by rfl,?_⟩) (by assumption) ?_
        · intro w hSw
          go_simp
          try omega
        try simp only[List.getElem_toArray,List.getElem_cons_succ,List.getElem_cons_zero,Act.put,List.setIfInBounds_toArray,List.set_cons_zero,List.set_cons_succ]
        refine wpAnyH_take (i:=18) (v:= .string ((D.extract 0 a++LE)++D.extract (a+2) D.size)) rfl (by kernel_rfl) (by kernel_rfl) (by kernel_rfl) (fun _ _ _ h=>h) (Or.inl ⟨by rfl,?_⟩) (by assumption) ?_
        · intro w hSw
          go_simp
          try omega
        try simp only[List.getElem_toArray,List.getElem_cons_succ,List.getElem_cons_zero,Act.put,List.setIfInBounds_toArray,List.set_cons_zero,List.set_cons_succ]
        refine wpAnyH_take (i:=19) (v:=?_) rfl (by kernel_rfl) (by kernel_rfl) (by kernel_rfl) (fun _ _ _ h=>h) (Or.inl ⟨by rfl,?_⟩) (by assumption) ?_
        rotate_left
        · intro w hSw
          (try dsimp only at hSw)
          go_simp
          try with_reducible rfl
        try simp only[List.getElem_toArray,List.getElem_cons_succ,List.getElem_cons_zero,Act.put,List.setIfInBounds_toArray,List.set_cons_zero,List.set_cons_succ]
        obtain ⟨k3,k1,kf⟩:=HKA.out _ HE16.out;refine wpAnyH_ready (rs:= [20]) (by kernel_rfl) (by simp) ?_;refine AllReadyH.cons rfl (fun K hK=>?_) AllReadyH.nil
        go_simp
        clear k1 kf;obtain ⟨wf,hwf,hrw,hof⟩:=setN1 ((D.extract 0 a++LE)++D.extract (a+2) D.size) (((HE16.out).block _ (z00 R1.out)).trans R1.out);rw[hwf];have HRF:=hid hrw;have HZF:=hid ((hof.block _ (z00 (((HE16.out).block _ (z00 R2.out)).trans R2.out)) (by simp)).trans (((HE16.out).block _ (z00 R2.out)).trans R2.out));have HOF:=hid ((HB0.out.trans (HE16.out.mono HB0.out.size)).trans (z0r hof (R:=w.heap.size) (HB0.out.trans (HE16.out.mono HB0.out.size)).size (Nat.le_succ _)));have k9:=z01 hof (p:=⟨w.heap.size,3,none⟩) (by simp) k3;refine hK.out _ _ k9 (fun hHn=>?_);clear hK K hH k3 k9 hwf hrw hof
        try simp only[List.getElem_toArray,List.getElem_cons_succ,List.getElem_cons_zero,Act.put,List.setIfInBounds_toArray,List.set_cons_zero,List.set_cons_succ]
        refine wpAnyH_done (by kernel_rfl) ?_ _;clear hHn
        go_wp2_with fail
        go_meet
        case rel=>exact ⟨rfl,HRF,HZF,HOF⟩
      · go_simp
        go_at_call 78
        refine (HLB.out _).mono ?_;rintro e w25 ⟨rfl,hb9⟩;have HE15:=hid (HE1.out.trans (hb9.mono HE1.out.size));clear hb9;have k3:=(HKA.out _ HE15.out).1
        go_wp2_with fail
        refine hK.out _ _ k3 (fun hHn=>?_);clear hK K hH k3;have hH:=hHn;clear hHn
        try simp only[List.getElem_toArray,List.getElem_cons_succ,List.getElem_cons_zero,Act.put,List.setIfInBounds_toArray,List.set_cons_zero,List.set_cons_succ]
        refine wpAnyH_ready (rs:= [1]) (by kernel_rfl) (by simp) ?_;refine AllReadyH.cons rfl (fun K hK=>?_) AllReadyH.nil;obtain ⟨k3,k1,kf⟩:=HKA.out _ HE15.out
        go_simp
        refine hK.out _ _ k3 (fun hHn=>?_);clear hK K k1 kf hH k3;have hH:=hHn;clear hHn
        try simp only[List.getElem_toArray,List.getElem_cons_succ,List.getElem_cons_zero,Act.put,List.setIfInBounds_toArray,List.set_cons_zero,List.set_cons_succ]
        refine wpAnyH_take (i:=5) (v:=?_) rfl (by kernel_rfl) (by kernel_rfl) (by kernel_rfl) (fun _ _ _ h=>h) (Or.inl ⟨by rfl,?_⟩) (by assumption) ?_
        rotate_left
        · intro w hSw
          (try dsimp only at hSw)
          go_simp
          try with_reducible rfl
        try simp only[List.getElem_toArray,List.getElem_cons_succ,List.getElem_cons_zero,Act.put,List.setIfInBounds_toArray,List.set_cons_zero,List.set_cons_succ]
        refine wpAnyH_take (i:=10) (v:= .string (D.extract 0 a++LE)) rfl (by kernel_rfl) (by kernel_rfl) (by kernel_rfl) (fun _ _ _ h=>h) (Or.inl ⟨by rfl,?_⟩) (by assumption) ?_
        · intro w hSw
          go_simp
          try omega
        try simp only[List.getElem_toArray,List.getElem_cons_succ,List.getElem_cons_zero,Act.put,List.setIfInBounds_toArray,List.set_cons_zero,List.set_cons_succ]
        refine wpAnyH_take (i:=18) (v:= .string ((D.extract 0 a++LE)++D.extract (a+2) D.size)) rfl (by kernel_rfl) (by kernel_rfl) (by kernel_rfl) (fun _ _ _ h=>h) (Or.inl ⟨by rfl,?_⟩) (by assumption) ?_
        · intro w hSw
          go_simp
          try omega
        try simp only[List.getElem_toArray,List.getElem_cons_succ,List.getElem_cons_zero,Act.put,List.setIfInBounds_toArray,List.set_cons_zero,List.set_cons_succ]
        refine wpAnyH_take (i:=19) (v:=?_) rfl (by kernel_rfl) (by kernel_rfl) (by kernel_rfl) (fun _ _ _ h=>h) (Or.inl ⟨by rfl,?_⟩) (by assumption) ?_
        rotate_left
        · intro w hSw
          (try dsimp only at hSw)
          go_simp
          try with_reducible rfl
        try simp only[List.getElem_toArray,List.getElem_cons_succ,List.getElem_cons_zero,Act.put,List.setIfInBounds_toArray,List.set_cons_zero,List.set_cons_succ]
        obtain ⟨k3,k1,kf⟩:=HKA.out _ HE15.out;refine wpAnyH_ready (rs:= [20]) (by kernel_rfl) (by simp) ?_;refine AllReadyH.cons rfl (fun K hK=>?_) AllReadyH.nil
        go_simp
        clear k1 kf;obtain ⟨wf,hwf,hrw,hof⟩:=setN1 ((D.extract 0 a++LE)++D.extract (a+2) D.size) (((HE15.out).block _ (z00 R1.out)).trans R1.out);rw[hwf];have HRF:=hid hrw;have HZF:=hid ((hof.block _ (z00 (((HE15.out).block _ (z00 R2.out)).trans R2.out)) (by simp)).trans (((HE15.out).block _ (z00 R2.out)).trans R2.out));have HOF:=hid ((HB0.out.trans (HE15.out.mono HB0.out.size)).trans (z0r hof (R:=w.heap.size) (HB0.out.trans (HE15.out.mono HB0.out.size)).size (Nat.le_succ _)));have k9:=z01 hof (p:=⟨w.heap.size,3,none⟩) (by simp) k3;refine hK.out _ _ k9 (fun hHn=>?_);clear hK K hH k3 k9 hwf hrw hof
        try simp only[List.getElem_toArray,List.getElem_cons_succ,List.getElem_cons_zero,Act.put,List.setIfInBounds_toArray,List.set_cons_zero,List.set_cons_succ]
        refine wpAnyH_done (by kernel_rfl) ?_ _;clear hHn
        go_wp2_with fail
        go_meet
        case rel=>exact ⟨rfl,HRF,HZF,HOF⟩
  · obtain ⟨k3,k1,kf⟩:=HKA.out _ HDR.out
    go_simp
    refine hK.out _ _ k3 (fun hHn=>?_);clear hK K k1 kf hH k3;have hH:=hHn;clear hHn
    try simp only[List.getElem_toArray,List.getElem_cons_succ,List.getElem_cons_zero,Act.put,List.setIfInBounds_toArray,List.set_cons_zero,List.set_cons_succ]
    refine wpAnyH_take (i:=17) (v:=?_) rfl (by kernel_rfl) (by kernel_rfl) (by kernel_rfl) (fun _ _ _ h=>h) (Or.inl ⟨by rfl,?_⟩) (by assumption) ?_
    rotate_left
    · intro w hSw
      (try dsimp only at hSw)
      go_simp
      try with_reducible rfl
    try simp only[List.getElem_toArray,List.getElem_cons_succ,List.getElem_cons_zero,Act.put,List.setIfInBounds_toArray,List.set_cons_zero,List.set_cons_succ]
    refine wpAnyH_ready (rs:= [1,8]) (by kernel_rfl) (by simp) ?_;refine AllReadyH.cons rfl (fun K hK=>?_) (AllReadyH.cons rfl (fun K hK=>?_) AllReadyH.nil)
    · obtain ⟨k3,k1,kf⟩:=HKA.out _ HDR.out
      go_simp
      refine hK.out _ _ k3 (fun hHn=>?_);clear hK K k1 kf hH k3;have hH:=hHn;clear hHn
      try simp only[List.getElem_toArray,List.getElem_cons_succ,List.getElem_cons_zero,Act.put,List.setIfInBounds_toArray,List.set_cons_zero,List.set_cons_succ]
      refine wpAnyH_take (i:=5) (v:=?_) rfl (by kernel_rfl) (by kernel_rfl) (by kernel_rfl) (fun _ _ _ h=>h) (Or.inl ⟨by rfl,?_⟩) (by assumption) ?_
      rotate_left
      · intro w hSw
        (try dsimp only at hSw)
        go_simp
        try with_reducible rfl
      try simp only[List.getElem_toArray,List.getElem_cons_succ,List.getElem_cons_zero,Act.put,List.setIfInBounds_toArray,List.set_cons_zero,List.set_cons_succ]
      refine wpAnyH_ready (rs:= [8]) (by kernel_rfl) (by simp) ?_;refine AllReadyH.cons rfl (fun K hK=>?_) AllReadyH.nil
      go_simp
      go_at_call 37
      refine (HPL.out _ (HB0.out.trans (HDR.out.mono HB0.out.size))).mono ?_;rintro e w29 ⟨rfl,hb9⟩;have HE19:=hid (HDR.out.trans (hb9.mono HDR.out.size));clear hb9;have k3:=(HKA.out _ HE19.out).1
      go_wp2_with fail
      refine hK.out _ _ k3 (fun hHn=>?_);clear hK K hH k3;have hH:=hHn;clear hHn
      try simp only[List.getElem_toArray,List.getElem_cons_succ,List.getElem_cons_zero,Act.put,List.setIfInBounds_toArray,List.set_cons_zero,List.set_cons_succ]
      refine wpAnyH_ready (rs:= [9]) (by kernel_rfl) (by simp) ?_;refine AllReadyH.cons rfl (fun K hK=>?_) AllReadyH.nil
      go_simp
      go_at_call 78
      refine (HLB.out _).mono ?_;rintro e w30 ⟨rfl,hb9⟩;have HE20:=hid (HE19.out.trans (hb9.mono HE19.out.size));clear hb9;have k3:=(HKA.out _ HE20.out).1
      go_wp2_with fail
      refine hK.out _ _ k3 (fun hHn=>?_);clear hK K hH k3;have hH:=hHn;clear hHn
      try simp only[List.getElem_toArray,List.getElem_cons_succ,List.getElem_cons_zero,Act.put,List.setIfInBounds_toArray,List.set_cons_zero,List.set_cons_succ]
      refine wpAnyH_take (i:=10) (v:= .string (D.extract 0 a++LE)) rfl (by kernel_rfl) (by kernel_rfl) (by kernel_rfl) (fun _ _ _ h=>h) (Or.inl ⟨by rfl,?_⟩) (by assumption) ?_
      · intro w hSw
        go_simp
        try omega
      try simp only[List.getElem_toArray,List.getElem_cons_succ,List.getElem_cons_zero,Act.put,List.setIfInBounds_toArray,List.set_cons_zero,List.set_cons_succ]
      refine wpAnyH_take (i:=18) (v:= .string ((D.extract 0 a++LE)++D.extract (a+2) D.size)) rfl (by kernel_rfl) (by kernel_rfl) (by kernel_rfl) (fun _ _ _ h=>h) (Or.inl ⟨by rfl,?_⟩) (by assumption) ?_
      · intro w hSw
        go_simp
        try omega
      try simp only[List.getElem_toArray,List.getElem_cons_succ,List.getElem_cons_zero,Act.put,List.setIfInBounds_toArray,List.set_cons_zero,List.set_cons_succ]
      refine wpAnyH_take (i:=19) (v:=?_) rfl (by kernel_rfl) (by kernel_rfl) (by kernel_rfl) (fun _ _ _ h=>h) (Or.inl ⟨by rfl,?_⟩) (by assumption) ?_
      rotate_left
      · intro w hSw
        (try dsimp only at hSw)
        go_simp
        try with_reducible rfl
      try simp only[List.getElem_toArray,List.getElem_cons_succ,List.getElem_cons_zero,Act.put,List.setIfInBounds_toArray,List.set_cons_zero,List.set_cons_succ]
      obtain ⟨k3,k1,kf⟩:=HKA.out _ HE20.out;refine wpAnyH_ready (rs:= [20]) (by kernel_rfl) (by simp) ?_;refine AllReadyH.cons rfl (fun K hK=>?_) AllReadyH.nil
      go_simp
      clear k1 kf;obtain ⟨wf,hwf,hrw,hof⟩:=setN1 ((D.extract 0 a++LE)++D.extract (a+2) D.size) (((HE20.out).block _ (z00 R1.out)).trans R1.out);rw[hwf];have HRF:=hid hrw;have HZF:=hid ((hof.block _ (z00 (((HE20.out).block _ (z00 R2.out)).trans R2.out)) (by simp)).trans (((HE20.out).block _ (z00 R2.out)).trans R2.out));have HOF:=hid ((HB0.out.trans (HE20.out.mono HB0.out.size)).trans (z0r hof (R:=w.heap.size) (HB0.out.trans (HE20.out.mono HB0.out.size)).size (Nat.le_succ _)));have k9:=z01 hof (p:=⟨w.heap.size,3,none⟩) (by simp) k3;refine hK.out _ _ k9 (fun hHn=>?_);clear hK K hH k3 k9 hwf hrw hof
      try simp only[List.getElem_toArray,List.getElem_cons_succ,List.getElem_cons_zero,Act.put,List.setIfInBounds_toArray,List.set_cons_zero,List.set_cons_succ]
      refine wpAnyH_done (by kernel_rfl) ?_ _;clear hHn
      go_wp2_with fail
      go_meet
      case rel=>exact ⟨rfl,HRF,HZF,HOF⟩
    · go_simp
      go_at_call 37
      refine (HPL.out _ (HB0.out.trans (HDR.out.mono HB0.out.size))).mono ?_;rintro e w28 ⟨rfl,hb9⟩;have HE18:=hid (HDR.out.trans (hb9.mono HDR.out.size));clear hb9;have k3:=(HKA.out _ HE18.out).1
      go_wp2_with fail
      refine hK.out _ _ k3 (fun hHn=>?_);clear hK K hH k3;have hH:=hHn;clear hHn
      try simp only[List.getElem_toArray,List.getElem_cons_succ,List.getElem_cons_zero,Act.put,List.setIfInBounds_toArray,List.set_cons_zero,List.set_cons_succ]
      refine wpAnyH_ready (rs:= [1,9]) (by kernel_rfl) (by simp) ?_;refine AllReadyH.cons rfl (fun K hK=>?_) (AllReadyH.cons rfl (fun K hK=>?_) AllReadyH.nil)
      · obtain ⟨k3,k1,kf⟩:=HKA.out _ HE18.out
        go_simp
        refine hK.out _ _ k3 (fun hHn=>?_);clear hK K k1 kf hH k3;have hH:=hHn;clear hHn
        try simp only[List.getElem_toArray,List.getElem_cons_succ,List.getElem_cons_zero,Act.put,List.setIfInBounds_toArray,List.set_cons_zero,List.set_cons_succ]
        refine wpAnyH_take (i:=5) (v:=?_) rfl (by kernel_rfl) (by kernel_rfl) (by kernel_rfl) (fun _ _ _ h=>h) (Or.inl ⟨by rfl,?_⟩) (by assumption) ?_
        rotate_left
        · intro w hSw
          (try dsimp only at hSw)
          go_simp
          try with_reducible rfl
        try simp only[List.getElem_toArray,List.getElem_cons_succ,List.getElem_cons_zero,Act.put,List.setIfInBounds_toArray,List.set_cons_zero,List.set_cons_succ]
        refine wpAnyH_ready (rs:= [9]) (by kernel_rfl) (by simp) ?_;refine AllReadyH.cons rfl (fun K hK=>?_) AllReadyH.nil
        go_simp
        go_at_call 78
        refine (HLB.out _).mono ?_;rintro e w32 ⟨rfl,hb9⟩;have HE22:=hid (HE18.out.trans (hb9.mono HE18.out.size));clear hb9;have k3:=(HKA.out _ HE22.out).1
        go_wp2_with fail
        refine hK.out _ _ k3 (fun hHn=>?_);clear hK K hH k3;have hH:=hHn;clear hHn
        try simp only[List.getElem_toArray,List.getElem_cons_succ,List.getElem_cons_zero,Act.put,List.setIfInBounds_toArray,List.set_cons_zero,List.set_cons_succ]
        refine wpAnyH_take (i:=10) (v:= .string (D.extract 0 a++LE)) rfl (by kernel_rfl) (by kernel_rfl) (by kernel_rfl) (fun _ _ _ h=>h) (Or.inl ⟨by rfl,?_⟩) (by assumption) ?_
        · intro w hSw
          go_simp
          try omega
        try simp only[List.getElem_toArray,List.getElem_cons_succ,List.getElem_cons_zero,Act.put,List.setIfInBounds_toArray,List.set_cons_zero,List.set_cons_succ]
        refine wpAnyH_take (i:=18) (v:= .string ((D.extract 0 a++LE)++D.extract (a+2) D.size)) rfl (by kernel_rfl) (by kernel_rfl) (by kernel_rfl) (fun _ _ _ h=>h) (Or.inl ⟨by rfl,?_⟩) (by assumption) ?_
        · intro w hSw
          go_simp
          try omega
        try simp only[List.getElem_toArray,List.getElem_cons_succ,List.getElem_cons_zero,Act.put,List.setIfInBounds_toArray,List.set_cons_zero,List.set_cons_succ]
        refine wpAnyH_take (i:=19) (v:=?_) rfl (by kernel_rfl) (by kernel_rfl) (by kernel_rfl) (fun _ _ _ h=>h) (Or.inl ⟨by rfl,?_⟩) (by assumption) ?_
        rotate_left
        · intro w hSw
          (try dsimp only at hSw)
          go_simp
          try with_reducible rfl
        try simp only[List.getElem_toArray,List.getElem_cons_succ,List.getElem_cons_zero,Act.put,List.setIfInBounds_toArray,List.set_cons_zero,List.set_cons_succ]
        obtain ⟨k3,k1,kf⟩:=HKA.out _ HE22.out;refine wpAnyH_ready (rs:= [20]) (by kernel_rfl) (by simp) ?_;refine AllReadyH.cons rfl (fun K hK=>?_) AllReadyH.nil
        go_simp
        clear k1 kf;obtain ⟨wf,hwf,hrw,hof⟩:=setN1 ((D.extract 0 a++LE)++D.extract (a+2) D.size) (((HE22.out).block _ (z00 R1.out)).trans R1.out);rw[hwf];have HRF:=hid hrw;have HZF:=hid ((hof.block _ (z00 (((HE22.out).block _ (z00 R2.out)).trans R2.out)) (by simp)).trans (((HE22.out).block _ (z00 R2.out)).trans R2.out));have HOF:=hid ((HB0.out.trans (HE22.out.mono HB0.out.size)).trans (z0r hof (R:=w.heap.size) (HB0.out.trans (HE22.out.mono HB0.out.size)).size (Nat.le_succ _)));have k9:=z01 hof (p:=⟨w.heap.size,3,none⟩) (by simp) k3;refine hK.out _ _ k9 (fun hHn=>?_);clear hK K hH k3 k9 hwf hrw hof
        try simp only[List.getElem_toArray,List.getElem_cons_succ,List.getElem_cons_zero,Act.put,List.setIfInBounds_toArray,List.set_cons_zero,List.set_cons_succ]
        refine wpAnyH_done (by kernel_rfl) ?_ _;clear hHn
        go_wp2_with fail
        go_meet
        case rel=>exact ⟨rfl,HRF,HZF,HOF⟩
      · go_simp
        go_at_call 78
        refine (HLB.out _).mono ?_;rintro e w31 ⟨rfl,hb9⟩;have HE21:=hid (HE18.out.trans (hb9.mono HE18.out.size));clear hb9;have k3:=(HKA.out _ HE21.out).1
        go_wp2_with fail
        refine hK.out _ _ k3 (fun hHn=>?_);clear hK K hH k3;have hH:=hHn;clear hHn
        try simp only[List.getElem_toArray,List.getElem_cons_succ,List.getElem_cons_zero,Act.put,List.setIfInBounds_toArray,List.set_cons_zero,List.set_cons_succ]
        refine wpAnyH_ready (rs:= [1]) (by kernel_rfl) (by simp) ?_;refine AllReadyH.cons rfl (fun K hK=>?_) AllReadyH.nil;obtain ⟨k3,k1,kf⟩:=HKA.out _ HE21.out
        go_simp
        refine hK.out _ _ k3 (fun hHn=>?_);clear hK K k1 kf hH k3;have hH:=hHn;clear hHn
        try simp only[List.getElem_toArray,List.getElem_cons_succ,List.getElem_cons_zero,Act.put,List.setIfInBounds_toArray,List.set_cons_zero,List.set_cons_succ]
        refine wpAnyH_take (i:=5) (v:=?_) rfl (by kernel_rfl) (by kernel_rfl) (by kernel_rfl) (fun _ _ _ h=>h) (Or.inl ⟨by rfl,?_⟩) (by assumption) ?_
        rotate_left
        · intro w hSw
          (try dsimp only at hSw)
          go_simp
          try with_reducible rfl
        try simp only[List.getElem_toArray,List.getElem_cons_succ,List.getElem_cons_zero,Act.put,List.setIfInBounds_toArray,List.set_cons_zero,List.set_cons_succ]
        refine wpAnyH_take (i:=10) (v:= .string (D.extract 0 a++LE)) rfl (by kernel_rfl) (by kernel_rfl) (by kernel_rfl) (fun _ _ _ h=>h) (Or.inl ⟨by rfl,?_⟩) (by assumption) ?_
        · intro w hSw
          go_simp
          try omega
        try simp only[List.getElem_toArray,List.getElem_cons_succ,List.getElem_cons_zero,Act.put,List.setIfInBounds_toArray,List.set_cons_zero,List.set_cons_succ]
        refine wpAnyH_take (i:=18) (v:= .string ((D.extract 0 a++LE)++D.extract (a+2) D.size)) rfl (by kernel_rfl) (by kernel_rfl) (by kernel_rfl) (fun _ _ _ h=>h) (Or.inl ⟨by rfl,?_⟩) (by assumption) ?_
        · intro w hSw
          go_simp
          try omega
        try simp only[List.getElem_toArray,List.getElem_cons_succ,List.getElem_cons_zero,Act.put,List.setIfInBounds_toArray,List.set_cons_zero,List.set_cons_succ]
        refine wpAnyH_take (i:=19) (v:=?_) rfl (by kernel_rfl) (by kernel_rfl) (by kernel_rfl) (fun _ _ _ h=>h) (Or.inl ⟨by rfl,?_⟩) (by assumption) ?_
        rotate_left
        · intro w hSw
          (try dsimp only at hSw)
          go_simp
          try with_reducible rfl
        try simp only[List.getElem_toArray,List.getElem_cons_succ,List.getElem_cons_zero,Act.put,List.setIfInBounds_toArray,List.set_cons_zero,List.set_cons_succ]
        obtain ⟨k3,k1,kf⟩:=HKA.out _ HE21.out;refine wpAnyH_ready (rs:= [20]) (by kernel_rfl) (by simp) ?_;refine AllReadyH.cons rfl (fun K hK=>?_) AllReadyH.nil
        go_simp
        clear k1 kf;obtain ⟨wf,hwf,hrw,hof⟩:=setN1 ((D.extract 0 a++LE)++D.extract (a+2) D.size) (((HE21.out).block _ (z00 R1.out)).trans R1.out);rw[hwf];have HRF:=hid hrw;have HZF:=hid ((hof.block _ (z00 (((HE21.out).block _ (z00 R2.out)).trans R2.out)) (by simp)).trans (((HE21.out).block _ (z00 R2.out)).trans R2.out));have HOF:=hid ((HB0.out.trans (HE21.out.mono HB0.out.size)).trans (z0r hof (R:=w.heap.size) (HB0.out.trans (HE21.out.mono HB0.out.size)).size (Nat.le_succ _)));have k9:=z01 hof (p:=⟨w.heap.size,3,none⟩) (by simp) k3;refine hK.out _ _ k9 (fun hHn=>?_);clear hK K hH k3 k9 hwf hrw hof
        try simp only[List.getElem_toArray,List.getElem_cons_succ,List.getElem_cons_zero,Act.put,List.setIfInBounds_toArray,List.set_cons_zero,List.set_cons_succ]
        refine wpAnyH_done (by kernel_rfl) ?_ _;clear hHn
        go_wp2_with fail
        go_meet
        case rel=>exact ⟨rfl,HRF,HZF,HOF⟩
 case rest =>
  obtain ⟨rfl,HR9,HZ9,HB9⟩:=hcut;obtain ⟨n0,n1,n2,n3,n4,n5⟩:=z04 HR9.out;obtain ⟨z0,z1,z2,z3,z4,z5⟩:=z04 HZ9.out;have zf:=z03 HZ9.out
  go_wp2_with fail
  obtain ⟨wf,hwf,hrw,hof⟩:=finN6 (.int .i64 1) (.string ((D.extract 0 a++LE)++D.extract (a+2) D.size)) (.slice G P cp) (.int .i64 0) (.int .i64 0) (.slice none 0 0) HZ9.out
  try rw[hwf]
  obtain ⟨e0,e1,e2,e3,e4,e5⟩:=z04 hrw;exact bodyPost_ret (v:= .agg #[.int .i64 1,.string ((D.extract 0 a++LE)++D.extract (a+2) D.size),.slice G P cp,.int .i64 0,.int .i64 0,.slice none 0 0]) (by simp[results,Tryz.results79,go_sem,e0,e1,e2,e3,e4,e5]) rfl ⟨rfl,HB9.out.trans (z0r hof (R:=w.heap.size) HB9.out.size (by omega))⟩
end Go.Proofs.YtblcibgphccfkaaGreatDoor
