/- Texts of the proof of the law FnRecordCanon, side by side: part 18. -/
import Derived.Test.YtblcibgphccfkaaGreatDoorMRecordCanon17
set_option maxHeartbeats 8000000
set_option maxRecDepth 100000
open Go.Lib (hid)
namespace Go.Proofs.YtblcibgphccfkaaGreatDoor
open Go.RowKit Go.Deep
theorem zls (m:Nat)(hS:CiS m):CiN m:=by
 intro n h w S hn hsz
 obtain ⟨qA,qa,qB,qb⟩:=h;have hz:=z2a n;have q0:=z0j w (.cells #[.int .i64 n.kind,.string n.data,.slice qA n.ptrs.length qa,.int .i64 n.size,.int .i64 n.count,.slice qB n.items.length qb] nodeT);have q1:=z0m q0 (.cells #[.int .i64 0,.string { data:= #[] },.slice none 0 0,.int .i64 0,.int .i64 0,.slice none 0 0] nodeT);have r0:=z02 (heap_alloc_new w (.cells #[.int .i64 n.kind,.string n.data,.slice qA n.ptrs.length qa,.int .i64 n.size,.int .i64 n.count,.slice qB n.items.length qb] nodeT)) (.cells #[.int .i64 0,.string { data:= #[] },.slice none 0 0,.int .i64 0,.int .i64 0,.slice none 0 0] nodeT);have r1:=z0s q0 #[.int .i64 0,.string { data:= #[] },.slice none 0 0,.int .i64 0,.int .i64 0,.slice none 0 0] nodeT;have HP:=hid (fun (W:World) (hW:Below w.heap.size w W)=>hS qA qa n.ptrs W S (NdsAt.below hn.2.1 hW) (by omega));have HI:=hid (fun (W:World) (hW:Below w.heap.size w W)=>hS qB qb n.items W S (NdsAt.below hn.2.2 hW) (by omega));have HD:=hid hn.1;have HB0:=hid q1.2;have HS0:=hid q1.1;have R0:=hid r0;have R1:=hid r1;obtain ⟨a0,a1,a2,a3,a4,a5⟩:=z04 r0;unfold NewOS at HP HI;clear q1 q0 r0 r1 hn hz hsz hS;go_enter Tryz.func32,Tryz.ntmps32
 go_wp2_with fail
 generalize (w.alloc (.cells #[.int .i64 n.kind,.string n.data,.slice qA n.ptrs.length qa,.int .i64 n.size,.int .i64 n.count,.slice qB n.items.length qb] nodeT)).alloc (.cells #[.int .i64 0,.string { data:= #[] },.slice none 0 0,.int .i64 0,.int .i64 0,.slice none 0 0] nodeT)=W0 at *;clear a0 a1 a2 a3 a4 a5;refine (HP.out _ HB0.out).mono ?_;rintro e w1 ⟨A1,c1,bs1,rfl,ho1,hd1,hg1,hb1⟩;have hx1:=(hb1.block _ (z00 R0.out)).trans R0.out;have y1:=z06 hx1 2 (.slice A1 n.ptrs.length c1)
 simp only[List.setIfInBounds_toArray,List.set_cons_zero,List.set_cons_succ] at y1
 have hs1:=hb1.size;have hs0:=HS0.out;have HBA:=hid ((HB0.out.trans (hb1.mono HB0.out.size)).setCell (p:=⟨w.heap.size,2,none⟩) (Nat.le_refl _) (.slice A1 n.ptrs.length c1));have Y1:=hid y1;have Z1:=hid ((Below.heap_setCell w1 ⟨w.heap.size,2,none⟩ (.slice A1 n.ptrs.length c1) (w.heap.size+1) (by simp)).trans ((hb1.block _ (z00 R1.out)).trans R1.out));have HO1:=hid (OwS.frame (w':=w1.setCell ⟨w.heap.size,2,none⟩ (.slice A1 n.ptrs.length c1)) _ _ _ _ _ ho1 (fun b hb=>Below.heap_setCell w1 ⟨w.heap.size,2,none⟩ (.slice A1 n.ptrs.length c1) b (by have:=hg1 b hb; simp; omega)));have HG1:Hid (bs1.Nodup∧∀b∈bs1,w.heap.size+2≤b∧b<w1.heap.size):=hid ⟨hd1,fun b hb=>⟨by have:=hg1 b hb; omega,(ho1.lt _ _ _ _ _ b hb).1⟩⟩
 have hsA:(w1.setCell ⟨w.heap.size,2,none⟩ (.slice A1 n.ptrs.length c1)).heap.size=w1.heap.size:=by simp[World.setCell]
 obtain ⟨x0,x1,x2,x3,x4,x5⟩:=z04 hx1;have xf:=z03 hx1;obtain ⟨a0,a1,a2,a3,a4,a5⟩:=z04 y1;clear ho1 hd1 hg1 hb1 hx1 y1
 go_wp2_with fail
 generalize w1.setCell ⟨w.heap.size,2,none⟩ (.slice A1 n.ptrs.length c1)=V1 at *;clear a0 a1 a2 a3 a4 a5 x0 x1 x2 x3 x4 x5 xf;refine (HI.out _ HBA.out).mono ?_;rintro e w2 ⟨A2,c2,bs2,rfl,ho2,hd2,hg2,hb2⟩;have hx2:=(hb2.block _ (z00 Y1.out)).trans Y1.out;have y2:=z06 hx2 5 (.slice A2 n.items.length c2)
 simp only[List.setIfInBounds_toArray,List.set_cons_zero,List.set_cons_succ] at y2
 have hs2:=hb2.size;have HBB:=hid ((HBA.out.trans (hb2.mono HBA.out.size)).setCell (p:=⟨w.heap.size,5,none⟩) (Nat.le_refl _) (.slice A2 n.items.length c2));have Y2:=hid y2;have z2:=(Below.heap_setCell w2 ⟨w.heap.size,5,none⟩ (.slice A2 n.items.length c2) (w.heap.size+1) (by simp)).trans ((hb2.block _ (z00 Z1.out)).trans Z1.out);have Z2:=hid z2;have HO2:=hid (OwS.frame (w':=w2.setCell ⟨w.heap.size,5,none⟩ (.slice A2 n.items.length c2)) _ _ _ _ _ ho2 (fun b hb=>Below.heap_setCell w2 ⟨w.heap.size,5,none⟩ (.slice A2 n.items.length c2) b (by have:=hg2 b hb; simp; omega)));have HO12:=hid (OwS.frame (w':=w2.setCell ⟨w.heap.size,5,none⟩ (.slice A2 n.items.length c2)) _ _ _ _ _ (HO1.out.below hb2) (fun b hb=>Below.heap_setCell w2 ⟨w.heap.size,5,none⟩ (.slice A2 n.items.length c2) b (by have:=(HG1.out.2 b hb).1; simp; omega)));have HG2:Hid (bs2.Nodup∧∀b∈bs2,w1.heap.size≤b∧b<w2.heap.size):=hid ⟨hd2,fun b hb=>⟨by have:=hg2 b hb; omega,(ho2.lt _ _ _ _ _ b hb).1⟩⟩
 have hsB:(w2.setCell ⟨w.heap.size,5,none⟩ (.slice A2 n.items.length c2)).heap.size=w2.heap.size:=by simp[World.setCell]
 obtain ⟨x0,x1,x2,x3,x4,x5⟩:=z04 hx2;have xf:=z03 hx2;obtain ⟨a0,a1,a2,a3,a4,a5⟩:=z04 y2;obtain ⟨z0,z1,z2',z3,z4,z5⟩:=z04 z2;have zf:=z03 z2;clear ho2 hd2 hg2 hb2 hx2 y2 z2
 go_wp2_with fail
 generalize w2.setCell ⟨w.heap.size,5,none⟩ (.slice A2 n.items.length c2)=V2 at *;obtain ⟨wf,hwf,hrw,hbf,huw⟩:=fin6 Z2.out HBB.out (show w.heap.size≤w.heap.size+1 by omega) (.int .i64 n.kind) (.string n.data) (.slice A1 n.ptrs.length c1) (.int .i64 n.size) (.int .i64 n.count) (.slice A2 n.items.length c2);rw[hwf];obtain ⟨e0,e1,e2,e3,e4,e5⟩:=z04 hrw
 exact bodyPost_ret (v:= .agg #[.int .i64 n.kind,.string n.data,.slice A1 n.ptrs.length c1,.int .i64 n.size,.int .i64 n.count,.slice A2 n.items.length c2])
  (by simp[results,Tryz.results32,go_sem,e0,e1,e2,e3,e4,e5]) rfl ⟨⟨A1,c1,A2,c2⟩,bs1++bs2,rfl,⟨HD.out,bs1,bs2,rfl,OwS.frame _ _ _ _ _ HO12.out (fun b hb=>by
      obtain ⟨g1,g2⟩:=HG1.out.2 b hb
      exact huw.block b (by omega) (by omega)),OwS.frame _ _ _ _ _ HO2.out (fun b hb=>by
      obtain ⟨g1,g2⟩:=HG2.out.2 b hb
      exact huw.block b (by omega) (by omega))⟩,List.nodup_append.2 ⟨HG1.out.1,HG2.out.1,fun a ha b hb e=>by
      have g1:=(HG1.out.2 a ha).2;have g2:=(HG2.out.2 b hb).1
      omega⟩,fun b hb=>by
      rcases List.mem_append.1 hb with hb | hb
      · have:=(HG1.out.2 b hb).1
        omega
      · have:=(HG2.out.2 b hb).1
        omega,hbf⟩
theorem zdh:∀m,CiN m
 | 0=>zls 0 (zlh 0 (fun j h=>by cases h))
 | m+1=>zls (m+1) (zlh (m+1) (fun j h=>by obtain rfl:m=j:=by omega
                                          exact zdh m))
end Go.Proofs.YtblcibgphccfkaaGreatDoor
