/- Texts of the proof of the law FnCanonSent, side by side: part 9. -/
import Derived.Test.YtlbfffokkhccaaaGreatDoorMCanonSent08
set_option maxHeartbeats 8000000
set_option maxRecDepth 100000
open Go.Lib (hid)
namespace Go.Proofs.YtlbfffokkhccaaaGreatDoor
open Go.RowKit Go.Deep
theorem z4z {w:World}{b:Nat}{cs:Array Value}{T:TypeId}(h:w.heap[b]? =some (.cells cs T (0,0)))(i:Nat)(v:Value):(w.setCell ⟨b,i,none⟩ v).heap[b]? =some (.cells (cs.setIfInBounds i v) T (0,0)):=by
 simp[World.setCell,Array.getElem?_modify,h]
theorem z7i {w1:World}{b:Nat}{T:TypeId}{a0 a1 a2 a3 a4 a5:Value}(h:w1.heap[b]? =some (.cells #[a0,a1,a2,a3,a4,a5] T (0,0)))(v0 v1 v2 v3 v4 v5:Value) :
 ∃wf,((((((w1.setCell ⟨b,0,none⟩ v0).setCell ⟨b,1,none⟩ v1).setCell ⟨b,2,none⟩ v2).setCell ⟨b,3,none⟩ v3).setCell ⟨b,4,none⟩ v4).setCell ⟨b,5,none⟩ v5)=wf∧wf.heap[b]? =some (.cells #[v0,v1,v2,v3,v4,v5] T (0,0))∧Keeps w1.heap.size b w1 wf:=by
 have h0:=z4z h 0 v0;have h1:=z4z h0 1 v1;have h2:=z4z h1 2 v2;have h3:=z4z h2 3 v3;have h4:=z4z h3 4 v4;have h5:=z4z h4 5 v5;exact ⟨_,rfl,by simpa using h5,(((((z0p _ b _ 0 _).trans (z0p _ b _ 1 _)).trans (z0p _ b _ 2 _)).trans (z0p _ b _ 3 _)).trans (z0p _ b _ 4 _)).trans (z0p _ b _ 5 _)⟩
structure Bx (w:World) (rb b1 b2:Nat) (d:Nat):Prop where
 r1:w.heap[b1]? =some (.cells #[.pointer (some ⟨rb,0,none⟩)] 64 (0,0))
 r2:w.heap[b2]? =some (.cells #[.int .i64 (9-(d:Int))] 3 (0,0))
theorem Bx.keeps {w w':World}{rb b1 b2 d cap:Nat}{A:Option Addr}{zs:List ByteArray}{L:Int}(h:Bx w rb b1 b2 d)(hr:Rdr w rb A cap zs L)(hk:Keeps w.heap.size rb w w'):Bx w' rb b1 b2 d:=by
 have n1:b1≠rb:=fun e=>by have:=h.r1; rw[e,hr.row] at this; simp at this
 have n2:b2≠rb:=fun e=>by have:=h.r2; rw[e,hr.row] at this; simp at this
 exact ⟨(hk.block _ (z00 h.r1) n1).trans h.r1,(hk.block _ (z00 h.r2) n2).trans h.r2⟩
def InC (rb:Nat)(A:Option Addr)(cap:Nat)(zs:List ByteArray)(d:Nat):Prop :=
 ∀(n:Nd) (i a:Nat) (L:Int) (W:World) (b1 b2:Nat),okN d n=true→z03 d n≤199→RepN (sgz zs) d n i a→(costN d n:Int)≤L→L≤1000→Rdr W rb A cap zs L→Bx W rb b1 b2 d →
  Calls Tryz.prog 84 #[plV i a,.pointer (some ⟨b1,0,none⟩),.pointer (some ⟨b2,0,none⟩)] W (NdQ (2*d) rb A cap zs (L-(costN d n:Nat)) n W)
theorem NdsAt.keepsR {w w':World}{rb m:Nat}{A:Option Addr}{l:List Nd}{S:Nat→Prop}(hn:NdsAt w S m A l)(hk:Keeps w.heap.size rb w w')(hS:∀k,S k→k≠rb):NdsAt w' S m A l :=
 NdsAt.map' (fun _ _ h=>h) (fun p _ _ hs hc=>hc.block (hk.block _ hc.lt (hS _ hs))) _ _ _ hn
theorem zi3 {rb cap d:Nat}{A:Option Addr}{zs:List ByteArray}(hI:InC rb A cap zs d){w:World}{L:Int}(h:Rdr w rb A cap zs L){b1 b2:Nat}(hbx:Bx w rb b1 b2 d)(l:List Nd)(j c:Nat)(hok:∀p∈l,okN d p=true∧z03 d p≤199)(hr:∀k (hk:k<l.length),RepN (sgz zs) d l[k] j (c+k))(hL:L≤1000)(hl:l.length≤1000)(hc:c≤1000)(hcost:((l.map (costN d)).sum:Nat)≤L) :
 Calls Tryz.prog 168 #[plV j c,.int .i64 l.length,.int .i64 1,.func (.func 84) #[] #[.pointer (some ⟨b1,0,none⟩),.pointer (some ⟨b2,0,none⟩)]] w (NsQ (2*d) rb A cap zs (L-((l.map (costN d)).sum:Nat)) l w):=by
 refine zt3 (costN d) (2*d) h b1 b2 l j c 1 hL hl hc (by decide) hcost (fun k hk L' W h1 h2 h3 h4=>?_);have hm:=List.getElem_mem hk;have:=hI l[k] j (c+k) L' W b1 b2 (hok _ hm).1 (hok _ hm).2 (hr k hk) h1 h2 h4 (hbx.keeps h h3)
 rwa [show ((c+k:Nat):Int)=(c:Int)+(k:Int)*((1:Nat):Int) by omega] at this
theorem zqr {rb cap d:Nat}{A:Option Addr}{zs:List ByteArray}(hI:InC rb A cap zs d){w:World}{L:Int}(h:Rdr w rb A cap zs L){b1 b2:Nat}(hbx:Bx w rb b1 b2 d)(o:Int)(dw:Nat)(data:ByteArray)(l:List Nd)(j c:Nat)(hds:data.size=8*dw)(hj:j<zs.length)(hcz:8*c+data.size≤(zs[j]).size)(hd:zs[j].extract (8*c) (8*c+data.size)=data)(hok:∀p∈l,okN d p=true∧z03 d p≤199)(hr:∀k (hk:k<l.length),RepN (sgz zs) d l[k] j (c+dw+k))(hL:L≤1000)(hl:l.length≤1000)(hcost:((l.map (costN d)).sum:Nat)≤L) :
 Calls Tryz.prog 166 #[.pointer (some ⟨rb,0,none⟩),.agg #[.int .i64 o,.int .i64 dw,.int .i64 l.length],plV j c,.func (.func 84) #[] #[.pointer (some ⟨b1,0,none⟩),.pointer (some ⟨b2,0,none⟩)]] w (NdQ (2*d+1) rb A cap zs (L-((l.map (costN d)).sum:Nat)) (.mk 1 data l 0 0 []) w):=by
 have hsm:=(h.small _ (List.getElem_mem hj)).1;have HBH:=hid (fun W:World=>z5t j c dw W (by omega) (by omega) (by omega) (by omega))
 have HE:Hid (∀W:World,Keeps w.heap.size rb w W→Rdr W rb A cap zs L→Calls Tryz.prog 168 #[plV j ((c:Int)+(dw:Int)),.int .i64 l.length,.int .i64 1,.func (.func 84) #[] #[.pointer (some ⟨b1,0,none⟩),.pointer (some ⟨b2,0,none⟩)]] W (NsQ (2*d) rb A cap zs (L-((l.map (costN d)).sum:Nat)) l W)):=hid fun W h1 h2=>by
  have:=zi3 hI h2 (hbx.keeps h h1) l j (c+dw) hok hr hL hl (by omega) hcost
  rwa [show ((c+dw:Nat):Int)=(c:Int)+(dw:Int) by omega] at this
 have HBA:Hid (∀(L':Int) (W:World),Rdr W rb A cap zs L'→Calls Tryz.prog 172 #[.pointer (some ⟨rb,0,none⟩),plV j c,.int .i64 ((dw:Int)*8)] W fun e w'=>e= .returned (.string data)∧Below W.heap.size W w'):=hid fun L' W h1=>by
  have:=zey h1 j c data.size hj hcz;rw[hd] at this
  rwa [show (data.size:Int)=(dw:Int)*8 by omega] at this
 have HW8:=hid (z1t (n:=(dw:Int)*8) (by omega) (by omega));have HSD:Hid (data.size≤maxLen):=hid (by unfold maxLen; omega);have hlow:=h.low;generalize L-((l.map (costN d)).sum:Nat)=L2 at *;generalize (c:Int)+(dw:Int)=pl at *;have hb0:=(((Below.refl w.heap.size w).alloc (Nat.le_refl _) (.cells #[.int .i64 o,.int .i64 (dw:Int),.int .i64 (l.length:Int)] 168)).alloc (by simp) (.cells #[.int .i64 (j:Int),.int .i64 (c:Int)] 58)).alloc (by simp <;> omega) (.cells #[.int .i64 0,.string { data:= #[] },.slice none 0 0,.int .i64 0,.int .i64 0,.slice none 0 0] nodeT);have HR0:=hid (h.below hb0);have HK0:=hid (Keeps.of_below (b:=rb) hb0);have HLOW:=hid hlow;clear hI h hbx hds hj hcz hd hok hr hcost hsm hb0 hlow;go_enter Tryz.func166,Tryz.ntmps166
 go_wp2_with fail
 have hr0:(((w.alloc (.cells #[.int .i64 o,.int .i64 (dw:Int),.int .i64 (l.length:Int)] 168)).alloc (.cells #[.int .i64 (j:Int),.int .i64 (c:Int)] 58)).alloc (.cells #[.int .i64 0,.string { data:= #[] },.slice none 0 0,.int .i64 0,.int .i64 0,.slice none 0 0] nodeT)).heap[w.heap.size]? =some (.cells #[.int .i64 o,.int .i64 (dw:Int),.int .i64 (l.length:Int)] 168 (0,0)):=(Below.heap_alloc _ _ _ (by simp <;> omega)).trans ((Below.heap_alloc _ _ _ (by simp)).trans (heap_alloc_new w _));have hr1:(((w.alloc (.cells #[.int .i64 o,.int .i64 (dw:Int),.int .i64 (l.length:Int)] 168)).alloc (.cells #[.int .i64 (j:Int),.int .i64 (c:Int)] 58)).alloc (.cells #[.int .i64 0,.string { data:= #[] },.slice none 0 0,.int .i64 0,.int .i64 0,.slice none 0 0] nodeT)).heap[w.heap.size+1]? =some (.cells #[.int .i64 (j:Int),.int .i64 (c:Int)] 58 (0,0)):=(Below.heap_alloc _ _ _ (by simp)).trans (heap_alloc2_new w _ _)
 have hr2:(((w.alloc (.cells #[.int .i64 o,.int .i64 (dw:Int),.int .i64 (l.length:Int)] 168)).alloc (.cells #[.int .i64 (j:Int),.int .i64 (c:Int)] 58)).alloc (.cells #[.int .i64 0,.string { data:= #[] },.slice none 0 0,.int .i64 0,.int .i64 0,.slice none 0 0] nodeT)).heap[w.heap.size+1+1]? =some (.cells #[.int .i64 0,.string { data:= #[] },.slice none 0 0,.int .i64 0,.int .i64 0,.slice none 0 0] nodeT (0,0)):=by
  have:=heap_alloc_new ((w.alloc (.cells #[.int .i64 o,.int .i64 (dw:Int),.int .i64 (l.length:Int)] 168)).alloc (.cells #[.int .i64 (j:Int),.int .i64 (c:Int)] 58)) (.cells #[.int .i64 0,.string { data:= #[] },.slice none 0 0,.int .i64 0,.int .i64 0,.slice none 0 0] nodeT)
  rwa [show ((w.alloc (.cells #[.int .i64 o,.int .i64 (dw:Int),.int .i64 (l.length:Int)] 168)).alloc (.cells #[.int .i64 (j:Int),.int .i64 (c:Int)] 58)).heap.size=w.heap.size+1+1 by simp] at this
 generalize ((w.alloc (.cells #[.int .i64 o,.int .i64 (dw:Int),.int .i64 (l.length:Int)] 168)).alloc (.cells #[.int .i64 (j:Int),.int .i64 (c:Int)] 58)).alloc (.cells #[.int .i64 0,.string { data:= #[] },.slice none 0 0,.int .i64 0,.int .i64 0,.slice none 0 0] nodeT)=W at *
 have s0:W.cell? ⟨w.heap.size,1,none⟩=some (.int .i64 (dw:Int)):=by rw[cell_of_row _ _ _ _ _ _ hr0]; rfl
 have s1:W.cell? ⟨w.heap.size,2,none⟩=some (.int .i64 (l.length:Int)):=by rw[cell_of_row _ _ _ _ _ _ hr0]; rfl
 obtain ⟨t0,t1⟩:=z04 hr1;have R0:=hid hr0;have R1:=hid hr1;have R2:=hid hr2;clear hr0 hr1 hr2;have hdr:(W.drew).heap.size=W.heap.size:=rfl;have HRD:Hid (Rdr W.drew rb A cap zs L):=hid (HR0.out.below (⟨rfl,rfl,rfl,Nat.le_refl _,fun _ _=>rfl⟩:Below W.heap.size W W.drew));have HKD:Hid (Keeps w.heap.size rb w W.drew):=hid HK0.out.drew
 go_region_with (first | (go_at_call 118; go_must (refine (HBH.out _).mono ?_); rintro e w2 ⟨rfl,hb2⟩; have r0:=(hb2.block _ (z00 R0.out)).trans R0.out; have u0:w2.cell? ⟨w.heap.size,1,none⟩=some (.int .i64 (dw:Int)):=(by rw[cell_of_row _ _ _ _ _ _ r0]; rfl); have u1:w2.cell? ⟨w.heap.size,2,none⟩=some (.int .i64 (l.length:Int)):=(by rw[cell_of_row _ _ _ _ _ _ r0]; rfl)) | (go_at_call 168; go_must (refine (HE.out _ (HKD.out.trans (Keeps.of_below (hb2.mono HKD.out.size))) (HRD.out.below hb2)).mono ?_); rintro e w3 ⟨A',c',rfl,hnds,hrd3,hk3⟩))
 all_goals
  have hsz2:w.heap.size+1+1<w2.heap.size:=by have:=hb2.size; have:=z00 R2.out; have:W.drew.heap.size=W.heap.size:=rfl; omega
  have hrl:=HLOW.out.rb;have hK3:=(HKD.out.trans (Keeps.of_below (hb2.mono HKD.out.size))).trans (hk3.mono (show w.heap.size≤w2.heap.size by omega));have q0:=(hk3.block _ (by omega) (by omega)).trans ((hb2.block _ (z00 R0.out)).trans R0.out);have q1:=(hk3.block _ (by omega) (by omega)).trans ((hb2.block _ (z00 R1.out)).trans R1.out);have q2:=(hk3.block _ (by omega) (by omega)).trans ((hb2.block _ (z00 R2.out)).trans R2.out);have HK3:=hid hK3;have Q2:=hid q2;have HND:=hid hnds;have HRD3:=hid hrd3
  have v0:w3.cell? ⟨w.heap.size,1,none⟩=some (.int .i64 (dw:Int)):=(by rw[cell_of_row _ _ _ _ _ _ q0]; rfl)
  obtain ⟨x0,x1⟩:=z04 q1;have HH:Hid (w.heap.size+1+1<w2.heap.size∧w2.heap.size≤w3.heap.size):=hid ⟨hsz2,hk3.size⟩;clear u0 u1 r0 hK3 q0 q1 q2 hk3 hrd3 hnds s0 s1 t0 t1 hsz2 hrl;have e1:=HW8.out.1;have e2:=HW8.out.2
  go_wp2_with fail
  refine (HBA.out _ _ HRD3.out).mono ?_;rintro e w4 ⟨rfl,hb4⟩;have q4:=(hb4.block _ (z00 Q2.out)).trans Q2.out;have Q4:=hid q4;have HB4:=hid hb4;obtain ⟨c0,c1,c2,c3,c4,c5⟩:=z01 q4;have hfz:=z02 q4;clear e1 e2 x0 x1 v0 q4 hb4;go_wp2;obtain ⟨wf,hwf,hrw,hkf⟩:=z7i Q4.out (.int .i64 1) (.string data) (.slice A' l.length c') (.int .i64 0) (.int .i64 0) (.slice none 0 0);rw[hwf];obtain ⟨e0,e1,e2,e3,e4,e5⟩:=z01 hrw;have hbf:Below w.heap.size w4 wf:=hkf.below (by have:=HH.out; have:=HB4.out.size; omega) (by omega);have hbf3:Below w.heap.size w3 wf:=(HB4.out.mono (by have:=HH.out; omega)).trans hbf
  exact bodyPost_ret (v:= .tuple #[.agg #[.int .i64 1,.string data,.slice A' l.length c',.int .i64 0,.int .i64 0,.slice none 0 0],.nilIface])
   (by simp[results,Tryz.results166,go_sem,e0,e1,e2,e3,e4,e5]) rfl
   ⟨⟨A',c',none,0⟩,rfl,⟨HSD.out,((HND.out.below HB4.out).keepsR hkf (fun k (hk:w2.heap.size≤k)=>by have:=HH.out; omega)).weak (fun k (hk:w2.heap.size≤k)=>by have:=HH.out; show w.heap.size≤k; omega),NdsAt.nil _ _ _ _⟩,HRD3.out.keepB HLOW.out hbf3,HK3.out.trans (Keeps.of_below hbf3)⟩
theorem al3 (w:World)(x y z:Array Value)(T1 T2 T3:TypeId):Below w.heap.size w (((w.alloc (.cells x T1)).alloc (.cells y T2)).alloc (.cells z T3))∧(((w.alloc (.cells x T1)).alloc (.cells y T2)).alloc (.cells z T3)).heap[w.heap.size]? =some (.cells x T1 (0,0))∧(((w.alloc (.cells x T1)).alloc (.cells y T2)).alloc (.cells z T3)).heap[w.heap.size+1]? =some (.cells y T2 (0,0))∧(((w.alloc (.cells x T1)).alloc (.cells y T2)).alloc (.cells z T3)).heap[w.heap.size+1+1]? =some (.cells z T3 (0,0)):=by
 refine ⟨(((Below.refl w.heap.size w).alloc (Nat.le_refl _) _).alloc (by simp) _).alloc (by simp <;> omega) _,(Below.heap_alloc _ _ _ (by simp <;> omega)).trans ((Below.heap_alloc _ _ _ (by simp)).trans (heap_alloc_new w _)),(Below.heap_alloc _ _ _ (by simp)).trans (heap_alloc2_new w _ _),?_⟩;have:=heap_alloc_new ((w.alloc (.cells x T1)).alloc (.cells y T2)) (.cells z T3)
 rwa [show ((w.alloc (.cells x T1)).alloc (.cells y T2)).heap.size=w.heap.size+1+1 by simp] at this
theorem NdQ.up {M rb cap:Nat}{A:Option Addr}{zs:List ByteArray}{L:Int}{n:Nd}{w:World}{e:Ending}{w':World}(h:NdQ M rb A cap zs L n w e w'):NdQ (M+1) rb A cap zs L n w e w':=by
 obtain ⟨hd,h1,h2,h3⟩:=h;exact ⟨hd,h1,⟨h2.1,NdsAt.succ _ _ _ h2.2.1,NdsAt.succ _ _ _ h2.2.2⟩,h3⟩
theorem NdQ.laid {M rb cap b:Nat}{A:Option Addr}{zs:List ByteArray}{L:Int}{n:Nd}{w w3 w4:World}{h:Hd}{a0 a1 a2 a3 a4 a5:Value}(hlow:RdLow rb A zs w.heap.size)(hK:Keeps w.heap.size rb w w3)(hb:w.heap.size≤b∧b<w3.heap.size)(hrow:w3.heap[b]? =some (.cells #[a0,a1,a2,a3,a4,a5] nodeT (0,0)))(hn:NdAt w4 (From w3.heap.size) M n h)(hr:Rdr w4 rb A cap zs L)(hk:Keeps w3.heap.size rb w3 w4) :
 ∃wf,((((((w4.setCell ⟨b,0,none⟩ (.int .i64 n.kind)).setCell ⟨b,1,none⟩ (.string n.data)).setCell ⟨b,2,none⟩ (.slice h.A n.ptrs.length h.a)).setCell ⟨b,3,none⟩ (.int .i64 n.size)).setCell ⟨b,4,none⟩ (.int .i64 n.count)).setCell ⟨b,5,none⟩ (.slice h.B n.items.length h.b))=wf∧wf.heap[b]? =some (boxN n h)∧NdAt wf (From w.heap.size) M n h∧Rdr wf rb A cap zs L∧Keeps w.heap.size rb w wf:=by
 have hrl:=hlow.rb;have q4:=(hk.block b hb.2 (by omega)).trans hrow;obtain ⟨wf,hwf,hrw,hkf⟩:=z7i q4 (.int .i64 n.kind) (.string n.data) (.slice h.A n.ptrs.length h.a) (.int .i64 n.size) (.int .i64 n.count) (.slice h.B n.items.length h.b);have hbf:Below w.heap.size w4 wf:=hkf.below (by have:=hk.size; omega) (by omega);exact ⟨wf,hwf,hrw,(hn.keepsR hkf (fun k (hk:w3.heap.size≤k)=>by omega)).weak (fun k (hk:w3.heap.size≤k)=>by show w.heap.size≤k; omega),hr.keepB hlow hbf,(hK.trans (hk.mono (by omega))).trans (Keeps.of_below hbf)⟩
theorem zt2 {rb cap d:Nat}{A:Option Addr}{zs:List ByteArray}(hI:InC rb A cap zs d){w:World}{L:Int}(h:Rdr w rb A cap zs L){b1 b2:Nat}(hbx:Bx w rb b1 b2 d)(o:Int)(dw:Nat)(data:ByteArray)(l:List Nd)(j c:Nat)(hds:data.size=8*dw)(hj:j<zs.length)(hcz:c+(dw+l.length)≤(zs[j]).size/8)(hd:zs[j].extract (8*c) (8*c+data.size)=data)(hok:∀p∈l,okN d p=true∧z03 d p≤199)(hr:∀k (hk:k<l.length),RepN (sgz zs) d l[k] j (c+dw+k))(hL:L≤1000)(hcost:((dw+l.length+(l.map (costN d)).sum:Nat):Int)≤L) :
 Calls Tryz.prog 131 #[.pointer (some ⟨rb,0,none⟩),.agg #[.int .i64 o,.int .i64 dw,.int .i64 l.length],plV j c,.func (.func 84) #[] #[.pointer (some ⟨b1,0,none⟩),.pointer (some ⟨b2,0,none⟩)]] w (NdQ (2*d+1) rb A cap zs (L-((dw+l.length+(l.map (costN d)).sum:Nat):Int)) (.mk 1 data l 0 0 []) w):=by
 have hsm:=(h.small _ (List.getElem_mem hj)).1
 have HHA:Hid (∀W:World,Rdr W rb A cap zs L→Calls Tryz.prog 44 #[.pointer (some ⟨rb,0,none⟩),plV j c,.int .i64 ((dw:Int)+(l.length:Int))] W fun e w'=>e= .returned (.bool true)∧Below W.heap.size W w'):=hid fun W h1=>by
  have:=has_a h1 j c (dw+l.length) hj hcz
  rwa [show ((dw+l.length:Nat):Int)=(dw:Int)+(l.length:Int) by omega] at this
 have HSP:Hid (∀W:World,Rdr W rb A cap zs L→Calls Tryz.prog 165 #[.pointer (some ⟨rb,0,none⟩),.int .i64 ((dw:Int)+(l.length:Int))] W fun e w'=>e= .returned .nilIface∧Rdr w' rb A cap zs (L-((dw:Int)+(l.length:Int)))∧Keeps W.heap.size rb W w'):=hid fun W h1=>zcd h1 _ (by omega) (by omega) hL
 have HBO:Hid (∀W:World,Keeps w.heap.size rb w W→Rdr W rb A cap zs (L-((dw:Int)+(l.length:Int)))→Calls Tryz.prog 166 #[.pointer (some ⟨rb,0,none⟩),.agg #[.int .i64 o,.int .i64 dw,.int .i64 l.length],plV j c,.func (.func 84) #[] #[.pointer (some ⟨b1,0,none⟩),.pointer (some ⟨b2,0,none⟩)]] W (NdQ (2*d+1) rb A cap zs (L-((dw+l.length+(l.map (costN d)).sum:Nat):Int)) (.mk 1 data l 0 0 []) W)):=hid fun W h1 h2=>by
  have:=zqr hI h2 (hbx.keeps h h1) o dw data l j c hds hj (by omega) hd hok hr (by omega) (by omega) (by omega)
  rwa [show L-((dw:Int)+(l.length:Int))-((l.map (costN d)).sum:Nat)=L-((dw+l.length+(l.map (costN d)).sum:Nat):Int) by omega] at this
 have HW8:=hid (z1t (n:=(dw:Int)+(l.length:Int)) (by omega) (by omega));have hlow:=h.low;generalize L-((dw+l.length+(l.map (costN d)).sum:Nat):Int)=L2 at *;generalize L-((dw:Int)+(l.length:Int))=L1 at *;have HLOW:=hid hlow;have HR:=hid h;obtain ⟨hb0,hr0,hr1,hr2⟩:=al3 w #[.int .i64 o,.int .i64 (dw:Int),.int .i64 (l.length:Int)] #[.int .i64 (j:Int),.int .i64 (c:Int)] #[.int .i64 0,.string { data:= #[] },.slice none 0 0,.int .i64 0,.int .i64 0,.slice none 0 0] 168 58 nodeT;clear hI h hbx hds hj hcz hd hok hr hcost hsm hlow;have HR0:=hid (HR.out.below hb0);have HK0:=hid (Keeps.of_below (b:=rb) hb0);have R0:=hid hr0;have R1:=hid hr1;have R2:=hid hr2;clear hb0 hr0 hr1 hr2;go_enter Tryz.func131,Tryz.ntmps131;have e1:=HW8.out.1;have e2:=HW8.out.2
 go_wp2_with fail
 generalize (((w.alloc (.cells #[.int .i64 o,.int .i64 (dw:Int),.int .i64 (l.length:Int)] 168)).alloc (.cells #[.int .i64 (j:Int),.int .i64 (c:Int)] 58)).alloc (.cells #[.int .i64 0,.string { data:= #[] },.slice none 0 0,.int .i64 0,.int .i64 0,.slice none 0 0] nodeT))=W at *;refine (HHA.out _ HR0.out).mono ?_;rintro e w2 ⟨rfl,hb2⟩;have HR2:=hid (HR0.out.below hb2);have HK2:=hid (HK0.out.then HK0.out.size (Keeps.of_below (b:=rb) hb2));have q0:=(hb2.block _ (z00 R0.out)).trans R0.out;have q1:=(hb2.block _ (z00 R1.out)).trans R1.out;have q2:=(hb2.block _ (z00 R2.out)).trans R2.out;have Q0:=hid q0;have Q1:=hid q1;have Q2:=hid q2;clear q0 q1 q2 hb2 R0 R1 R2 HR0 HK0 e1 e2
 go_wp2_with fail
 refine (HSP.out _ HR2.out).mono ?_;rintro e w3 ⟨rfl,hrd3,hk3⟩;have hrl:=HLOW.out.rb;have HK3:=hid (HK2.out.then HK2.out.size hk3);have HR3:=hid hrd3;have q0:=(hk3.block _ (z00 Q0.out) (by omega)).trans Q0.out;have q1:=(hk3.block _ (z00 Q1.out) (by omega)).trans Q1.out;have q2:=(hk3.block _ (z00 Q2.out) (by omega)).trans Q2.out;have Q3:=hid q2
 have s0:w3.cell? ⟨w.heap.size,0,none⟩=some (.int .i64 o):=(by rw[cell_of_row _ _ _ _ _ _ q0]; rfl)
 have s1:w3.cell? ⟨w.heap.size,1,none⟩=some (.int .i64 (dw:Int)):=(by rw[cell_of_row _ _ _ _ _ _ q0]; rfl)
 have s2:w3.cell? ⟨w.heap.size,2,none⟩=some (.int .i64 (l.length:Int)):=(by rw[cell_of_row _ _ _ _ _ _ q0]; rfl)
 obtain ⟨t0,t1⟩:=z04 q1;have HC:=hid (HBO.out w3 HK3.out HR3.out);unfold NdQ at HC;clear q0 q1 q2 hrd3 hk3 hrl Q0 Q1 Q2 HR2 HK2
 go_wp2_with fail
 refine HC.out.mono ?_;rintro e w4 ⟨hy,rfl,hny,hrd4,hk4⟩;have hlt3:=z00 Q3.out;have q4:=(hk4.block _ hlt3 (by have:=HLOW.out.rb; omega)).trans Q3.out;obtain ⟨c0,c1,c2,c3,c4,c5⟩:=z01 q4;have hfz:=z02 q4;obtain ⟨wf,hwf,hrw,hn5,hrd5,hk5⟩:=NdQ.laid HLOW.out HK3.out ⟨by omega,hlt3⟩ Q3.out hny hrd4 hk4;have HF:=hid (And.intro hn5 (And.intro hrd5 hk5));have HWF:=hid hwf;have HRW:=hid hrw;clear q4 s0 s1 s2 t0 t1 HC hny hrd4 hk4 hn5 hrd5 hk5 hwf hrw hlt3;go_wp2;rw[HWF.out];obtain ⟨e0,e1,e2,e3,e4,e5⟩:=z01 HRW.out;exact bodyPost_ret (v:= .tuple #[.agg #[.int .i64 (Nd.mk 1 data l 0 0 []).kind,.string (Nd.mk 1 data l 0 0 []).data,.slice hy.A (Nd.mk 1 data l 0 0 []).ptrs.length hy.a,.int .i64 (Nd.mk 1 data l 0 0 []).size,.int .i64 (Nd.mk 1 data l 0 0 []).count,.slice hy.B (Nd.mk 1 data l 0 0 []).items.length hy.b],.nilIface]) (by simp[results,Tryz.results131,go_sem,e0,e1,e2,e3,e4,e5]) rfl ⟨hy,rfl,HF.out⟩
theorem zse {rb cap d:Nat}{A:Option Addr}{zs:List ByteArray}(hI:InC rb A cap zs d){w:World}{L:Int}(h:Rdr w rb A cap zs L){b1 b2:Nat}(hbx:Bx w rb b1 b2 d)(o:Int)(l:List Nd)(j c:Nat)(hj:j<zs.length)(hcz:c+l.length≤(zs[j]).size/8)(hok:∀p∈l,okN d p=true∧z03 d p≤199)(hr:∀k (hk:k<l.length),RepN (sgz zs) d l[k] j (c+k))(hL:L≤1000)(hcost:((l.length+(l.map (costN d)).sum:Nat):Int)≤L) :
 Calls Tryz.prog 133 #[.pointer (some ⟨rb,0,none⟩),.agg #[.int .i64 o,.int .i64 6,.int .i64 (l.length:Int)],plV j c,.func (.func 84) #[] #[.pointer (some ⟨b1,0,none⟩),.pointer (some ⟨b2,0,none⟩)]] w (NdQ (2*d+1) rb A cap zs (L-((l.length+(l.map (costN d)).sum:Nat):Int)) (.mk 2 { data:= #[] } l 6 l.length []) w):=by
 have hsm:=(h.small _ (List.getElem_mem hj)).1
 have HWO:Hid (∀W:World,Calls Tryz.prog 160 #[.int .i64 6,.int .i64 (l.length:Int)] W fun e w'=>e= .returned (.int .i64 (l.length:Int))∧W=w'):=hid fun W=>by
  have:=z5b 6 l.length W (by decide) (by decide) (by omega) (by omega)
  rwa [show wfI 6 l.length=l.length by unfold wfI z58; simp; omega] at this
 have HHA:Hid (∀W:World,Rdr W rb A cap zs L→Calls Tryz.prog 44 #[.pointer (some ⟨rb,0,none⟩),plV j c,.int .i64 (l.length:Int)] W fun e w'=>e= .returned (.bool true)∧Below W.heap.size W w'):=hid fun W h1=>has_a h1 j c l.length hj hcz
 have HLC:Hid (∀W:World,Calls Tryz.prog 81 #[.int .i64 6,.int .i64 (l.length:Int),.int .i64 (l.length:Int)] W fun e w'=>e= .returned (.int .i64 (l.length:Int))∧W=w'):=hid fun W=>by
  have:=z5f 6 l.length l.length W (by omega) (by omega)
  rwa [show lcZ 6 l.length l.length=l.length by unfold lcZ; simp] at this
 have HSP:Hid (∀W:World,Rdr W rb A cap zs L→Calls Tryz.prog 165 #[.pointer (some ⟨rb,0,none⟩),.int .i64 (l.length:Int)] W fun e w'=>e= .returned .nilIface∧Rdr w' rb A cap zs (L-(l.length:Int))∧Keeps W.heap.size rb W w'):=hid fun W h1=>zcd h1 _ (by omega) (by omega) hL
 have HE:Hid (∀W:World,Keeps w.heap.size rb w W→Rdr W rb A cap zs (L-(l.length:Int))→Calls Tryz.prog 168 #[plV j c,.int .i64 (l.length:Int),.int .i64 1,.func (.func 84) #[] #[.pointer (some ⟨b1,0,none⟩),.pointer (some ⟨b2,0,none⟩)]] W (NsQ (2*d) rb A cap zs (L-((l.length+(l.map (costN d)).sum:Nat):Int)) l W)):=hid fun W h1 h2=>by
  have:=zi3 hI h2 (hbx.keeps h h1) l j c hok hr (by omega) (by omega) (by omega) (by omega)
  rwa [show L-(l.length:Int)-((l.map (costN d)).sum:Nat)=L-((l.length+(l.map (costN d)).sum:Nat):Int) by omega] at this
 clear hI hbx hj hcz hok hr hcost hsm;generalize L-((l.length+(l.map (costN d)).sum:Nat):Int)=L2 at *;generalize L-(l.length:Int)=L1 at *;have hlow:=h.low;have HLOW:=hid hlow;have HR:=hid h;obtain ⟨hb0,hr0,hr1,hr2⟩:=al3 w #[.int .i64 o,.int .i64 6,.int .i64 (l.length:Int)] #[.int .i64 (j:Int),.int .i64 (c:Int)] #[.int .i64 0,.string { data:= #[] },.slice none 0 0,.int .i64 0,.int .i64 0,.slice none 0 0] 170 58 nodeT;clear h hlow;have HR0:=hid (HR.out.below hb0);have HK0:=hid (Keeps.of_below (b:=rb) hb0);have R0:=hid hr0;have R1:=hid hr1;have R2:=hid hr2;clear hb0 hr0 hr1 hr2;go_enter Tryz.func133,Tryz.ntmps133
 go_wp2_with fail
 generalize (((w.alloc (.cells #[.int .i64 o,.int .i64 6,.int .i64 (l.length:Int)] 170)).alloc (.cells #[.int .i64 (j:Int),.int .i64 (c:Int)] 58)).alloc (.cells #[.int .i64 0,.string { data:= #[] },.slice none 0 0,.int .i64 0,.int .i64 0,.slice none 0 0] nodeT))=W at *;refine (HWO.out _).mono ?_;rintro e w1 ⟨rfl,rfl⟩;obtain ⟨t0',t1'⟩:=z04 R1.out
 go_wp2_with fail
 refine (HHA.out _ HR0.out).mono ?_;rintro e w2 ⟨rfl,hb2⟩;have HR2:=hid (HR0.out.below hb2);have HK2:=hid (HK0.out.then HK0.out.size (Keeps.of_below (b:=rb) hb2));have q0:=(hb2.block _ (z00 R0.out)).trans R0.out;have q1:=(hb2.block _ (z00 R1.out)).trans R1.out;have q2:=(hb2.block _ (z00 R2.out)).trans R2.out;have Q0:=hid q0;have Q1:=hid q1;have Q2:=hid q2
 have s1':w2.cell? ⟨w.heap.size,1,none⟩=some (.int .i64 6):=(by rw[cell_of_row _ _ _ _ _ _ q0]; rfl)
 have s2':w2.cell? ⟨w.heap.size,2,none⟩=some (.int .i64 (l.length:Int)):=(by rw[cell_of_row _ _ _ _ _ _ q0]; rfl)
 clear q0 q1 q2 hb2 R0 R1 R2 HR0 HK0 t0' t1'
 go_wp2_with fail
 refine (HLC.out _).mono ?_;rintro e w2' ⟨rfl,rfl⟩
 go_wp2_with fail
 refine (HSP.out _ HR2.out).mono ?_;rintro e w3 ⟨rfl,hrd3,hk3⟩;have hrl:=HLOW.out.rb;have HK3:=hid (HK2.out.then HK2.out.size hk3);have HR3:=hid hrd3;have q0:=(hk3.block _ (z00 Q0.out) (by omega)).trans Q0.out;have q1:=(hk3.block _ (z00 Q1.out) (by omega)).trans Q1.out;have q2:=(hk3.block _ (z00 Q2.out) (by omega)).trans Q2.out;have Q3:=hid q2;have hba:=(Below.refl w3.heap.size w3).alloc (Nat.le_refl _) (.cells #[.int .i64 2,.string { data:= #[] },.slice none 0 0,.int .i64 6,.int .i64 (l.length:Int),.slice none 0 0] nodeT);have hna:=heap_alloc_new w3 (.cells #[.int .i64 2,.string { data:= #[] },.slice none 0 0,.int .i64 6,.int .i64 (l.length:Int),.slice none 0 0] nodeT)
 have hsa:(w3.alloc (.cells #[.int .i64 2,.string { data:= #[] },.slice none 0 0,.int .i64 6,.int .i64 (l.length:Int),.slice none 0 0] nodeT)).heap.size=w3.heap.size+1:=by simp
 have HRA:=hid (hrd3.below hba);have HKA:=hid (HK3.out.then HK3.out.size (Keeps.of_below (b:=rb) hba));have HNA:=hid hna;have HBA':=hid hba;have q0a:=(hba.block _ (z00 q0)).trans q0;have q1a:=(hba.block _ (z00 q1)).trans q1;have Q1A:=hid q1a
 have s1:w3.cell? ⟨w.heap.size,1,none⟩=some (.int .i64 6):=(by rw[cell_of_row _ _ _ _ _ _ q0]; rfl)
 have s2:w3.cell? ⟨w.heap.size,2,none⟩=some (.int .i64 (l.length:Int)):=(by rw[cell_of_row _ _ _ _ _ _ q0]; rfl)
 have s1a:(w3.alloc (.cells #[.int .i64 2,.string { data:= #[] },.slice none 0 0,.int .i64 6,.int .i64 (l.length:Int),.slice none 0 0] nodeT)).cell? ⟨w.heap.size,1,none⟩=some (.int .i64 6):=(by rw[cell_of_row _ _ _ _ _ _ q0a]; rfl)
 have s2a:(w3.alloc (.cells #[.int .i64 2,.string { data:= #[] },.slice none 0 0,.int .i64 6,.int .i64 (l.length:Int),.slice none 0 0] nodeT)).cell? ⟨w.heap.size,2,none⟩=some (.int .i64 (l.length:Int)):=(by rw[cell_of_row _ _ _ _ _ _ q0a]; rfl)
 obtain ⟨t0,t1⟩:=z04 q1a;clear q0 q1 q2 q0a q1a hrd3 hk3 hrl Q0 Q1 Q2 HR2 HK2 s1' s2' hba hna;have HC:=hid (HE.out _ HKA.out HRA.out);unfold NsQ at HC
 go_wp2_with fail
 refine HC.out.mono ?_;rintro e w4 ⟨A',c',rfl,hnds,hrd4,hk4⟩;have hrl:=HLOW.out.rb;have hz3:=HK3.out.size;have hz4:=hk4.size;have n4:=(hk4.block w3.heap.size (by omega) (by omega)).trans HNA.out;have f2:=z02 n4 2;have k2:=(z01 n4).2.2.1
 obtain ⟨wq,hwq⟩:∃wq,w4.setCell ⟨w3.heap.size,2,none⟩ (.slice A' l.length c')=wq:=⟨_,rfl⟩
 have nq:wq.heap[w3.heap.size]? =some (.cells #[.int .i64 2,.string { data:= #[] },.slice A' l.length c',.int .i64 6,.int .i64 (l.length:Int),.slice none 0 0] nodeT (0,0)):=by rw[← hwq]; exact z4z n4 2 _
 have kq:Keeps w4.heap.size w3.heap.size w4 wq:=by rw[← hwq]; exact z0p _ _ _ _ _
 have hbq:Below w3.heap.size w4 wq:=kq.below (by omega) (Nat.le_refl _);have hk4q:Keeps w3.heap.size rb w3 wq:=((Keeps.of_below HBA'.out).trans (hk4.mono (by omega))).trans (Keeps.of_below hbq)
 have hnq:NdAt wq (From w3.heap.size) (2*d+1) (.mk 2 { data:= #[] } l 6 l.length []) ⟨A',c',none,0⟩:=⟨Nat.zero_le _,(hnds.keepsR kq (fun k hk=>by have:_≤k:=hk; omega)).weak (fun k hk=>by have:_≤k:=hk; show w3.heap.size≤k; omega),NdsAt.nil _ _ _ _⟩
 have hrq:=hrd4.keepB HLOW.out (hbq.mono (by omega));have hlt3:=z00 Q3.out;have q5:=(hk4q.block _ hlt3 (by omega)).trans Q3.out;obtain ⟨wf,hwf,hrw,hn5,hrd5,hk5⟩:=NdQ.laid HLOW.out HK3.out ⟨by omega,hlt3⟩ Q3.out hnq hrq hk4q
 dsimp only[boxN,Nd.kind,Nd.data,Nd.ptrs,Nd.size,Nd.count,Nd.items,List.length_nil] at hwf hrw
 have HF:=hid (And.intro hn5 (And.intro hrd5 hk5));have HWF:=hid hwf;have HRW:=hid hrw;obtain ⟨c0,c1,c2,c3,c4,c5⟩:=z01 q5;have hfz:=z02 q5;obtain ⟨m0,m1,m2,m3,m4,m5⟩:=z01 nq;clear q5 nq kq hbq hk4q hnq hrq hnds hrd4 hk4 hn5 hrd5 hk5 hwf hrw HC s1 s2 s1a s2a t0 t1 hrl hz3 hz4 hlt3;go_wp2;rw[HWF.out];obtain ⟨e0,e1,e2,e3,e4,e5⟩:=z01 HRW.out;exact bodyPost_ret (v:= .tuple #[.agg #[.int .i64 2,.string { data:= #[] },.slice A' l.length c',.int .i64 6,.int .i64 (l.length:Int),.slice none 0 0],.nilIface]) (by simp[results,Tryz.results133,go_sem,e0,e1,e2,e3,e4,e5]) rfl ⟨⟨A',c',none,0⟩,rfl,HF.out⟩
theorem zqy {rb cap d:Nat}{A:Option Addr}{zs:List ByteArray}{w:World}{L:Int}(h:Rdr w rb A cap zs L)(b1 b2:Nat)(o z cn cst:Int)(wn':Nat)(data:ByteArray)(j c:Nat)(hj:j<zs.length)(hz0:0≤z)(hz5:z≤5)(hc0:0≤cn)(hc1:cn≤12800)(hwf:wfI z cn=wn')(hlc:lcZ z cn wn'=cst)(hcz:c+wn'≤(zs[j]).size/8)(hcd:8*c+data.size≤(zs[j]).size)(hds:(data.size:Int)=(cn*bz z+7)/8)(hd:zs[j].extract (8*c) (8*c+data.size)=data)(hcut:cutD data (cn*bz z)=data)(hL:L≤1000)(hcs0:0≤cst)(hcost:cst≤L) :
 Calls Tryz.prog 133 #[.pointer (some ⟨rb,0,none⟩),.agg #[.int .i64 o,.int .i64 z,.int .i64 cn],plV j c,.func (.func 84) #[] #[.pointer (some ⟨b1,0,none⟩),.pointer (some ⟨b2,0,none⟩)]] w (NdQ (2*d+1) rb A cap zs (L-cst) (.mk 2 data [] z cn []) w):=by
 have hsm:=(h.small _ (List.getElem_mem hj)).1
 have HWO:Hid (∀W:World,Calls Tryz.prog 160 #[.int .i64 z,.int .i64 cn] W fun e w'=>e= .returned (.int .i64 (wn':Int))∧W=w'):=hid fun W=>by
  have:=z5b z cn W hz0 (by omega) hc0 (by omega)
  rwa [hwf] at this
 have HHA:Hid (∀W:World,Rdr W rb A cap zs L→Calls Tryz.prog 44 #[.pointer (some ⟨rb,0,none⟩),plV j c,.int .i64 (wn':Int)] W fun e w'=>e= .returned (.bool true)∧Below W.heap.size W w'):=hid fun W h1=>has_a h1 j c wn' hj hcz
 have HLC:Hid (∀W:World,Calls Tryz.prog 81 #[.int .i64 z,.int .i64 cn,.int .i64 (wn':Int)] W fun e w'=>e= .returned (.int .i64 cst)∧W=w'):=hid fun W=>by
  have:=z5f z cn wn' W hc0 hc1
  rwa [hlc] at this
 have HSP:Hid (∀W:World,Rdr W rb A cap zs L→Calls Tryz.prog 165 #[.pointer (some ⟨rb,0,none⟩),.int .i64 cst] W fun e w'=>e= .returned .nilIface∧Rdr w' rb A cap zs (L-cst)∧Keeps W.heap.size rb W w'):=hid fun W h1=>zcd h1 _ hcs0 hcost hL
 have hbz:=bz_le z
 have hbb:0≤cn*bz z∧cn*bz z≤819200:=⟨Int.mul_nonneg hc0 hbz.1,by
  have h1:cn*bz z≤12800*bz z:=Int.mul_le_mul_of_nonneg_right hc1 hbz.1
  omega⟩
 have HSB:Hid (∀W:World,Calls Tryz.prog 170 #[.int .i64 z] W fun e w'=>e= .returned (.int .i64 (bz z))∧w'=W):=hid fun W=>(z32 z W hz0 (by omega)).mono fun _ _ h=>⟨h.1,h.2.symm⟩
 have HSZ:Hid (data.size≤maxLen):=hid (by unfold maxLen; omega)
 have HCU:Hid (∀W:World,Calls Tryz.prog 171 #[.string data,.int .i64 (cn*bz z)] W fun e w'=>e= .returned (.string data)∧Below W.heap.size W w'):=hid fun W=>by
  have:=zev data (cn*bz z) W hbb.1 (by omega) HSZ.out hds
  rwa [hcut] at this
 have HBA:Hid (∀W:World,Rdr W rb A cap zs (L-cst)→Calls Tryz.prog 172 #[.pointer (some ⟨rb,0,none⟩),plV j c,.int .i64 (wrap64 ((cn*bz z+7).tdiv 8))] W fun e w'=>e= .returned (.string data)∧Below W.heap.size W w'):=hid fun W h1=>by
  have:=zey h1 j c data.size hj hcd;rw[hd] at this
  rwa [hds,← (z1t (n:=(cn*bz z+7)/8) (by omega) (by omega)).2,← Int.tdiv_eq_ediv_of_nonneg (show 0≤cn*bz z+7 by omega)] at this
 have hz6:(z==6)=false:=by simp; omega
 obtain ⟨bb,hbbe⟩:∃bb,cn*bz z=bb:=⟨_,rfl⟩
 rw[hbbe] at hbb HCU HBA;have HW1:=hid (z1t (n:=bb) (by omega) (by omega));have HW2:=hid (z1t (n:=bb+7) (by omega) (by omega));have HBE:=hid hbbe
 have hb7:0≤bb+7:=by omega
 generalize L-cst=L1 at *;clear hj hcz hcd hds hd hcut hcost hsm hbz hwf hlc hbbe hbb hc0 hc1 hz0 hz5 hcs0;have hlow:=h.low;have HLOW:=hid hlow;have HR:=hid h;obtain ⟨hb0,hr0,hr1,hr2⟩:=al3 w #[.int .i64 o,.int .i64 z,.int .i64 cn] #[.int .i64 (j:Int),.int .i64 (c:Int)] #[.int .i64 0,.string { data:= #[] },.slice none 0 0,.int .i64 0,.int .i64 0,.slice none 0 0] 170 58 nodeT;clear h hlow;have HR0:=hid (HR.out.below hb0);have HK0:=hid (Keeps.of_below (b:=rb) hb0);have R0:=hid hr0;have R1:=hid hr1;have R2:=hid hr2;clear hb0 hr0 hr1 hr2;go_enter Tryz.func133,Tryz.ntmps133
 go_wp2_with fail
 generalize (((w.alloc (.cells #[.int .i64 o,.int .i64 z,.int .i64 cn] 170)).alloc (.cells #[.int .i64 (j:Int),.int .i64 (c:Int)] 58)).alloc (.cells #[.int .i64 0,.string { data:= #[] },.slice none 0 0,.int .i64 0,.int .i64 0,.slice none 0 0] nodeT))=W at *;refine (HWO.out _).mono ?_;rintro e w1 ⟨rfl,rfl⟩;obtain ⟨t0',t1'⟩:=z04 R1.out
 go_wp2_with fail
 refine (HHA.out _ HR0.out).mono ?_;rintro e w2 ⟨rfl,hb2⟩;have HR2:=hid (HR0.out.below hb2);have HK2:=hid (HK0.out.then HK0.out.size (Keeps.of_below (b:=rb) hb2));have q0:=(hb2.block _ (z00 R0.out)).trans R0.out;have q1:=(hb2.block _ (z00 R1.out)).trans R1.out;have q2:=(hb2.block _ (z00 R2.out)).trans R2.out;have Q0:=hid q0;have Q1:=hid q1;have Q2:=hid q2
 have s1':w2.cell? ⟨w.heap.size,1,none⟩=some (.int .i64 z):=(by rw[cell_of_row _ _ _ _ _ _ q0]; rfl)
 have s2':w2.cell? ⟨w.heap.size,2,none⟩=some (.int .i64 cn):=(by rw[cell_of_row _ _ _ _ _ _ q0]; rfl)
 clear q0 q1 q2 hb2 R0 R1 R2 HR0 HK0 t0' t1'
 go_wp2_with fail
 refine (HLC.out _).mono ?_;rintro e w2' ⟨rfl,rfl⟩
 go_wp2_with fail
 refine (HSP.out _ HR2.out).mono ?_;rintro e w3 ⟨rfl,hrd3,hk3⟩;have hrl:=HLOW.out.rb;have HK3:=hid (HK2.out.then HK2.out.size hk3);have HR3:=hid hrd3;have q0:=(hk3.block _ (z00 Q0.out) (by omega)).trans Q0.out;have q1:=(hk3.block _ (z00 Q1.out) (by omega)).trans Q1.out;have q2:=(hk3.block _ (z00 Q2.out) (by omega)).trans Q2.out;have Q3:=hid q2;have hba:=(Below.refl w3.heap.size w3).alloc (Nat.le_refl _) (.cells #[.int .i64 2,.string { data:= #[] },.slice none 0 0,.int .i64 z,.int .i64 cn,.slice none 0 0] nodeT);have hna:=heap_alloc_new w3 (.cells #[.int .i64 2,.string { data:= #[] },.slice none 0 0,.int .i64 z,.int .i64 cn,.slice none 0 0] nodeT)
 have hsa:(w3.alloc (.cells #[.int .i64 2,.string { data:= #[] },.slice none 0 0,.int .i64 z,.int .i64 cn,.slice none 0 0] nodeT)).heap.size=w3.heap.size+1:=by simp
 have HRA:=hid (hrd3.below hba);have HKA:=hid (HK3.out.then HK3.out.size (Keeps.of_below (b:=rb) hba));have HNA:=hid hna;have HBA':=hid hba;have q0a:=(hba.block _ (z00 q0)).trans q0;have q1a:=(hba.block _ (z00 q1)).trans q1;have Q1A:=hid q1a
 have s1:w3.cell? ⟨w.heap.size,1,none⟩=some (.int .i64 z):=(by rw[cell_of_row _ _ _ _ _ _ q0]; rfl)
 have s2:w3.cell? ⟨w.heap.size,2,none⟩=some (.int .i64 cn):=(by rw[cell_of_row _ _ _ _ _ _ q0]; rfl)
 have s1a:(w3.alloc (.cells #[.int .i64 2,.string { data:= #[] },.slice none 0 0,.int .i64 z,.int .i64 cn,.slice none 0 0] nodeT)).cell? ⟨w.heap.size,1,none⟩=some (.int .i64 z):=(by rw[cell_of_row _ _ _ _ _ _ q0a]; rfl)
 have s2a:(w3.alloc (.cells #[.int .i64 2,.string { data:= #[] },.slice none 0 0,.int .i64 z,.int .i64 cn,.slice none 0 0] nodeT)).cell? ⟨w.heap.size,2,none⟩=some (.int .i64 cn):=(by rw[cell_of_row _ _ _ _ _ _ q0a]; rfl)
 obtain ⟨t0,t1⟩:=z04 q1a;clear q0 q1 q2 q0a q1a hrd3 hk3 hrl Q0 Q1 Q2 HR2 HK2 s1' s2' hba hna
 have ew1:IntKind.i64.wrap (cn*bz z)=bb:=by rw[HBE.out]; exact HW1.out.1
 have ew2:wrap64 (cn*bz z)=bb:=by rw[HBE.out]; exact HW1.out.2
 go_wp2_with fail
 generalize (w3.alloc (.cells #[.int .i64 2,.string { data:= #[] },.slice none 0 0,.int .i64 z,.int .i64 cn,.slice none 0 0] nodeT))=W5 at *
 go_quiet ((go_at_call 170; exact Calls.quiet_of_same (HSB.out _)))
 have hd5:Below W5.heap.size W5 (W5.drewN nq):=⟨rfl,rfl,rfl,Nat.le_refl _,fun _ _=>rfl⟩
 have HR6:=hid (HRA.out.below hd5);have HK6:=hid (HKA.out.then HKA.out.size (Keeps.of_below (b:=rb) hd5));have H36:=hid (HBA'.out.trans (hd5.mono HBA'.out.size));have HN6:Hid ((W5.drewN nq).heap[w3.heap.size]? =some (.cells #[.int .i64 2,.string { data:= #[] },.slice none 0 0,.int .i64 z,.int .i64 cn,.slice none 0 0] nodeT (0,0))):=hid HNA.out;have u0:(W5.drewN nq).cell? ⟨w.heap.size+1,0,none⟩=some (.int .i64 (j:Int)):=t0;have u1:(W5.drewN nq).cell? ⟨w.heap.size+1,1,none⟩=some (.int .i64 (c:Int)):=t1;have hs6:(W5.drewN nq).heap.size=w3.heap.size+1:=hsa;generalize W5.drewN nq=W6 at *;clear s1 s2 s1a s2a t0 t1 ew1 ew2 hd5 HRA HKA HBA' HNA;have e1:=HW2.out.1;have e2:=HW2.out.2
 go_wp2_with fail
 clear e1 e2;refine (HBA.out _ HR6.out).mono ?_;rintro e w7 ⟨rfl,hb7'⟩
 go_wp2_with fail
 refine (HCU.out _).mono ?_;rintro e w4 ⟨rfl,hb8⟩;have hb6:=hb7'.trans (hb8.mono hb7'.size);have hrl:=HLOW.out.rb;have hz3:=HK3.out.size;have hz4:=hb6.size;have n4:=(hb6.block w3.heap.size (by omega)).trans HN6.out;have f2:=z02 n4 1;have k2:=(z01 n4).2.1
 obtain ⟨wq,hwq⟩:∃wq,w4.setCell ⟨w3.heap.size,1,none⟩ (.string data)=wq:=⟨_,rfl⟩
 have nq:wq.heap[w3.heap.size]? =some (.cells #[.int .i64 2,.string data,.slice none 0 0,.int .i64 z,.int .i64 cn,.slice none 0 0] nodeT (0,0)):=by rw[← hwq]; exact z4z n4 1 _
 have kq:Keeps w4.heap.size w3.heap.size w4 wq:=by rw[← hwq]; exact z0p _ _ _ _ _
 have hbq:Below w3.heap.size w4 wq:=kq.below (by omega) (Nat.le_refl _);have hk4q:Keeps w3.heap.size rb w3 wq:=Keeps.of_below ((H36.out.trans (hb6.mono (by omega))).trans hbq)
 have hnq:NdAt wq (From w3.heap.size) (2*d+1) (.mk 2 data [] z cn []) ⟨none,0,none,0⟩:=⟨HSZ.out,NdsAt.nil _ _ _ _,NdsAt.nil _ _ _ _⟩
 have hrq:=(HR6.out.below hb6).keepB HLOW.out (hbq.mono (by omega));have hlt3:=z00 Q3.out;have q5:=(hk4q.block _ hlt3 (by omega)).trans Q3.out;obtain ⟨wf,hwf,hrw,hn5,hrd5,hk5⟩:=NdQ.laid HLOW.out HK3.out ⟨by omega,hlt3⟩ Q3.out hnq hrq hk4q
 dsimp only[boxN,Nd.kind,Nd.data,Nd.ptrs,Nd.size,Nd.count,Nd.items,List.length_nil] at hwf hrw
 have HF:=hid (And.intro hn5 (And.intro hrd5 hk5));have HWF:=hid hwf;have HRW:=hid hrw;obtain ⟨c0,c1,c2,c3,c4,c5⟩:=z01 q5;have hfz:=z02 q5;obtain ⟨m0,m1,m2,m3,m4,m5⟩:=z01 nq;clear q5 nq kq hbq hk4q hnq hrq hn5 hrd5 hk5 hwf hrw u0 u1 hrl hz3 hz4 hlt3 hb7' hb8 hb6 hs6 hb7 hz6;go_wp2;rw[HWF.out];obtain ⟨e0,e1,e2,e3,e4,e5⟩:=z01 HRW.out;exact bodyPost_ret (v:= .tuple #[.agg #[.int .i64 2,.string data,.slice none 0 0,.int .i64 z,.int .i64 cn,.slice none 0 0],.nilIface]) (by simp[results,Tryz.results133,go_sem,e0,e1,e2,e3,e4,e5]) rfl ⟨⟨none,0,none,0⟩,rfl,HF.out⟩
theorem cell1 {w:World}{g:Nat}{v0:Value}{T:TypeId}(h:w.heap[g]? =some (.cells #[v0] T (0,0))):w.cell? ⟨g,0,none⟩=some v0:=by
 rw[cell_of_row _ _ _ _ _ _ h]; rfl
theorem zkq (o d p:Int)(w:World) :
 Calls Tryz.prog 167 #[siV o d p] w fun e w'=>e= .returned (.tuple #[.agg #[.int .i64 o,.int .i64 d,.int .i64 p],.bool true])∧Below w.heap.size w w':=by
 have t1:=zbt;have t2:=z3f;go_enter Tryz.func167,Tryz.ntmps167;go_wp2;obtain ⟨e0,e1,e2⟩:=z0k (heap_alloc2_old w (.cells #[.int .i64 o,.int .i64 d,.int .i64 p] 168) (.cells #[.int .i64 o,.int .i64 d,.int .i64 p] 168));exact bodyPost_ret (v:= .tuple #[.agg #[.int .i64 o,.int .i64 d,.int .i64 p],.bool true]) (by simp[results,Tryz.results167,go_sem,e0,e1,e2]) rfl ⟨rfl,((Below.refl _ _).alloc (Nat.le_refl _) _).alloc (by simp) _⟩
theorem zjx (w:World) :
 Calls Tryz.prog 167 #[.iface 129 (.agg #[])] w fun e w'=>e= .returned (.tuple #[.agg #[.int .i64 0,.int .i64 0,.int .i64 0],.bool true])∧Below w.heap.size w w':=by
 have t1:=zbv;go_enter Tryz.func167,Tryz.ntmps167;go_wp2;obtain ⟨e0,e1,e2⟩:=z0k (heap_alloc2_old w (.cells #[.int .i64 0,.int .i64 0,.int .i64 0] 168) (.cells #[] 129));exact bodyPost_ret (v:= .tuple #[.agg #[.int .i64 0,.int .i64 0,.int .i64 0],.bool true]) (by simp[results,Tryz.results167,go_sem,e0,e1,e2]) rfl ⟨rfl,((Below.refl _ _).alloc (Nat.le_refl _) _).alloc (by simp) _⟩
theorem zsf {rb cap d:Nat}{A:Option Addr}{zs:List ByteArray}(hI:InC rb A cap zs d){w:World}{L:Int}(h:Rdr w rb A cap zs L){b1 b2:Nat}(hbx:Bx w rb b1 b2 d)(m1 m2 m3:Nat)(o:Int)(dw:Nat)(data:ByteArray)(l:List Nd)(j c:Nat)(hds:data.size=8*dw)(hj:j<zs.length)(hcz:8*c+data.size≤(zs[j]).size)(hd:zs[j].extract (8*c) (8*c+data.size)=data)(hok:∀p∈l,okN d p=true∧z03 d p≤199)(hr:∀k (hk:k<l.length),RepN (sgz zs) d l[k] j (c+dw+k))(hL:L≤1000)(hl:l.length≤1000)(hcost:((l.map (costN d)).sum:Nat)≤L)
 (hm1:w.heap[m1]? =some (.cells #[.pointer (some ⟨rb,0,none⟩)] 64 (0,0))) (hm2:w.heap[m2]? =some (.cells #[.int .i64 o,.int .i64 (dw:Int),.int .i64 (l.length:Int)] 168 (0,0))) (hm3:w.heap[m3]? =some (.cells #[.func (.func 84) #[] #[.pointer (some ⟨b1,0,none⟩),.pointer (some ⟨b2,0,none⟩)]] 72 (0,0))) :
 Calls Tryz.prog 169 #[plV j c,.pointer (some ⟨m1,0,none⟩),.pointer (some ⟨m2,0,none⟩),.pointer (some ⟨m3,0,none⟩)] w (NdQ (2*d+1) rb A cap zs (L-((l.map (costN d)).sum:Nat)) (.mk 1 data l 0 0 []) w):=by
 have HBO:Hid (∀W:World,Keeps w.heap.size rb w W→Rdr W rb A cap zs L→Calls Tryz.prog 166 #[.pointer (some ⟨rb,0,none⟩),.agg #[.int .i64 o,.int .i64 dw,.int .i64 l.length],plV j c,.func (.func 84) #[] #[.pointer (some ⟨b1,0,none⟩),.pointer (some ⟨b2,0,none⟩)]] W (NdQ (2*d+1) rb A cap zs (L-((l.map (costN d)).sum:Nat)) (.mk 1 data l 0 0 []) W)):=hid fun W h1 h2=>zqr hI h2 (hbx.keeps h h1) o dw data l j c hds hj hcz hd hok hr hL hl hcost
 have hlow:=h.low;generalize L-((l.map (costN d)).sum:Nat)=L2 at *;have HLOW:=hid hlow;have hb0:=((Below.refl w.heap.size w).alloc (Nat.le_refl _) (.cells #[.int .i64 (j:Int),.int .i64 (c:Int)] 58)).alloc (by simp) (.cells #[.int .i64 0,.string { data:= #[] },.slice none 0 0,.int .i64 0,.int .i64 0,.slice none 0 0] nodeT);have hr1:((w.alloc (.cells #[.int .i64 (j:Int),.int .i64 (c:Int)] 58)).alloc (.cells #[.int .i64 0,.string { data:= #[] },.slice none 0 0,.int .i64 0,.int .i64 0,.slice none 0 0] nodeT)).heap[w.heap.size+1]? =some (.cells #[.int .i64 0,.string { data:= #[] },.slice none 0 0,.int .i64 0,.int .i64 0,.slice none 0 0] nodeT (0,0)):=heap_alloc2_new w _ _;have hr0:((w.alloc (.cells #[.int .i64 (j:Int),.int .i64 (c:Int)] 58)).alloc (.cells #[.int .i64 0,.string { data:= #[] },.slice none 0 0,.int .i64 0,.int .i64 0,.slice none 0 0] nodeT)).heap[w.heap.size]? =some (.cells #[.int .i64 (j:Int),.int .i64 (c:Int)] 58 (0,0)):=heap_alloc2_old w _ _;have HR0:=hid (h.below hb0);have HK0:=hid (Keeps.of_below (b:=rb) hb0);have g1:=cell1 ((hb0.block _ (z00 hm1)).trans hm1);obtain ⟨g2,g3,g4⟩:=z0k ((hb0.block _ (z00 hm2)).trans hm2);have g5:=cell1 ((hb0.block _ (z00 hm3)).trans hm3);obtain ⟨t0,t1⟩:=z04 hr0;have R1:=hid hr1;clear hI h hbx hds hj hcz hd hok hr hcost hlow hb0 hr0 hr1 hm1 hm2 hm3;have HC:=hid (HBO.out _ HK0.out HR0.out);unfold NdQ at HC;go_enter Tryz.func169,Tryz.ntmps169
 go_wp2_with fail
 generalize ((w.alloc (.cells #[.int .i64 (j:Int),.int .i64 (c:Int)] 58)).alloc (.cells #[.int .i64 0,.string { data:= #[] },.slice none 0 0,.int .i64 0,.int .i64 0,.slice none 0 0] nodeT))=W at *;refine HC.out.mono ?_;rintro e w4 ⟨hy,rfl,hny,hrd4,hk4⟩;have hlt3:=z00 R1.out;have q4:=(hk4.block _ hlt3 (by have:=HLOW.out.rb; omega)).trans R1.out;obtain ⟨c0,c1,c2,c3,c4,c5⟩:=z01 q4;have hfz:=z02 q4;obtain ⟨wf,hwf,hrw,hn5,hrd5,hk5⟩:=NdQ.laid HLOW.out HK0.out ⟨by omega,hlt3⟩ R1.out hny hrd4 hk4;have HF:=hid (And.intro hn5 (And.intro hrd5 hk5));have HWF:=hid hwf;have HRW:=hid hrw;clear q4 g1 g2 g3 g4 g5 t0 t1 HC hny hrd4 hk4 hn5 hrd5 hk5 hwf hrw hlt3;go_wp2;rw[HWF.out];obtain ⟨e0,e1,e2,e3,e4,e5⟩:=z01 HRW.out;exact bodyPost_ret (v:= .tuple #[.agg #[.int .i64 (Nd.mk 1 data l 0 0 []).kind,.string (Nd.mk 1 data l 0 0 []).data,.slice hy.A (Nd.mk 1 data l 0 0 []).ptrs.length hy.a,.int .i64 (Nd.mk 1 data l 0 0 []).size,.int .i64 (Nd.mk 1 data l 0 0 []).count,.slice hy.B (Nd.mk 1 data l 0 0 []).items.length hy.b],.nilIface]) (by simp[results,Tryz.results169,go_sem,e0,e1,e2,e3,e4,e5]) rfl ⟨hy,rfl,HF.out⟩
end Go.Proofs.YtlbfffokkhccaaaGreatDoor
