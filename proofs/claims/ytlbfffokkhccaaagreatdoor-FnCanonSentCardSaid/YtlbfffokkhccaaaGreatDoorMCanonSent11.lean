/- Texts of the proof of the law FnCanonSent, side by side: part 11. -/
import Derived.Lib.Builder
import Derived.Lib.Strings
import Derived.Lib.UnsafeStr
import Derived.Lib.AppendStr
import Derived.Laws.Externs
import Derived.Test.YtlbfffokkhccaaaGreatDoorMCanonSent10
set_option maxHeartbeats 8000000
set_option maxRecDepth 100000
open Go.Lib (hid)
namespace Go.Proofs.YtlbfffokkhccaaaGreatDoor
open Go.RowKit
def frOk (ss:List ByteArray):Bool:=decide (1≤ss.length∧ss.length≤6)&&(ss.all (fun s=>decide (s.size%8=0))&&decide (tot ss≤1600))
def wds (ss:List ByteArray):Nat:=(ss.map (·.size/8)).sum
theorem zni (ss:List ByteArray)(k:Nat)(h:k<ss.length):wds (ss.take (k+1))=wds (ss.take k)+(ss[k]).size/8:=by
 rw[List.take_succ_eq_append_getElem h,wds,wds,List.map_append,List.sum_append]
 simp
theorem zfg:∀(ss:List ByteArray),ss.all (fun s=>decide (s.size%8=0))=true→8*wds ss=tot ss
 | [],_=>rfl
 | s :: r,h=>by
   simp only[List.all_cons,Bool.and_eq_true,decide_eq_true_eq] at h
   have:=zfg r h.2
   simp only[wds,tot,List.map_cons,List.sum_cons] at this ⊢
   omega
theorem zt1 (ss:List ByteArray):wds ss≤tot ss:=by
 induction ss with
 | nil=>exact Nat.le_refl _
 | cons s r ih=>simp only[wds,tot,List.map_cons,List.sum_cons] at ih ⊢; omega
theorem zis {ss:List ByteArray}{k:Nat}(h:k<ss.length)(hn:¬(ss[k]).size%8=0):ss.all (fun s=>decide (s.size%8=0))=false:=by
 rw[List.all_eq_false];exact ⟨ss[k],List.getElem_mem h,by simpa using hn⟩
theorem zi0 {ss:List ByteArray}{k:Nat}(hk:k<ss.length)(h:(ss.take k).all (fun s=>decide (s.size%8=0))=true)(hm:(ss[k]).size%8=0):(ss.take (k+1)).all (fun s=>decide (s.size%8=0))=true:=by
 rw[List.take_succ_eq_append_getElem hk,List.all_append,h]
 simpa using hm
theorem z3s (A:Option Addr)(cap:Nat)(ss:List ByteArray)(w:World)(h:Strs w A ss)(hn:ss.length≤1048576)(ht:tot ss≤1099511627776) :
 Calls Tryz.prog 80 #[.slice A ss.length cap] w fun e w'=>e= .returned (.bool (frOk ss))∧w=w':=by
 have H:=hid h;clear h;go_enter Tryz.func80,Tryz.ntmps80;go_wp2
 go_loop [3,4] (fun m i=>∃k:Nat,k≤ss.length∧i= .int .i64 k∧m= .int .i64 (wds (ss.take k):Nat)∧Hid ((ss.take k).all (fun s=>decide (s.size%8=0))=true)) (fun _ i=>ss.length-(intOf i).toNat)
 case atStart=>exact ⟨0,by omega,rfl,by simp[wds],by simp[Hid]⟩
 case round =>
  obtain ⟨k,hk,rfl,rfl,HA⟩:=hrel;have hw1:wds (ss.take k)≤1099511627776:=Nat.le_trans (zt1 _) (Nat.le_trans (z1u ss k) ht)
  by_cases hk1:k<ss.length
  · obtain ⟨a,rfl,_,hc⟩:=H.out.2.resolve_left (by intro h; rw[h] at hk1; simp at hk1)
    have hck:=hc k hk1;have hsz:=H.out.1 ss[k] (List.getElem_mem hk1);unfold maxLen at hsz
    have hsz2:(ss[k]).size≤1099511627776:=by
     have h1:=z8b ss k hk1;have h2:=z1u ss (k+1);omega
    clear hc
    by_cases hm:(ss[k]).size%8=0
    · have hA':=zi0 hk1 HA.out hm
      have HA':=hid hA';have hwt:=zni ss k hk1;have HW:=hid hwt
      have hm0:(((ss[k]).size:Int)%8 != 0)=false:=by simp; omega
      clear hA' hwt hm;go_wp2
      go_round
      case rel=>exact ⟨k+1,by omega,by go_num,by rw[HW.out]; go_num,HA'.out⟩
      case measure=>simp[intOf]; omega
    · have hm0:(((ss[k]).size:Int)%8 != 0)=true:=by simp; omega
      have hf:=zis hk1 hm;have HF:=hid hf;clear hf hm;go_wp2;go_ret;exact ⟨z0j (by rw[frOk,HF.out]; simp),rfl⟩
  · obtain rfl:k=ss.length:=by omega
    have hall:ss.all (fun s=>decide (s.size%8=0))=true:=by have:=HA.out; rwa [List.take_of_length_le (Nat.le_refl _)] at this
    have hwt:=zfg ss hall;rw[List.take_of_length_le (Nat.le_refl _)] at hw1
    have hfin:frOk ss=(inB ss.length 1 6&&decide ((wds ss:Int)≤200)):=by
     rw[frOk,hall,Bool.true_and,inB,Bool.eq_iff_iff]
     simp
     omega
    have HF:=hid hfin;clear hall hwt hfin;cases hin:inB ss.length 1 6
    all_goals
     go_wp2_with (go_at_call 39; refine (z34 _ _ _ _).mono ?_; rintro e w' ⟨rfl,rfl⟩)
     all_goals go_ret
     all_goals refine ⟨z0j ?_,rfl⟩
     all_goals (rw[HF.out,hin]; simp; try assumption)
theorem z3t (A:Option Addr)(cap:Nat)(ss:List ByteArray)(w:World)(h:Strs w A ss)(hn:ss.length≤1048576) :
 Calls Tryz.prog 17 #[.slice A ss.length cap] w fun e w'=>e= .returned (.bool (frOk ss))∧w=w':=by
 have H:=hid h;clear h
 by_cases h1:ss.length<1
 · have hf:frOk ss=false:=by rw[frOk,decide_eq_false (by omega),Bool.false_and]
   rw[hf];clear hf;go_enter Tryz.func17,Tryz.ntmps17;go_wp2;go_ret;exact ⟨rfl,rfl⟩
 have h1:1≤ss.length:=by omega
 by_cases h6:6<ss.length
 · have hf:frOk ss=false:=by rw[frOk,decide_eq_false (by omega),Bool.false_and]
   rw[hf];clear hf;go_enter Tryz.func17,Tryz.ntmps17;go_wp2;go_ret;exact ⟨rfl,rfl⟩
 have h6:ss.length≤6:=by omega
 go_enter Tryz.func17,Tryz.ntmps17;go_wp2
 go_loop [3,5,16] (fun m _ i=>∃k:Nat,k≤ss.length∧i= .int .i64 k∧m= .int .i64 (tot (ss.take k):Nat)∧tot (ss.take k)≤1600*k∧Hid ((ss.take k).all (fun s=>decide (s.size%8=0))=true)) (fun _ _ i=>ss.length-(intOf i).toNat)
 case atStart=>exact ⟨0,by omega,rfl,by simp[tot],by simp[tot],by simp[Hid]⟩
 case round =>
  obtain ⟨k,hk,rfl,rfl,hT,HA⟩:=hrel
  by_cases hk1:k<ss.length
  · obtain ⟨a,rfl,_,hc⟩:=H.out.2.resolve_left (by intro h; rw[h] at hk1; simp at hk1)
    have hck:=hc k hk1;have hsz:=H.out.1 ss[k] (List.getElem_mem hk1);clear hc;cases hw:z1d (ss[k]).size
    · have hf:frOk ss=false:=by
       rw[Bool.eq_false_iff]
       intro hok
       simp only[frOk,Bool.and_eq_true,decide_eq_true_eq] at hok
       obtain ⟨_,ha,ht⟩:=hok
       have hm:(ss[k]).size%8=0:=by simpa using List.all_eq_true.1 ha ss[k] (List.getElem_mem hk1)
       have h1:=z8b ss k hk1;have h2:=z1u ss (k+1)
       have:z1d (ss[k]).size=true:=by rw[z1d,decide_eq_true]; omega
       rw[this] at hw;cases hw
      have HF:=hid hf;clear hf
      go_wp2_with (go_at_call 48; refine (z2w _ _ hsz).mono ?_; rintro e w' ⟨rfl,rfl⟩)
      go_ret;exact ⟨z0j HF.out.symm,rfl⟩
    · have hw8:(ss[k]).size%8=0∧(ss[k]).size≤1600:=by simpa [z1d] using hw
      obtain ⟨hm,hle⟩:=hw8;have hA':=zi0 hk1 HA.out hm;have HA':=hid hA';have htt:=z8b ss k hk1
      have hT':tot (ss.take (k+1))≤1600*(k+1):=by omega
      have HT':=hid hT';have HTT:=hid htt;clear hA' htt hm hT'
      go_wp2_with (go_at_call 48; refine (z2w _ _ hsz).mono ?_; rintro e w' ⟨rfl,rfl⟩)
      go_round
      case rel=>exact ⟨k+1,by omega,by go_num,by rw[HTT.out]; go_num,HT'.out,HA'.out⟩
      case measure=>simp[intOf]; omega
  · obtain rfl:k=ss.length:=by omega
    have hall:ss.all (fun s=>decide (s.size%8=0))=true:=by have:=HA.out; rwa [List.take_of_length_le (Nat.le_refl _)] at this
    have hfin:frOk ss=decide ((tot ss:Int)≤1600):=by
     rw[frOk,hall,Bool.true_and,decide_eq_true (show 1≤ss.length∧ss.length≤6 by omega),Bool.true_and,Bool.eq_iff_iff]
     simp
     omega
    have HF:=hid hfin;clear hall hfin;go_wp2;go_ret;refine ⟨z0j ?_,rfl⟩;rw[HF.out]
open Go.RowKit Go.Deep
theorem ztd (T:TypeId)(x:Value)(w:World):Calls Tryz.prog 46 #[.nilIface,.iface T x] w fun e w'=>e= .returned (.bool false)∧Below w.heap.size w w':=by
 go_enter Tryz.func46,Tryz.ntmps46;go_wp2;go_ret;exact ⟨rfl,by repeat (first | exact Below.refl _ _ | refine Below.alloc ?_ (by simp) _)⟩
theorem zk8:∀(zs:List ByteArray) (s:ByteArray),s∈zs→s.size≤tot zs
 | [],_,h=>by cases h
 | z :: t,s,h=>by
   have e:tot (z :: t)=z.size+tot t:=by unfold tot; rw[List.map_cons,List.sum_cons]
   rcases List.mem_cons.1 h with rfl | h
   · omega
   · have:=zk8 t s h; omega
def ReadQ (n:Nd)(w:World)(e:Ending)(w':World):Prop:=∃h:Hd,e= .returned (.tuple #[.agg #[.int .i64 n.kind,.string n.data,.slice h.A n.ptrs.length h.a,.int .i64 n.size,.int .i64 n.count,.slice h.B n.items.length h.b],.int .i64 0])∧NdAt w' (From w.heap.size) 16 n h∧Below w.heap.size w w'
theorem zip (A:Option Addr)(cap:Nat)(zs:List ByteArray)(limit:Int)(w:World)(n:Nd)(h:Strs w A zs)(hok:frOk zs=true)(hl0:0≤limit)(hl1:limit≤1000)(hn:okN 8 n=true)(hwn:z03 8 n≤199)(hrep:RepN (sgz zs) 8 n 0 0)(hc:(costN 8 n:Int)≤limit) :
 Calls Tryz.prog 15 #[.slice A zs.length cap,.int .i64 limit] w (ReadQ n w):=by
 have hfo:=hok;unfold frOk at hfo;rw[Bool.and_eq_true,Bool.and_eq_true,decide_eq_true_eq,List.all_eq_true,decide_eq_true_eq] at hfo;obtain ⟨f1,f2,f3⟩:=hfo
 have hsm:∀s∈zs,s.size≤1600∧s.size%8=0:=fun s hs=>⟨Nat.le_trans (zk8 zs s hs) f3,by have:=f2 s hs; simpa using this⟩
 have h0:0<zs.length:=by omega
 have hle:=hrep.le;rw[z7q h0,z0l] at hle
 have HFO:Hid (∀W:World,Below w.heap.size w W→Calls Tryz.prog 17 #[.slice A zs.length cap] W fun e w'=>e= .returned (.bool true)∧W=w'):=hid fun W hW=>by
  have:=z3t A cap zs W (h.below hW) (by omega)
  rwa [hok] at this
 have HWI:Hid (∀W:World,Calls Tryz.prog 43 #[.int .i64 limit,.int .i64 1001] W fun e w'=>e= .returned (.bool true)∧W=w'):=hid fun W=>by
  have:=z0v limit 1001 W
  rwa [show wiB limit 1001=true by simp[wiB]; omega] at this
 have hb0:=((Below.refl w.heap.size w).alloc (Nat.le_refl _) (.cells #[.int .i64 0,.string { data:= #[] },.slice none 0 0,.int .i64 0,.int .i64 0,.slice none 0 0] nodeT)).alloc (by simp) (.cells #[.slice A zs.length cap,.int .i64 limit] rdrT);have hr1:((w.alloc (.cells #[.int .i64 0,.string { data:= #[] },.slice none 0 0,.int .i64 0,.int .i64 0,.slice none 0 0] nodeT)).alloc (.cells #[.slice A zs.length cap,.int .i64 limit] rdrT)).heap[w.heap.size+1]? =some (.cells #[.slice A zs.length cap,.int .i64 limit] rdrT (0,0)):=heap_alloc2_new w _ _;have hr0:((w.alloc (.cells #[.int .i64 0,.string { data:= #[] },.slice none 0 0,.int .i64 0,.int .i64 0,.slice none 0 0] nodeT)).alloc (.cells #[.slice A zs.length cap,.int .i64 limit] rdrT)).heap[w.heap.size]? =some (.cells #[.int .i64 0,.string { data:= #[] },.slice none 0 0,.int .i64 0,.int .i64 0,.slice none 0 0] nodeT (0,0)):=heap_alloc2_old w _ _
 have hrdr:Rdr ((w.alloc (.cells #[.int .i64 0,.string { data:= #[] },.slice none 0 0,.int .i64 0,.int .i64 0,.slice none 0 0] nodeT)).alloc (.cells #[.slice A zs.length cap,.int .i64 limit] rdrT)) (w.heap.size+1) A cap zs limit:=⟨hr1,h.below hb0,fun a ha=>by
  rcases h.2 with e | ⟨a',ha',hlt,_⟩
  · rw[e] at h0; cases h0
  · rw[ha] at ha'; injection ha' with ha'; subst ha'; omega,f1.2,hsm⟩
 have HRD:=hid hrdr;have HB0:=hid hb0;have R0:=hid hr0
 have HHA:Hid (∀W:World,Rdr W (w.heap.size+1) A cap zs limit→Calls Tryz.prog 44 #[.pointer (some ⟨w.heap.size+1,0,none⟩),plV 0 0,.int .i64 1] W fun e w'=>e= .returned (.bool true)∧Below W.heap.size W w'):=hid fun W h1=>has_a h1 0 0 1 h0 (by omega)
 have HPD:=hid (ze2 (w.heap.size+1) 1)
 have HCL:Hid (∀(W:World) (x y:Nat),Rdr W (w.heap.size+1) A cap zs limit→W.heap[x]? =some (.cells #[.pointer (some ⟨w.heap.size+1,0,none⟩)] 64 (0,0))→W.heap[y]? =some (.cells #[.int .i64 1] 3 (0,0))→Calls Tryz.prog 84 #[plV 0 0,.pointer (some ⟨x,0,none⟩),.pointer (some ⟨y,0,none⟩)] W (NdQ 16 (w.heap.size+1) A cap zs (limit-(costN 8 n:Nat)) n W)):=hid fun W x y h1 h2 h3=>zlh 8 (by decide) n 0 0 limit W x y hn hwn hrep hc hl1 h1 ⟨h2,h3⟩
 have HAS:=hid ztd;clear h hok hl0 hl1 hn hwn hrep hc f1 f2 f3 hsm h0 hle hb0 hr1 hr0 hrdr;generalize limit-(costN 8 n:Nat)=L2 at *;have hba1:=(Below.refl w.heap.size w).alloc (Nat.le_refl _) (.cells #[.int .i64 0,.string { data:= #[] },.slice none 0 0,.int .i64 0,.int .i64 0,.slice none 0 0] nodeT);go_enter Tryz.func15,Tryz.ntmps15
 go_wp2_with (first | (go_at_call 17; (with_reducible refine (HFO.out _ hba1).mono ?_); rintro e w1 ⟨rfl,rfl⟩) | (go_at_call 43; (with_reducible refine (HWI.out _).mono ?_); rintro e w1 ⟨rfl,rfl⟩) | fail)
 generalize ((w.alloc (.cells #[.int .i64 0,.string { data:= #[] },.slice none 0 0,.int .i64 0,.int .i64 0,.slice none 0 0] nodeT)).alloc (.cells #[.slice A zs.length cap,.int .i64 limit] rdrT))=W at *;refine (HHA.out _ HRD.out).mono ?_;rintro e w2 ⟨rfl,hb2⟩;have HR2:=hid (HRD.out.below hb2);have HB2:=hid (HB0.out.trans (hb2.mono HB0.out.size));have q0:=(hb2.block _ (z00 R0.out)).trans R0.out;have Q0:=hid q0;clear q0 hb2 hba1 HRD HB0 R0
 go_wp2_with fail
 refine (HPD.out _).mono ?_;rintro e w3 ⟨rfl,hb3,hv1,hv2⟩;have HC3:=hid (HCL.out w3 _ _ (HR2.out.below hb3) hv1 hv2);have HB3:=hid (HB2.out.trans (hb3.mono HB2.out.size));have q0:=(hb3.block _ (z00 Q0.out)).trans Q0.out;have Q3:=hid q0;have HS3:Hid (w.heap.size+1<w3.heap.size):=hid (Nat.lt_of_lt_of_le HR2.out.lt hb3.size);clear q0 hb3 hv1 hv2 HR2 HB2 Q0;unfold NdQ at HC3
 go_wp2_with fail
 refine HC3.out.mono ?_;rintro e w4 ⟨hy,rfl,hny,hrd4,hk4⟩;have hba:=((Below.refl w4.heap.size w4).alloc (Nat.le_refl _) (.cells #[.int .i64 n.kind,.string n.data,.slice hy.A n.ptrs.length hy.a,.int .i64 n.size,.int .i64 n.count,.slice hy.B n.items.length hy.b] nodeT)).alloc (by simp) (.cells #[.int .i64 0] 75);have y0:=heap_alloc2_old w4 (.cells #[.int .i64 n.kind,.string n.data,.slice hy.A n.ptrs.length hy.a,.int .i64 n.size,.int .i64 n.count,.slice hy.B n.items.length hy.b] nodeT) (.cells #[.int .i64 0] 75);have Y0:=hid y0;have q4:=(hba.block _ (by have:=hk4.size; have:=z00 Q3.out; omega)).trans ((hk4.block _ (z00 Q3.out) (by omega)).trans Q3.out);have Q4:=hid q4;have HN4:=hid (hny.below hba);have HB4:Hid (Below w.heap.size w4 ((w4.alloc (.cells #[.int .i64 n.kind,.string n.data,.slice hy.A n.ptrs.length hy.a,.int .i64 n.size,.int .i64 n.count,.slice hy.B n.items.length hy.b] nodeT)).alloc (.cells #[.int .i64 0] 75))):=hid (hba.mono (by have:=hk4.size; have:=HS3.out; omega));have HK4:Hid (Below w.heap.size w3 w4):=hid (hk4.below (by have:=HS3.out; omega) (by omega));clear hny hrd4 hk4 hba y0 q4 HC3
 go_wp2_with fail
 generalize (w4.alloc (.cells #[.int .i64 n.kind,.string n.data,.slice hy.A n.ptrs.length hy.a,.int .i64 n.size,.int .i64 n.count,.slice hy.B n.items.length hy.b] nodeT)).alloc (.cells #[.int .i64 0] 75)=W5 at *;refine (HAS.out _ _ _).mono ?_;rintro e w6 ⟨rfl,hb6⟩;have y6:=(hb6.block _ (z00 Y0.out)).trans Y0.out;have q6:=(hb6.block _ (z00 Q4.out)).trans Q4.out;have Q6:=hid q6;have HN6:=hid (HN4.out.below hb6)
 have hs5:w.heap.size≤W5.heap.size:=by have:=z00 Q4.out; omega
 have HB6:=hid (((HB3.out.trans HK4.out).trans HB4.out).trans (hb6.mono hs5));obtain ⟨m0,m1,m2,m3,m4,m5⟩:=z01 y6;obtain ⟨c0,c1,c2,c3,c4,c5⟩:=z01 q6;have hfz:=z02 q6;clear y6 q6 hb6 hs5;go_wp2;obtain ⟨wf,hwf,hrw,hkf⟩:=z7i Q6.out (.int .i64 n.kind) (.string n.data) (.slice hy.A n.ptrs.length hy.a) (.int .i64 n.size) (.int .i64 n.count) (.slice hy.B n.items.length hy.b);rw[hwf];obtain ⟨e0,e1,e2,e3,e4,e5⟩:=z01 hrw;have hbf:Below w.heap.size w6 wf:=hkf.below (by have:=HB6.out.size; omega) (by omega);exact bodyPost_ret (v:= .tuple #[.agg #[.int .i64 n.kind,.string n.data,.slice hy.A n.ptrs.length hy.a,.int .i64 n.size,.int .i64 n.count,.slice hy.B n.items.length hy.b],.int .i64 0]) (by simp[results,Tryz.results15,go_sem,e0,e1,e2,e3,e4,e5]) rfl ⟨hy,rfl,(HN6.out.keepsR hkf (fun k (hk:w3.heap.size≤k)=>by have:=HS3.out; omega)).weak (fun k (hk:w3.heap.size≤k)=>by have:=HS3.out; show w.heap.size≤k; omega),HB6.out.trans hbf⟩
end Go.Proofs.YtlbfffokkhccaaaGreatDoor
namespace Go.Proofs.YtlbfffokkhccaaaGreatDoor
open Go.RowKit
theorem zqm:(Tryz.prog.info? 119).map (·.size)=some 2:=by kernel_rfl
theorem zma:(Tryz.prog.info? 5).map (fun i=>(i.zero,i.size,i.bytes))=some (some (.int .u8 0),1,1):=by kernel_rfl
theorem zou:Tryz.prog.cellsOf 5=1:=by kernel_rfl
def LiesB (T:TypeId)(m:Nat):Prop:=T≠5∧liesAt Tryz.prog Tryz.prog.depth T ((m+2)/Tryz.prog.cellsOf T) 0 119 1=true
def fcs (p v:Value)(rest:List Value):Array Value:=(p :: v :: rest).toArray
theorem fcs_0 {w:World}{b:Nat}{p v:Value}{rest:List Value}{T:TypeId}(h:w.heap[b]? =some (.cells (fcs p v rest) T (0,0))):w.cell? ⟨b,0,none⟩=some p:=by
 rw[cell_of_row _ _ _ _ _ _ h]; rfl
theorem fcs_1 {w:World}{b:Nat}{p v:Value}{rest:List Value}{T:TypeId}(h:w.heap[b]? =some (.cells (fcs p v rest) T (0,0))):w.cell? ⟨b,1,none⟩=some v:=by
 rw[cell_of_row _ _ _ _ _ _ h]; rfl
theorem fcs_2 {w:World}{b i:Nat}{p v:Value}{rest:List Value}{T:TypeId}(h:w.heap[b]? =some (.cells (fcs p v rest) T (0,0))):w.cell? ⟨b,i+2,none⟩=rest[i]? :=by
 rw[cell_of_row _ _ _ _ _ _ h]; simp[fcs]
theorem zst {w:World}{b:Nat}{p v q:Value}{rest:List Value}{T:TypeId}(h:w.heap[b]? =some (.cells (fcs p v rest) T (0,0))):(w.setCell ⟨b,0,none⟩ q).heap[b]? =some (.cells (fcs q v rest) T (0,0)):=by
 simp[World.setCell,Array.getElem?_modify,h,fcs]
theorem zsp {w:World}{b:Nat}{p v q:Value}{rest:List Value}{T:TypeId}(h:w.heap[b]? =some (.cells (fcs p v rest) T (0,0))):(w.setCell ⟨b,1,none⟩ q).heap[b]? =some (.cells (fcs p q rest) T (0,0)):=by
 simp[World.setCell,Array.getElem?_modify,h,fcs]
theorem zt4 {w:World}{b i:Nat}{p v q:Value}{rest:List Value}{T:TypeId}(h:w.heap[b]? =some (.cells (fcs p v rest) T (0,0))):(w.setCell ⟨b,i+2,none⟩ q).heap[b]? =some (.cells (fcs p v (rest.set i q)) T (0,0)):=by
 simp[World.setCell,Array.getElem?_modify,h,fcs]
theorem z77 (w:World)(b i:Nat)(u:Value):w.grownBy (w.setCell ⟨b,i,none⟩ u) (some b) :=
 ⟨rfl,rfl,rfl,by simp[World.setCell],fun k _ hk=>Below.heap_setCell w ⟨b,i,none⟩ u k (fun e=>hk (by rw[e]))⟩
def BF (T:TypeId)(B b:Nat)(bs:List Value)(rest:List Value)(w:World):Prop :=
 ∃p v,(p= .pointer none∨p= .pointer (some ⟨b,0,none⟩))∧w.heap[b]? =some (.cells (fcs p v rest) T (0,0))∧w.ownsRow B 5 1 v bs.length bs
theorem BF.fresh {w:World}{T:TypeId}{b:Nat}{rest:List Value}(B:Nat)(h:w.heap[b]? =some (.cells (fcs (.pointer none) (.slice none 0 0) rest) T (0,0))):BF T B b [] rest w :=
 ⟨_,_,.inl rfl,h,World.ownsRow_nil _ _ _ _⟩
theorem BF.below {T:TypeId}{B b:Nat}{bs rest:List Value}{w w':World}(h:BF T B b bs rest w)(hb:Below w.heap.size w w'):BF T B b bs rest w':=by
 obtain ⟨p,v,hp,hr,hown⟩:=h;exact ⟨p,v,hp,(hb.block b (z00 hr)).trans hr,hown.kept (row:=none) ⟨hb.os,hb.tape,hb.output,hb.size,fun k hk _=>hb.block k hk⟩ (Classical.em _)⟩
theorem BF.lt {T:TypeId}{B b:Nat}{bs rest:List Value}{w:World}(h:BF T B b bs rest w):b<w.heap.size:=by
 obtain ⟨p,v,hp,hr,hown⟩:=h;exact z00 hr
theorem BF.cell {T:TypeId}{B b:Nat}{bs rest:List Value}{w:World}(h:BF T B b bs rest w)(i:Nat):w.cell? ⟨b,i+2,none⟩=rest[i]? :=by
 obtain ⟨p,v,hp,hr,hown⟩:=h;exact fcs_2 hr
theorem BF.frozen {T:TypeId}{B b:Nat}{bs rest:List Value}{w:World}(h:BF T B b bs rest w)(i:Nat):w.frozen? ⟨b,i,none⟩=false:=by
 obtain ⟨p,v,hp,hr,hown⟩:=h;exact z02 hr i
theorem BF.set {T:TypeId}{B b:Nat}{bs rest:List Value}{w:World}(hT:T≠5)(h:BF T B b bs rest w)(i:Nat)(q:Value):BF T B b bs (rest.set i q) (w.setCell ⟨b,i+2,none⟩ q):=by
 obtain ⟨p,v,hp,hr,hown⟩:=h;exact ⟨p,v,hp,zt4 hr,hown.kept (z77 w b (i+2) q) (.inr (Lib.ownBlock_ne hown hr hT))⟩
theorem z9y (b:Nat)(w:World)(h0:w.cell? ⟨b,0,none⟩=some (.pointer (some ⟨b,0,none⟩))) :
 Calls Tryz.prog 121 #[.pointer (some ⟨b,0,none⟩)] w fun e w'=>e= .returned (.tuple #[])∧w'=w:=by
 obtain ⟨j,hj,_⟩:=Option.map_eq_some_iff.1 zqm;have hne:=Lib.run_neq_ptr_same (P:=Tryz.prog) w (tp:=117) (te:=119) ⟨b,0,none⟩ Tryz.underlying117 hj;go_enter Tryz.func121,Tryz.ntmps121;go_wp2
 go_end0
 exact ⟨rfl,rfl⟩
theorem z82 (T:TypeId)(m b:Nat)(w:World)(hT:LiesB T m)(h0:w.cell? ⟨b,0,none⟩=some (.pointer none))(hsh:w.shape? b=some (T,m+2))(hfz:w.frozen? ⟨b,0,none⟩=false) :
 Calls Tryz.prog 121 #[.pointer (some ⟨b,0,none⟩)] w fun e w'=>e= .returned (.tuple #[])∧w'=w.setCell ⟨b,0,none⟩ (.pointer (some ⟨b,0,none⟩)):=by
 obtain ⟨j,hj,hjs⟩:=Option.map_eq_some_iff.1 zqm;have hto:=Lib.run_to_unsafe (P:=Tryz.prog) w (src:=117) (dst:=134) (t:=119) ⟨b,0,none⟩ Tryz.underlying117 Tryz.underlying134 hj (by rw[hjs]; decide) hsh (Nat.zero_lt_succ _);have hfrom:=Lib.run_from_unsafe (P:=Tryz.prog) w (src:=134) (dst:=117) (u:=119) ⟨b,0,none⟩ Tryz.underlying134 Tryz.underlying117 hj hsh hT.2
 have hesc:(callFunc 161 #[.pointer (some ⟨b,0,none⟩)]).run Tryz.prog w= .ok (.value (.pointer (some ⟨b,0,none⟩))) w:=by
  rw[run_callFunc_extern Tryz.func161 (by kernel_rfl) (by kernel_rfl) (by kernel_rfl) (e:=Extern.AbiNoEscape.same) (by kernel_rfl),Lib.run_noEscape]
  rfl
 clear hT;go_enter Tryz.func121,Tryz.ntmps121;go_wp2
 go_end0
 exact ⟨rfl,rfl⟩
def Oth (b:Nat)(w w':World):Prop:=∀c cs T fr,c≠b→T≠5→w.heap[c]? =some (.cells cs T fr)→w'.heap[c]? =some (.cells cs T fr)
def BSelf (T:TypeId)(B b:Nat)(v:Value)(bs rest:List Value)(w0 w:World):Prop :=
 w.heap[b]? =some (.cells (fcs (.pointer (some ⟨b,0,none⟩)) v rest) T (0,0))∧w.ownsRow B 5 1 v bs.length bs∧Keeps B b w0 w∧w.heap.size=w0.heap.size∧∀c,c≠b→w.heap[c]? =w0.heap[c]?
theorem z60 (T:TypeId)(B b:Nat)(bs rest:List Value)(w:World)(hT:LiesB T rest.length)(h:BF T B b bs rest w) :
 ∃v,Calls Tryz.prog 121 #[.pointer (some ⟨b,0,none⟩)] w fun e w'=>e= .returned (.tuple #[])∧BSelf T B b v bs rest w w':=by
 obtain ⟨p,v,hp,hb,hown⟩:=h;have hne:=Lib.ownBlock_ne hown hb hT.1;have c0:=fcs_0 hb
 rcases hp with rfl | rfl
 · refine ⟨v,(z82 T rest.length b w hT c0 (by simp[World.shape?,hb,fcs]) (z02 hb 0)).mono ?_⟩
   rintro e w' ⟨rfl,rfl⟩;exact ⟨rfl,zst hb,hown.kept (z77 w b 0 _) (.inr hne),z0p B b w 0 _,by simp[World.setCell],fun c hc=>Below.heap_setCell w ⟨b,0,none⟩ _ c hc⟩
 · refine ⟨v,(z9y b w c0).mono ?_⟩
   rintro e w' ⟨rfl,rfl⟩;exact ⟨rfl,hb,hown,Keeps.refl _ _ _,rfl,fun _ _=>rfl⟩
theorem BSelf.put {T:TypeId}{B b:Nat}{bs rest new:List Value}{v v':Value}{w0 w1 w2:World}(hT:T≠5)(h:BSelf T B b v bs rest w0 w1){wx:World}(hx:Keeps w1.heap.size w1.heap.size w1 wx)(hg:wx.grownBy w2 v.ownBlock)(hown:w2.ownsRow B 5 1 v' (bs++new).length (bs++new)) :
 w2.heap[b]? =some (.cells (fcs (.pointer (some ⟨b,0,none⟩)) v rest) T (0,0))∧BF T B b (bs++new) rest (w2.setCell ⟨b,1,none⟩ v')∧(B≤w1.heap.size→Keeps B b w0 (w2.setCell ⟨b,1,none⟩ v'))∧Oth b w0 (w2.setCell ⟨b,1,none⟩ v'):=by
 obtain ⟨hb,ho,hk,_,hoth⟩:=h;have hne:=Lib.ownBlock_ne ho hb hT;have hlt:b<w1.heap.size:=z00 hb
 have h2:w2.heap[b]? =some (.cells (fcs (.pointer (some ⟨b,0,none⟩)) v rest) T (0,0)) :=
  (hg.block b (Nat.lt_of_lt_of_le hlt hx.size) (Ne.symm hne)).trans ((hx.block b hlt (by omega)).trans hb)
 have hne2:=Lib.ownBlock_ne hown h2 hT;refine ⟨h2,⟨_,_,.inr rfl,zsp h2,hown.kept (z77 w2 b 1 _) (.inr hne2)⟩,fun hB=>hk.trans ?_,fun c cs T' fr hc hT' hh=>?_⟩
 rotate_left
 · have h1:w1.heap[c]? =some (.cells cs T' fr):=(hoth c hc).trans hh
   have hl1:=z00 h1;have hne3:=Lib.ownBlock_ne ho h1 hT';rw[Below.heap_setCell w2 ⟨b,1,none⟩ _ c hc];exact (hg.block c (Nat.lt_of_lt_of_le hl1 hx.size) (Ne.symm hne3)).trans ((hx.block c hl1 (by omega)).trans h1)
 refine Keeps.trans (c:=w2) ⟨hg.os.trans hx.os,hg.tape.trans hx.tape,hg.output.trans hx.output,Nat.le_trans hx.size hg.size,fun k hk' hn=>?_⟩ (z0p B b w2 1 _);refine (hg.block k (Nat.lt_of_lt_of_le (Nat.lt_of_lt_of_le hk' hB) hx.size) (fun e=>?_)).trans (hx.block k (by omega) (by omega));have:=(ho.lt k e.symm).1;omega
theorem zeo (w:World)(x:Obj):Keeps w.heap.size w.heap.size w (w.alloc x):=Keeps.of_below ((Below.refl _ w).alloc (Nat.le_refl _) x)
theorem zk6 {w:World}{B e n:Nat}{v:Value}{xs:List Value}(h:w.ownsRow B e 1 v (n+1) xs):∃g cap,v= .slice (some ⟨g,0,none⟩) (n+1) cap :=
 h.2.elim (fun h0=>absurd h0.2 (by omega)) (fun ⟨g,cap,_,hv,_⟩=>⟨g,cap,hv⟩)
theorem zhc {w:World}{B e n:Nat}{v:Value}{xs:List Value}(h:w.ownsRow B e 1 v n xs):∃A cap,v= .slice A n cap:=by
 rcases h.2 with ⟨rfl,rfl⟩ | ⟨g,cap,_,rfl,_⟩
 · exact ⟨none,0,rfl⟩
 · exact ⟨_,cap,rfl⟩
theorem z3m (T:TypeId)(B b:Nat)(bs rest:List Value)(c:Int)(w:World)(hT:LiesB T rest.length)(h:BF T B b bs rest w)(hlen:bs.length≤1099511627776)(hBw:B≤w.heap.size) :
 Calls Tryz.prog 140 #[.pointer (some ⟨b,0,none⟩),.int .u8 c] w fun e w'=>e= .returned .nilIface∧(BF T B b (bs++ [.int .u8 c]) rest w'∧Keeps B b w w'∧Oth b w w'):=by
 obtain ⟨i0,hi,hz0,hz1,hz2⟩:=info_parts zma;obtain ⟨v,hcc⟩:=z60 T B b bs rest w hT h;have HC:=hid hcc;have HT:=hid hT.1;clear hcc h hT;go_enter Tryz.func140,Tryz.ntmps140
 go_wp2_with (first | (go_at_call 121; refine HC.out.mono ?_; rintro e w1 ⟨rfl,hS⟩; have hT:=hid hS; have hsz:=Nat.le_trans hBw (Nat.le_of_eq hS.2.2.2.1.symm); have c1:=fcs_1 hS.1; clear hS) | (at_builtin; refine wpList_append_own _ rfl _ _ 22 rfl B 5 i0 (.int .u8 0) 1 1 Tryz.underlying22 hi hz0 hz1 hz2 rfl (by decide) v _ _ rfl (hT.out.2.1.alloc _) ⟨w1.heap.size,0,none⟩ 1 1 [.int .u8 c] rfl rfl (cell_one_new _ _ _) (by simp[Value.oneCell']) (by unfold maxLen; omega) (by omega) (by simp; omega) ?_; intro v' w2 hown' hgrow _; obtain ⟨h2,hU,hKp,hOt⟩:=hT.out.put HT.out (new:= [.int .u8 c]) (zeo w1 _) hgrow (by rw[List.length_append]; exact hown'); have d1:=fcs_1 h2; have f1:=z02 h2 1; obtain ⟨g,cap,rfl⟩:=zk6 hown'; clear h2 hgrow))
 go_ret;exact ⟨rfl,hU,hKp hsz,hOt⟩
theorem z42 (T:TypeId)(B b:Nat)(bs rest:List Value)(c:Int)(w:World)(hT:LiesB T rest.length)(h:BF T B b bs rest w)(hlen:bs.length≤1099511627776)(hBw:B≤w.heap.size) :
 Calls Tryz.prog 140 #[.pointer (some ⟨b,0,none⟩),.int .u8 c] w fun e w'=>e= .returned .nilIface∧(BF T B b (bs++ [.int .u8 c]) rest w'∧Keeps B b w w') :=
 (z3m T B b bs rest c w hT h hlen hBw).mono fun _ _ ⟨h1,h2,h3,_⟩=>⟨h1,h2,h3⟩
theorem z4u (T:TypeId)(B b:Nat)(bs rest:List Value)(s:ByteArray)(w:World)(hTT:LiesB T rest.length)(h:BF T B b bs rest w)(hlen:bs.length≤1099511627776)(hs:s.size≤1099511627776)(hBw:B≤w.heap.size) :
 Calls Tryz.prog 75 #[.pointer (some ⟨b,0,none⟩),.string s] w fun e w'=>e= .returned (.tuple #[.int .i64 s.size,.nilIface])∧(BF T B b (bs++Lib.strCells s) rest w'∧Keeps B b w w'):=by
 obtain ⟨i0,hi,hz0,hz1,hz2⟩:=info_parts zma;obtain ⟨v,hcc⟩:=z60 T B b bs rest w hTT h;have HC:=hid hcc;have HT:=hid hTT.1;clear hcc h hTT;have hsl:=Lib.strCells_length s;have HSL:=hid hsl;clear hsl;go_enter Tryz.func75,Tryz.ntmps75
 go_wp2_with (first | (go_at_call 121; refine HC.out.mono ?_; rintro e w1 ⟨rfl,hS⟩; have hT:=hid hS; have hsz:=Nat.le_trans hBw (Nat.le_of_eq hS.2.2.2.1.symm); have c1:=fcs_1 hS.1; clear hS) | (at_builtin; go_must (refine Lib.wpList_append_own_string _ rfl (.tmp 12) (.tmp 13) 22 9 rfl B 5 i0 Tryz.underlying22 Tryz.underlying9 hi hz0 hz1 hz2 v _ _ rfl hT.out.2.1 s rfl (by unfold maxLen; omega) (by omega) hsz ?_); intro v' w2 hown' hgrow _; obtain ⟨h2,hU,hKp,_⟩:=hT.out.put HT.out (new:=Lib.strCells s) (Keeps.refl _ _ _) hgrow (by rw[List.length_append,HSL.out]; exact hown'); have d1:=fcs_1 h2; have f1:=z02 h2 1; obtain ⟨g,cap,rfl⟩:=zhc hown'; clear h2 hgrow))
 go_ret2
 exact ⟨rfl,hU,hKp hsz⟩
theorem zgj (T:TypeId)(B b:Nat)(bs rest:List Value)(w:World)(h:BF T B b bs rest w) :
 Calls Tryz.prog 93 #[.pointer (some ⟨b,0,none⟩)] w fun e w'=>e= .returned (.int .i64 bs.length)∧w=w':=by
 obtain ⟨p,v,hp,hb,hown⟩:=h;obtain ⟨g,cap,rfl⟩:=zhc hown;have c1:=fcs_1 hb;clear hb hown hp;go_enter Tryz.func93,Tryz.ntmps93;go_wp2;go_ret;exact ⟨rfl,rfl⟩
theorem z8z (T:TypeId)(B b:Nat)(l:List UInt8)(rest:List Value)(w:World)(h:BF T B b (Lib.byteCells l) rest w)(hBw:B≤w.heap.size) :
 Calls Tryz.prog 76 #[.pointer (some ⟨b,0,none⟩)] w fun e w'=>e= .returned (.string ⟨l.toArray⟩)∧Below B w w':=by
 obtain ⟨p,v,hp,hbk,hown⟩:=h;have c1:w.drew.cell? ⟨b,1,none⟩=some v:=fcs_1 (w:=w.drew) hbk;have hlt:=z00 hbk;rw[Lib.byteCells_length] at hown;clear hp
 by_cases h0:l= []
 · subst h0
   have hUS:=fun (W:World) (q:Option Addr)=>Lib.run_unsafeString_none (P:=Tryz.prog) W 188 3 9 q
   rcases hown.2 with ⟨rfl,_⟩ | ⟨g,cap,cur,rfl,hbg,hg,hnc,hcm,hcs,htake⟩
   · have hSD:(Builtin.unsafeSliceData_ #[22] 188 #[.slice none 0 0]).run Tryz.prog w.drew= .ok (.pointer none) w.drew:=rfl
     clear hbk hown;go_enter Tryz.func76,Tryz.ntmps76;go_wp2
     go_region
     all_goals (go_wp2; go_ret; exact ⟨rfl,Below.drew (Below.refl B w)⟩)
   · by_cases hc0:cap=0
     · subst hc0
       have hSD:(Builtin.unsafeSliceData_ #[22] 188 #[.slice (some ⟨g,0,none⟩) 0 0]).run Tryz.prog w.drew= .ok (.pointer (some ⟨w.drew.heap.size,0,none⟩)) (w.drew.alloc (.view ⟨g,0,none⟩ 5)) :=
        Lib.run_unsafeSliceData_zero w.drew _ _ 5 Tryz.underlying188 ⟨g,0,none⟩ 0 (5,cur.size) (by have hg':w.drew.heap[g]? =some (.cells cur 5 (0,0)):=hg; simp[World.shape?,hg'])
       have c2:(w.drew.alloc (.view ⟨g,0,none⟩ 5)).cell? ⟨b,1,none⟩=some (.slice (some ⟨g,0,none⟩) 0 0):=fcs_1 (w:=w.drew.alloc (.view ⟨g,0,none⟩ 5)) ((Lib.alloc_old w.drew _ b hlt).trans hbk);have c3:(w.alloc (.view ⟨g,0,none⟩ 5)).drew.cell? ⟨b,1,none⟩=some (.slice (some ⟨g,0,none⟩) 0 0):=c2;have c0:w.cell? ⟨b,1,none⟩=some (.slice (some ⟨g,0,none⟩) 0 0):=c1;clear hbk hown;go_enter Tryz.func76,Tryz.ntmps76;go_wp2
       go_region
       all_goals (go_wp2; go_ret; exact ⟨rfl,(Below.drew (Below.refl B w)).alloc hBw _⟩)
     · have hSD:(Builtin.unsafeSliceData_ #[22] 188 #[.slice (some ⟨g,0,none⟩) 0 cap]).run Tryz.prog w.drew= .ok (.pointer (some ⟨g,0,none⟩)) w.drew :=
        Lib.run_unsafeSliceData_row _ _ _ _ _ _ hc0
       clear hc0 hbk hown hnc hcm hcs;go_enter Tryz.func76,Tryz.ntmps76;go_wp2
       go_region
       all_goals (go_wp2; go_ret; exact ⟨rfl,Below.drew (Below.refl B w)⟩)
 · have hl0:l.length≠0:=by simpa using h0
   obtain ⟨g,cap,cur,rfl,hbg,hg,hnc,hcm,hcs,htake⟩:∃g cap cur,v= .slice (some ⟨g,0,none⟩) l.length cap∧B≤g∧w.heap[g]? =some (.cells cur 5 (0,0))∧l.length≤cap∧cap≤maxLen∧cur.size=cap*1∧cur.toList.take (l.length*1)=Lib.byteCells l:=by
    rcases hown.2 with ⟨_,hz⟩ | ⟨g,cap,cur,hv,r⟩
    · exact absurd hz hl0
    · exact ⟨g,cap,cur,hv,r⟩
   have hSD:(Builtin.unsafeSliceData_ #[22] 188 #[.slice (some ⟨g,0,none⟩) l.length cap]).run Tryz.prog w.drew= .ok (.pointer (some ⟨g,0,none⟩)) w.drew :=
    Lib.run_unsafeSliceData_row _ _ _ _ _ _ (by omega)
   have hUS:(Builtin.unsafeString_ #[188,3] 9 #[.pointer (some ⟨g,0,none⟩),.int .i64 l.length]).run Tryz.prog w.drew= .ok (.string ⟨l.toArray⟩) (w.drew.freeze ⟨g,0,none⟩ l.length):=by
    refine Lib.run_unsafeString_row w.drew 188 3 9 5 Tryz.underlying188 zou g cur.size (by have hg':w.drew.heap[g]? =some (.cells cur 5 (0,0)):=hg; simp[World.shape?,hg']) l h0 (by omega) (by unfold maxLen at hcm; omega) ?_
    intro j x hx
    have:=hown.cells (g:=g) rfl j (.int .u8 x.toNat) (by simp[Lib.byteCells,hx]);exact this
   go_enter Tryz.func76,Tryz.ntmps76;go_wp2
   go_region
   all_goals (go_wp2; go_ret; exact ⟨rfl,Lib.below_freeze (Below.drew (Below.refl B w)) (p:=⟨g,0,none⟩) hbg _⟩)
end Go.Proofs.YtlbfffokkhccaaaGreatDoor
namespace Go.Proofs.YtlbfffokkhccaaaGreatDoor
def zerL (l:List UInt8):Bool:=l.all (· ==0)
def fullL (l:List UInt8):Bool:=l.all (· != 0)
def fewL (l:List UInt8):Bool:=decide ((l.filter (· ==0)).length≤1)
def maskN:List UInt8→Nat
 | []=>0
 | b :: r=>(if b=0 then 0 else 1)+2*maskN r
def nzL (l:List UInt8):List UInt8:=l.filter (· != 0)
def runN (p:List UInt8→Bool)(r:List (List UInt8)):Nat:=((r.take 255).takeWhile p).length
theorem z5c (p)(r:List (List UInt8)):runN p r≤r.length∧runN p r≤255:=by
 have h:=(List.takeWhile_sublist p (l:=r.take 255)).length_le;rw[List.length_take] at h;unfold runN;omega
theorem z4w (p:List UInt8→Bool):∀(l:List (List UInt8)) (n:Nat),n≤l.length→(∀j (h:j<l.length),j<n→p l[j]=true)→(n=l.length∨∃h:n<l.length,p l[n]=false)→(l.takeWhile p).length=n
 | [],n,h,_,_=>by simp at h; simp[h]
 | x :: r,0,_,_,h=>by
   rcases h with h | ⟨_,h⟩
   · simp at h
   · simp at h; simp[List.takeWhile_cons,h]
 | x :: r,n+1,hl,hp,h=>by
   have h0:=hp 0 (by simp) (by omega)
   simp at h0
   rw[List.takeWhile_cons,if_pos h0,List.length_cons,z4w p r n (by simpa using hl) (fun j hj hn=>by
    have:=hp (j+1) (by simp; omega) (by omega)
    simpa using this) (by
    rcases h with h | ⟨h1,h⟩
    · left; simpa using h
    · right; exact ⟨by simpa using h1,by simpa using h⟩)]
theorem zcz {p:List UInt8→Bool}{r:List (List UInt8)}{n:Nat}(h1:n≤r.length)(h2:n≤255)(h3:∀j (h:j<r.length),j<n→p r[j]=true)(h4:n=255∨n=r.length∨∃h:n<r.length,p r[n]=false):runN p r=n:=by
 unfold runN;refine z4w p _ n (by rw[List.length_take]; omega) (fun j hj hn=>?_) ?_
 · rw[List.getElem_take]; exact h3 j _ hn
 · by_cases hn:n=(r.take 255).length
   · exact .inl hn
   · rw[List.length_take] at hn
     refine .inr ⟨by rw[List.length_take]; omega,?_⟩;rw[List.getElem_take]
     rcases h4 with h | h | ⟨_,h⟩
     · omega
     · omega
     · exact h
def packW:List (List UInt8)→List UInt8
 | []=> []
 | w :: r =>
  if zerL w then 0 :: UInt8.ofNat (runN zerL r) :: packW (r.drop (runN zerL r))
  else if fullL w then 255 :: (w++(UInt8.ofNat (runN fewL r) :: ((r.take (runN fewL r)).flatten++packW (r.drop (runN fewL r)))))
  else UInt8.ofNat (maskN w) :: (nzL w++packW r)
termination_by ws=>ws.length
decreasing_by all_goals (simp; try omega)
def z0m:Nat→Nat→List UInt8→List UInt8
 | 0,_,_=> []
 | k+1,t,bs=>if t%2=0 then 0 :: z0m k (t/2) bs else bs.headD 0 :: z0m k (t/2) bs.tail
def popN:Nat→Nat→Nat
 | 0,_=>0
 | k+1,t=>t%2+popN k (t/2)
theorem z1o:∀(k t:Nat) (bs:List UInt8),(z0m k t bs).length=k
 | 0,_,_=>rfl
 | k+1,t,bs=>by rw[z0m]; split <;> simp[z1o k]
def stepU:List UInt8→Option (List UInt8×List UInt8)
 | []=>none
 | t :: r =>
  if r.length<popN 8 t.toNat then none else
  if t=0 then (if r.length=0 then none else some (List.replicate (8*((r.headD 0).toNat+1)) 0,r.tail))
  else if t=255 then (if r.length<9+8*((r.drop 8).headD 0).toNat then none else some (r.take 8++(r.drop 9).take (8*((r.drop 8).headD 0).toNat),(r.drop 9).drop (8*((r.drop 8).headD 0).toNat)))
  else some (z0m 8 t.toNat (r.take (popN 8 t.toNat)),r.drop (popN 8 t.toNat))
theorem z4s {l o r:List UInt8}(h:stepU l=some (o,r)):r.length<l.length:=by
 cases l with
 | nil=>simp[stepU] at h
 | cons t s =>
  rw[stepU] at h
  split at h
  · cases h
  · split at h
    · split at h
      · cases h
      · simp only[Option.some.injEq,Prod.mk.injEq] at h; obtain ⟨_,rfl⟩:=h; simp; omega
    · split at h
      · split at h
        · cases h
        · simp only[Option.some.injEq,Prod.mk.injEq] at h
          obtain ⟨_,rfl⟩:=h
          simp; omega
      · simp only[Option.some.injEq,Prod.mk.injEq] at h
        obtain ⟨_,rfl⟩:=h
        simp; omega
def unF:Nat→List UInt8→Option (List UInt8)
 | _,[]=>some []
 | 0,_=>none
 | f+1,t :: r=>match stepU (t :: r) with
   | none=>none
   | some (o,r')=>(unF f r').map (o++ ·)
def unW (l:List UInt8):Option (List UInt8):=unF l.length l
theorem zhu:∀(f g:Nat) (l:List UInt8),l.length≤f→l.length≤g→unF f l=unF g l
 | f,g,[],_,_=>by cases f <;> cases g <;> rfl
 | 0,_,t :: r,h,_=>by simp at h
 | _,0,t :: r,_,h=>by simp at h
 | f+1,g+1,t :: r,hf,hg=>by
   rw[unF,unF]
   cases hs:stepU (t :: r) with
   | none=>rfl
   | some x =>
    obtain ⟨o,r'⟩:=x;have hsh:=z4s hs
    simp only
    rw[zhu f g r' (by simp at hsh hf; omega) (by simp at hsh hg; omega)]
theorem zks:unW []=some []:=rfl
theorem z41 {l o r:List UInt8}(h:stepU l=some (o,r)):unW l=(unW r).map (o++ ·):=by
 cases l with
 | nil=>simp[stepU] at h
 | cons t s =>
  have hsh:=z4s h;rw[unW,List.length_cons,unF,h]
  simp only
  rw[zhu s.length r.length r (by simp at hsh; omega) (Nat.le_refl _)]
  rfl
theorem zcm {l:List UInt8}(h0:l≠ [])(h:stepU l=none):unW l=none:=by
 cases l with
 | nil=>exact absurd rfl h0
 | cons t s=>rw[unW,List.length_cons,unF,h]
theorem zj8 {l o r:List UInt8}(t:List UInt8)(h:stepU l=some (o,r)):stepU (l++t)=some (o,r++t):=by
 cases l with
 | nil=>simp[stepU] at h
 | cons x s =>
  rw[stepU] at h;rw[List.cons_append,stepU]
  split at h
  · cases h
  · rename_i hlen
    rw[if_neg (by simp; omega)]
    split at h
    · rename_i h0
      rw[if_pos h0]
      cases s with
      | nil=>simp at h
      | cons c s' =>
       simp only[List.length_cons,List.headD_cons,List.tail_cons,List.cons_append] at h ⊢
       rw[if_neg (by omega)] at h ⊢
       simp only[Option.some.injEq,Prod.mk.injEq] at h ⊢
       obtain ⟨rfl,rfl⟩:=h;exact ⟨rfl,rfl⟩
    · rename_i h0
      rw[if_neg h0]
      split at h
      · rename_i h255
        rw[if_pos h255]
        split at h
        · cases h
        · rename_i hl
          have e8:((s++t).drop 8).headD 0=(s.drop 8).headD 0:=by
           rw[List.drop_append_of_le_length (by omega),List.drop_eq_getElem_cons (show 8<s.length by omega)]
           rfl
          rw[e8];generalize ((s.drop 8).headD 0).toNat=c at hl h ⊢;rw[if_neg (by simp; omega),List.take_append_of_le_length (by omega),List.drop_append_of_le_length (by omega),List.take_append_of_le_length (by simp; omega),List.drop_append_of_le_length (by simp; omega)]
          simp only[Option.some.injEq,Prod.mk.injEq] at h ⊢
          obtain ⟨rfl,rfl⟩:=h;exact ⟨rfl,rfl⟩
      · rename_i h255
        rw[if_neg h255]
        simp only[Option.some.injEq,Prod.mk.injEq] at h ⊢
        obtain ⟨rfl,rfl⟩:=h;rw[List.take_append_of_le_length (by omega),List.drop_append_of_le_length (by omega)];exact ⟨rfl,rfl⟩
theorem zm3 (t:List UInt8):∀(f:Nat) (l o:List UInt8),l.length≤f→unW l=some o→unW (l++t)=(unW t).map (o++ ·)
 | f,[],o,_,h=>by
   rw[zks] at h;cases h
   simp
 | 0,x :: s,_,h,_=>by simp at h
 | f+1,x :: s,o,hf,h=>by
   cases hs:stepU (x :: s) with
   | none=>rw[zcm (by simp) hs] at h; cases h
   | some y =>
    obtain ⟨o1,r⟩:=y;have hsh:=z4s hs;rw[z41 hs] at h;rw[z41 (zj8 t hs)]
    cases hr:unW r with
    | none=>rw[hr] at h; cases h
    | some o2 =>
     rw[hr] at h
     simp at h
     rw[zm3 t f r o2 (by simp at hsh hf; omega) hr];subst h
     cases unW t <;> simp
theorem zqw {l o:List UInt8}(t:List UInt8)(h:unW l=some o):unW (l++t)=(unW t).map (o++ ·):=zm3 t l.length l o (Nat.le_refl _) h
open Go.RowKit
def US (B b:Nat)(out:List UInt8)(L:ByteArray)(bad:Bool)(w:World):Prop:=BF 161 B b (Lib.byteCells out) [.string L,.bool bad] w
theorem unpT:LiesB 161 2:=⟨by decide,by kernel_rfl⟩
theorem US.left {B b:Nat}{out:List UInt8}{L:ByteArray}{bad:Bool}{w:World}(h:US B b out L bad w):w.cell? ⟨b,2,none⟩=some (.string L):=by
 have:=BF.cell h 0; simpa using this
theorem US.bad {B b:Nat}{out:List UInt8}{L:ByteArray}{bad:Bool}{w:World}(h:US B b out L bad w):w.cell? ⟨b,3,none⟩=some (.bool bad):=by
 have:=BF.cell h 1; simpa using this
theorem US.setLeft {B b:Nat}{out:List UInt8}{L:ByteArray}{bad:Bool}{w:World}(h:US B b out L bad w)(L':ByteArray):US B b out L' bad (w.setCell ⟨b,2,none⟩ (.string L')):=by
 have:=BF.set unpT.1 h 0 (.string L'); simpa [US] using this
theorem US.setBad {B b:Nat}{out:List UInt8}{L:ByteArray}{bad:Bool}{w:World}(h:US B b out L bad w)(c:Bool):US B b out L c (w.setCell ⟨b,3,none⟩ (.bool c)):=by
 have:=BF.set unpT.1 h 1 (.bool c); simpa [US] using this
theorem US.below {B b:Nat}{out:List UInt8}{L:ByteArray}{bad:Bool}{w w':World}(h:US B b out L bad w)(hb:Below w.heap.size w w'):US B b out L bad w':=BF.below h hb
theorem zft (B b:Nat)(out:List UInt8)(L:ByteArray)(bad:Bool)(w:World)(h:US B b out L bad w) :
 Calls Tryz.prog 145 #[.pointer (some ⟨b,0,none⟩)] w fun e w'=>e= .returned .nilFunc∧US B b out L true w'∧Keeps B b w w':=by
 have h1:=BF.frozen h 3;have h3:=h.bad;have H2:=hid (h.setBad true);clear h;go_enter Tryz.func145,Tryz.ntmps145;go_wp2;go_ret;exact ⟨rfl,H2.out,z0p B b w 3 _⟩
theorem z8c (B b:Nat)(out:List UInt8)(L:ByteArray)(bad:Bool)(n:Nat)(w:World)(h:US B b out L bad w)(hn:L.size<n) :
 Calls Tryz.prog 143 #[.pointer (some ⟨b,0,none⟩),.int .i64 n] w fun e w'=>e= .returned (.tuple #[.string ⟨#[]⟩,.bool false])∧w=w':=by
 have h1:=h.left
 have hlt:((L.size:Nat):Int)<(n:Int):=by omega
 clear h;go_enter Tryz.func143,Tryz.ntmps143;go_wp2
 go_ret2
 exact ⟨rfl,rfl⟩
theorem z6u (B b:Nat)(out:List UInt8)(L:ByteArray)(bad:Bool)(n:Nat)(w:World)(h:US B b out L bad w)(hn:n≤L.size) :
 Calls Tryz.prog 143 #[.pointer (some ⟨b,0,none⟩),.int .i64 n] w fun e w'=>e= .returned (.tuple #[.string (L.extract 0 n),.bool true])∧US B b out (L.extract n L.size) bad w'∧Keeps B b w w':=by
 have h1:=h.left;have h2:=BF.frozen h 2
 have hlt:¬((L.size:Nat):Int)<(n:Int):=by omega
 have H2:=hid (h.setLeft (L.extract n L.size));clear h;go_enter Tryz.func143,Tryz.ntmps143;go_wp2
 go_ret2
 exact ⟨rfl,H2.out,z0p B b w 2 _⟩
def uTag (b:Nat):Value:= .func (.func 103) #[.pointer (some ⟨b,0,none⟩)] #[]
def uNou (b:Nat):Value:= .func (.func 146) #[.pointer (some ⟨b,0,none⟩)] #[]
def uPla (b:Nat):Value:= .func (.func 147) #[.pointer (some ⟨b,0,none⟩)] #[]
def uBro (b:Nat):Value:= .func (.func 145) #[.pointer (some ⟨b,0,none⟩)] #[]
theorem z95 (B b:Nat)(out:List UInt8)(L:ByteArray)(bad:Bool)(x:ByteArray)(next:Value)(w:World)(h:US B b out L bad w)(hn:1600<out.length+x.size)(hx:x.size≤100000)(ho:out.length≤1600) :
 Calls Tryz.prog 148 #[.pointer (some ⟨b,0,none⟩),.string x,next] w fun e w'=>e= .returned (uBro b)∧w=w':=by
 have hl:=zgj 161 B b (Lib.byteCells out) [.string L,.bool bad] w h;rw[Lib.byteCells_length] at hl;have HL:=hid hl
 have hlt:(1600:Int)<((out.length:Nat):Int)+((x.size:Nat):Int):=by omega
 clear h hl;go_enter Tryz.func148,Tryz.ntmps148
 go_wp2_with (go_at_call 93; refine HL.out.mono ?_; rintro e w' ⟨rfl,rfl⟩)
 go_ret;exact ⟨rfl,rfl⟩
theorem z7j (B b:Nat)(out:List UInt8)(L:ByteArray)(bad:Bool)(x:ByteArray)(next:Value)(w:World)(h:US B b out L bad w)(hn:out.length+x.size≤1600)(hBw:B≤w.heap.size) :
 Calls Tryz.prog 148 #[.pointer (some ⟨b,0,none⟩),.string x,next] w fun e w'=>e= .returned next∧US B b (out++x.data.toList) L bad w'∧Keeps B b w w':=by
 have hl:=zgj 161 B b (Lib.byteCells out) [.string L,.bool bad] w h;rw[Lib.byteCells_length] at hl;have HL:=hid hl;have hws:=z4u 161 B b (Lib.byteCells out) [.string L,.bool bad] x w unpT h (by rw[Lib.byteCells_length]; omega) (by omega) hBw
 have e:Lib.byteCells out++Lib.strCells x=Lib.byteCells (out++x.data.toList):=by simp[Lib.strCells,Lib.byteCells]
 rw[e] at hws;have HW:=hid hws
 have hlt:¬(1600:Int)<((out.length:Nat):Int)+((x.size:Nat):Int):=by omega
 clear h hl hws e;go_enter Tryz.func148,Tryz.ntmps148
 go_wp2_with (first | (go_at_call 93; refine HL.out.mono ?_; rintro e w' ⟨rfl,rfl⟩) | (go_at_call 75; refine HW.out.mono ?_; rintro e w1 ⟨rfl,hU,hK⟩))
 go_ret;exact ⟨rfl,hU,hK⟩
theorem z1x:∀(k t:Nat),popN (k+1) t=popN k t+t/2^k%2
 | 0,t=>by simp[popN]
 | k+1,t=>by
   rw[popN,z1x k (t/2),popN,Nat.div_div_eq_div_mul,Nat.pow_succ,Nat.mul_comm (2^k) 2];omega
theorem z5a:∀(k t:Nat) (bs:List UInt8),z0m (k+1) t bs=z0m k t bs++ [if t/2^k%2=0 then 0 else (bs.drop (popN k t)).headD 0]
 | 0,t,bs=>by
   rw[z0m]
   simp only[z0m,popN,List.drop_zero,Nat.pow_zero,Nat.div_one,List.nil_append]
   split <;> rfl
 | k+1,t,bs=>by
   have e:t/2^(k+1)%2=t/2/2^k%2:=by rw[Nat.div_div_eq_div_mul,Nat.pow_succ,Nat.mul_comm (2^k) 2]
   have hL:z0m (k+1+1) t bs=if t%2=0 then 0 :: z0m (k+1) (t/2) bs else bs.headD 0 :: z0m (k+1) (t/2) bs.tail:=rfl
   have hR:z0m (k+1) t bs=if t%2=0 then 0 :: z0m k (t/2) bs else bs.headD 0 :: z0m k (t/2) bs.tail:=rfl
   rw[hL,hR,e,popN]
   by_cases h0:t%2=0
   · rw[if_pos h0,if_pos h0,z5a k (t/2) bs,List.cons_append,h0,Nat.zero_add]
   · have h1:t%2=1:=by omega
     rw[if_neg h0,if_neg h0,z5a k (t/2) bs.tail,List.cons_append,h1]
     have e2:bs.tail.drop (popN k (t/2))=bs.drop (1+popN k (t/2)):=by rw[← List.drop_one,List.drop_drop]
     rw[e2]
theorem zn0 (t:Nat)(k:Nat):∀m,k≤m→popN k t≤popN m t:=by
 intro m hm
 induction m with
 | zero=>obtain rfl:k=0:=by omega
         exact Nat.le_refl _
 | succ m ih =>
  by_cases hk:k=m+1
  · rw[hk]; exact Nat.le_refl _
  · have:=ih (by omega)
    rw[z1x]; omega
def spUp (k t:Nat)(bs:List UInt8):List UInt8:=z0m k t bs++List.replicate (8-k) 0
theorem zpk (k t:Nat)(bs:List UInt8)(h:k≤8):(spUp k t bs).length=8:=by simp[spUp,z1o]; omega
theorem ztf (t:Nat)(bs:List UInt8):spUp 8 t bs=z0m 8 t bs:=by simp[spUp]
theorem zle (k t:Nat)(bs:List UInt8)(h:k<8):spUp (k+1) t bs=if t/2^k%2=0 then spUp k t bs else (spUp k t bs).set k ((bs.drop (popN k t)).headD 0):=by
 have e:List.replicate (8-k) (0:UInt8)=0 :: List.replicate (8-(k+1)) 0:=by
  rw[show 8-k=(8-(k+1))+1 by omega]; rfl
 have hl:=z1o k t bs;rw[spUp,spUp,z5a,e]
 split
 · simp
 · rw[List.set_append_right _ _ (by omega),hl,Nat.sub_self]
   simp
theorem zrw (t k:Nat)(ht:t<256):bits .and .u8 ((t:Int)/2^k) 1=((t/2^k%2:Nat):Int):=by
 have h:=Nat.div_le_self t (2^k);rw[zoy,show (1:Int)=((1:Nat):Int) from rfl,u8_and_nat _ _ (by omega) (by omega),nat_mask1]
theorem zjp (t:Nat)(s:ByteArray)(w:World)(ht:t<256)(hs:s.size=popN 8 t) :
 Calls Tryz.prog 149 #[.int .u8 t,.string s] w fun e w'=>e= .returned (.string ⟨(z0m 8 t s.data.toList).toArray⟩)∧Below w.heap.size w w':=by
 have hsl:s.data.toList.length=s.size:=rfl;have HSL:=hid hsl
 have hs8:s.size≤8:=by
  have h:=fun k=>Nat.mod_lt (t/2^k) (show 0<2 by decide)
  rw[hs,z1x,z1x,z1x,z1x,z1x,z1x,z1x,z1x,popN]
  have:=h 0; have:=h 1; have:=h 2; have:=h 3; have:=h 4; have:=h 5; have:=h 6; have:=h 7
  omega
 have HS:=hid hs;clear hs hsl;go_enter Tryz.func149,Tryz.ntmps149
 go_wp2_with fail
 have h0:=heap_alloc_new w (.cells #[.int .u8 0,.int .u8 0,.int .u8 0,.int .u8 0,.int .u8 0,.int .u8 0,.int .u8 0,.int .u8 0] 87)
 go_loopw [1,7] (fun o i wr=>∃(k:Nat) (u:ByteArray),k≤8∧i= .int .i64 k∧o= .string u∧Hid (u.data.toList=s.data.toList.drop (popN k t))∧Hid (wr.heap[w.heap.size]? =some (.cells (wd (spUp k t s.data.toList)) 87 (0,0)))∧Hid (Below w.heap.size w wr)) (fun _ i _=>8-(intOf i).toNat)
 case atStart=>exact ⟨0,s,by omega,rfl,rfl,by simp[Hid,popN],h0,(Below.refl _ _).alloc (Nat.le_refl _) _⟩
 case round =>
  obtain ⟨k,u,hk,rfl,rfl,HU,HR,HB⟩:=hrel;clear h0
  have hstep:=fun h=>zle k t s.data.toList h
  have hand:=zrw t k ht;have hpm:=zn0 t (k+1) 8;have hps:=z1x k t;have hul:=congrArg List.length HU.out;rw[List.length_drop,HSL.out,HS.out] at hul;have hul2:u.data.toList.length=u.size:=rfl
  by_cases hk1:k<8
  · have hfz:=zbg HR.out k
    have hcl:=z8s HR.out k (by rw[zpk _ _ _ hk]; exact hk1);have HP:=hid (hstep hk1);have hpm2:=hpm (by omega);clear hstep hpm
    by_cases hb:t/2^k%2=0
    · rw[hb] at hand
      have HN:Hid (spUp (k+1) t s.data.toList=spUp k t s.data.toList):=hid (by rw[HP.out,if_pos hb]);have HPop:Hid (popN (k+1) t=popN k t):=hid (by rw[hps,hb]; rfl);have hand2:bits .and .u8 ((t:Int)/2^k) 1=0:=hand;clear hand hb hps hpm2 hul hul2 hcl hfz;go_wp2
      go_roundw
      case rel=>exact ⟨k+1,u,by omega,by go_num,rfl,by rw[HPop.out]; exact HU,by rw[HN.out]; exact HR,HB⟩
      case measure=>simp[intOf]; omega
    · have hb1:t/2^k%2=1:=by omega
      rw[hb1] at hand;have hand2:bits .and .u8 ((t:Int)/2^k) 1=1:=hand
      have hu0:0<u.size:=by omega
      have hg:((s.data.toList.drop (popN k t)).headD 0)=u[0]:=by
       rw[← HU.out,← z6k u 0 hu0]
       cases u.data.toList <;> rfl
      have HN:Hid (spUp (k+1) t s.data.toList=(spUp k t s.data.toList).set k u[0]):=hid (by rw[HP.out,if_neg (by omega),hg]);have HPop:Hid (popN (k+1) t=popN k t+1):=hid (by rw[hps,hb1])
      have HU2:Hid ((u.extract 1 u.size).data.toList=s.data.toList.drop (popN (k+1) t)):=hid (by
       rw[Lib.extract_data,HPop.out,← List.drop_drop,← HU.out,List.take_of_length_le (by simp)])
      have HR2:Hid ((wr.setCell ⟨w.heap.size,k,none⟩ (.int .u8 ((u[0]).toNat:Int))).heap[w.heap.size]? =some (.cells (wd ((spUp k t s.data.toList).set k u[0])) 87 (0,0))):=hid (by rw[heap_set _ HR.out,zql]);have HB2:=hid (HB.out.setCell (p:=⟨w.heap.size,k,none⟩) (Nat.le_refl _) (.int .u8 ((u[0]).toNat:Int)));have hu1:1≤u.size:=hu0;clear hand hb hb1 hps hpm2 hul hul2 hg;go_wp2
      go_roundw
      case rel=>exact ⟨k+1,_,by omega,by go_num,rfl,HU2,by rw[HN.out]; exact HR2,HB2⟩
      case measure=>simp[intOf]; omega
  · obtain rfl:k=8:=by omega
    have hR:=HR.out;have hl8:=z1o 8 t s.data.toList;rw[ztf] at hR;have HR8:=hid hR;have HL8:=hid hl8;clear hstep hand hpm hps hul hul2 hR hl8
    obtain ⟨l,hle⟩:∃l,z0m 8 t s.data.toList=l:=⟨_,rfl⟩
    rw[hle] at HR8 HL8;have HLE:=hid hle;clear hle
    go_wp2_with (refine z1b rfl 87 (.tmp 5) rfl w.heap.size rfl 87 l _ HR8.out Tryz.underlying87 rfl (by rw[HL8.out]; exact z1w) ?_)
    refine (zc0 l _ HL8.out).mono ?_;rintro e w2 ⟨rfl,hb2⟩;have HB2:=hid (HB.out.trans (hb2.mono HB.out.size));go_wp2;go_ret;exact ⟨by rw[HLE.out]; rfl,HB2.out⟩
end Go.Proofs.YtlbfffokkhccaaaGreatDoor
