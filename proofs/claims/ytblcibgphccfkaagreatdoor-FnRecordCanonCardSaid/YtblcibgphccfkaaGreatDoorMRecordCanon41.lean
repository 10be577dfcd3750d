/- Texts of the proof of the law FnRecordCanon, side by side: part 41. -/
import Derived.RangeFuncNested
import Derived.RangeFuncBound
import Derived.RangeFuncCalls
import Derived.RangeFuncLeaves
import Derived.Shelf.Abstract
import Derived.Shelf.RegionOpen
import Derived.OwnWalkIn
import Derived.TacticsInMore
import Derived.LoopNIn
import Derived.LoopIn
import Derived.Deep.DeepMust
import Derived.Test.YtblcibgphccfkaaGreatDoorMRecordCanon40
set_option maxHeartbeats 8000000
set_option maxRecDepth 100000
open Go.Lib (hid)
namespace Go.Proofs.YtblcibgphccfkaaGreatDoor
open Go.RowKit Go.Deep
theorem z8y (x:Addr)(c:Nat)(l:List Fld)(B:Option Addr)(cb:Nat)(vs:List Vl)(ch:Int)(m:Nat)(w:World)(h1w:1<w.heap.size)(hxb:x.block<w.heap.size)(hfl:Flds w (some x) l)(hll:l.length≤10000000)(hvs:z4d w Any m B vs)(hvl:vs.length≤10000000)(hsv:sumV vs≤1900000)(hc:l.length≤c)(hrg:∀k, -9223372036854775808≤(vlK vs k).num∧(vlK vs k).num≤9223372036854775807) :
 Calls Tryz.prog 15 #[.slice (some x) l.length c,.slice B vs.length cb,.int .i64 ch] w (NewNb (m+2) (roN l vs ch) (roB l vs ch) w):=by
 have no:roB l vs ch=false→NewNb (m+2) (roN l vs ch) (roB l vs ch) w=NewNb (m+2) z07 false w:=fun h=>by
  have e:roN l vs ch=z07:=by unfold roN; rw[h]; rfl
  rw[h,e]
 cases hyes:z14 l
 · rw[no (by unfold roB; rw[hyes]; rfl)]
   exact znq x c l B cb vs ch m w h1w hxb hfl hll hvs hvl hsv (m+2) hyes
 by_cases hlen:vs.length=l.length
 · cases hch:chB l ch
   · rw[no (by unfold roB; rw[hch]; simp)]
     exact zga x c l B cb vs ch m w h1w hxb hfl hll hvs hvl hsv (m+2) hyes hlen hch
   · by_cases h0:plcN l l.length=0
     · exact zjo x c l B cb vs ch m w h1w hxb hfl hll hvs hvl hsv hc hrg hyes hlen hch h0 (by unfold chB at hch; rw[if_pos h0] at hch; simpa using hch)
     · exact zmq x c l B cb vs ch m w h1w hxb hfl hll hvs hvl hsv hc hrg hyes hlen hch (by
        unfold chB at hch;rw[if_neg h0] at hch
        have e:inB ch 0 ((plcN l l.length:Int)-1)=withB ch (plcN l l.length:Int):=by rw[Bool.eq_iff_iff]; simp[inB,withB]; omega
        rw[e,hch])
 · rw[no (by unfold roB; rw[decide_eq_false hlen]; simp)]
   exact zn3 x c l B cb vs ch m w h1w hxb hfl hll hvs hvl hsv (m+2) hyes hlen
end Go.Proofs.YtblcibgphccfkaaGreatDoor
namespace Go.Proofs.YtblcibgphccfkaaGreatDoor
open Go.RowKit
theorem zg9 {w:World}{a:Option Addr}{len:Nat}(h:Code w w.heap.size a len)(o:Obj):Code (w.alloc o) (w.alloc o).heap.size a len :=
 (h.keeps (R:=w.heap.size) (Keeps.of_below ((Below.refl w.heap.size w).alloc (Nat.le_refl _) o)) (Nat.le_refl _) (Nat.le_refl _)).mono (by simp)
theorem zjt {w w2:World}{n:Nd}{h:Hd}{M:Nat}(hz:w2.heap[w.heap.size]? =some (.cells #[.int .i64 0,.string { data:= #[] },.slice none 0 0,.int .i64 0,.int .i64 0,.slice none 0 0] nodeT (0,0)))(hn:NdAt w2 (From (w.heap.size+1)) M n h)(hb:Below w.heap.size w w2) :
 ∃wf,((((((w2.setCell ⟨w.heap.size,0,none⟩ (.int .i64 n.kind)).setCell ⟨w.heap.size,1,none⟩ (.string n.data)).setCell ⟨w.heap.size,2,none⟩ (.slice h.A n.ptrs.length h.a)).setCell ⟨w.heap.size,3,none⟩ (.int .i64 n.size)).setCell ⟨w.heap.size,4,none⟩ (.int .i64 n.count)).setCell ⟨w.heap.size,5,none⟩ (.slice h.B n.items.length h.b))=wf∧wf.heap[w.heap.size]? =some (.cells #[.int .i64 n.kind,.string n.data,.slice h.A n.ptrs.length h.a,.int .i64 n.size,.int .i64 n.count,.slice h.B n.items.length h.b] nodeT (0,0))∧NdAt wf (From w.heap.size) M n h∧Below w.heap.size w wf:=by
 have hu:Upon (w.heap.size+1) w2 ((((((w2.setCell ⟨w.heap.size,0,none⟩ (.int .i64 n.kind)).setCell ⟨w.heap.size,1,none⟩ (.string n.data)).setCell ⟨w.heap.size,2,none⟩ (.slice h.A n.ptrs.length h.a)).setCell ⟨w.heap.size,3,none⟩ (.int .i64 n.size)).setCell ⟨w.heap.size,4,none⟩ (.int .i64 n.count)).setCell ⟨w.heap.size,5,none⟩ (.slice h.B n.items.length h.b)) :=
  ((((((Upon.refl _ w2).setCell (p:=⟨w.heap.size,0,none⟩) (by simp) _).setCell (p:=⟨w.heap.size,1,none⟩) (by simp) _).setCell (p:=⟨w.heap.size,2,none⟩) (by simp) _).setCell (p:=⟨w.heap.size,3,none⟩) (by simp) _).setCell (p:=⟨w.heap.size,4,none⟩) (by simp) _).setCell (p:=⟨w.heap.size,5,none⟩) (by simp) _
 have hk:∀(W:World) (i:Nat) (v:Value),Below w.heap.size w W→Below w.heap.size w (W.setCell ⟨w.heap.size,i,none⟩ v):=fun W i v hW=>hW.setCell (p:=⟨w.heap.size,i,none⟩) (Nat.le_refl _) v
 exact ⟨_,rfl,z06 (z06 (z06 (z06 (z06 (z06 hz 0 _) 1 _) 2 _) 3 _) 4 _) 5 _,(hn.upon hu).from_ (by omega),hk _ _ _ (hk _ _ _ (hk _ _ _ (hk _ _ _ (hk _ _ _ (hk _ _ _ hb)))))⟩
open Go.RowKit Go.Deep
theorem zfz (x:Addr)(c:Nat)(l:List Fld)(k:Nat)(hk:k≤l.length)(w:World)(h:Flds w (some x) l)(hl:l.length≤20) :
 Calls Tryz.prog 37 #[.slice (some x) l.length c,.int .i64 (k:Int)] w fun e w'=>e= .returned (.int .i64 (plcN l k:Nat))∧Below w.heap.size w w':=by
 have HF:=hid h
 have hk20:k≤20:=by omega
 clear h;go_enter Tryz.func37,Tryz.ntmps37;go_wp2
 go_loopw [5,6] (fun q i wr=>∃(j u:Nat),i= .int .i64 (j:Int)∧q= .int .i64 (u:Int)∧j≤k∧u≤20∧Hid (u=plcN l j)∧Hid (Below w.heap.size w wr)) (fun _ i _=>k-(intOf i).toNat)
 case atStart=>exact ⟨0,0,rfl,rfl,by omega,by omega,hid rfl,hid (Below.refl _ _)⟩
 case round =>
  obtain ⟨j,u,rfl,rfl,hj,hu,HU,HB⟩:=hrel
  by_cases hlt:j<k
  · obtain ⟨x',hx',hxb',hx⟩:=(HF.out.below HB.out).at2 (k:=j) (by omega)
    obtain rfl:=Option.some.inj hx';have HTK:=hid (z7d (l:=l) (j:=j) (by omega));have HP:=hid (z4k l (j+1));generalize l[j]=f at hx HTK;obtain ⟨z,fc,el⟩:=f;obtain ⟨c0,c1,c2⟩:=hx
    have hjl:j<l.length:=by omega
    cases fc
    · go_wp2
      go_roundw
      case rel=>exact ⟨j+1,u,by go_num,rfl,by omega,by omega,hid (by rw[HTK.out,HU.out]; rfl),HB⟩
      case measure=>simp[intOf]; omega
    · have hu1:u+1≤20:=by have h1:=HP.out; have h2:=HTK.out; have h3:=HU.out; simp at h2; omega
      go_wp2
      go_roundw
      case rel=>exact ⟨j+1,u+1,by go_num,by go_num,by omega,hu1,hid (by rw[HTK.out,HU.out]; rfl),HB⟩
      case measure=>simp[intOf]; omega
  · obtain rfl:j=k:=by omega
    go_wp2;go_ret;exact ⟨by rw[← HU.out]; rfl,HB.out⟩
theorem zn9 (l:List Fld):plcN l l.length≤l.length:=z4k l _
theorem zdq (R n:Nat)(x:Addr)(c:Nat)(l:List Fld)(w:World)(h:Rd w R n)(hn:n≤500000)(hfl:Flds w (some x) l)(hl:l.length≤13) :
 Calls Tryz.prog 44 #[.pointer (some ⟨R,0,none⟩),.slice (some x) l.length c] w (IntP (fun v=> -1≤v∧v≤13) R (n+1) w):=by
 have hpl:=zn9 l;have HC:=hid (zfz x c l l.length (Nat.le_refl _) w hfl (by omega));have HD:=hid h;clear h hfl;unfold IntP
 by_cases h0:plcN l l.length=0
 · rw[h0] at HC
   clear h0;go_enter Tryz.func44,Tryz.ntmps44
   go_wp2_with fail
   refine HC.out.mono ?_;rintro e w1 ⟨rfl,hb1⟩;have HB1:=hid hb1;clear hb1;go_wp2;go_ret;exact ⟨-1,by decide,rfl,(HD.out.self.below HB1.out).mono (by omega)⟩
 · obtain ⟨u,hu⟩:∃u,plcN l l.length=u:=⟨_,rfl⟩
   rw[hu] at HC h0 hpl
   have hu0:((u:Int)==0)=false:=by simp; omega
   clear hu;go_enter Tryz.func44,Tryz.ntmps44
   go_wp2_with fail
   refine HC.out.mono ?_;rintro e w1 ⟨rfl,hb1⟩;have HP1:=hid (HD.out.self.below hb1);clear hb1
   go_wp2_with fail
   refine (z0q R n _ _ HP1.out.1 (by omega)).mono ?_;rintro e w2 ⟨v,⟨hv0,hv1⟩,rfl,hp2⟩;have HP2:=hid (HP1.out.then hp2);clear hp2;go_wp2;go_ret;exact ⟨v,by omega,rfl,HP2.out⟩
theorem zns {l:List Fld}{vs:List Vl}{ch:Int}(hv:sumV vs≤1900000):sizN (roN l vs ch)≤2000000:=by
 unfold roN
 by_cases h:roB l vs ch=true
 · rw[if_pos h]
   unfold roB at h
   simp only[Bool.and_eq_true,decide_eq_true_eq] at h
   exact zdd l vs ch (z0n h.1) hv h.2.1.1
 · rw[if_neg h]
   decide
def NdR (R k:Nat)(w:World)(e:Ending)(w':World):Prop:=∃(m:Nat) (n:Nd) (h:Hd),e= .returned (.agg #[.int .i64 n.kind,.string n.data,.slice h.A n.ptrs.length h.a,.int .i64 n.size,.int .i64 n.count,.slice h.B n.items.length h.b])∧NdAt w' (From w.heap.size) m n h∧totN m n≤2000000∧z0e w R k w'
theorem NdAt.pickF {w w':World}{R n B m:Nat}{x:Nd}{h:Hd}(hn:NdAt w (From B) m x h)(hp:z0e w R n w')(hR:R<B):NdAt w' (From B) m x h :=
 hn.map (fun _ h=>h) (fun p _ _ hs hc=>hc.block (hp.2.block _ hc.lt (by have h1:B≤p.block:=hs; omega)))
theorem NdAt.upF {w w':World}{B C m:Nat}{x:Nd}{h:Hd}(hn:NdAt w (From B) m x h)(hu:Upon C w w')(hB:C≤B):NdAt w' (From B) m x h :=
 hn.map (fun _ h=>h) (fun p _ _ hs hc=>hc.block (hu.block _ (by have h1:B≤p.block:=hs; omega) hc.lt))
theorem zah (R n:Nat)(x:Addr)(c:Nat)(l:List Fld)(w:World)(h:Rd w R n)(hn:n≤10000)(hfl:Flds w (some x) l)(hxb:x.block<w.heap.size)(hx:x.block≠R)(hl:l.length≤13)(hc:l.length≤c) :
 Calls Tryz.prog 24 #[.pointer (some ⟨R,0,none⟩),.slice (some x) l.length c] w (NdR R (n+20000) w):=by
 have hRw:=h.lt;have HR:=hid (heap_alloc_new w (.cells #[.int .i64 0,.string { data:= #[] },.slice none 0 0,.int .i64 0,.int .i64 0,.slice none 0 0] nodeT));have HP:=hid (h.self.below ((Below.refl w.heap.size w).alloc (Nat.le_refl _) (.cells #[.int .i64 0,.string { data:= #[] },.slice none 0 0,.int .i64 0,.int .i64 0,.slice none 0 0] nodeT)));have HS0:Hid ((w.alloc (.cells #[.int .i64 0,.string { data:= #[] },.slice none 0 0,.int .i64 0,.int .i64 0,.slice none 0 0] nodeT)).heap.size=w.heap.size+1):=hid (by simp);have HFL:=hid hfl;clear h hfl;unfold NdR;go_enter Tryz.func24,Tryz.ntmps24
 go_wp2_with fail
 generalize w.alloc (.cells #[.int .i64 0,.string { data:= #[] },.slice none 0 0,.int .i64 0,.int .i64 0,.slice none 0 0] nodeT)=W0 at *;refine (zcg R n x c l W0 HP.out.1 (by omega) (HFL.out.picked HP.out hx) hx hl).mono ?_;rintro e w1 ⟨v,q,rfl,hql,hvr,hp1⟩;obtain ⟨A1,cp1,rfl⟩:=z34 hvr.1;have HV:=hid hvr;have HQL:=hid hql;have HRW:=hid HP.out.1.lt;have HS1:=hid hp1.2.size
 replace HR:=hid ((hp1.2.block _ (z00 HR.out) (by omega)).trans HR.out)
 replace HP:=hid (HP.out.then hp1)
 clear hp1 hvr
 go_wp2_with fail
 refine (zdq R (n+350*l.length) x c l w1 HP.out.1 (by omega) (HFL.out.picked HP.out hx) hl).mono ?_;rintro e w2 ⟨ch,hch,rfl,hp2⟩
 replace HV:=hid (HV.out.picked hp2 HRW.out)
 have HS2:=hid hp2.2.size
 replace HR:=hid ((hp2.2.block _ (z00 HR.out) (by omega)).trans HR.out)
 replace HP:=hid (HP.out.then hp2)
 clear hp2;obtain ⟨A2,cp2,hA2,hva⟩:=HV.out.vals
 obtain ⟨rfl,rfl⟩:A1=A2∧cp1=cp2:=by injection hA2 with e1 e2 e3; exact ⟨e1,e3⟩
 have hsum:=HV.out.sum
 obtain ⟨vs,hvs⟩:∃vs:List Vl,vs=q.map (·.1):=⟨_,rfl⟩
 have hrgk:∀k, -9223372036854775808≤(vlK vs k).num∧(vlK vs k).num≤9223372036854775807:=fun k=>by rw[hvs]; exact HV.out.rg k
 rw[← hvs] at hva hsum
 have hvl:vs.length=q.length:=by rw[hvs,List.length_map]
 have hs19:sumV vs≤1900000:=by omega
 have HRO:=hid (z8y x c l A1 cp1 vs ch 4 w2 (by have:=HP.out.2.size; have:=HS0.out; have:=HS1.out; have:=HS2.out; omega) (Nat.lt_of_lt_of_le hxb HP.out.2.size) (HFL.out.picked HP.out hx) (by omega) hva (by omega) hs19 hc hrgk);have HSZ:Hid (sizN (roN l vs ch)≤2000000):=hid (zns hs19);rw[hvl,HQL.out] at HRO;generalize roN l vs ch=y at *;generalize roB l vs ch=ok at *;unfold NewNb at HRO;clear hva hsum hvl hs19 hA2 hch hrgk hvs
 go_wp2_with fail
 refine HRO.out.mono ?_;rintro e w3 ⟨hy,bs,rfl,ho, -,hge,hb3⟩;have HN3:Hid (NdAt (w3.alloc (.cells #[.int .i64 y.kind,.string y.data,.slice hy.A y.ptrs.length hy.a,.int .i64 y.size,.int .i64 y.count,.slice hy.B y.items.length hy.b] nodeT)) (From (w.heap.size+1)) (4+2) y hy):=hid ((ho.nd.weak (fun k hk=>by have h1:=hge k hk.1; have h2:=HS0.out; have h3:=HS1.out; have h4:=HS2.out; show w.heap.size+1≤k; omega)).below ((Below.refl w3.heap.size w3).alloc (Nat.le_refl _) _));have HTY:Hid (totN (4+2) y≤2000000):=hid (by rw[z19 ho.nd]; exact HSZ.out);have hba:Below w2.heap.size w2 (w3.alloc (.cells #[.int .i64 y.kind,.string y.data,.slice hy.A y.ptrs.length hy.a,.int .i64 y.size,.int .i64 y.count,.slice hy.B y.items.length hy.b] nodeT)):=hb3.alloc hb3.size _;have HX3:=hid (heap_alloc_new w3 (.cells #[.int .i64 y.kind,.string y.data,.slice hy.A y.ptrs.length hy.a,.int .i64 y.size,.int .i64 y.count,.slice hy.B y.items.length hy.b] nodeT));have HS3:=hid (And.intro hb3.size (show w3.heap.size<(w3.alloc (.cells #[.int .i64 y.kind,.string y.data,.slice hy.A y.ptrs.length hy.a,.int .i64 y.size,.int .i64 y.count,.slice hy.B y.items.length hy.b] nodeT)).heap.size by simp))
 replace HR:=hid ((hba.block _ (z00 HR.out)).trans HR.out)
 replace HP:=hid (HP.out.below hba)
 clear hba ho hge hb3 HRO HSZ HV;have HGB:=hid (z00 HX3.out);have HSW:Hid (w.heap.size+1≤(w3.alloc (.cells #[.int .i64 y.kind,.string y.data,.slice hy.A y.ptrs.length hy.a,.int .i64 y.size,.int .i64 y.count,.slice hy.B y.items.length hy.b] nodeT)).heap.size):=hid (by have h1:=HS3.out; have h2:=HS0.out; have h3:=HS1.out; have h4:=HS2.out; omega);have HGE:Hid (w.heap.size+1≤w3.heap.size):=hid (by have h1:=HS3.out; have h2:=HS0.out; have h3:=HS1.out; have h4:=HS2.out; omega);cases ok
 · go_wp2_with fail
   generalize w3.alloc (.cells #[.int .i64 y.kind,.string y.data,.slice hy.A y.ptrs.length hy.a,.int .i64 y.size,.int .i64 y.count,.slice hy.B y.items.length hy.b] nodeT)=W3 at *;refine (z5a R (n+350*l.length+1) _ HP.out.1 (by omega)).mono ?_;rintro e w4 ⟨y2,h2,rfl,hn2,ht2,hp4⟩;have HN2:Hid (NdAt w4 (From (w.heap.size+1)) 18 y2 h2):=hid (hn2.weak (fun k hk=>by have h1:W3.heap.size≤k:=hk.1; have h2:=HSW.out; show w.heap.size+1≤k; omega));have HT2:Hid (totN 18 y2≤2000000):=hid (Nat.le_trans ht2.1 (by decide))
   replace HR:=hid ((hp4.2.block _ (z00 HR.out) (by omega)).trans HR.out)
   replace HP:=hid (HP.out.then hp4)
   clear hp4 hn2 ht2;obtain ⟨b0,b1,b2,b3,b4,b5⟩:=z04 HR.out;have f2:=z03 HR.out;obtain ⟨wf,hwf,hrw,hpw,huw⟩:=z3a (b:=w.heap.size) HR.out HP.out hRw (Nat.le_refl _) (.int .i64 y2.kind) (.string y2.data) (.slice h2.A y2.ptrs.length h2.a) (.int .i64 y2.size) (.int .i64 y2.count) (.slice h2.B y2.items.length h2.b);obtain ⟨e0,e1,e2,e3,e4,e5⟩:=z04 hrw;have HWF:=hid hwf;have HPW:=hid hpw;have HNF:Hid (NdAt wf (From w.heap.size) 18 y2 h2):=hid ((HN2.out.upF huw (Nat.le_refl _)).weak (fun k hk=>by have h1:w.heap.size+1≤k:=hk; show w.heap.size≤k; omega));clear hwf hrw hpw huw;go_wp2;rw[HWF.out];exact bodyPost_ret (v:= .agg #[.int .i64 y2.kind,.string y2.data,.slice h2.A y2.ptrs.length h2.a,.int .i64 y2.size,.int .i64 y2.count,.slice h2.B y2.items.length h2.b]) (by simp[results,Tryz.results24,go_sem,e0,e1,e2,e3,e4,e5]) rfl ⟨18,y2,h2,rfl,HNF.out,HT2.out,HPW.out.mono (by omega)⟩
 · go_wp2_with fail
   generalize w3.alloc (.cells #[.int .i64 y.kind,.string y.data,.slice hy.A y.ptrs.length hy.a,.int .i64 y.size,.int .i64 y.count,.slice hy.B y.items.length hy.b] nodeT)=W3 at *;generalize w3.heap.size=gb at *;refine (z0q R (n+350*l.length+1) _ _ HP.out.1 (by omega)).mono ?_;rintro e w4 ⟨u,⟨hu0,hu1⟩,rfl,hp4⟩
   have hRg:gb≠R:=by have:=HGE.out; omega
   replace HN3:=hid (HN3.out.pickF hp4 (by omega))
   replace HX3:=hid ((hp4.2.block _ (z00 HX3.out) hRg).trans HX3.out)
   replace HSW:=hid (Nat.le_trans HSW.out hp4.2.size)
   replace HR:=hid ((hp4.2.block _ (z00 HR.out) (by omega)).trans HR.out)
   replace HP:=hid (HP.out.then hp4)
   clear hp4
   by_cases u0:u=0
   · subst u0
     go_wp2_with fail
     refine (z5a R (n+350*l.length+1+1) _ HP.out.1 (by omega)).mono ?_;rintro e w5 ⟨y2,h2,rfl,hn2,ht2,hp5⟩;have HN2:Hid (NdAt w5 (From (w.heap.size+1)) 18 y2 h2):=hid (hn2.weak (fun k hk=>by have h1:w4.heap.size≤k:=hk.1; have h2:=HSW.out; show w.heap.size+1≤k; omega));have HT2:Hid (totN 18 y2≤2000000):=hid (Nat.le_trans ht2.1 (by decide))
     replace HR:=hid ((hp5.2.block _ (z00 HR.out) (by omega)).trans HR.out)
     replace HP:=hid (HP.out.then hp5)
     clear hp5 hn2 ht2;obtain ⟨b0,b1,b2,b3,b4,b5⟩:=z04 HR.out;have f2:=z03 HR.out;obtain ⟨wf,hwf,hrw,hpw,huw⟩:=z3a (b:=w.heap.size) HR.out HP.out hRw (Nat.le_refl _) (.int .i64 y2.kind) (.string y2.data) (.slice h2.A y2.ptrs.length h2.a) (.int .i64 y2.size) (.int .i64 y2.count) (.slice h2.B y2.items.length h2.b);obtain ⟨e0,e1,e2,e3,e4,e5⟩:=z04 hrw;have HWF:=hid hwf;have HPW:=hid hpw;have HNF:Hid (NdAt wf (From w.heap.size) 18 y2 h2):=hid ((HN2.out.upF huw (Nat.le_refl _)).weak (fun k hk=>by have h1:w.heap.size+1≤k:=hk; show w.heap.size≤k; omega));clear hwf hrw hpw huw;go_wp2;rw[HWF.out];exact bodyPost_ret (v:= .agg #[.int .i64 y2.kind,.string y2.data,.slice h2.A y2.ptrs.length h2.a,.int .i64 y2.size,.int .i64 y2.count,.slice h2.B y2.items.length h2.b]) (by simp[results,Tryz.results24,go_sem,e0,e1,e2,e3,e4,e5]) rfl ⟨18,y2,h2,rfl,HNF.out,HT2.out,HPW.out.mono (by omega)⟩
   · have hue:(u==0)=false:=by simpa using u0
     obtain ⟨x0,x1,x2,x3,x4,x5⟩:=z04 HX3.out;obtain ⟨b0,b1,b2,b3,b4,b5⟩:=z04 HR.out;have f2:=z03 HR.out;obtain ⟨wf,hwf,hrw,hpw,huw⟩:=z3a (b:=w.heap.size) HR.out HP.out hRw (Nat.le_refl _) (.int .i64 y.kind) (.string y.data) (.slice hy.A y.ptrs.length hy.a) (.int .i64 y.size) (.int .i64 y.count) (.slice hy.B y.items.length hy.b);obtain ⟨e0,e1,e2,e3,e4,e5⟩:=z04 hrw;have HWF:=hid hwf;have HPW:=hid hpw;have HNF:Hid (NdAt wf (From w.heap.size) (4+2) y hy):=hid ((HN3.out.upF huw (Nat.le_refl _)).weak (fun k hk=>by have h1:w.heap.size+1≤k:=hk; show w.heap.size≤k; omega));clear hwf hrw hpw huw;go_wp2;rw[HWF.out];exact bodyPost_ret (v:= .agg #[.int .i64 y.kind,.string y.data,.slice hy.A y.ptrs.length hy.a,.int .i64 y.size,.int .i64 y.count,.slice hy.B y.items.length hy.b]) (by simp[results,Tryz.results24,go_sem,e0,e1,e2,e3,e4,e5]) rfl ⟨(4+2),y,hy,rfl,HNF.out,HTY.out,HPW.out.mono (by omega)⟩
theorem Flds.keepB {w w':World}{x:Addr}{l:List Fld}(h:Flds w (some x) l)(hb:w'.heap[x.block]? =w.heap[x.block]?)(hs:w.heap.size≤w'.heap.size):Flds w' (some x) l:=by
 rcases h with h | ⟨y,e,hx,hc⟩
 · exact .inl h
 · injection e with e
   subst e;refine .inr ⟨x,rfl,Nat.lt_of_lt_of_le hx hs,fun k f hk=>?_⟩;obtain ⟨c0,c1,c2⟩:=hc k f hk
   exact ⟨(World.cell?_of_block (w:=w) (w':=w') (a:=x.add (k*3)) (by rw[z05]; exact hb)).trans c0,
    (World.cell?_of_block (w:=w) (w':=w') (a:=⟨(x.add (k*3)).block,(x.add (k*3)).off+1,none⟩) (by show w'.heap[(x.add (k*3)).block]? =w.heap[(x.add (k*3)).block]?; rw[z05]; exact hb)).trans c1,
    (World.cell?_of_block (w:=w) (w':=w') (a:=⟨(x.add (k*3)).block,(x.add (k*3)).off+2,none⟩) (by show w'.heap[(x.add (k*3)).block]? =w.heap[(x.add (k*3)).block]?; rw[z05]; exact hb)).trans c2⟩
def zgt (w:World)(e:Ending)(w':World):Prop:=∃(X:Addr) (c:Nat) (l:List Fld) (m:Nat) (n:Nd) (h:Hd) (i:Int),e= .returned (.tuple #[.slice (some X) l.length c,.agg #[.int .i64 n.kind,.string n.data,.slice h.A n.ptrs.length h.a,.int .i64 n.size,.int .i64 n.count,.slice h.B n.items.length h.b],.int .i64 i])∧l.length≤13∧l.length≤c∧ElsB l∧X.block<w'.heap.size∧(-1≤i∧i≤20)∧Flds w' (some X) l∧NdAt w' Any m n h∧totN m n≤2000000∧Below w.heap.size w w'
theorem z6k (a:Option Addr)(len cap:Nat)(w:World)(h:Arg w a len cap) :
 Calls Tryz.prog 7 #[.slice a len cap] w (zgt w):=by
 have HR:=hid (heap_alloc_new w (.cells #[.int .i64 0,.string { data:= #[] },.slice none 0 0,.int .i64 0,.int .i64 0,.slice none 0 0] nodeT));have HB:=hid ((Below.refl w.heap.size w).alloc (Nat.le_refl _) (.cells #[.int .i64 0,.string { data:= #[] },.slice none 0 0,.int .i64 0,.int .i64 0,.slice none 0 0] nodeT));have HS0:Hid ((w.alloc (.cells #[.int .i64 0,.string { data:= #[] },.slice none 0 0,.int .i64 0,.int .i64 0,.slice none 0 0] nodeT)).heap.size=w.heap.size+1):=hid (by simp);have HO:=hid (zg3 a len cap (w.alloc (.cells #[.int .i64 0,.string { data:= #[] },.slice none 0 0,.int .i64 0,.int .i64 0,.slice none 0 0] nodeT)) (zg9 h.1 _) h.2.1 h.2.2);clear h;unfold zgt;go_enter Tryz.func7,Tryz.ntmps7
 go_wp2_with fail
 generalize w.alloc (.cells #[.int .i64 0,.string { data:= #[] },.slice none 0 0,.int .i64 0,.int .i64 0,.slice none 0 0] nodeT)=W0 at *;refine HO.out.mono ?_;rintro e w1 ⟨R,rfl,hR,hrd,hb1⟩;have hRl:=hrd.lt;have HRD:=hid hrd
 replace HR:=hid ((hb1.block _ (z00 HR.out)).trans HR.out)
 replace HB:=hid (HB.out.trans (hb1.mono HB.out.size))
 have hRw:w.heap.size+1≤R:=by have:=HS0.out; omega
 have HS1:=hid hb1.size;clear hrd hb1 hR HO
 go_wp2_with fail
 refine (z97 R 0 _ HRD.out (by omega)).mono ?_;rintro e w2 ⟨v,l,rfl,hl13,hown,hp2,hsm,hel⟩;obtain ⟨g,c,rfl,hg1,hg2,hlc,hfl⟩:=zkk hown hsm;have HF:=hid hfl;have HEL:=hid hel;have HP:=hid hp2
 replace HR:=hid ((hp2.2.block _ (z00 HR.out) (by omega)).trans HR.out)
 have hgR:g≠R:=by omega
 have HS2:=hid hp2.2.size;clear hown hsm hel hfl hp2
 go_wp2_with fail
 refine (zah R (0+100) ⟨g,0,none⟩ c l w2 HP.out.1 (by omega) HF.out hg2 hgR hl13 hlc).mono ?_;rintro e w3 ⟨m,n,hh,rfl,hn,ht,hp3⟩;have HN:Hid (NdAt w3 (From (w1.heap.size)) m n hh):=hid (hn.weak (fun k hk=>by have h1:w2.heap.size≤k:=hk; have h2:=HS2.out; show w1.heap.size≤k; omega));have HT:=hid ht
 replace HR:=hid ((hp3.2.block _ (z00 HR.out) (by omega)).trans HR.out)
 replace HF:=hid (HF.out.picked hp3 hgR)
 replace HP:=hid (HP.out.then hp3)
 have hg3:g<w3.heap.size:=Nat.lt_of_lt_of_le hg2 hp3.2.size;clear hn ht hp3 hg2
 go_wp2_with fail
 refine (z0q R (0+100+20000) _ _ HP.out.1 (by omega)).mono ?_;rintro e w4 ⟨x,⟨hx0,hx1⟩,rfl,hp4⟩
 have hx2:x≤15:=by omega
 replace HN:=hid (HN.out.pickF hp4 hRl)
 replace HR:=hid ((hp4.2.block _ (z00 HR.out) (by omega)).trans HR.out)
 replace HF:=hid (HF.out.picked hp4 hgR)
 replace HP:=hid (HP.out.then hp4)
 have hg4:g<w4.heap.size:=Nat.lt_of_lt_of_le hg3 hp4.2.size;have hb4:Below w.heap.size w w4:=HB.out.trans (HP.out.2.below HB.out.size (by omega));have hn4:NdAt w4 (From (w.heap.size+1)) m n hh:=HN.out.weak (fun k hk=>by have h1:w1.heap.size≤k:=hk; have h2:=HS1.out; have h3:=HS0.out; show w.heap.size+1≤k; omega);obtain ⟨b0,b1,b2,b3,b4,b5⟩:=z04 HR.out;have f2:=z03 HR.out;obtain ⟨wf,hwf,hrw,hnf,hbf⟩:=zjt HR.out hn4 hb4
 have hkw:∀k,k≠w.heap.size→wf.heap[k]? =w4.heap[k]? :=fun k hk=>by
  rw[← hwf,Below.heap_setCell _ _ _ _ hk,Below.heap_setCell _ _ _ _ hk,Below.heap_setCell _ _ _ _ hk,Below.heap_setCell _ _ _ _ hk,Below.heap_setCell _ _ _ _ hk,Below.heap_setCell _ _ _ _ hk]
 have hsw:w4.heap.size≤wf.heap.size:=by rw[← hwf]; simp[World.setCell]
 obtain ⟨e0,e1,e2,e3,e4,e5⟩:=z04 hrw;have HWF:=hid hwf;have HNF:=hid hnf;have HBF:=hid hbf;have HFF:Hid (Flds wf (some ⟨g,0,none⟩) l):=hid (HF.out.keepB (hkw g (by omega)) hsw)
 have hg5:g<wf.heap.size:=by omega
 clear hwf hrw hnf hbf hkw hsw hn4 hb4;go_wp2;rw[HWF.out];exact bodyPost_ret (v:= .tuple #[.slice (some ⟨g,0,none⟩) l.length c,.agg #[.int .i64 n.kind,.string n.data,.slice hh.A n.ptrs.length hh.a,.int .i64 n.size,.int .i64 n.count,.slice hh.B n.items.length hh.b],.int .i64 (x-1)]) (by simp[results,Tryz.results7,go_sem,e0,e1,e2,e3,e4,e5]) rfl ⟨⟨g,0,none⟩,c,l,m,n,hh,x-1,rfl,hl13,hlc,HEL.out,hg5,⟨by omega,by omega⟩,HFF.out,HNF.out.weak (fun _ _=>trivial),HT.out,HBF.out⟩
end Go.Proofs.YtblcibgphccfkaaGreatDoor
namespace Go.Proofs.YtblcibgphccfkaaGreatDoor
open Go.RowKit Go.Shelf
attribute [local go_sem] Oper.semAt_some
abbrev W8:= { l:List UInt8 // l.length=8 }
def wordQ (l:List UInt8)(i:Nat):W8:=⟨(l.drop (8*i)++ [0,0,0,0,0,0,0,0]).take 8,by simp⟩
theorem zeg (l:List UInt8)(i:Nat)(h:8*i+8≤l.length):(wordQ l i).1=(l.drop (8*i)).take 8:=by
 show List.take 8 (l.drop (8*i)++ [0,0,0,0,0,0,0,0])=_
 rw[List.take_append_of_le_length (by simp; omega)]
def z3e (l:List UInt8):List W8:=(List.range (l.length/8)).map (wordQ l)
theorem zaj (l:List UInt8):(z3e l).length=l.length/8:=by simp[z3e]
theorem z88 (l:List UInt8)(k:Nat):(List.range (k+1)).map (wordQ l)=(List.range k).map (wordQ l)++ [wordQ l k]:=by rw[List.range_succ,List.map_append]; rfl
theorem zjz (l:List UInt8)(k:Nat)(h:k≤l.length/8):(List.range k).map (wordQ l) <+: z3e l:=by
 obtain ⟨j,hj⟩:∃j,l.length/8=k+j:=⟨l.length/8-k,by omega⟩
 rw[z3e,hj,List.range_add,List.map_append];exact List.prefix_append _ _
def zid (Bn:Nat)(A B:World):Prop:=B.heap[Bn]? =A.heap[Bn]?
theorem z95 {w w':World}(h:Below w.heap.size w w'):w.grownBy w' none:=⟨h.os,h.tape,h.output,h.size,fun k hk _=>h.block k hk⟩
theorem zhx (n:Nat)(_hn:1≤n)(l Bn:Nat)(s:ByteArray)(hs:s.size≤maxLen)(J Jx:List W8→World→Prop)(W:World)(hJ:AbidesFrom W.heap.size J)
 (hY:∀pre x W1,J pre W1→pre.length<s.size/8→YieldAt Fence.wide (n-1) Tryz.prog l #[.agg (wd x.1)] W1 fun e W' =>
  (e= .returned (.bool true)∧J (pre++ [x]) W'∧zid Bn W1 W')∨(e= .returned (.bool false)∧Jx (pre++ [x]) W'))
 (hBn:W.heap[Bn]? =some (.cells #[.string s] 9 (0,0))) (h0:J [] W) :
 CallsIn Fence.wide n Tryz.prog 160 #[.func (.yield l) #[] #[],.pointer (some ⟨Bn,0,none⟩)] W fun e W'=>(∃v,e= .returned v) ∧
  ((∃ys,ys=z3e s.data.toList∧J ys W')∨(∃pre,pre <+: z3e s.data.toList∧Jx pre W')):=by
 have hs':=hs;unfold maxLen at hs'
 have hsl:s.data.toList.length=s.size:=by simp
 have HSL:=hid hsl;clear hsl;have hBlt:=(Array.getElem?_eq_some_iff.1 hBn).1;have hc0:=Boxed.cell (t:=9) hBn;refine callsIn_of_wp Tryz.func160 rfl trivial ?_ rfl
 simp only[Tryz.ntmps160,List.size_toArray,List.length_cons,List.length_nil,Nat.reduceAdd,Nat.reduceSub,Array.replicate_succ,Array.replicate_zero,List.push_toArray,List.append_toArray,List.nil_append,List.cons_append]
 gi_wp2
 gi_loopw [3,7] (fun _ i wr=>∃k:Nat,k≤s.size/8∧i= .int .i64 k∧J ((List.range k).map (wordQ s.data.toList)) wr∧Hid (wr.heap[Bn]? =some (.cells #[.string s] 9 (0,0)))) (fun _ i _=>s.size/8-(intOf i).toNat)
 case atStart=>exact ⟨0,by omega,rfl,h0,hBn⟩
 case round =>
  obtain ⟨k,hk,rfl,hJs,HB⟩:=hrel
  by_cases hk1:k<s.size/8
  · have hcell:=Boxed.cell (t:=9) HB.out
    have hlt1:decide ((k:Int)<(s.size:Int)/8)=true:=by simp; omega
    gi_wp2_with fail
    have hwq:=zeg s.data.toList k (by rw[HSL.out]; omega);have HWQ:=hid hwq;clear hwq;refine ⟨trivial,(callsIn_wide.2 (z6e s k _ hs (by omega) (by omega))).mono ?_⟩;rintro e w1 ⟨rfl,hb1⟩;rw[Int.toNat_natCast,← HWQ.out];have hJ1:=hJ _ _ _ none hJs (z95 hb1) (fun r e=>by cases e);have HB1:Hid (w1.heap[Bn]? =some (.cells #[.string s] 9 (0,0))):=hid ((hb1.block Bn (Array.getElem?_eq_some_iff.1 HB.out).1).trans HB.out);obtain ⟨fn,tmps,assign,body,hy,hR⟩:=hY _ (wordQ s.data.toList k) w1 hJ1 (by simpa using hk1);clear hb1 hcell;generalize hx:wd (wordQ s.data.toList k).1=x at hy ⊢;have HX:=hid hx;clear hx
    gi_wp2
    refine hR.mono ?_;rintro e W3 (⟨rfl,hJ3,hk3⟩ | ⟨rfl,hJx3⟩)
    · gi_wp2
      go_roundw
      case rel=>exact ⟨k+1,by omega,by go_num,by rw[z88]; exact hJ3,hk3.trans HB1.out⟩
      case measure=>simp[intOf]; omega
    · gi_wp2
      refine bodyPost_ret (results_none rfl _ _ _) rfl ?_;exact ⟨⟨_,rfl⟩,.inr ⟨_,by rw[← z88]; exact zjz _ _ (by rw[HSL.out]; omega),hJx3⟩⟩
  · obtain rfl:k=s.size/8:=by omega
    have hlt1:decide (((s.size/8:Nat):Int)<(s.size:Int)/8)=false:=by simp
    gi_wp2
    go_end0
    exact ⟨⟨_,rfl⟩,.inl ⟨_,by rw[z3e,HSL.out],hJs⟩⟩
theorem zcu (n:Nat)(hn:1≤n)(Bn:Nat)(s:ByteArray)(hs:s.size≤maxLen)(w:World)(hBn:w.heap[Bn]? =some (.cells #[.string s] 9 (0,0))) :
 SeqStopsK Fence.wide n Tryz.prog 160 #[.pointer (some ⟨Bn,0,none⟩)] (fun x:W8=> #[Value.agg (wd x.1)]) (zid Bn) (fun ys=>ys=z3e s.data.toList) (fun pre=>pre <+: z3e s.data.toList) (s.size/8) w:=fun l J Jx W hW hJ _ hY h0 =>
 zhx n hn l Bn s hs J Jx W hJ hY ((hW.block Bn (Array.getElem?_eq_some_iff.1 hBn).1).trans hBn) h0
end Go.Proofs.YtblcibgphccfkaaGreatDoor
namespace Go.Proofs.YtblcibgphccfkaaGreatDoor
open Go.RowKit
end Go.Proofs.YtblcibgphccfkaaGreatDoor
