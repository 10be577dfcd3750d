/- Texts of the proof of the law FnRecordCanon, side by side: part 8. -/
import Derived.Test.YtblcibgphccfkaaGreatDoorMRecordCanon07
set_option maxHeartbeats 8000000
set_option maxRecDepth 100000
open Go.Lib (hid)
namespace Go.Proofs.YtblcibgphccfkaaGreatDoor
open Go.RowKit
theorem zdl (l:List UInt8):∀(k a:Nat),l.length≤a→leN l a k=0
 | 0,_,_=>rfl
 | k+1,a,h=>by
   rw[leN,List.getElem?_eq_none h,zdl l k (a+1) (by omega)]
   rfl
theorem zf3 (l:List UInt8)(q:Nat):∀(k a:Nat),a+k≤8→leN ((l.drop (8*q)).take 8) a k=leN l (8*q+a) k
 | 0,_,_=>rfl
 | k+1,a,h=>by
   rw[leN,leN,zf3 l q k (a+1) (by omega),List.getElem?_take_of_lt (by omega),List.getElem?_drop]
   rfl
theorem zco (s:ByteArray)(at_ size:Int)(w:World)(hs:s.size≤maxLen) :
 Calls Tryz.prog 128 #[.string s,.int .i64 at_,.int .i64 size] w fun e w'=>e= .returned (.int .i64 (getI s.data.toList at_ size))∧Below w.heap.size w w':=by
 have hsl:s.data.toList.length=s.size:=by simp
 cases hw:z0w s.size
 · have hG:getI s.data.toList at_ size=0:=by rw[getI,hsl,hw,if_neg (by simp)]
   rw[hG];clear hG hsl;go_enter Tryz.func128,Tryz.ntmps128
   go_wp2_with (first | (go_at_call 142; refine (z1z _ _ hs).mono ?_; rintro e w' ⟨rfl,rfl⟩))
   go_ret;exact ⟨rfl,Below.refl _ _⟩
 cases hp:z2k at_ size
 · have hG:getI s.data.toList at_ size=0:=by rw[getI,hp,if_neg (by simp)]
   rw[hG];clear hG hsl;go_enter Tryz.func128,Tryz.ntmps128
   go_wp2_with (first | (go_at_call 142; refine (z1z _ _ hs).mono ?_; rintro e w' ⟨rfl,rfl⟩) | (go_at_call 152; refine (z5d _ _ _).mono ?_; rintro e w' ⟨rfl,rfl⟩))
   go_ret;exact ⟨rfl,Below.refl _ _⟩
 have hp':0≤at_∧at_≤1600∧((size=1∨size=2∨size=4∨size=8)∧at_%size=0):=by simpa [z2k] using hp
 obtain ⟨ha0,ha1,hz,hm⟩:=hp'
 have hw8:s.size%8=0∧s.size≤1600:=by simpa [z0w] using hw
 obtain ⟨hw1,hw2⟩:=hw8;obtain ⟨a,rfl⟩:=Int.eq_ofNat_of_zero_le ha0
 have hG:getI s.data.toList a size=wrap64 (leN s.data.toList a size.toNat:Nat):=by rw[getI,hsl,if_pos ⟨hw,hp⟩]; rfl
 by_cases hin:a<s.size
 · have hlen:((s.data.toList.drop (8*(a/8))).take 8).length=8:=by simp; omega
   have hsum:(a%8:Nat)+size≤8:=by rcases hz with rfl | rfl | rfl | rfl <;> omega
   have hz0:0≤size:=by omega
   have hN:=zf3 s.data.toList (a/8) size.toNat (a%8) (by omega);rw[show 8*(a/8)+a%8=a by omega] at hN;rw[← hN] at hG;have HG:=hid hG;have HL:=hid hlen;have HM:=hid hm;clear hN hG hlen hsl hm;go_enter Tryz.func128,Tryz.ntmps128
   go_wp2_with (first | (go_at_call 142; refine (z1z _ _ hs).mono ?_; rintro e w' ⟨rfl,rfl⟩) | (go_at_call 152; refine (z5d _ _ _).mono ?_; rintro e w' ⟨rfl,rfl⟩) | (go_at_call 148; go_must (refine (z6e s _ _ hs (by omega) (by omega)).mono ?_); rintro e w1 ⟨rfl,hb1⟩) | (go_at_call 153; go_must (refine (zfl _ _ _ _ (by exact HL.out) (by omega) (by omega) (by omega)).mono ?_); rintro e w2 ⟨rfl,hb2⟩))
   go_ret;refine ⟨z15 ?_,hb1.trans (hb2.mono hb1.size)⟩;rw[HG.out]
 · have hG0:getI s.data.toList a size=0:=by rw[hG,zdl _ _ _ (by omega)]; simp[wrap64]
   rw[hG0];clear hG hG0 hsl;go_enter Tryz.func128,Tryz.ntmps128
   go_wp2_with (first | (go_at_call 142; refine (z1z _ _ hs).mono ?_; rintro e w' ⟨rfl,rfl⟩) | (go_at_call 152; refine (z5d _ _ _).mono ?_; rintro e w' ⟨rfl,rfl⟩))
   go_ret;exact ⟨rfl,Below.refl _ _⟩
abbrev valT:TypeId:=30
def nK1 (b:Nat):Value:= .func (.func 127) #[] #[.pointer (some ⟨b,0,none⟩)]
def nK2 (b:Nat):Value:= .func (.func 129) #[] #[.pointer (some ⟨b,0,none⟩)]
theorem z3u {w:World}{g:Nat}{v0 v1:Value}{T:TypeId}(h:w.heap[g]? =some (.cells #[v0,v1] T (0,0))):w.cell? ⟨g,0,none⟩=some v0∧w.cell? ⟨g,1,none⟩=some v1:=by
 refine ⟨?_,?_⟩ <;> (rw[cell_of_row _ _ _ _ _ _ h]; rfl)
@[local go_sem] theorem zll (P:Program) (w:World) (a:Addr) (m:Mode) (fn:Fn) (x y:Array Value):(store a (.func fn x y) m).run P w=stored P w a (.func fn x y) m:=run_store P w a _ m rfl
abbrev keepT:TypeId:=105
theorem z0d (k:Int)(w:World) :
 Calls Tryz.prog 98 #[.int .i64 k] w fun e w'=>e= .returned (.agg #[nK1 w.heap.size,nK2 w.heap.size])∧w'.heap[w.heap.size]? =some (.cells #[.int .i64 k] 3 (0,0))∧Below w.heap.size w w':=by
 have hmf:∀(fn:Fn) (first cap:Array Value) (w:World),(Instr.makeFunc fn first cap).run Tryz.prog w= .ok (.func fn first cap) w:=fun _ _ _ _=>rfl
 have hax:(w.alloc (.cells #[.int .i64 k] 3)).heap.size=w.heap.size+1:=by simp
 have hrow:((w.alloc (.cells #[.int .i64 k] 3)).alloc (.cells #[nK1 w.heap.size,nK2 w.heap.size] keepT)).heap[w.heap.size+1]? =some (.cells #[nK1 w.heap.size,nK2 w.heap.size] keepT (0,0)):=hax ▸ heap_alloc_new _ _;have hbox:((w.alloc (.cells #[.int .i64 k] 3)).alloc (.cells #[nK1 w.heap.size,nK2 w.heap.size] keepT)).heap[w.heap.size]? =some (.cells #[.int .i64 k] 3 (0,0)):=z02 (heap_alloc_new w _) _;have hb:=((Below.refl w.heap.size w).alloc (Nat.le_refl _) (.cells #[.int .i64 k] 3)).alloc (by simp) (.cells #[nK1 w.heap.size,nK2 w.heap.size] keepT);obtain ⟨e0,e1⟩:=z3u hrow;have HE:=hid (And.intro e0 e1);clear e0 e1 hrow hax;go_enter Tryz.func98,Tryz.ntmps98;go_wp2;obtain ⟨e0,e1⟩:=HE.out;unfold nK1 nK2 at e0 e1;exact bodyPost_ret (v:= .agg #[nK1 w.heap.size,nK2 w.heap.size]) (by simp[results,Tryz.results98,go_sem,e0,e1,nK1,nK2]) rfl ⟨rfl,hbox,hb⟩
end Go.Proofs.YtblcibgphccfkaaGreatDoor
namespace Go.Proofs.YtblcibgphccfkaaGreatDoor
open Go.RowKit
@[local go_sem] theorem zjf (P:Program) (w:World) (a:Addr) (m:Mode) (fn:Fn) (x y:Array Value):(store a (.func fn x y) m).run P w=stored P w a (.func fn x y) m:=run_store P w a _ m rfl
@[local go_sem] theorem zhu (P:Program) (w:World) (a:Addr) (m:Mode):(store a .nilFunc m).run P w=stored P w a .nilFunc m:=run_store P w a _ m rfl
def fnV (f:FuncId):Value:= .func (.func f) #[] #[]
def NumK (k:Int)(w w':World)(f g:Value):Prop:=∃b,f=nK1 b∧g=nK2 b∧w.heap.size≤b∧w'.heap[b]? =some (.cells #[.int .i64 k] 3 (0,0))
def KeepP (z:Int)(w:World)(e:Ending)(w':World):Prop :=
 ∃f g,e= .returned (.agg #[f,g])∧Below w.heap.size w w'∧((z=1∧f=fnV 96∧g=fnV 97)∨(z=6∧f=fnV 99∧g=fnV 100)∨(z=2∧NumK 1 w w' f g)∨(z=3∧NumK 2 w w' f g)∨(z=4∧NumK 4 w w' f g)∨(z=5∧NumK 8 w w' f g))
abbrev z0z:TypeId:=137
theorem z52 {w W:World}{v0 v1:Value}(hz:W.heap[w.heap.size]? =some (.cells #[.nilFunc,.nilFunc] keepT (0,0)))(hb:Below w.heap.size w W) :
 ∃wf,((W.setCell ⟨w.heap.size,0,none⟩ v0).setCell ⟨w.heap.size,1,none⟩ v1)=wf∧wf.heap[w.heap.size]? =some (.cells #[v0,v1] keepT (0,0))∧Below w.heap.size w wf∧∀k,k≠w.heap.size→wf.heap[k]? =W.heap[k]? :=by
 refine ⟨_,rfl,z06 (z06 hz 0 _) 1 _,(hb.setCell (p:=⟨w.heap.size,0,none⟩) (Nat.le_refl _) _).setCell (p:=⟨w.heap.size,1,none⟩) (Nat.le_refl _) _,fun k hk=>?_⟩
 simp[World.setCell,Array.getElem?_modify,hk,Ne.symm hk]
theorem za1 (w:World) :
 Calls Tryz.prog 61 #[.int .i64 1] w (KeepP 1 w):=by
 go_enter Tryz.func61,Tryz.ntmps61
 go_wp2_with fail
 have hax:(w.alloc (.cells #[.nilFunc,.nilFunc] keepT)).heap.size=w.heap.size+1:=by simp
 refine (z0d 1 _).mono ?_;rintro e w1 ⟨rfl,hx1,hb1⟩;rw[hax] at hx1 hb1
 go_wp2_with fail
 refine (z0d 2 _).mono ?_;rintro e w2 ⟨rfl,hx2,hb2⟩
 go_wp2_with fail
 refine (z0d 4 _).mono ?_;rintro e w3 ⟨rfl,hx3,hb3⟩
 go_wp2_with fail
 refine (z0d 8 _).mono ?_;rintro e w4 ⟨rfl,hx4,hb4⟩;have s1:=hb1.size;have s2:=hb2.size;have s3:=hb3.size;have s4:=hb4.size;rw[hax] at s1;have hr4:=(hb4.block w.heap.size (by omega)).trans ((hb3.block w.heap.size (by omega)).trans ((hb2.block w.heap.size (by omega)).trans ((hb1.block w.heap.size (by omega)).trans (heap_alloc_new w (.cells #[.nilFunc,.nilFunc] keepT)))));have hb:Below w.heap.size w w4:=((((Below.refl _ w).alloc (Nat.le_refl _) _).trans (hb1.mono (by omega))).trans (hb2.mono (by omega))).trans ((hb3.mono (by omega)).trans (hb4.mono (by omega)));have y1:=(hb4.block (w.heap.size+1) (by have:=z00 hx1; omega)).trans ((hb3.block (w.heap.size+1) (by have:=z00 hx1; omega)).trans ((hb2.block _ (z00 hx1)).trans hx1));have y2:=(hb4.block w1.heap.size (by have:=z00 hx2; omega)).trans ((hb3.block _ (z00 hx2)).trans hx2);have y3:=(hb4.block _ (z00 hx3)).trans hx3
 have hr5:=(z02 hr4 (.cells #[.nilFunc,.nilFunc,fnV 96,fnV 97,nK1 (w.heap.size+1),nK2 (w.heap.size+1),nK1 w1.heap.size,nK2 w1.heap.size,nK1 w2.heap.size,nK2 w2.heap.size,nK1 w3.heap.size,nK2 w3.heap.size,fnV 99,fnV 100] z0z))
 have hb5:=hb.alloc hb.size (.cells #[.nilFunc,.nilFunc,fnV 96,fnV 97,nK1 (w.heap.size+1),nK2 (w.heap.size+1),nK1 w1.heap.size,nK2 w1.heap.size,nK1 w2.heap.size,nK2 w2.heap.size,nK1 w3.heap.size,nK2 w3.heap.size,fnV 99,fnV 100] z0z);have HY:=hid (And.intro (z02 y1 (.cells #[.nilFunc,.nilFunc,fnV 96,fnV 97,nK1 (w.heap.size+1),nK2 (w.heap.size+1),nK1 w1.heap.size,nK2 w1.heap.size,nK1 w2.heap.size,nK2 w2.heap.size,nK1 w3.heap.size,nK2 w3.heap.size,fnV 99,fnV 100] z0z)) (And.intro (z02 y2 (.cells #[.nilFunc,.nilFunc,fnV 96,fnV 97,nK1 (w.heap.size+1),nK2 (w.heap.size+1),nK1 w1.heap.size,nK2 w1.heap.size,nK1 w2.heap.size,nK2 w2.heap.size,nK1 w3.heap.size,nK2 w3.heap.size,fnV 99,fnV 100] z0z)) (And.intro (z02 y3 (.cells #[.nilFunc,.nilFunc,fnV 96,fnV 97,nK1 (w.heap.size+1),nK2 (w.heap.size+1),nK1 w1.heap.size,nK2 w1.heap.size,nK1 w2.heap.size,nK2 w2.heap.size,nK1 w3.heap.size,nK2 w3.heap.size,fnV 99,fnV 100] z0z)) (z02 hx4 (.cells #[.nilFunc,.nilFunc,fnV 96,fnV 97,nK1 (w.heap.size+1),nK2 (w.heap.size+1),nK1 w1.heap.size,nK2 w1.heap.size,nK1 w2.heap.size,nK2 w2.heap.size,nK1 w3.heap.size,nK2 w3.heap.size,fnV 99,fnV 100] z0z)))));have HS:=hid (And.intro s1 (And.intro s2 s3));have HR5:=hid hr5;have HB5:=hid hb5;obtain ⟨z0,z1⟩:=z3u hr5;have zf:=z03 hr5;clear hr4 hb hb1 hb2 hb3 hb4 hx1 hx2 hx3 hx4 y1 y2 y3 s1 s2 s3 s4 hax hr5 hb5;unfold nK1 nK2 fnV at z0 z1 zf HR5 HB5 HY;unfold nK1 nK2
 go_wp2_with fail
 clear z0 z1 zf;generalize w4.alloc (.cells _ z0z)=W5 at *;obtain ⟨wf,hwf,hrw,hbf,hkf⟩:=z52 (v0:=fnV 96) (v1:=fnV 97) HR5.out HB5.out
 simp only[nK1,nK2,fnV] at hwf
 rw[hwf];obtain ⟨e0,e1⟩:=z3u hrw;refine bodyPost_ret (v:= .agg #[fnV 96,fnV 97]) (by simp[results,Tryz.results61,go_sem,e0,e1]) rfl ⟨_,_,rfl,hbf,?_⟩;exact .inl ⟨rfl,rfl,rfl⟩
theorem zfw (w:World) :
 Calls Tryz.prog 61 #[.int .i64 2] w (KeepP 2 w):=by
 go_enter Tryz.func61,Tryz.ntmps61
 go_wp2_with fail
 have hax:(w.alloc (.cells #[.nilFunc,.nilFunc] keepT)).heap.size=w.heap.size+1:=by simp
 refine (z0d 1 _).mono ?_;rintro e w1 ⟨rfl,hx1,hb1⟩;rw[hax] at hx1 hb1
 go_wp2_with fail
 refine (z0d 2 _).mono ?_;rintro e w2 ⟨rfl,hx2,hb2⟩
 go_wp2_with fail
 refine (z0d 4 _).mono ?_;rintro e w3 ⟨rfl,hx3,hb3⟩
 go_wp2_with fail
 refine (z0d 8 _).mono ?_;rintro e w4 ⟨rfl,hx4,hb4⟩;have s1:=hb1.size;have s2:=hb2.size;have s3:=hb3.size;have s4:=hb4.size;rw[hax] at s1;have hr4:=(hb4.block w.heap.size (by omega)).trans ((hb3.block w.heap.size (by omega)).trans ((hb2.block w.heap.size (by omega)).trans ((hb1.block w.heap.size (by omega)).trans (heap_alloc_new w (.cells #[.nilFunc,.nilFunc] keepT)))));have hb:Below w.heap.size w w4:=((((Below.refl _ w).alloc (Nat.le_refl _) _).trans (hb1.mono (by omega))).trans (hb2.mono (by omega))).trans ((hb3.mono (by omega)).trans (hb4.mono (by omega)));have y1:=(hb4.block (w.heap.size+1) (by have:=z00 hx1; omega)).trans ((hb3.block (w.heap.size+1) (by have:=z00 hx1; omega)).trans ((hb2.block _ (z00 hx1)).trans hx1));have y2:=(hb4.block w1.heap.size (by have:=z00 hx2; omega)).trans ((hb3.block _ (z00 hx2)).trans hx2);have y3:=(hb4.block _ (z00 hx3)).trans hx3
 have hr5:=(z02 hr4 (.cells #[.nilFunc,.nilFunc,fnV 96,fnV 97,nK1 (w.heap.size+1),nK2 (w.heap.size+1),nK1 w1.heap.size,nK2 w1.heap.size,nK1 w2.heap.size,nK2 w2.heap.size,nK1 w3.heap.size,nK2 w3.heap.size,fnV 99,fnV 100] z0z))
 have hb5:=hb.alloc hb.size (.cells #[.nilFunc,.nilFunc,fnV 96,fnV 97,nK1 (w.heap.size+1),nK2 (w.heap.size+1),nK1 w1.heap.size,nK2 w1.heap.size,nK1 w2.heap.size,nK2 w2.heap.size,nK1 w3.heap.size,nK2 w3.heap.size,fnV 99,fnV 100] z0z);have HY:=hid (And.intro (z02 y1 (.cells #[.nilFunc,.nilFunc,fnV 96,fnV 97,nK1 (w.heap.size+1),nK2 (w.heap.size+1),nK1 w1.heap.size,nK2 w1.heap.size,nK1 w2.heap.size,nK2 w2.heap.size,nK1 w3.heap.size,nK2 w3.heap.size,fnV 99,fnV 100] z0z)) (And.intro (z02 y2 (.cells #[.nilFunc,.nilFunc,fnV 96,fnV 97,nK1 (w.heap.size+1),nK2 (w.heap.size+1),nK1 w1.heap.size,nK2 w1.heap.size,nK1 w2.heap.size,nK2 w2.heap.size,nK1 w3.heap.size,nK2 w3.heap.size,fnV 99,fnV 100] z0z)) (And.intro (z02 y3 (.cells #[.nilFunc,.nilFunc,fnV 96,fnV 97,nK1 (w.heap.size+1),nK2 (w.heap.size+1),nK1 w1.heap.size,nK2 w1.heap.size,nK1 w2.heap.size,nK2 w2.heap.size,nK1 w3.heap.size,nK2 w3.heap.size,fnV 99,fnV 100] z0z)) (z02 hx4 (.cells #[.nilFunc,.nilFunc,fnV 96,fnV 97,nK1 (w.heap.size+1),nK2 (w.heap.size+1),nK1 w1.heap.size,nK2 w1.heap.size,nK1 w2.heap.size,nK2 w2.heap.size,nK1 w3.heap.size,nK2 w3.heap.size,fnV 99,fnV 100] z0z)))));have HS:=hid (And.intro s1 (And.intro s2 s3));have HR5:=hid hr5;have HB5:=hid hb5;obtain ⟨z0,z1⟩:=z3u hr5;have zf:=z03 hr5;clear hr4 hb hb1 hb2 hb3 hb4 hx1 hx2 hx3 hx4 y1 y2 y3 s1 s2 s3 s4 hax hr5 hb5;unfold nK1 nK2 fnV at z0 z1 zf HR5 HB5 HY;unfold nK1 nK2
 go_wp2_with fail
 clear z0 z1 zf;generalize w4.alloc (.cells _ z0z)=W5 at *;obtain ⟨wf,hwf,hrw,hbf,hkf⟩:=z52 (v0:=nK1 (w.heap.size+1)) (v1:=nK2 (w.heap.size+1)) HR5.out HB5.out
 simp only[nK1,nK2,fnV] at hwf
 rw[hwf];obtain ⟨e0,e1⟩:=z3u hrw;refine bodyPost_ret (v:= .agg #[nK1 (w.heap.size+1),nK2 (w.heap.size+1)]) (by simp[results,Tryz.results61,go_sem,e0,e1]) rfl ⟨_,_,rfl,hbf,?_⟩;exact .inr (.inr (.inl ⟨rfl,_,rfl,rfl,by have:=HS.out; omega,(hkf _ (by have:=HS.out; omega)).trans HY.out.1⟩))
theorem z9m (w:World) :
 Calls Tryz.prog 61 #[.int .i64 3] w (KeepP 3 w):=by
 go_enter Tryz.func61,Tryz.ntmps61
 go_wp2_with fail
 have hax:(w.alloc (.cells #[.nilFunc,.nilFunc] keepT)).heap.size=w.heap.size+1:=by simp
 refine (z0d 1 _).mono ?_;rintro e w1 ⟨rfl,hx1,hb1⟩;rw[hax] at hx1 hb1
 go_wp2_with fail
 refine (z0d 2 _).mono ?_;rintro e w2 ⟨rfl,hx2,hb2⟩
 go_wp2_with fail
 refine (z0d 4 _).mono ?_;rintro e w3 ⟨rfl,hx3,hb3⟩
 go_wp2_with fail
 refine (z0d 8 _).mono ?_;rintro e w4 ⟨rfl,hx4,hb4⟩;have s1:=hb1.size;have s2:=hb2.size;have s3:=hb3.size;have s4:=hb4.size;rw[hax] at s1;have hr4:=(hb4.block w.heap.size (by omega)).trans ((hb3.block w.heap.size (by omega)).trans ((hb2.block w.heap.size (by omega)).trans ((hb1.block w.heap.size (by omega)).trans (heap_alloc_new w (.cells #[.nilFunc,.nilFunc] keepT)))));have hb:Below w.heap.size w w4:=((((Below.refl _ w).alloc (Nat.le_refl _) _).trans (hb1.mono (by omega))).trans (hb2.mono (by omega))).trans ((hb3.mono (by omega)).trans (hb4.mono (by omega)));have y1:=(hb4.block (w.heap.size+1) (by have:=z00 hx1; omega)).trans ((hb3.block (w.heap.size+1) (by have:=z00 hx1; omega)).trans ((hb2.block _ (z00 hx1)).trans hx1));have y2:=(hb4.block w1.heap.size (by have:=z00 hx2; omega)).trans ((hb3.block _ (z00 hx2)).trans hx2);have y3:=(hb4.block _ (z00 hx3)).trans hx3
 have hr5:=(z02 hr4 (.cells #[.nilFunc,.nilFunc,fnV 96,fnV 97,nK1 (w.heap.size+1),nK2 (w.heap.size+1),nK1 w1.heap.size,nK2 w1.heap.size,nK1 w2.heap.size,nK2 w2.heap.size,nK1 w3.heap.size,nK2 w3.heap.size,fnV 99,fnV 100] z0z))
 have hb5:=hb.alloc hb.size (.cells #[.nilFunc,.nilFunc,fnV 96,fnV 97,nK1 (w.heap.size+1),nK2 (w.heap.size+1),nK1 w1.heap.size,nK2 w1.heap.size,nK1 w2.heap.size,nK2 w2.heap.size,nK1 w3.heap.size,nK2 w3.heap.size,fnV 99,fnV 100] z0z);have HY:=hid (And.intro (z02 y1 (.cells #[.nilFunc,.nilFunc,fnV 96,fnV 97,nK1 (w.heap.size+1),nK2 (w.heap.size+1),nK1 w1.heap.size,nK2 w1.heap.size,nK1 w2.heap.size,nK2 w2.heap.size,nK1 w3.heap.size,nK2 w3.heap.size,fnV 99,fnV 100] z0z)) (And.intro (z02 y2 (.cells #[.nilFunc,.nilFunc,fnV 96,fnV 97,nK1 (w.heap.size+1),nK2 (w.heap.size+1),nK1 w1.heap.size,nK2 w1.heap.size,nK1 w2.heap.size,nK2 w2.heap.size,nK1 w3.heap.size,nK2 w3.heap.size,fnV 99,fnV 100] z0z)) (And.intro (z02 y3 (.cells #[.nilFunc,.nilFunc,fnV 96,fnV 97,nK1 (w.heap.size+1),nK2 (w.heap.size+1),nK1 w1.heap.size,nK2 w1.heap.size,nK1 w2.heap.size,nK2 w2.heap.size,nK1 w3.heap.size,nK2 w3.heap.size,fnV 99,fnV 100] z0z)) (z02 hx4 (.cells #[.nilFunc,.nilFunc,fnV 96,fnV 97,nK1 (w.heap.size+1),nK2 (w.heap.size+1),nK1 w1.heap.size,nK2 w1.heap.size,nK1 w2.heap.size,nK2 w2.heap.size,nK1 w3.heap.size,nK2 w3.heap.size,fnV 99,fnV 100] z0z)))));have HS:=hid (And.intro s1 (And.intro s2 s3));have HR5:=hid hr5;have HB5:=hid hb5;obtain ⟨z0,z1⟩:=z3u hr5;have zf:=z03 hr5;clear hr4 hb hb1 hb2 hb3 hb4 hx1 hx2 hx3 hx4 y1 y2 y3 s1 s2 s3 s4 hax hr5 hb5;unfold nK1 nK2 fnV at z0 z1 zf HR5 HB5 HY;unfold nK1 nK2
 go_wp2_with fail
 clear z0 z1 zf;generalize w4.alloc (.cells _ z0z)=W5 at *;obtain ⟨wf,hwf,hrw,hbf,hkf⟩:=z52 (v0:=nK1 w1.heap.size) (v1:=nK2 w1.heap.size) HR5.out HB5.out
 simp only[nK1,nK2,fnV] at hwf
 rw[hwf];obtain ⟨e0,e1⟩:=z3u hrw;refine bodyPost_ret (v:= .agg #[nK1 w1.heap.size,nK2 w1.heap.size]) (by simp[results,Tryz.results61,go_sem,e0,e1]) rfl ⟨_,_,rfl,hbf,?_⟩;exact .inr (.inr (.inr (.inl ⟨rfl,_,rfl,rfl,by have:=HS.out; omega,(hkf _ (by have:=HS.out; omega)).trans HY.out.2.1⟩)))
theorem zg5 (w:World) :
 Calls Tryz.prog 61 #[.int .i64 4] w (KeepP 4 w):=by
 go_enter Tryz.func61,Tryz.ntmps61
 go_wp2_with fail
 have hax:(w.alloc (.cells #[.nilFunc,.nilFunc] keepT)).heap.size=w.heap.size+1:=by simp
 refine (z0d 1 _).mono ?_;rintro e w1 ⟨rfl,hx1,hb1⟩;rw[hax] at hx1 hb1
 go_wp2_with fail
 refine (z0d 2 _).mono ?_;rintro e w2 ⟨rfl,hx2,hb2⟩
 go_wp2_with fail
 refine (z0d 4 _).mono ?_;rintro e w3 ⟨rfl,hx3,hb3⟩
 go_wp2_with fail
 refine (z0d 8 _).mono ?_;rintro e w4 ⟨rfl,hx4,hb4⟩;have s1:=hb1.size;have s2:=hb2.size;have s3:=hb3.size;have s4:=hb4.size;rw[hax] at s1;have hr4:=(hb4.block w.heap.size (by omega)).trans ((hb3.block w.heap.size (by omega)).trans ((hb2.block w.heap.size (by omega)).trans ((hb1.block w.heap.size (by omega)).trans (heap_alloc_new w (.cells #[.nilFunc,.nilFunc] keepT)))));have hb:Below w.heap.size w w4:=((((Below.refl _ w).alloc (Nat.le_refl _) _).trans (hb1.mono (by omega))).trans (hb2.mono (by omega))).trans ((hb3.mono (by omega)).trans (hb4.mono (by omega)));have y1:=(hb4.block (w.heap.size+1) (by have:=z00 hx1; omega)).trans ((hb3.block (w.heap.size+1) (by have:=z00 hx1; omega)).trans ((hb2.block _ (z00 hx1)).trans hx1));have y2:=(hb4.block w1.heap.size (by have:=z00 hx2; omega)).trans ((hb3.block _ (z00 hx2)).trans hx2);have y3:=(hb4.block _ (z00 hx3)).trans hx3
 have hr5:=(z02 hr4 (.cells #[.nilFunc,.nilFunc,fnV 96,fnV 97,nK1 (w.heap.size+1),nK2 (w.heap.size+1),nK1 w1.heap.size,nK2 w1.heap.size,nK1 w2.heap.size,nK2 w2.heap.size,nK1 w3.heap.size,nK2 w3.heap.size,fnV 99,fnV 100] z0z))
 have hb5:=hb.alloc hb.size (.cells #[.nilFunc,.nilFunc,fnV 96,fnV 97,nK1 (w.heap.size+1),nK2 (w.heap.size+1),nK1 w1.heap.size,nK2 w1.heap.size,nK1 w2.heap.size,nK2 w2.heap.size,nK1 w3.heap.size,nK2 w3.heap.size,fnV 99,fnV 100] z0z);have HY:=hid (And.intro (z02 y1 (.cells #[.nilFunc,.nilFunc,fnV 96,fnV 97,nK1 (w.heap.size+1),nK2 (w.heap.size+1),nK1 w1.heap.size,nK2 w1.heap.size,nK1 w2.heap.size,nK2 w2.heap.size,nK1 w3.heap.size,nK2 w3.heap.size,fnV 99,fnV 100] z0z)) (And.intro (z02 y2 (.cells #[.nilFunc,.nilFunc,fnV 96,fnV 97,nK1 (w.heap.size+1),nK2 (w.heap.size+1),nK1 w1.heap.size,nK2 w1.heap.size,nK1 w2.heap.size,nK2 w2.heap.size,nK1 w3.heap.size,nK2 w3.heap.size,fnV 99,fnV 100] z0z)) (And.intro (z02 y3 (.cells #[.nilFunc,.nilFunc,fnV 96,fnV 97,nK1 (w.heap.size+1),nK2 (w.heap.size+1),nK1 w1.heap.size,nK2 w1.heap.size,nK1 w2.heap.size,nK2 w2.heap.size,nK1 w3.heap.size,nK2 w3.heap.size,fnV 99,fnV 100] z0z)) (z02 hx4 (.cells #[.nilFunc,.nilFunc,fnV 96,fnV 97,nK1 (w.heap.size+1),nK2 (w.heap.size+1),nK1 w1.heap.size,nK2 w1.heap.size,nK1 w2.heap.size,nK2 w2.heap.size,nK1 w3.heap.size,nK2 w3.heap.size,fnV 99,fnV 100] z0z)))));have HS:=hid (And.intro s1 (And.intro s2 s3));have HR5:=hid hr5;have HB5:=hid hb5;obtain ⟨z0,z1⟩:=z3u hr5;have zf:=z03 hr5;clear hr4 hb hb1 hb2 hb3 hb4 hx1 hx2 hx3 hx4 y1 y2 y3 s1 s2 s3 s4 hax hr5 hb5;unfold nK1 nK2 fnV at z0 z1 zf HR5 HB5 HY;unfold nK1 nK2
 go_wp2_with fail
 clear z0 z1 zf;generalize w4.alloc (.cells _ z0z)=W5 at *;obtain ⟨wf,hwf,hrw,hbf,hkf⟩:=z52 (v0:=nK1 w2.heap.size) (v1:=nK2 w2.heap.size) HR5.out HB5.out
 simp only[nK1,nK2,fnV] at hwf
 rw[hwf];obtain ⟨e0,e1⟩:=z3u hrw;refine bodyPost_ret (v:= .agg #[nK1 w2.heap.size,nK2 w2.heap.size]) (by simp[results,Tryz.results61,go_sem,e0,e1]) rfl ⟨_,_,rfl,hbf,?_⟩;exact .inr (.inr (.inr (.inr (.inl ⟨rfl,_,rfl,rfl,by have:=HS.out; omega,(hkf _ (by have:=HS.out; omega)).trans HY.out.2.2.1⟩))))
theorem zfs (w:World) :
 Calls Tryz.prog 61 #[.int .i64 5] w (KeepP 5 w):=by
 go_enter Tryz.func61,Tryz.ntmps61
 go_wp2_with fail
 have hax:(w.alloc (.cells #[.nilFunc,.nilFunc] keepT)).heap.size=w.heap.size+1:=by simp
 refine (z0d 1 _).mono ?_;rintro e w1 ⟨rfl,hx1,hb1⟩;rw[hax] at hx1 hb1
 go_wp2_with fail
 refine (z0d 2 _).mono ?_;rintro e w2 ⟨rfl,hx2,hb2⟩
 go_wp2_with fail
 refine (z0d 4 _).mono ?_;rintro e w3 ⟨rfl,hx3,hb3⟩
 go_wp2_with fail
 refine (z0d 8 _).mono ?_;rintro e w4 ⟨rfl,hx4,hb4⟩;have s1:=hb1.size;have s2:=hb2.size;have s3:=hb3.size;have s4:=hb4.size;rw[hax] at s1;have hr4:=(hb4.block w.heap.size (by omega)).trans ((hb3.block w.heap.size (by omega)).trans ((hb2.block w.heap.size (by omega)).trans ((hb1.block w.heap.size (by omega)).trans (heap_alloc_new w (.cells #[.nilFunc,.nilFunc] keepT)))));have hb:Below w.heap.size w w4:=((((Below.refl _ w).alloc (Nat.le_refl _) _).trans (hb1.mono (by omega))).trans (hb2.mono (by omega))).trans ((hb3.mono (by omega)).trans (hb4.mono (by omega)));have y1:=(hb4.block (w.heap.size+1) (by have:=z00 hx1; omega)).trans ((hb3.block (w.heap.size+1) (by have:=z00 hx1; omega)).trans ((hb2.block _ (z00 hx1)).trans hx1));have y2:=(hb4.block w1.heap.size (by have:=z00 hx2; omega)).trans ((hb3.block _ (z00 hx2)).trans hx2);have y3:=(hb4.block _ (z00 hx3)).trans hx3
 have hr5:=(z02 hr4 (.cells #[.nilFunc,.nilFunc,fnV 96,fnV 97,nK1 (w.heap.size+1),nK2 (w.heap.size+1),nK1 w1.heap.size,nK2 w1.heap.size,nK1 w2.heap.size,nK2 w2.heap.size,nK1 w3.heap.size,nK2 w3.heap.size,fnV 99,fnV 100] z0z))
 have hb5:=hb.alloc hb.size (.cells #[.nilFunc,.nilFunc,fnV 96,fnV 97,nK1 (w.heap.size+1),nK2 (w.heap.size+1),nK1 w1.heap.size,nK2 w1.heap.size,nK1 w2.heap.size,nK2 w2.heap.size,nK1 w3.heap.size,nK2 w3.heap.size,fnV 99,fnV 100] z0z);have HY:=hid (And.intro (z02 y1 (.cells #[.nilFunc,.nilFunc,fnV 96,fnV 97,nK1 (w.heap.size+1),nK2 (w.heap.size+1),nK1 w1.heap.size,nK2 w1.heap.size,nK1 w2.heap.size,nK2 w2.heap.size,nK1 w3.heap.size,nK2 w3.heap.size,fnV 99,fnV 100] z0z)) (And.intro (z02 y2 (.cells #[.nilFunc,.nilFunc,fnV 96,fnV 97,nK1 (w.heap.size+1),nK2 (w.heap.size+1),nK1 w1.heap.size,nK2 w1.heap.size,nK1 w2.heap.size,nK2 w2.heap.size,nK1 w3.heap.size,nK2 w3.heap.size,fnV 99,fnV 100] z0z)) (And.intro (z02 y3 (.cells #[.nilFunc,.nilFunc,fnV 96,fnV 97,nK1 (w.heap.size+1),nK2 (w.heap.size+1),nK1 w1.heap.size,nK2 w1.heap.size,nK1 w2.heap.size,nK2 w2.heap.size,nK1 w3.heap.size,nK2 w3.heap.size,fnV 99,fnV 100] z0z)) (z02 hx4 (.cells #[.nilFunc,.nilFunc,fnV 96,fnV 97,nK1 (w.heap.size+1),nK2 (w.heap.size+1),nK1 w1.heap.size,nK2 w1.heap.size,nK1 w2.heap.size,nK2 w2.heap.size,nK1 w3.heap.size,nK2 w3.heap.size,fnV 99,fnV 100] z0z)))));have HS:=hid (And.intro s1 (And.intro s2 s3));have HR5:=hid hr5;have HB5:=hid hb5;obtain ⟨z0,z1⟩:=z3u hr5;have zf:=z03 hr5;clear hr4 hb hb1 hb2 hb3 hb4 hx1 hx2 hx3 hx4 y1 y2 y3 s1 s2 s3 s4 hax hr5 hb5;unfold nK1 nK2 fnV at z0 z1 zf HR5 HB5 HY;unfold nK1 nK2
 go_wp2_with fail
 clear z0 z1 zf;generalize w4.alloc (.cells _ z0z)=W5 at *;obtain ⟨wf,hwf,hrw,hbf,hkf⟩:=z52 (v0:=nK1 w3.heap.size) (v1:=nK2 w3.heap.size) HR5.out HB5.out
 simp only[nK1,nK2,fnV] at hwf
 rw[hwf];obtain ⟨e0,e1⟩:=z3u hrw;refine bodyPost_ret (v:= .agg #[nK1 w3.heap.size,nK2 w3.heap.size]) (by simp[results,Tryz.results61,go_sem,e0,e1]) rfl ⟨_,_,rfl,hbf,?_⟩;exact .inr (.inr (.inr (.inr (.inr ⟨rfl,_,rfl,rfl,by have:=HS.out; omega,(hkf _ (by have:=HS.out; omega)).trans HY.out.2.2.2⟩))))
theorem z9e (w:World) :
 Calls Tryz.prog 61 #[.int .i64 6] w (KeepP 6 w):=by
 go_enter Tryz.func61,Tryz.ntmps61
 go_wp2_with fail
 have hax:(w.alloc (.cells #[.nilFunc,.nilFunc] keepT)).heap.size=w.heap.size+1:=by simp
 refine (z0d 1 _).mono ?_;rintro e w1 ⟨rfl,hx1,hb1⟩;rw[hax] at hx1 hb1
 go_wp2_with fail
 refine (z0d 2 _).mono ?_;rintro e w2 ⟨rfl,hx2,hb2⟩
 go_wp2_with fail
 refine (z0d 4 _).mono ?_;rintro e w3 ⟨rfl,hx3,hb3⟩
 go_wp2_with fail
 refine (z0d 8 _).mono ?_;rintro e w4 ⟨rfl,hx4,hb4⟩;have s1:=hb1.size;have s2:=hb2.size;have s3:=hb3.size;have s4:=hb4.size;rw[hax] at s1;have hr4:=(hb4.block w.heap.size (by omega)).trans ((hb3.block w.heap.size (by omega)).trans ((hb2.block w.heap.size (by omega)).trans ((hb1.block w.heap.size (by omega)).trans (heap_alloc_new w (.cells #[.nilFunc,.nilFunc] keepT)))));have hb:Below w.heap.size w w4:=((((Below.refl _ w).alloc (Nat.le_refl _) _).trans (hb1.mono (by omega))).trans (hb2.mono (by omega))).trans ((hb3.mono (by omega)).trans (hb4.mono (by omega)));have y1:=(hb4.block (w.heap.size+1) (by have:=z00 hx1; omega)).trans ((hb3.block (w.heap.size+1) (by have:=z00 hx1; omega)).trans ((hb2.block _ (z00 hx1)).trans hx1));have y2:=(hb4.block w1.heap.size (by have:=z00 hx2; omega)).trans ((hb3.block _ (z00 hx2)).trans hx2);have y3:=(hb4.block _ (z00 hx3)).trans hx3
 have hr5:=(z02 hr4 (.cells #[.nilFunc,.nilFunc,fnV 96,fnV 97,nK1 (w.heap.size+1),nK2 (w.heap.size+1),nK1 w1.heap.size,nK2 w1.heap.size,nK1 w2.heap.size,nK2 w2.heap.size,nK1 w3.heap.size,nK2 w3.heap.size,fnV 99,fnV 100] z0z))
 have hb5:=hb.alloc hb.size (.cells #[.nilFunc,.nilFunc,fnV 96,fnV 97,nK1 (w.heap.size+1),nK2 (w.heap.size+1),nK1 w1.heap.size,nK2 w1.heap.size,nK1 w2.heap.size,nK2 w2.heap.size,nK1 w3.heap.size,nK2 w3.heap.size,fnV 99,fnV 100] z0z);have HY:=hid (And.intro (z02 y1 (.cells #[.nilFunc,.nilFunc,fnV 96,fnV 97,nK1 (w.heap.size+1),nK2 (w.heap.size+1),nK1 w1.heap.size,nK2 w1.heap.size,nK1 w2.heap.size,nK2 w2.heap.size,nK1 w3.heap.size,nK2 w3.heap.size,fnV 99,fnV 100] z0z)) (And.intro (z02 y2 (.cells #[.nilFunc,.nilFunc,fnV 96,fnV 97,nK1 (w.heap.size+1),nK2 (w.heap.size+1),nK1 w1.heap.size,nK2 w1.heap.size,nK1 w2.heap.size,nK2 w2.heap.size,nK1 w3.heap.size,nK2 w3.heap.size,fnV 99,fnV 100] z0z)) (And.intro (z02 y3 (.cells #[.nilFunc,.nilFunc,fnV 96,fnV 97,nK1 (w.heap.size+1),nK2 (w.heap.size+1),nK1 w1.heap.size,nK2 w1.heap.size,nK1 w2.heap.size,nK2 w2.heap.size,nK1 w3.heap.size,nK2 w3.heap.size,fnV 99,fnV 100] z0z)) (z02 hx4 (.cells #[.nilFunc,.nilFunc,fnV 96,fnV 97,nK1 (w.heap.size+1),nK2 (w.heap.size+1),nK1 w1.heap.size,nK2 w1.heap.size,nK1 w2.heap.size,nK2 w2.heap.size,nK1 w3.heap.size,nK2 w3.heap.size,fnV 99,fnV 100] z0z)))));have HS:=hid (And.intro s1 (And.intro s2 s3));have HR5:=hid hr5;have HB5:=hid hb5;obtain ⟨z0,z1⟩:=z3u hr5;have zf:=z03 hr5;clear hr4 hb hb1 hb2 hb3 hb4 hx1 hx2 hx3 hx4 y1 y2 y3 s1 s2 s3 s4 hax hr5 hb5;unfold nK1 nK2 fnV at z0 z1 zf HR5 HB5 HY;unfold nK1 nK2
 go_wp2_with fail
 clear z0 z1 zf;generalize w4.alloc (.cells _ z0z)=W5 at *;obtain ⟨wf,hwf,hrw,hbf,hkf⟩:=z52 (v0:=fnV 99) (v1:=fnV 100) HR5.out HB5.out
 simp only[nK1,nK2,fnV] at hwf
 rw[hwf];obtain ⟨e0,e1⟩:=z3u hrw;refine bodyPost_ret (v:= .agg #[fnV 99,fnV 100]) (by simp[results,Tryz.results61,go_sem,e0,e1]) rfl ⟨_,_,rfl,hbf,?_⟩;exact .inr (.inl ⟨rfl,rfl,rfl⟩)
theorem zbb (z:Int)(w:World)(h0:1≤z)(h1:z≤6):Calls Tryz.prog 61 #[.int .i64 z] w (KeepP z w):=by
 have h:z=1∨z=2∨z=3∨z=4∨z=5∨z=6:=by omega
 rcases h with rfl | rfl | rfl | rfl | rfl | rfl
 · exact za1 w
 · exact zfw w
 · exact z9m w
 · exact zg5 w
 · exact zfs w
 · exact z9e w
end Go.Proofs.YtblcibgphccfkaaGreatDoor
namespace Go.Proofs.YtblcibgphccfkaaGreatDoor
open Go.RowKit
theorem z08 {w:World}{g:Nat}{v0 v1 v2 v3 v4 v5 v6 v7 v8 v9 v10:Value}{T:TypeId}(h:w.heap[g]? =some (.cells #[v0,v1,v2,v3,v4,v5,v6,v7,v8,v9,v10] T (0,0))) :
 w.cell? ⟨g,0,none⟩=some v0∧w.cell? ⟨g,1,none⟩=some v1∧w.cell? ⟨g,2,none⟩=some v2∧w.cell? ⟨g,3,none⟩=some v3∧w.cell? ⟨g,4,none⟩=some v4∧w.cell? ⟨g,5,none⟩=some v5∧w.cell? ⟨g,6,none⟩=some v6∧w.cell? ⟨g,7,none⟩=some v7∧w.cell? ⟨g,8,none⟩=some v8∧w.cell? ⟨g,9,none⟩=some v9∧w.cell? ⟨g,10,none⟩=some v10:=by
 refine ⟨?_,?_,?_,?_,?_,?_,?_,?_,?_,?_,?_⟩ <;> (rw[cell_of_row _ _ _ _ _ _ h]; rfl)
theorem z1v {w W:World}{g R i:Nat}{T:TypeId}{arr arr':Array Value}{v:Value}(hz:W.heap[g]? =some (.cells arr T (0,0)))(hb:Below R w W)(hR:R≤g)(ha:arr.setIfInBounds i v=arr') :
 ∃wf,W.setCell ⟨g,i,none⟩ v=wf∧wf.heap[g]? =some (.cells arr' T (0,0))∧Below R w wf∧(∀k,k≠g→wf.heap[k]? =W.heap[k]?)∧W.grownBy wf (some g):=by
 subst ha;refine ⟨_,rfl,z06 hz i v,hb.setCell (p:=⟨g,i,none⟩) hR v,fun k hk=>?_,⟨rfl,rfl,rfl,by simp[World.setCell],fun k _ hk=>?_⟩⟩
 · simp[World.setCell,Array.getElem?_modify,hk,Ne.symm hk]
 · have hk2:k≠g:=fun e=>hk (by rw[e])
   simp[World.setCell,Array.getElem?_modify,hk2,Ne.symm hk2]
theorem z1l {a b c:World}{r:Option Nat}(h:a.grownBy b r)(k:b.grownBy c r):a.grownBy c r :=
 ⟨k.os.trans h.os,k.tape.trans h.tape,k.output.trans h.output,Nat.le_trans h.size k.size,fun x hx hn=>(k.block x (Nat.lt_of_lt_of_le hx h.size) hn).trans (h.block x hx hn)⟩
theorem fin11 {w W:World}{g R:Nat}{T:TypeId}{u0 u1 u2 u3 u4 u5 u6 u7 u8 u9 u10:Value}(v0 v1 v2 v3 v4 v5 v6 v7 v8 v9 v10:Value)(hz:W.heap[g]? =some (.cells #[u0,u1,u2,u3,u4,u5,u6,u7,u8,u9,u10] T (0,0)))(hb:Below R w W)(hR:R≤g) :
 ∃wf,(((((((((((W.setCell ⟨g,0,none⟩ v0).setCell ⟨g,1,none⟩ v1).setCell ⟨g,2,none⟩ v2).setCell ⟨g,3,none⟩ v3).setCell ⟨g,4,none⟩ v4).setCell ⟨g,5,none⟩ v5).setCell ⟨g,6,none⟩ v6).setCell ⟨g,7,none⟩ v7).setCell ⟨g,8,none⟩ v8).setCell ⟨g,9,none⟩ v9).setCell ⟨g,10,none⟩ v10)=wf∧wf.heap[g]? =some (.cells #[v0,v1,v2,v3,v4,v5,v6,v7,v8,v9,v10] T (0,0))∧Below R w wf∧(∀k,k≠g→wf.heap[k]? =W.heap[k]?)∧W.grownBy wf (some g):=by
 obtain ⟨W0,rfl,z0,b0,k0,g0⟩:=z1v (i:=0) (v:=v0) (arr':= #[v0,u1,u2,u3,u4,u5,u6,u7,u8,u9,u10]) hz hb hR rfl;obtain ⟨W1,rfl,z1,b1,k1,g1⟩:=z1v (i:=1) (v:=v1) (arr':= #[v0,v1,u2,u3,u4,u5,u6,u7,u8,u9,u10]) z0 b0 hR rfl;obtain ⟨W2,rfl,z2,b2,k2,g2⟩:=z1v (i:=2) (v:=v2) (arr':= #[v0,v1,v2,u3,u4,u5,u6,u7,u8,u9,u10]) z1 b1 hR rfl;obtain ⟨W3,rfl,z3,b3,k3,g3⟩:=z1v (i:=3) (v:=v3) (arr':= #[v0,v1,v2,v3,u4,u5,u6,u7,u8,u9,u10]) z2 b2 hR rfl;obtain ⟨W4,rfl,z4,b4,k4,g4⟩:=z1v (i:=4) (v:=v4) (arr':= #[v0,v1,v2,v3,v4,u5,u6,u7,u8,u9,u10]) z3 b3 hR rfl;obtain ⟨W5,rfl,z5,b5,k5,g5⟩:=z1v (i:=5) (v:=v5) (arr':= #[v0,v1,v2,v3,v4,v5,u6,u7,u8,u9,u10]) z4 b4 hR rfl;obtain ⟨W6,rfl,z6,b6,k6,g6⟩:=z1v (i:=6) (v:=v6) (arr':= #[v0,v1,v2,v3,v4,v5,v6,u7,u8,u9,u10]) z5 b5 hR rfl;obtain ⟨W7,rfl,z7,b7,k7,g7⟩:=z1v (i:=7) (v:=v7) (arr':= #[v0,v1,v2,v3,v4,v5,v6,v7,u8,u9,u10]) z6 b6 hR rfl;obtain ⟨W8,rfl,z8,b8,k8,g8⟩:=z1v (i:=8) (v:=v8) (arr':= #[v0,v1,v2,v3,v4,v5,v6,v7,v8,u9,u10]) z7 b7 hR rfl;obtain ⟨W9,rfl,z9,b9,k9,g9⟩:=z1v (i:=9) (v:=v9) (arr':= #[v0,v1,v2,v3,v4,v5,v6,v7,v8,v9,u10]) z8 b8 hR rfl;obtain ⟨W10,rfl,z10,b10,k10,g10⟩:=z1v (i:=10) (v:=v10) (arr':= #[v0,v1,v2,v3,v4,v5,v6,v7,v8,v9,v10]) z9 b9 hR rfl;exact ⟨_,rfl,z10,b10,fun k hk=>(k10 k hk).trans ((k9 k hk).trans ((k8 k hk).trans ((k7 k hk).trans ((k6 k hk).trans ((k5 k hk).trans ((k4 k hk).trans ((k3 k hk).trans ((k2 k hk).trans ((k1 k hk).trans ((k0 k hk))))))))))),z1l (z1l (z1l (z1l (z1l (z1l (z1l (z1l (z1l (z1l (g0) g1) g2) g3) g4) g5) g6) g7) g8) g9) g10⟩
theorem zao {w:World}{g:Nat}{v0 v1 v2 v3 v4 v5 v6:Value}{T:TypeId}(h:w.heap[g]? =some (.cells #[v0,v1,v2,v3,v4,v5,v6] T (0,0))) :
 w.cell? ⟨g,0,none⟩=some v0∧w.cell? ⟨g,1,none⟩=some v1∧w.cell? ⟨g,2,none⟩=some v2∧w.cell? ⟨g,3,none⟩=some v3∧w.cell? ⟨g,4,none⟩=some v4∧w.cell? ⟨g,5,none⟩=some v5∧w.cell? ⟨g,6,none⟩=some v6:=by
 refine ⟨?_,?_,?_,?_,?_,?_,?_⟩ <;> (rw[cell_of_row _ _ _ _ _ _ h]; rfl)
theorem fin7 {w W:World}{g R:Nat}{T:TypeId}{u0 u1 u2 u3 u4 u5 u6:Value}(v0 v1 v2 v3 v4 v5 v6:Value)(hz:W.heap[g]? =some (.cells #[u0,u1,u2,u3,u4,u5,u6] T (0,0)))(hb:Below R w W)(hR:R≤g) :
 ∃wf,(((((((W.setCell ⟨g,0,none⟩ v0).setCell ⟨g,1,none⟩ v1).setCell ⟨g,2,none⟩ v2).setCell ⟨g,3,none⟩ v3).setCell ⟨g,4,none⟩ v4).setCell ⟨g,5,none⟩ v5).setCell ⟨g,6,none⟩ v6)=wf∧wf.heap[g]? =some (.cells #[v0,v1,v2,v3,v4,v5,v6] T (0,0))∧Below R w wf∧(∀k,k≠g→wf.heap[k]? =W.heap[k]?)∧W.grownBy wf (some g):=by
 obtain ⟨W0,rfl,z0,b0,k0,g0⟩:=z1v (i:=0) (v:=v0) (arr':= #[v0,u1,u2,u3,u4,u5,u6]) hz hb hR rfl;obtain ⟨W1,rfl,z1,b1,k1,g1⟩:=z1v (i:=1) (v:=v1) (arr':= #[v0,v1,u2,u3,u4,u5,u6]) z0 b0 hR rfl;obtain ⟨W2,rfl,z2,b2,k2,g2⟩:=z1v (i:=2) (v:=v2) (arr':= #[v0,v1,v2,u3,u4,u5,u6]) z1 b1 hR rfl;obtain ⟨W3,rfl,z3,b3,k3,g3⟩:=z1v (i:=3) (v:=v3) (arr':= #[v0,v1,v2,v3,u4,u5,u6]) z2 b2 hR rfl;obtain ⟨W4,rfl,z4,b4,k4,g4⟩:=z1v (i:=4) (v:=v4) (arr':= #[v0,v1,v2,v3,v4,u5,u6]) z3 b3 hR rfl;obtain ⟨W5,rfl,z5,b5,k5,g5⟩:=z1v (i:=5) (v:=v5) (arr':= #[v0,v1,v2,v3,v4,v5,u6]) z4 b4 hR rfl;obtain ⟨W6,rfl,z6,b6,k6,g6⟩:=z1v (i:=6) (v:=v6) (arr':= #[v0,v1,v2,v3,v4,v5,v6]) z5 b5 hR rfl;exact ⟨_,rfl,z6,b6,fun k hk=>(k6 k hk).trans ((k5 k hk).trans ((k4 k hk).trans ((k3 k hk).trans ((k2 k hk).trans ((k1 k hk).trans ((k0 k hk))))))),z1l (z1l (z1l (z1l (z1l (z1l (g0) g1) g2) g3) g4) g5) g6⟩
end Go.Proofs.YtblcibgphccfkaaGreatDoor
