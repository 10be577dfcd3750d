/- Texts of the proof of the law FnRecordCanon, side by side: part 2. -/
import Derived.Lib.QuietBelow
import Derived.Test.YtblcibgphccfkaaGreatDoorMRecordCanon01
set_option maxHeartbeats 8000000
set_option maxRecDepth 100000
open Go.Lib (hid)
namespace Go.Proofs.YtblcibgphccfkaaGreatDoor
open Go.RowKit
def itemB (n h:Nd):Bool:=z1y n.kind n.data n.size n.count n.items.length&&(decide (n.data.size=h.data.size)&&decide (n.ptrs.length=h.ptrs.length))
def z0i (l:List Nd):Bool:=l.all fun n=>itemB n (l.headD default)
theorem z8h {l:List Nd}{k:Nat}(h:k<l.length)(hh:(l.take k).all (fun n=>itemB n (l.headD default))=true)(hn:itemB l[k] (l.headD default)=true):(l.take (k+1)).all (fun n=>itemB n (l.headD default))=true:=by
 rw[List.take_succ_eq_append_getElem h,List.all_append,hh]
 simpa using hn
theorem z6r {l:List Nd}{k:Nat}(h:k<l.length)(hn:itemB l[k] (l.headD default)=false):z0i l=false:=by
 unfold z0i;rw[List.all_eq_false];exact ⟨l[k],List.getElem_mem h,by rw[hn]; decide⟩
theorem zgw {l:List Nd}(h:0<l.length):l[0]=l.headD default:=by
 cases l with
 | nil=>cases h
 | cons a t=>rfl
theorem zca (x:Addr):x.add (0*6)=x:=by simp[Addr.add]
theorem zfy (m:Nat)(A:Option Addr)(c:Nat)(l:List Nd)(w:World)(S:Nat→Prop)(hl:NdsAt w S (m+1) A l)(hlm:l.length≤2000000) :
 Calls Tryz.prog 141 #[.slice A l.length c] w fun e w'=>e= .returned (.bool (z0i l))∧Below w.heap.size w w':=by
 have HF:=hid hl;clear hl;go_enter Tryz.func141,Tryz.ntmps141;go_wp2
 go_loopw [7] (fun i wr=>∃k:Nat,i= .int .i64 k∧k≤l.length∧Hid ((l.take k).all (fun n=>itemB n (l.headD default))=true)∧Hid (Below w.heap.size w wr)) (fun i _=>l.length-(intOf i).toNat)
 case atStart=>exact ⟨0,rfl,by omega,hid rfl,hid (Below.refl _ _)⟩
 case round =>
  obtain ⟨k,rfl,hk,HA,HB⟩:=hrel
  by_cases hlt:k<l.length
  · obtain ⟨x,hd,rfl,hc,hn⟩:=(HF.out.below HB.out).at_ hlt
    obtain ⟨x',hd0,hxx,hc0,hn0⟩:=(HF.out.below HB.out).at_ (k:=0) (by omega);obtain rfl:x=x':=Option.some.inj hxx;rw[zca] at hc0;have HFL:=hid (fun h=>z6r hlt h);have HTR:=hid (fun h=>z8h hlt HA.out h)
    have h0l:0<l.length:=by omega
    rw[zgw h0l] at hc0;generalize l.headD default=hdn at hc0 HFL HTR;generalize l[k]=n at hc HFL HTR;have hxb:=hc0.lt;obtain ⟨c0,c1,c2,c3,c4,c5⟩:=hc;obtain ⟨-,d1,d2, -, -, -⟩:=hc0;have HI:=hid (fun W=>z6s n.kind n.size n.count n.data hd.A hd.B n.ptrs.length hd.a n.items.length hd.b W);have HBA:=hid (HB.out.alloc HB.out.size (.cells #[.int .i64 n.kind,.string n.data,.slice hd.A n.ptrs.length hd.a,.int .i64 n.size,.int .i64 n.count,.slice hd.B n.items.length hd.b] nodeT));have HR:=hid (heap_alloc_new wr (.cells #[.int .i64 n.kind,.string n.data,.slice hd.A n.ptrs.length hd.a,.int .i64 n.size,.int .i64 n.count,.slice hd.B n.items.length hd.b] nodeT));have HD1:=hid (((Below.refl wr.heap.size wr).alloc (Nat.le_refl _) (.cells #[.int .i64 n.kind,.string n.data,.slice hd.A n.ptrs.length hd.a,.int .i64 n.size,.int .i64 n.count,.slice hd.B n.items.length hd.b] nodeT)).cell (p:=⟨x.block,x.off+1,none⟩) hxb |>.trans d1);have HD2:=hid (((Below.refl wr.heap.size wr).alloc (Nat.le_refl _) (.cells #[.int .i64 n.kind,.string n.data,.slice hd.A n.ptrs.length hd.a,.int .i64 n.size,.int .i64 n.count,.slice hd.B n.items.length hd.b] nodeT)).cell (p:=⟨x.block,x.off+2,none⟩) hxb |>.trans d2);clear hn hn0 d1 d2
    go_wp2_with fail
    clear c0 c1 c2 c3 c4 c5;generalize hW:wr.alloc (.cells #[.int .i64 n.kind,.string n.data,.slice hd.A n.ptrs.length hd.a,.int .i64 n.size,.int .i64 n.count,.slice hd.B n.items.length hd.b] nodeT)=W at *;clear hW;obtain ⟨e0,e1,e2,e3,e4,e5⟩:=z04 HR.out;have q0:=cell_regrown e0;have q1:=cell_regrown e1;have q2:=cell_regrown e2;have q3:=cell_regrown e3;have q4:=cell_regrown e4;have q5:=cell_regrown e5;have p1:=cell_regrown HD1.out;have p2:=cell_regrown HD2.out;cases hst:z1y n.kind n.data n.size n.count n.items.length
    · have HX:=hid (HFL.out (by simp[itemB,hst]))
      rw[hst] at HI;refine wp_region_quiet_below (by kernel_rfl) (by kernel_rfl) ?_
      repeat (first | go_big_quiet_step ((go_at_call 120; exact Calls.regrown_of (HI.out _))) | quiet_step ((go_at_call 120; exact Calls.regrown_of (HI.out _))))
      refine wpQuiet_nil ?_
      intro _ hw'
      obtain ⟨⟨dq,osq⟩,hw''⟩:=hw';subst hw'';have HB2:=hid (HBA.out.trans ((below_regrown W dq osq).mono HBA.out.size));clear q0 q1 q2 q3 q4 q5 e0 e1 e2 e3 e4 e5 p1 p2;generalize «Sort».grow (redrawn W dq) osq=W2 at *;go_wp2;go_ret;exact ⟨by rw[HX.out]; rfl,HB2.out⟩
    · rw[hst] at HI
      by_cases hz:n.data.size=hdn.data.size
      · have HZ:=hid hz
        have hzb:((n.data.size:Int)==(hdn.data.size:Int))=true:=by rw[hz]; simp
        have hzn:((n.data.size:Int) != (hdn.data.size:Int))=false:=by rw[hz]; simp
        clear hz
        by_cases hp:n.ptrs.length=hdn.ptrs.length
        · have HX:=hid (HTR.out (by simp[itemB,hst,HZ.out,hp]))
          have hpn:((n.ptrs.length:Int) != (hdn.ptrs.length:Int))=false:=by rw[hp]; simp
          clear hp;refine wp_region_quiet_below (by kernel_rfl) (by kernel_rfl) ?_
          repeat (first | go_big_quiet_step ((go_at_call 120; exact Calls.regrown_of (HI.out _))) | quiet_step ((go_at_call 120; exact Calls.regrown_of (HI.out _))))
          refine wpQuiet_nil ?_
          intro _ hw'
          obtain ⟨⟨dq,osq⟩,hw''⟩:=hw';subst hw'';have HB2:=hid (HBA.out.trans ((below_regrown W dq osq).mono HBA.out.size));clear q0 q1 q2 q3 q4 q5 e0 e1 e2 e3 e4 e5 p1 p2;generalize «Sort».grow (redrawn W dq) osq=W2 at *;go_wp2
          go_roundw
          case rel=>exact ⟨k+1,by go_num,by omega,HX,HB2⟩
          case measure=>simp[intOf]; omega
        · have HX:=hid (HFL.out (by simp[itemB,hst,HZ.out,hp]))
          have hpn:((n.ptrs.length:Int) != (hdn.ptrs.length:Int))=true:=by simp; omega
          clear hp;refine wp_region_quiet_below (by kernel_rfl) (by kernel_rfl) ?_
          repeat (first | go_big_quiet_step ((go_at_call 120; exact Calls.regrown_of (HI.out _))) | quiet_step ((go_at_call 120; exact Calls.regrown_of (HI.out _))))
          refine wpQuiet_nil ?_
          intro _ hw'
          obtain ⟨⟨dq,osq⟩,hw''⟩:=hw';subst hw'';have HB2:=hid (HBA.out.trans ((below_regrown W dq osq).mono HBA.out.size));clear q0 q1 q2 q3 q4 q5 e0 e1 e2 e3 e4 e5 p1 p2;generalize «Sort».grow (redrawn W dq) osq=W2 at *;go_wp2;go_ret;exact ⟨by rw[HX.out]; rfl,HB2.out⟩
      · have HX:=hid (HFL.out (by simp[itemB,hst,hz]))
        have hzb:((n.data.size:Int)==(hdn.data.size:Int))=false:=by simp; omega
        have hzn:((n.data.size:Int) != (hdn.data.size:Int))=true:=by simp; omega
        refine wp_region_quiet_below (by kernel_rfl) (by kernel_rfl) ?_
        repeat (first | go_big_quiet_step ((go_at_call 120; exact Calls.regrown_of (HI.out _))) | quiet_step ((go_at_call 120; exact Calls.regrown_of (HI.out _))))
        refine wpQuiet_nil ?_
        intro _ hw'
        obtain ⟨⟨dq,osq⟩,hw''⟩:=hw';subst hw'';have HB2:=hid (HBA.out.trans ((below_regrown W dq osq).mono HBA.out.size));clear q0 q1 q2 q3 q4 q5 e0 e1 e2 e3 e4 e5 p1 p2;generalize «Sort».grow (redrawn W dq) osq=W2 at *;go_wp2;go_ret;exact ⟨by rw[HX.out]; rfl,HB2.out⟩
  · obtain rfl:k=l.length:=by omega
    rw[List.take_of_length_le (Nat.le_refl _)] at HA;have HX:Hid (z0i l=true):=hid HA.out;go_wp2;go_ret;exact ⟨by rw[HX.out]; rfl,HB.out⟩
end Go.Proofs.YtblcibgphccfkaaGreatDoor
