/- Texts of the proof of the law FnRecordCanon, side by side: part 24. -/
import Derived.Test.YtblcibgphccfkaaGreatDoorMRecordCanon23
set_option maxHeartbeats 8000000
set_option maxRecDepth 100000
open Go.Lib (hid)
namespace Go.Proofs.YtblcibgphccfkaaGreatDoor
open Go.RowKit
theorem NdsAt.at6 {w:World}{S:Nat→Prop}{m:Nat}{A:Option Addr}{l:List Nd}(h:NdsAt w S (m+1) A l){k:Nat}(hk:k<l.length) :
 ∃(x:Addr) (yA:Option Addr) (ya:Nat) (yB:Option Addr) (yb:Nat),A=some x∧NdCell w (x.add (k*6)) l[k] ⟨yA,ya,yB,yb⟩∧(l[k]).data.size≤maxLen∧NdsAt w S m yA (l[k]).ptrs∧NdsAt w S m yB (l[k]).items:=by
 obtain ⟨x,⟨yA,ya,yB,yb⟩,hx,hc,hn⟩:=h.at_ hk;exact ⟨x,yA,ya,yB,yb,hx,hc,hn.1,hn.2.1,hn.2.2⟩
theorem zbh {d:Nat}{n:Nd}(hk:n.kind=0):okN d n=noneN n:=by
 have h1:strN n=false:=by unfold strN z1y; rw[decide_eq_false]; omega
 have h2:listN n=false:=by unfold listN listB; rw[decide_eq_false (by omega)]; rfl
 have h3:formN n=noneN n:=by unfold formN; rw[h1,h2,decide_eq_true hk]; simp
 cases d <;> simp[okN,h3,hk]
theorem zjb {j:Nat}{n:Nd}(hk:¬n.kind=0):okN (j+1) n=((strN n||listN n)&&(n.ptrs.all (okN j)&&n.items.all fun y=>y.ptrs.all (okN j))):=by
 have h3:formN n=(strN n||listN n):=by unfold formN; rw[decide_eq_false hk]; simp
 rw[okN,h3,decide_eq_false hk];unfold ptrsL;rw[Bool.false_or,List.all_append,List.all_flatMap]
theorem z56 (l:List Nd)(f:Nd→Bool)(k:Nat)(h:k<l.length)(h1:(l.take k).all f=true)(h2:f l[k]=true):(l.take (k+1)).all f=true:=by
 rw[List.take_succ_eq_append_getElem h,List.all_append,h1]
 simpa using h2
theorem z3z (l:List Nd)(f:Nd→Bool)(k:Nat)(h:k<l.length)(h2:f l[k]=false):l.all f=false:=by
 rw[List.all_eq_false];exact ⟨l[k],List.getElem_mem h,by rw[h2]; decide⟩
def L4O (d:Nat):Prop:=∀(m:Nat) (n:Nd) (h:Hd) (w:World) (S:Nat→Prop),NdAt w S m n h→totN m n≤2000000 →
 Calls Tryz.prog 81 #[.agg #[.int .i64 n.kind,.string n.data,.slice h.A n.ptrs.length h.a,.int .i64 n.size,.int .i64 n.count,.slice h.B n.items.length h.b],.int .i64 (d:Int)] w fun e w'=>e= .returned (.bool (okN d n))∧Below w.heap.size w w'
theorem zc4 (d:Nat)(hd:d≤8)(ih:∀j,d=j+1→L4O j):L4O d:=by
 intro m n h w S hn ht
 obtain ⟨qA,qa,qB,qb⟩:=h
 dsimp only at hn ⊢
 have hpl:n.ptrs.length≤2000000:=z16 hn.2.1 (by unfold totN at ht; omega);have hil:n.items.length≤2000000:=z16 hn.2.2 (by unfold totN at ht; omega)
 obtain ⟨D,hD⟩:∃D:Int,D=(d:Int):=⟨_,rfl⟩
 rw[← hD]
 have hD8:0≤D∧D≤8:=by omega
 have HD:=hid hD;have HN:=hid hn;have HT:=hid ht;have HIH:=hid ih;have hba:=(Below.refl w.heap.size w).alloc (Nat.le_refl _) (.cells #[.int .i64 n.kind,.string n.data,.slice qA n.ptrs.length qa,.int .i64 n.size,.int .i64 n.count,.slice qB n.items.length qb] nodeT);have hr:=heap_alloc_new w (.cells #[.int .i64 n.kind,.string n.data,.slice qA n.ptrs.length qa,.int .i64 n.size,.int .i64 n.count,.slice qB n.items.length qb] nodeT)
 have hsz:w.heap.size<(w.alloc (.cells #[.int .i64 n.kind,.string n.data,.slice qA n.ptrs.length qa,.int .i64 n.size,.int .i64 n.count,.slice qB n.items.length qb] nodeT)).heap.size:=by simp
 have HBA:=hid hba;have HR:=hid hr;have hse:=z1t n.data;clear hn ht ih hD hba hr
 by_cases hk:n.kind=0
 · have hkb:(n.kind==0)=true:=by rw[hk]; rfl
   have HX:Hid (okN d n=decide (n.data.size=0∧n.ptrs.length=0∧n.size=0∧n.count=0∧n.items.length=0)):=hid (by rw[zbh hk,Bool.eq_iff_iff]; simp[noneN,noneB,and_assoc]);clear hk hsz;go_enter Tryz.func81,Tryz.ntmps81;go_wp2
   all_goals go_ret
   all_goals refine ⟨?_,(Below.refl _ _).alloc (Nat.le_refl _) _⟩
   all_goals rw[HX.out]
   all_goals exact z0f (by rw[Bool.eq_iff_iff]; simp_all)
 have hkb:(n.kind==0)=false:=by simpa using hk
 by_cases hd0:d=0
 · have hD1:decide (D<1)=true:=decide_eq_true (by have:=HD.out; omega)
   have HX:Hid (okN d n=false):=hid (by subst hd0; simp[okN,hk]);clear hk hsz;go_enter Tryz.func81,Tryz.ntmps81;go_wp2;go_ret;exact ⟨by rw[HX.out]; rfl,(Below.refl _ _).alloc (Nat.le_refl _) _⟩
 obtain ⟨j,rfl⟩:∃j,d=j+1:=⟨d-1,by omega⟩
 have hD1:decide (D<1)=false:=decide_eq_false (by have:=HD.out; omega);have HOK:=hid (zjb (j:=j) hk);have HJ:=hid (HIH.out j rfl)
 have HST:Hid (∀W:World,Calls Tryz.prog 117 #[.agg #[.int .i64 n.kind,.string n.data,.slice qA n.ptrs.length qa,.int .i64 n.size,.int .i64 n.count,.slice qB n.items.length qb]] W fun e w'=>e= .returned (.bool (strN n))∧Below W.heap.size W w'):=hid fun W=>z6x _ _ _ _ _ _ _ _ _ _ W
 have HLI:Hid (∀W:World,Below w.heap.size w W→Calls Tryz.prog 118 #[.agg #[.int .i64 n.kind,.string n.data,.slice qA n.ptrs.length qa,.int .i64 n.size,.int .i64 n.count,.slice qB n.items.length qb]] W fun e w'=>e= .returned (.bool (listN n))∧Below W.heap.size W w'):=hid fun W hb=>zki m _ _ _ _ _ _ _ _ _ _ W S (HN.out.2.2.below hb) HN.out.1 hil hpl
 generalize strN n=bs at *;generalize listN n=bl at *;clear hk
 have hDj:D-1=(j:Int):=by have:=HD.out; omega
 cases bs
 · cases bl
   · have HX:Hid (okN (j+1) n=false):=hid (by rw[HOK.out]; rfl)
     clear HOK;go_enter Tryz.func81,Tryz.ntmps81
     go_wp2_with fail
     refine (HST.out _).mono ?_;rintro e w1 ⟨rfl,hb1⟩;have hr1:=(hb1.block w.heap.size hsz).trans HR.out;have HB1:=hid (HBA.out.trans (hb1.mono HBA.out.size));obtain ⟨a0,a1,a2,a3,a4,a5⟩:=z04 hr1;clear hr1 hb1
     go_wp2_with fail
     refine (HLI.out _ HB1.out).mono ?_;rintro e w2 ⟨rfl,hb2⟩;have HB2:=hid (HB1.out.trans (hb2.mono HB1.out.size));clear hb2;go_wp2;go_ret;exact ⟨by rw[HX.out]; rfl,HB2.out⟩
   · have HP0:Hid (n.ptrs.all (okN j)=false→okN (j+1) n=false):=hid (fun h=>by rw[HOK.out,h]; simp)
     have HP1:Hid ((n.items.all fun y=>y.ptrs.all (okN j))=false→okN (j+1) n=false):=hid (fun h=>by rw[HOK.out,h]; simp);have HGOOD:Hid (n.ptrs.all (okN j)=true→(n.items.all fun y=>y.ptrs.all (okN j))=true→okN (j+1) n=true):=hid (fun h h'=>by rw[HOK.out,h,h']; rfl);clear HOK;go_enter Tryz.func81,Tryz.ntmps81
     go_wp2_with fail
     refine (HST.out _).mono ?_;rintro e w1 ⟨rfl,hb1⟩;have hr1:=(hb1.block w.heap.size hsz).trans HR.out;have HR1:=hid hr1;have HB1:=hid (HBA.out.trans (hb1.mono HBA.out.size));obtain ⟨a0,a1,a2,a3,a4,a5⟩:=z04 hr1;clear hr1 hb1
     go_wp2_with fail
     refine (HLI.out _ HB1.out).mono ?_;rintro e w2 ⟨rfl,hb2⟩;clear a0 a1 a2 a3 a4 a5;have hr2:=(hb2.block w.heap.size (z00 HR1.out)).trans HR1.out;have HR2:=hid hr2;have HB2:=hid (HB1.out.trans (hb2.mono HB1.out.size));obtain ⟨a0,a1,a2,a3,a4,a5⟩:=z04 hr2;clear hr2 hb2;go_wp2
     go_loopw [5] (fun i wr=>∃k:Nat,i= .int .i64 k∧k≤n.ptrs.length∧Hid ((n.ptrs.take k).all (okN j)=true)∧Hid (Below w.heap.size w wr∧wr.heap[w.heap.size]? =some (.cells #[.int .i64 n.kind,.string n.data,.slice qA n.ptrs.length qa,.int .i64 n.size,.int .i64 n.count,.slice qB n.items.length qb] nodeT (0,0)))) (fun i _=>n.ptrs.length-(intOf i).toNat)
     case atStart=>exact ⟨0,rfl,by omega,hid rfl,hid ⟨HB2.out,HR2.out⟩⟩
     case round =>
      obtain ⟨k,rfl,hk,HA,HB⟩:=hrel;obtain ⟨hbr,hrr⟩:=HB.out;clear a0 a1 a2 a3 a4 a5;obtain ⟨a0,a1,a2,a3,a4,a5⟩:=z04 hrr
      by_cases hlt:k<n.ptrs.length
      · obtain ⟨m',rfl⟩:=HN.out.2.1.pred hlt
        obtain ⟨x,yA,ya,yB,yb,rfl,hc0,hdy,hny,hniy⟩:=HN.out.2.1.at6 hlt;have hc:=z13 hbr _ _ _ hc0;have HTK:=hid (fun h=>z56 n.ptrs (okN j) k hlt HA.out h);have HBD:=hid (fun h=>HP0.out (z3z n.ptrs (okN j) k hlt h))
        have htp:totN m' n.ptrs[k]≤2000000:=by have:=z2q (m:=m') hlt; have:=HT.out; unfold totN at this; omega
        have HC:=hid (HJ.out m' n.ptrs[k] ⟨yA,ya,yB,yb⟩ wr S (NdAt.below ⟨hdy,hny,hniy⟩ hbr) htp)
        dsimp only at HC
        generalize n.ptrs[k]=y at hc HTK HBD HC;obtain ⟨c0,c1,c2,c3,c4,c5⟩:=hc
        dsimp only at c2 c5
        have HBR:=hid hbr;have HRR:=hid hrr;clear hbr hrr hc0 hdy hny hniy htp HB;cases hoy:okN j y
        all_goals
         rw[hoy] at HC;have HO:=hid hoy;clear hoy
         go_wp2_with fail
         refine HC.out.mono ?_;rintro e w3 ⟨rfl,hb3⟩;have HB3:=hid (And.intro (HBR.out.trans (hb3.mono HBR.out.size)) ((hb3.block w.heap.size (z00 HRR.out)).trans HRR.out));clear hb3
         first
         | (have HX:=hid (HBD.out HO.out)
            go_wp2;go_ret
            exact ⟨by rw[HX.out]; rfl,HB3.out.1⟩)
         | (have HX:=hid (HTK.out HO.out)
            go_wp2
            go_roundw
            case rel=>exact ⟨k+1,by go_num,by omega,HX,HB3⟩
            case measure=>simp[intOf]; omega)
      · obtain rfl:k=n.ptrs.length:=by omega
        rw[List.take_of_length_le (Nat.le_refl _)] at HA;have HBR:=hid hbr;have HRR:=hid hrr;clear hbr hrr HB;go_wp2
        go_loopw [6] (fun i wr=>∃k:Nat,i= .int .i64 k∧k≤n.items.length∧Hid (((n.items.take k).all fun y=>y.ptrs.all (okN j))=true)∧Hid (Below w.heap.size w wr∧wr.heap[w.heap.size]? =some (.cells #[.int .i64 n.kind,.string n.data,.slice qA n.ptrs.length qa,.int .i64 n.size,.int .i64 n.count,.slice qB n.items.length qb] nodeT (0,0)))) (fun i _=>n.items.length-(intOf i).toNat)
        case atStart=>exact ⟨0,rfl,by omega,hid rfl,hid ⟨HBR.out,HRR.out⟩⟩
        case round =>
         obtain ⟨k,rfl,hk,HAI,HB⟩:=hrel;obtain ⟨hbr,hrr⟩:=HB.out;clear a0 a1 a2 a3 a4 a5;obtain ⟨a0,a1,a2,a3,a4,a5⟩:=z04 hrr
         by_cases hlt:k<n.items.length
         · obtain ⟨m',rfl⟩:=HN.out.2.2.pred hlt
           obtain ⟨x,yA,ya,yB,yb,rfl,hc0,hdy,hny,hniy⟩:=HN.out.2.2.at6 hlt;have HTK:=hid (fun h=>z56 n.items (fun y=>y.ptrs.all (okN j)) k hlt HAI.out h);have HBD:=hid (fun h=>HP1.out (z3z n.items (fun y=>y.ptrs.all (okN j)) k hlt h));have HTP:Hid (totL m' (n.items[k]).ptrs≤2000000):=hid (by have:=z2q (m:=m') hlt; have:=HT.out; unfold totN at *; omega);have hypl:(n.items[k]).ptrs.length≤2000000:=z16 hny HTP.out;generalize n.items[k]=y at hc0 HTK HBD hny HTP hypl;have HC0:=hid hc0;have HNY:=hid hny;have HBR:=hid hbr;have HRR:=hid hrr;clear hbr hrr hc0 hdy hny hniy HB;go_wp2;clear a0 a1 a2 a3 a4 a5
           go_loopw [7] (fun i wr=>∃k:Nat,i= .int .i64 k∧k≤y.ptrs.length∧Hid ((y.ptrs.take k).all (okN j)=true)∧Hid (Below w.heap.size w wr∧wr.heap[w.heap.size]? =some (.cells #[.int .i64 n.kind,.string n.data,.slice qA n.ptrs.length qa,.int .i64 n.size,.int .i64 n.count,.slice (some x) n.items.length qb] nodeT (0,0)))) (fun i _=>y.ptrs.length-(intOf i).toNat)
           case atStart=>exact ⟨0,rfl,by omega,hid rfl,hid ⟨HBR.out,HRR.out⟩⟩
           case round =>
            obtain ⟨q,rfl,hq,HAQ,HB⟩:=hrel;obtain ⟨hbr,hrr⟩:=HB.out;obtain ⟨a0,a1,a2,a3,a4,a5⟩:=z04 hrr;have hc:=z13 hbr _ _ _ HC0.out;have hcb:=hc.lt;obtain ⟨-, -,d2, -, -, -⟩:=hc
            dsimp only at d2
            by_cases hqt:q<y.ptrs.length
            · obtain ⟨m'',rfl⟩:=HNY.out.pred hqt
              obtain ⟨x2,zA,za,zB,zb,rfl,hc2,hdz,hnz,hniz⟩:=HNY.out.at6 hqt;have hcz:=z13 hbr _ _ _ hc2;have HTQ:=hid (fun h=>z56 y.ptrs (okN j) q hqt HAQ.out h);have HBQ:=hid (fun h=>HBD.out (z3z y.ptrs (okN j) q hqt h))
              have htp:totN m'' y.ptrs[q]≤2000000:=by have:=z2q (m:=m'') hqt; have:=HTP.out; omega
              have HC:=hid (HJ.out m'' y.ptrs[q] ⟨zA,za,zB,zb⟩ wr S (NdAt.below ⟨hdz,hnz,hniz⟩ hbr) htp)
              dsimp only at HC
              generalize y.ptrs[q]=z at hcz HTQ HBQ HC;obtain ⟨c0,c1,c2,c3,c4,c5⟩:=hcz
              dsimp only at c2 c5
              have HBR:=hid hbr;have HRR:=hid hrr;clear hbr hrr hc2 hdz hnz hniz htp HB;cases hoz:okN j z
              all_goals
               rw[hoz] at HC;have HO:=hid hoz;clear hoz
               go_wp2_with fail
               refine HC.out.mono ?_;rintro e w3 ⟨rfl,hb3⟩;have HB3:=hid (And.intro (HBR.out.trans (hb3.mono HBR.out.size)) ((hb3.block w.heap.size (z00 HRR.out)).trans HRR.out));clear hb3
               first
               | (have HX:=hid (HBQ.out HO.out)
                  go_wp2;go_ret
                  exact ⟨by rw[HX.out]; rfl,HB3.out.1⟩)
               | (have HX:=hid (HTQ.out HO.out)
                  go_wp2
                  go_roundw
                  case rel=>exact ⟨q+1,by go_num,by omega,HX,HB3⟩
                  case measure=>simp[intOf]; omega)
            · obtain rfl:q=y.ptrs.length:=by omega
              rw[List.take_of_length_le (Nat.le_refl _)] at HAQ;have HX:=hid (HTK.out HAQ.out);have HBB:=hid (And.intro hbr hrr);clear hbr hrr HB;go_wp2
              go_roundw
              case rel=>exact ⟨k+1,by go_num,by omega,HX,HBB⟩
              case measure=>simp[intOf]; omega
         · obtain rfl:k=n.items.length:=by omega
           rw[List.take_of_length_le (Nat.le_refl _)] at HAI;have HX:=hid (HGOOD.out HA.out HAI.out);have HBR:=hid hbr;clear hbr hrr HB;go_wp2;go_ret;exact ⟨by rw[HX.out]; rfl,HBR.out⟩
 · have HP0:Hid (n.ptrs.all (okN j)=false→okN (j+1) n=false):=hid (fun h=>by rw[HOK.out,h]; simp)
   have HP1:Hid ((n.items.all fun y=>y.ptrs.all (okN j))=false→okN (j+1) n=false):=hid (fun h=>by rw[HOK.out,h]; simp);have HGOOD:Hid (n.ptrs.all (okN j)=true→(n.items.all fun y=>y.ptrs.all (okN j))=true→okN (j+1) n=true):=hid (fun h h'=>by rw[HOK.out,h,h']; rfl);clear HOK;go_enter Tryz.func81,Tryz.ntmps81
   go_wp2_with fail
   refine (HST.out _).mono ?_;rintro e w1 ⟨rfl,hb1⟩;have hr1:=(hb1.block w.heap.size hsz).trans HR.out;have HR1:=hid hr1;have HB1:=hid (HBA.out.trans (hb1.mono HBA.out.size));obtain ⟨a0,a1,a2,a3,a4,a5⟩:=z04 hr1;clear hr1 hb1;go_wp2
   go_loopw [5] (fun i wr=>∃k:Nat,i= .int .i64 k∧k≤n.ptrs.length∧Hid ((n.ptrs.take k).all (okN j)=true)∧Hid (Below w.heap.size w wr∧wr.heap[w.heap.size]? =some (.cells #[.int .i64 n.kind,.string n.data,.slice qA n.ptrs.length qa,.int .i64 n.size,.int .i64 n.count,.slice qB n.items.length qb] nodeT (0,0)))) (fun i _=>n.ptrs.length-(intOf i).toNat)
   case atStart=>exact ⟨0,rfl,by omega,hid rfl,hid ⟨HB1.out,HR1.out⟩⟩
   case round =>
    obtain ⟨k,rfl,hk,HA,HB⟩:=hrel;obtain ⟨hbr,hrr⟩:=HB.out;clear a0 a1 a2 a3 a4 a5;obtain ⟨a0,a1,a2,a3,a4,a5⟩:=z04 hrr
    by_cases hlt:k<n.ptrs.length
    · obtain ⟨m',rfl⟩:=HN.out.2.1.pred hlt
      obtain ⟨x,yA,ya,yB,yb,rfl,hc0,hdy,hny,hniy⟩:=HN.out.2.1.at6 hlt;have hc:=z13 hbr _ _ _ hc0;have HTK:=hid (fun h=>z56 n.ptrs (okN j) k hlt HA.out h);have HBD:=hid (fun h=>HP0.out (z3z n.ptrs (okN j) k hlt h))
      have htp:totN m' n.ptrs[k]≤2000000:=by have:=z2q (m:=m') hlt; have:=HT.out; unfold totN at this; omega
      have HC:=hid (HJ.out m' n.ptrs[k] ⟨yA,ya,yB,yb⟩ wr S (NdAt.below ⟨hdy,hny,hniy⟩ hbr) htp)
      dsimp only at HC
      generalize n.ptrs[k]=y at hc HTK HBD HC;obtain ⟨c0,c1,c2,c3,c4,c5⟩:=hc
      dsimp only at c2 c5
      have HBR:=hid hbr;have HRR:=hid hrr;clear hbr hrr hc0 hdy hny hniy htp HB;cases hoy:okN j y
      all_goals
       rw[hoy] at HC;have HO:=hid hoy;clear hoy
       go_wp2_with fail
       refine HC.out.mono ?_;rintro e w3 ⟨rfl,hb3⟩;have HB3:=hid (And.intro (HBR.out.trans (hb3.mono HBR.out.size)) ((hb3.block w.heap.size (z00 HRR.out)).trans HRR.out));clear hb3
       first
       | (have HX:=hid (HBD.out HO.out)
          go_wp2;go_ret
          exact ⟨by rw[HX.out]; rfl,HB3.out.1⟩)
       | (have HX:=hid (HTK.out HO.out)
          go_wp2
          go_roundw
          case rel=>exact ⟨k+1,by go_num,by omega,HX,HB3⟩
          case measure=>simp[intOf]; omega)
    · obtain rfl:k=n.ptrs.length:=by omega
      rw[List.take_of_length_le (Nat.le_refl _)] at HA;have HBR:=hid hbr;have HRR:=hid hrr;clear hbr hrr HB;go_wp2
      go_loopw [6] (fun i wr=>∃k:Nat,i= .int .i64 k∧k≤n.items.length∧Hid (((n.items.take k).all fun y=>y.ptrs.all (okN j))=true)∧Hid (Below w.heap.size w wr∧wr.heap[w.heap.size]? =some (.cells #[.int .i64 n.kind,.string n.data,.slice qA n.ptrs.length qa,.int .i64 n.size,.int .i64 n.count,.slice qB n.items.length qb] nodeT (0,0)))) (fun i _=>n.items.length-(intOf i).toNat)
      case atStart=>exact ⟨0,rfl,by omega,hid rfl,hid ⟨HBR.out,HRR.out⟩⟩
      case round =>
       obtain ⟨k,rfl,hk,HAI,HB⟩:=hrel;obtain ⟨hbr,hrr⟩:=HB.out;clear a0 a1 a2 a3 a4 a5;obtain ⟨a0,a1,a2,a3,a4,a5⟩:=z04 hrr
       by_cases hlt:k<n.items.length
       · obtain ⟨m',rfl⟩:=HN.out.2.2.pred hlt
         obtain ⟨x,yA,ya,yB,yb,rfl,hc0,hdy,hny,hniy⟩:=HN.out.2.2.at6 hlt;have HTK:=hid (fun h=>z56 n.items (fun y=>y.ptrs.all (okN j)) k hlt HAI.out h);have HBD:=hid (fun h=>HP1.out (z3z n.items (fun y=>y.ptrs.all (okN j)) k hlt h));have HTP:Hid (totL m' (n.items[k]).ptrs≤2000000):=hid (by have:=z2q (m:=m') hlt; have:=HT.out; unfold totN at *; omega);have hypl:(n.items[k]).ptrs.length≤2000000:=z16 hny HTP.out;generalize n.items[k]=y at hc0 HTK HBD hny HTP hypl;have HC0:=hid hc0;have HNY:=hid hny;have HBR:=hid hbr;have HRR:=hid hrr;clear hbr hrr hc0 hdy hny hniy HB;go_wp2;clear a0 a1 a2 a3 a4 a5
         go_loopw [7] (fun i wr=>∃k:Nat,i= .int .i64 k∧k≤y.ptrs.length∧Hid ((y.ptrs.take k).all (okN j)=true)∧Hid (Below w.heap.size w wr∧wr.heap[w.heap.size]? =some (.cells #[.int .i64 n.kind,.string n.data,.slice qA n.ptrs.length qa,.int .i64 n.size,.int .i64 n.count,.slice (some x) n.items.length qb] nodeT (0,0)))) (fun i _=>y.ptrs.length-(intOf i).toNat)
         case atStart=>exact ⟨0,rfl,by omega,hid rfl,hid ⟨HBR.out,HRR.out⟩⟩
         case round =>
          obtain ⟨q,rfl,hq,HAQ,HB⟩:=hrel;obtain ⟨hbr,hrr⟩:=HB.out;obtain ⟨a0,a1,a2,a3,a4,a5⟩:=z04 hrr;have hc:=z13 hbr _ _ _ HC0.out;have hcb:=hc.lt;obtain ⟨-, -,d2, -, -, -⟩:=hc
          dsimp only at d2
          by_cases hqt:q<y.ptrs.length
          · obtain ⟨m'',rfl⟩:=HNY.out.pred hqt
            obtain ⟨x2,zA,za,zB,zb,rfl,hc2,hdz,hnz,hniz⟩:=HNY.out.at6 hqt;have hcz:=z13 hbr _ _ _ hc2;have HTQ:=hid (fun h=>z56 y.ptrs (okN j) q hqt HAQ.out h);have HBQ:=hid (fun h=>HBD.out (z3z y.ptrs (okN j) q hqt h))
            have htp:totN m'' y.ptrs[q]≤2000000:=by have:=z2q (m:=m'') hqt; have:=HTP.out; omega
            have HC:=hid (HJ.out m'' y.ptrs[q] ⟨zA,za,zB,zb⟩ wr S (NdAt.below ⟨hdz,hnz,hniz⟩ hbr) htp)
            dsimp only at HC
            generalize y.ptrs[q]=z at hcz HTQ HBQ HC;obtain ⟨c0,c1,c2,c3,c4,c5⟩:=hcz
            dsimp only at c2 c5
            have HBR:=hid hbr;have HRR:=hid hrr;clear hbr hrr hc2 hdz hnz hniz htp HB;cases hoz:okN j z
            all_goals
             rw[hoz] at HC;have HO:=hid hoz;clear hoz
             go_wp2_with fail
             refine HC.out.mono ?_;rintro e w3 ⟨rfl,hb3⟩;have HB3:=hid (And.intro (HBR.out.trans (hb3.mono HBR.out.size)) ((hb3.block w.heap.size (z00 HRR.out)).trans HRR.out));clear hb3
             first
             | (have HX:=hid (HBQ.out HO.out)
                go_wp2;go_ret
                exact ⟨by rw[HX.out]; rfl,HB3.out.1⟩)
             | (have HX:=hid (HTQ.out HO.out)
                go_wp2
                go_roundw
                case rel=>exact ⟨q+1,by go_num,by omega,HX,HB3⟩
                case measure=>simp[intOf]; omega)
          · obtain rfl:q=y.ptrs.length:=by omega
            rw[List.take_of_length_le (Nat.le_refl _)] at HAQ;have HX:=hid (HTK.out HAQ.out);have HBB:=hid (And.intro hbr hrr);clear hbr hrr HB;go_wp2
            go_roundw
            case rel=>exact ⟨k+1,by go_num,by omega,HX,HBB⟩
            case measure=>simp[intOf]; omega
       · obtain rfl:k=n.items.length:=by omega
         rw[List.take_of_length_le (Nat.le_refl _)] at HAI;have HX:=hid (HGOOD.out HA.out HAI.out);have HBR:=hid hbr;clear hbr hrr HB;go_wp2;go_ret;exact ⟨by rw[HX.out]; rfl,HBR.out⟩
theorem zf6:∀d,d≤8→L4O d
 | 0,h=>zc4 0 h (fun j hj=>by omega)
 | d+1,h=>zc4 (d+1) h (fun j hj=>by
   obtain rfl:d=j:=by omega
   exact zf6 d (by omega))
theorem zc2 {B:Nat}{a w:World}(h:Below B a w)(n:Nat):Below B a (w.drewN n):=⟨h.os,h.tape,h.output,h.size,h.block⟩
theorem zn5 (m:Nat)(n:Nd)(h:Hd)(w:World)(S:Nat→Prop)(hn:NdAt w S m n h)(hf:formN n=true)(ht:totN m n≤2000000) :
 Calls Tryz.prog 119 #[.agg #[.int .i64 n.kind,.string n.data,.slice h.A n.ptrs.length h.a,.int .i64 n.size,.int .i64 n.count,.slice h.B n.items.length h.b]] w fun e w'=>e= .returned (.int .i64 (ownN n:Nat))∧Below w.heap.size w w':=by
 obtain ⟨qA,qa,qB,qb⟩:=h
 dsimp only at hn ⊢
 have hds:n.data.size≤2000000:=by unfold totN at ht; omega
 have hpl:n.ptrs.length≤2000000:=z16 hn.2.1 (by unfold totN at ht; omega);have hil:n.items.length≤2000000:=z16 hn.2.2 (by unfold totN at ht; omega)
 rcases z0y hf with hc | hc | hc
 · have HX:Hid (ownN n=0):=hid (by unfold ownN ownB; rw[hc.2.1,hc.2.2.1,z0c hc.2.2.2.2.2,hc.1]; rfl)
   have k1:(n.kind==1)=false:=by rw[hc.1]; rfl
   have k2:(n.kind != 2)=true:=by rw[hc.1]; rfl
   clear hc hn ht hf;go_enter Tryz.func119,Tryz.ntmps119;go_wp2;go_ret;exact ⟨by rw[HX.out]; rfl,(Below.refl _ _).alloc (Nat.le_refl _) _⟩
 · have HX:Hid (((ownN n:Nat):Int)=(n.data.size:Int)/8+n.ptrs.length):=hid (by
    have:ownN n=ownB n:=by unfold ownN; rw[z0c hc.2.2.2.2,if_neg (by omega)]; simp
    rw[this]; unfold ownB; have:=hc.2.1; omega)
   have k1:(n.kind==1)=true:=by rw[hc.1]; rfl
   clear hc hn ht hf;go_enter Tryz.func119,Tryz.ntmps119;go_wp2;go_ret;exact ⟨by rw[HX.out]; rfl,(Below.refl _ _).alloc (Nat.le_refl _) _⟩
 · obtain ⟨hk,hcc,hc⟩:=hc
   have k1:(n.kind==1)=false:=by rw[hk]; rfl
   have k2:(n.kind != 2)=false:=by rw[hk]; rfl
   rcases hc with hc | hc | hc
   · have HX:Hid (((ownN n:Nat):Int)=((n.data.size:Int)+7)/8):=hid (by
      have:ownN n=ownB n:=by unfold ownN; rw[z0c hc.2.2.2.2,if_neg (by omega)]; simp
      rw[this]; unfold ownB; have:=hc.2.2.2.1; omega)
     have z6:(n.size==6)=false:=by rw[beq_eq_false_iff_ne]; omega
     have z7:(n.size==7)=false:=by rw[beq_eq_false_iff_ne]; omega
     clear hc hn ht hf hk;go_enter Tryz.func119,Tryz.ntmps119;go_wp2;go_ret;exact ⟨by rw[HX.out]; rfl,(Below.refl _ _).alloc (Nat.le_refl _) _⟩
   · have HX:Hid (((ownN n:Nat):Int)=n.count):=hid (by
      have:ownN n=ownB n:=by unfold ownN; rw[z0c hc.2.2.2,if_neg (by omega)]; simp
      rw[this]; unfold ownB; rw[hc.2.1]; have:=hc.2.2.1; omega)
     have z6:(n.size==6)=true:=by rw[hc.1]; rfl
     have z7:(n.size==7)=false:=by rw[hc.1]; rfl
     clear hc hn ht hf hk;go_enter Tryz.func119,Tryz.ntmps119;go_wp2;go_ret;exact ⟨by rw[HX.out]; rfl,(Below.refl _ _).alloc (Nat.le_refl _) _⟩
   · have HX:Hid (ownN n=1+(n.items.map ownB).sum):=hid (by unfold ownN; rw[if_pos ⟨hk,hc.1⟩]; unfold ownB; rw[hc.2.1,hc.2.2.1])
     have HIT:Hid (∀k (hk:k<n.items.length),((n.items[k]).data.size:Int)%8=0∧(n.items[k]).data.size≤2000000∧(n.items[k]).ptrs.length≤2000000):=hid fun k hk=>by
      obtain ⟨h1,h2,h3⟩:=zb8 hf _ (List.getElem_mem hk);obtain ⟨h4,h5⟩:=z9d hn.2.2 _ (List.getElem_mem hk);unfold totN at ht;exact ⟨h2,by omega,by omega⟩
     have HSUM:Hid (∀k,((n.items.take k).map ownB).sum≤2000000):=hid fun k=>by
      have h1:=z1i n.items ownB k;have h2:=zcy hn.2.2;unfold totN at ht;omega
     have z7:(n.size==7)=true:=by rw[hc.1]; rfl
     have hba:=(Below.refl w.heap.size w).alloc (Nat.le_refl _) (.cells #[.int .i64 n.kind,.string n.data,.slice qA n.ptrs.length qa,.int .i64 n.size,.int .i64 n.count,.slice qB n.items.length qb] nodeT);have HN:=hid (NdsAt.succ _ _ _ (hn.2.2.below hba));have HBA:=hid hba;have HR:=hid (heap_alloc_new w (.cells #[.int .i64 n.kind,.string n.data,.slice qA n.ptrs.length qa,.int .i64 n.size,.int .i64 n.count,.slice qB n.items.length qb] nodeT))
     have hsz:w.heap.size<(w.alloc (.cells #[.int .i64 n.kind,.string n.data,.slice qA n.ptrs.length qa,.int .i64 n.size,.int .i64 n.count,.slice qB n.items.length qb] nodeT)).heap.size:=by simp
     clear hc hn ht hf hk hba;go_enter Tryz.func119,Tryz.ntmps119;go_wp2;generalize w.alloc (.cells #[.int .i64 n.kind,.string n.data,.slice qA n.ptrs.length qa,.int .i64 n.size,.int .i64 n.count,.slice qB n.items.length qb] nodeT)=W at *
     go_loopw [3,4] (fun q i wr=>∃(k:Nat) (z:Int),q= .int .i64 z∧i= .int .i64 k∧k≤n.items.length∧0≤z∧z≤6000000∧Hid (z=((1+((n.items.take k).map ownB).sum:Nat):Int))∧Hid (Below W.heap.size W wr)) (fun _ i _=>n.items.length-(intOf i).toNat)
     case atStart=>exact ⟨0,_,rfl,rfl,by omega,by omega,by omega,hid (by simp),hid (Below.refl _ _)⟩
     case round =>
      obtain ⟨k,z,rfl,rfl,hk,hz0,hz,HZ,HB⟩:=hrel;obtain ⟨a0,a1,a2,a3,a4,a5⟩:=z04 ((HB.out.block _ hsz).trans HR.out)
      by_cases hlt:k<n.items.length
      · obtain ⟨x,yA,ya,yB,yb,rfl,hc, -, -, -⟩:=(HN.out.below HB.out).at6 hlt
        obtain ⟨i1,i2,i3⟩:=HIT.out k hlt;have HS:=hid (zfe n.items k hlt);generalize n.items[k]=y at hc i1 i2 i3 HS;have HO:Hid (((ownB y:Nat):Int)=(y.data.size:Int)/8+y.ptrs.length):=hid (by unfold ownB; omega)
        have hz2:z+(y.data.size:Int)/8+y.ptrs.length≤6000000:=by have:=HZ.out; have:=HS.out; have:=HSUM.out (k+1); have:=HO.out; omega
        obtain ⟨d0,d1,d2,d3,d4,d5⟩:=hc
        dsimp only at d2 d5
        have hk2:(k:Int)<(n.items.length:Int):=by omega
        clear i1;go_wp2
        go_big_quiet (fail)
        go_wp2
        go_roundw
        case rel=>exact ⟨k+1,_,rfl,by go_num,by omega,by omega,hz2,hid (by rw[HZ.out,HS.out]; have:=HO.out; omega),hid (zc2 HB.out _)⟩
        case measure=>simp[intOf]; omega
      · obtain rfl:k=n.items.length:=by omega
        rw[List.take_of_length_le (Nat.le_refl _)] at HZ;have HBE:=hid (HBA.out.trans (HB.out.mono HBA.out.size));go_wp2;go_ret;exact ⟨by rw[HX.out,HZ.out]; rfl,HBE.out⟩
end Go.Proofs.YtblcibgphccfkaaGreatDoor
