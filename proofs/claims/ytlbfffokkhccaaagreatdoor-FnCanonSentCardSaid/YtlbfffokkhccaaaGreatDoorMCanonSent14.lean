/- Texts of the proof of the law FnCanonSent, side by side: part 14. -/
import Derived.Test.YtlbfffokkhccaaaGreatDoorMCanonSent13
set_option maxHeartbeats 8000000
set_option maxRecDepth 100000
open Go.Lib (hid)
namespace Go.Proofs.YtlbfffokkhccaaaGreatDoor
open Go.RowKit
theorem NdsAt.at6 {w:World}{S:Nat→Prop}{m:Nat}{A:Option Addr}{l:List Nd}(h:NdsAt w S (m+1) A l){k:Nat}(hk:k<l.length) :
 ∃(x:Addr) (yA:Option Addr) (ya:Nat) (yB:Option Addr) (yb:Nat),A=some x∧NdCell w (x.add (k*6)) l[k] ⟨yA,ya,yB,yb⟩∧(l[k]).data.size≤maxLen∧NdsAt w S m yA (l[k]).ptrs∧NdsAt w S m yB (l[k]).items:=by
 obtain ⟨x,⟨yA,ya,yB,yb⟩,hx,hc,hn⟩:=h.at_ hk;exact ⟨x,yA,ya,yB,yb,hx,hc,hn.1,hn.2.1,hn.2.2⟩
theorem zdj {d:Nat}{n:Nd}(hk:n.kind=0):okN d n=noneN n:=by
 have h1:strN n=false:=by unfold strN z1z; rw[decide_eq_false]; omega
 have h2:listN n=false:=by unfold listN listB; rw[decide_eq_false (by omega)]; rfl
 have h3:formN n=noneN n:=by unfold formN; rw[h1,h2,decide_eq_true hk]; simp
 cases d <;> simp[okN,h3,hk]
theorem zp3 {j:Nat}{n:Nd}(hk:¬n.kind=0):okN (j+1) n=((strN n||listN n)&&(n.ptrs.all (okN j)&&n.items.all fun y=>y.ptrs.all (okN j))):=by
 have h3:formN n=(strN n||listN n):=by unfold formN; rw[decide_eq_false hk]; simp
 rw[okN,h3,decide_eq_false hk];unfold ptrsL;rw[Bool.false_or,List.all_append,List.all_flatMap]
theorem z5y (l:List Nd)(f:Nd→Bool)(k:Nat)(h:k<l.length)(h1:(l.take k).all f=true)(h2:f l[k]=true):(l.take (k+1)).all f=true:=by
 rw[List.take_succ_eq_append_getElem h,List.all_append,h1]
 simpa using h2
theorem z4f (l:List Nd)(f:Nd→Bool)(k:Nat)(h:k<l.length)(h2:f l[k]=false):l.all f=false:=by
 rw[List.all_eq_false];exact ⟨l[k],List.getElem_mem h,by rw[h2]; decide⟩
def L4O (d:Nat):Prop:=∀(m:Nat) (n:Nd) (h:Hd) (w:World) (S:Nat→Prop),NdAt w S m n h→totN m n≤2000000 →
 Calls Tryz.prog 77 #[.agg #[.int .i64 n.kind,.string n.data,.slice h.A n.ptrs.length h.a,.int .i64 n.size,.int .i64 n.count,.slice h.B n.items.length h.b],.int .i64 (d:Int)] w fun e w'=>e= .returned (.bool (okN d n))∧Below w.heap.size w w'
theorem zec (d:Nat)(hd:d≤8)(ih:∀j,d=j+1→L4O j):L4O d:=by
 intro m n h w S hn ht
 obtain ⟨qA,qa,qB,qb⟩:=h
 dsimp only at hn ⊢
 have hpl:n.ptrs.length≤2000000:=z12 hn.2.1 (by unfold totN at ht; omega);have hil:n.items.length≤2000000:=z12 hn.2.2 (by unfold totN at ht; omega)
 obtain ⟨D,hD⟩:∃D:Int,D=(d:Int):=⟨_,rfl⟩
 rw[← hD]
 have hD8:0≤D∧D≤8:=by omega
 have HD:=hid hD;have HN:=hid hn;have HT:=hid ht;have HIH:=hid ih;have hba:=(Below.refl w.heap.size w).alloc (Nat.le_refl _) (.cells #[.int .i64 n.kind,.string n.data,.slice qA n.ptrs.length qa,.int .i64 n.size,.int .i64 n.count,.slice qB n.items.length qb] nodeT);have hr:=heap_alloc_new w (.cells #[.int .i64 n.kind,.string n.data,.slice qA n.ptrs.length qa,.int .i64 n.size,.int .i64 n.count,.slice qB n.items.length qb] nodeT)
 have hsz:w.heap.size<(w.alloc (.cells #[.int .i64 n.kind,.string n.data,.slice qA n.ptrs.length qa,.int .i64 n.size,.int .i64 n.count,.slice qB n.items.length qb] nodeT)).heap.size:=by simp
 have HBA:=hid hba;have HR:=hid hr;have hse:=z1p n.data;clear hn ht ih hD hba hr
 by_cases hk:n.kind=0
 · have hkb:(n.kind==0)=true:=by rw[hk]; rfl
   have HX:Hid (okN d n=decide (n.data.size=0∧n.ptrs.length=0∧n.size=0∧n.count=0∧n.items.length=0)):=hid (by rw[zdj hk,Bool.eq_iff_iff]; simp[noneN,noneB,and_assoc]);clear hk hsz;go_enter Tryz.func77,Tryz.ntmps77;go_wp2
   all_goals go_ret
   all_goals refine ⟨?_,(Below.refl _ _).alloc (Nat.le_refl _) _⟩
   all_goals rw[HX.out]
   all_goals exact z0j (by rw[Bool.eq_iff_iff]; simp_all)
 have hkb:(n.kind==0)=false:=by simpa using hk
 by_cases hd0:d=0
 · have hD1:decide (D<1)=true:=decide_eq_true (by have:=HD.out; omega)
   have HX:Hid (okN d n=false):=hid (by subst hd0; simp[okN,hk]);clear hk hsz;go_enter Tryz.func77,Tryz.ntmps77;go_wp2;go_ret;exact ⟨by rw[HX.out]; rfl,(Below.refl _ _).alloc (Nat.le_refl _) _⟩
 obtain ⟨j,rfl⟩:∃j,d=j+1:=⟨d-1,by omega⟩
 have hD1:decide (D<1)=false:=decide_eq_false (by have:=HD.out; omega);have HOK:=hid (zp3 (j:=j) hk);have HJ:=hid (HIH.out j rfl)
 have HST:Hid (∀W:World,Calls Tryz.prog 122 #[.agg #[.int .i64 n.kind,.string n.data,.slice qA n.ptrs.length qa,.int .i64 n.size,.int .i64 n.count,.slice qB n.items.length qb]] W fun e w'=>e= .returned (.bool (strN n))∧Below W.heap.size W w'):=hid fun W=>z7y _ _ _ _ _ _ _ _ _ _ W
 have HLI:Hid (∀W:World,Below w.heap.size w W→Calls Tryz.prog 123 #[.agg #[.int .i64 n.kind,.string n.data,.slice qA n.ptrs.length qa,.int .i64 n.size,.int .i64 n.count,.slice qB n.items.length qb]] W fun e w'=>e= .returned (.bool (listN n))∧Below W.heap.size W w'):=hid fun W hb=>zp1 m _ _ _ _ _ _ _ _ _ _ W S (HN.out.2.2.below hb) HN.out.1 hil hpl
 generalize strN n=bs at *;generalize listN n=bl at *;clear hk
 have hDj:D-1=(j:Int):=by have:=HD.out; omega
 cases bs
 · cases bl
   · have HX:Hid (okN (j+1) n=false):=hid (by rw[HOK.out]; rfl)
     clear HOK;go_enter Tryz.func77,Tryz.ntmps77
     go_wp2_with fail
     refine (HST.out _).mono ?_;rintro e w1 ⟨rfl,hb1⟩;have hr1:=(hb1.block w.heap.size hsz).trans HR.out;have HB1:=hid (HBA.out.trans (hb1.mono HBA.out.size));obtain ⟨a0,a1,a2,a3,a4,a5⟩:=z01 hr1;clear hr1 hb1
     go_wp2_with fail
     refine (HLI.out _ HB1.out).mono ?_;rintro e w2 ⟨rfl,hb2⟩;have HB2:=hid (HB1.out.trans (hb2.mono HB1.out.size));clear hb2;go_wp2;go_ret;exact ⟨by rw[HX.out]; rfl,HB2.out⟩
   · have HP0:Hid (n.ptrs.all (okN j)=false→okN (j+1) n=false):=hid (fun h=>by rw[HOK.out,h]; simp)
     have HP1:Hid ((n.items.all fun y=>y.ptrs.all (okN j))=false→okN (j+1) n=false):=hid (fun h=>by rw[HOK.out,h]; simp);have HGOOD:Hid (n.ptrs.all (okN j)=true→(n.items.all fun y=>y.ptrs.all (okN j))=true→okN (j+1) n=true):=hid (fun h h'=>by rw[HOK.out,h,h']; rfl);clear HOK;go_enter Tryz.func77,Tryz.ntmps77
     go_wp2_with fail
     refine (HST.out _).mono ?_;rintro e w1 ⟨rfl,hb1⟩;have hr1:=(hb1.block w.heap.size hsz).trans HR.out;have HR1:=hid hr1;have HB1:=hid (HBA.out.trans (hb1.mono HBA.out.size));obtain ⟨a0,a1,a2,a3,a4,a5⟩:=z01 hr1;clear hr1 hb1
     go_wp2_with fail
     refine (HLI.out _ HB1.out).mono ?_;rintro e w2 ⟨rfl,hb2⟩;clear a0 a1 a2 a3 a4 a5;have hr2:=(hb2.block w.heap.size (z00 HR1.out)).trans HR1.out;have HR2:=hid hr2;have HB2:=hid (HB1.out.trans (hb2.mono HB1.out.size));obtain ⟨a0,a1,a2,a3,a4,a5⟩:=z01 hr2;clear hr2 hb2;go_wp2
     go_loopw [5] (fun i wr=>∃k:Nat,i= .int .i64 k∧k≤n.ptrs.length∧Hid ((n.ptrs.take k).all (okN j)=true)∧Hid (Below w.heap.size w wr∧wr.heap[w.heap.size]? =some (.cells #[.int .i64 n.kind,.string n.data,.slice qA n.ptrs.length qa,.int .i64 n.size,.int .i64 n.count,.slice qB n.items.length qb] nodeT (0,0)))) (fun i _=>n.ptrs.length-(intOf i).toNat)
     case atStart=>exact ⟨0,rfl,by omega,hid rfl,hid ⟨HB2.out,HR2.out⟩⟩
     case round =>
      obtain ⟨k,rfl,hk,HA,HB⟩:=hrel;obtain ⟨hbr,hrr⟩:=HB.out;clear a0 a1 a2 a3 a4 a5;obtain ⟨a0,a1,a2,a3,a4,a5⟩:=z01 hrr
      by_cases hlt:k<n.ptrs.length
      · obtain ⟨m',rfl⟩:=HN.out.2.1.pred hlt
        obtain ⟨x,yA,ya,yB,yb,rfl,hc0,hdy,hny,hniy⟩:=HN.out.2.1.at6 hlt;have hc:=z0u hbr _ _ _ hc0;have HTK:=hid (fun h=>z5y n.ptrs (okN j) k hlt HA.out h);have HBD:=hid (fun h=>HP0.out (z4f n.ptrs (okN j) k hlt h))
        have htp:totN m' n.ptrs[k]≤2000000:=by have:=z1y (m:=m') hlt; have:=HT.out; unfold totN at this; omega
        have HC:=hid (HJ.out m' n.ptrs[k] ⟨yA,ya,yB,yb⟩ wr S (NdAt.below ⟨hdy,hny,hniy⟩ hbr) htp)
        dsimp only at HC
        generalize n.ptrs[k]=y at hc HTK HBD HC;obtain ⟨c0,c1,c2,c3,c4,c5⟩:=hc
        dsimp only at c2 c5
        have HBR:=hid hbr;have HRR:=hid hrr;clear hbr hrr hc0 hdy hny hniy htp HB;cases hoy:okN j y
        all_goals
         rw[hoy] at HC;have HO:=hid hoy;clear hoy
         go_wp2_with fail
         refine HC.out.mono ?_;rintro e w3 ⟨rfl,hb3⟩;have HB3:=hid (And.intro (HBR.out.trans (hb3.mono HBR.out.size)) ((hb3.block w.heap.size (z00 HRR.out)).trans HRR.out));clear hb3
         first
         | (have HX:=hid (HBD.out HO.out)
            go_wp2;go_ret
            exact ⟨by rw[HX.out]; rfl,HB3.out.1⟩)
         | (have HX:=hid (HTK.out HO.out)
            go_wp2
            go_roundw
            case rel=>exact ⟨k+1,by go_num,by omega,HX,HB3⟩
            case measure=>simp[intOf]; omega)
      · obtain rfl:k=n.ptrs.length:=by omega
        rw[List.take_of_length_le (Nat.le_refl _)] at HA;have HBR:=hid hbr;have HRR:=hid hrr;clear hbr hrr HB;go_wp2
        go_loopw [6] (fun i wr=>∃k:Nat,i= .int .i64 k∧k≤n.items.length∧Hid (((n.items.take k).all fun y=>y.ptrs.all (okN j))=true)∧Hid (Below w.heap.size w wr∧wr.heap[w.heap.size]? =some (.cells #[.int .i64 n.kind,.string n.data,.slice qA n.ptrs.length qa,.int .i64 n.size,.int .i64 n.count,.slice qB n.items.length qb] nodeT (0,0)))) (fun i _=>n.items.length-(intOf i).toNat)
        case atStart=>exact ⟨0,rfl,by omega,hid rfl,hid ⟨HBR.out,HRR.out⟩⟩
        case round =>
         obtain ⟨k,rfl,hk,HAI,HB⟩:=hrel;obtain ⟨hbr,hrr⟩:=HB.out;clear a0 a1 a2 a3 a4 a5;obtain ⟨a0,a1,a2,a3,a4,a5⟩:=z01 hrr
         by_cases hlt:k<n.items.length
         · obtain ⟨m',rfl⟩:=HN.out.2.2.pred hlt
           obtain ⟨x,yA,ya,yB,yb,rfl,hc0,hdy,hny,hniy⟩:=HN.out.2.2.at6 hlt;have HTK:=hid (fun h=>z5y n.items (fun y=>y.ptrs.all (okN j)) k hlt HAI.out h);have HBD:=hid (fun h=>HP1.out (z4f n.items (fun y=>y.ptrs.all (okN j)) k hlt h));have HTP:Hid (totL m' (n.items[k]).ptrs≤2000000):=hid (by have:=z1y (m:=m') hlt; have:=HT.out; unfold totN at *; omega);have hypl:(n.items[k]).ptrs.length≤2000000:=z12 hny HTP.out;generalize n.items[k]=y at hc0 HTK HBD hny HTP hypl;have HC0:=hid hc0;have HNY:=hid hny;have HBR:=hid hbr;have HRR:=hid hrr;clear hbr hrr hc0 hdy hny hniy HB;go_wp2;clear a0 a1 a2 a3 a4 a5
           go_loopw [7] (fun i wr=>∃k:Nat,i= .int .i64 k∧k≤y.ptrs.length∧Hid ((y.ptrs.take k).all (okN j)=true)∧Hid (Below w.heap.size w wr∧wr.heap[w.heap.size]? =some (.cells #[.int .i64 n.kind,.string n.data,.slice qA n.ptrs.length qa,.int .i64 n.size,.int .i64 n.count,.slice (some x) n.items.length qb] nodeT (0,0)))) (fun i _=>y.ptrs.length-(intOf i).toNat)
           case atStart=>exact ⟨0,rfl,by omega,hid rfl,hid ⟨HBR.out,HRR.out⟩⟩
           case round =>
            obtain ⟨q,rfl,hq,HAQ,HB⟩:=hrel;obtain ⟨hbr,hrr⟩:=HB.out;obtain ⟨a0,a1,a2,a3,a4,a5⟩:=z01 hrr;have hc:=z0u hbr _ _ _ HC0.out;have hcb:=hc.lt;obtain ⟨-, -,d2, -, -, -⟩:=hc
            dsimp only at d2
            by_cases hqt:q<y.ptrs.length
            · obtain ⟨m'',rfl⟩:=HNY.out.pred hqt
              obtain ⟨x2,zA,za,zB,zb,rfl,hc2,hdz,hnz,hniz⟩:=HNY.out.at6 hqt;have hcz:=z0u hbr _ _ _ hc2;have HTQ:=hid (fun h=>z5y y.ptrs (okN j) q hqt HAQ.out h);have HBQ:=hid (fun h=>HBD.out (z4f y.ptrs (okN j) q hqt h))
              have htp:totN m'' y.ptrs[q]≤2000000:=by have:=z1y (m:=m'') hqt; have:=HTP.out; omega
              have HC:=hid (HJ.out m'' y.ptrs[q] ⟨zA,za,zB,zb⟩ wr S (NdAt.below ⟨hdz,hnz,hniz⟩ hbr) htp)
              dsimp only at HC
              generalize y.ptrs[q]=z at hcz HTQ HBQ HC;obtain ⟨c0,c1,c2,c3,c4,c5⟩:=hcz
              dsimp only at c2 c5
              have HBR:=hid hbr;have HRR:=hid hrr;clear hbr hrr hc2 hdz hnz hniz htp HB;cases hoz:okN j z
              all_goals
               rw[hoz] at HC;have HO:=hid hoz;clear hoz
               go_wp2_with fail
               refine HC.out.mono ?_;rintro e w3 ⟨rfl,hb3⟩;have HB3:=hid (And.intro (HBR.out.trans (hb3.mono HBR.out.size)) ((hb3.block w.heap.size (z00 HRR.out)).trans HRR.out));clear hb3
               first
               | (have HX:=hid (HBQ.out HO.out)
                  go_wp2;go_ret
                  exact ⟨by rw[HX.out]; rfl,HB3.out.1⟩)
               | (have HX:=hid (HTQ.out HO.out)
                  go_wp2
                  go_roundw
                  case rel=>exact ⟨q+1,by go_num,by omega,HX,HB3⟩
                  case measure=>simp[intOf]; omega)
            · obtain rfl:q=y.ptrs.length:=by omega
              rw[List.take_of_length_le (Nat.le_refl _)] at HAQ;have HX:=hid (HTK.out HAQ.out);have HBB:=hid (And.intro hbr hrr);clear hbr hrr HB;go_wp2
              go_roundw
              case rel=>exact ⟨k+1,by go_num,by omega,HX,HBB⟩
              case measure=>simp[intOf]; omega
         · obtain rfl:k=n.items.length:=by omega
           rw[List.take_of_length_le (Nat.le_refl _)] at HAI;have HX:=hid (HGOOD.out HA.out HAI.out);have HBR:=hid hbr;clear hbr hrr HB;go_wp2;go_ret;exact ⟨by rw[HX.out]; rfl,HBR.out⟩
 · have HP0:Hid (n.ptrs.all (okN j)=false→okN (j+1) n=false):=hid (fun h=>by rw[HOK.out,h]; simp)
   have HP1:Hid ((n.items.all fun y=>y.ptrs.all (okN j))=false→okN (j+1) n=false):=hid (fun h=>by rw[HOK.out,h]; simp);have HGOOD:Hid (n.ptrs.all (okN j)=true→(n.items.all fun y=>y.ptrs.all (okN j))=true→okN (j+1) n=true):=hid (fun h h'=>by rw[HOK.out,h,h']; rfl);clear HOK;go_enter Tryz.func77,Tryz.ntmps77
   go_wp2_with fail
   refine (HST.out _).mono ?_;rintro e w1 ⟨rfl,hb1⟩;have hr1:=(hb1.block w.heap.size hsz).trans HR.out;have HR1:=hid hr1;have HB1:=hid (HBA.out.trans (hb1.mono HBA.out.size));obtain ⟨a0,a1,a2,a3,a4,a5⟩:=z01 hr1;clear hr1 hb1;go_wp2
   go_loopw [5] (fun i wr=>∃k:Nat,i= .int .i64 k∧k≤n.ptrs.length∧Hid ((n.ptrs.take k).all (okN j)=true)∧Hid (Below w.heap.size w wr∧wr.heap[w.heap.size]? =some (.cells #[.int .i64 n.kind,.string n.data,.slice qA n.ptrs.length qa,.int .i64 n.size,.int .i64 n.count,.slice qB n.items.length qb] nodeT (0,0)))) (fun i _=>n.ptrs.length-(intOf i).toNat)
   case atStart=>exact ⟨0,rfl,by omega,hid rfl,hid ⟨HB1.out,HR1.out⟩⟩
   case round =>
    obtain ⟨k,rfl,hk,HA,HB⟩:=hrel;obtain ⟨hbr,hrr⟩:=HB.out;clear a0 a1 a2 a3 a4 a5;obtain ⟨a0,a1,a2,a3,a4,a5⟩:=z01 hrr
    by_cases hlt:k<n.ptrs.length
    · obtain ⟨m',rfl⟩:=HN.out.2.1.pred hlt
      obtain ⟨x,yA,ya,yB,yb,rfl,hc0,hdy,hny,hniy⟩:=HN.out.2.1.at6 hlt;have hc:=z0u hbr _ _ _ hc0;have HTK:=hid (fun h=>z5y n.ptrs (okN j) k hlt HA.out h);have HBD:=hid (fun h=>HP0.out (z4f n.ptrs (okN j) k hlt h))
      have htp:totN m' n.ptrs[k]≤2000000:=by have:=z1y (m:=m') hlt; have:=HT.out; unfold totN at this; omega
      have HC:=hid (HJ.out m' n.ptrs[k] ⟨yA,ya,yB,yb⟩ wr S (NdAt.below ⟨hdy,hny,hniy⟩ hbr) htp)
      dsimp only at HC
      generalize n.ptrs[k]=y at hc HTK HBD HC;obtain ⟨c0,c1,c2,c3,c4,c5⟩:=hc
      dsimp only at c2 c5
      have HBR:=hid hbr;have HRR:=hid hrr;clear hbr hrr hc0 hdy hny hniy htp HB;cases hoy:okN j y
      all_goals
       rw[hoy] at HC;have HO:=hid hoy;clear hoy
       go_wp2_with fail
       refine HC.out.mono ?_;rintro e w3 ⟨rfl,hb3⟩;have HB3:=hid (And.intro (HBR.out.trans (hb3.mono HBR.out.size)) ((hb3.block w.heap.size (z00 HRR.out)).trans HRR.out));clear hb3
       first
       | (have HX:=hid (HBD.out HO.out)
          go_wp2;go_ret
          exact ⟨by rw[HX.out]; rfl,HB3.out.1⟩)
       | (have HX:=hid (HTK.out HO.out)
          go_wp2
          go_roundw
          case rel=>exact ⟨k+1,by go_num,by omega,HX,HB3⟩
          case measure=>simp[intOf]; omega)
    · obtain rfl:k=n.ptrs.length:=by omega
      rw[List.take_of_length_le (Nat.le_refl _)] at HA;have HBR:=hid hbr;have HRR:=hid hrr;clear hbr hrr HB;go_wp2
      go_loopw [6] (fun i wr=>∃k:Nat,i= .int .i64 k∧k≤n.items.length∧Hid (((n.items.take k).all fun y=>y.ptrs.all (okN j))=true)∧Hid (Below w.heap.size w wr∧wr.heap[w.heap.size]? =some (.cells #[.int .i64 n.kind,.string n.data,.slice qA n.ptrs.length qa,.int .i64 n.size,.int .i64 n.count,.slice qB n.items.length qb] nodeT (0,0)))) (fun i _=>n.items.length-(intOf i).toNat)
      case atStart=>exact ⟨0,rfl,by omega,hid rfl,hid ⟨HBR.out,HRR.out⟩⟩
      case round =>
       obtain ⟨k,rfl,hk,HAI,HB⟩:=hrel;obtain ⟨hbr,hrr⟩:=HB.out;clear a0 a1 a2 a3 a4 a5;obtain ⟨a0,a1,a2,a3,a4,a5⟩:=z01 hrr
       by_cases hlt:k<n.items.length
       · obtain ⟨m',rfl⟩:=HN.out.2.2.pred hlt
         obtain ⟨x,yA,ya,yB,yb,rfl,hc0,hdy,hny,hniy⟩:=HN.out.2.2.at6 hlt;have HTK:=hid (fun h=>z5y n.items (fun y=>y.ptrs.all (okN j)) k hlt HAI.out h);have HBD:=hid (fun h=>HP1.out (z4f n.items (fun y=>y.ptrs.all (okN j)) k hlt h));have HTP:Hid (totL m' (n.items[k]).ptrs≤2000000):=hid (by have:=z1y (m:=m') hlt; have:=HT.out; unfold totN at *; omega);have hypl:(n.items[k]).ptrs.length≤2000000:=z12 hny HTP.out;generalize n.items[k]=y at hc0 HTK HBD hny HTP hypl;have HC0:=hid hc0;have HNY:=hid hny;have HBR:=hid hbr;have HRR:=hid hrr;clear hbr hrr hc0 hdy hny hniy HB;go_wp2;clear a0 a1 a2 a3 a4 a5
         go_loopw [7] (fun i wr=>∃k:Nat,i= .int .i64 k∧k≤y.ptrs.length∧Hid ((y.ptrs.take k).all (okN j)=true)∧Hid (Below w.heap.size w wr∧wr.heap[w.heap.size]? =some (.cells #[.int .i64 n.kind,.string n.data,.slice qA n.ptrs.length qa,.int .i64 n.size,.int .i64 n.count,.slice (some x) n.items.length qb] nodeT (0,0)))) (fun i _=>y.ptrs.length-(intOf i).toNat)
         case atStart=>exact ⟨0,rfl,by omega,hid rfl,hid ⟨HBR.out,HRR.out⟩⟩
         case round =>
          obtain ⟨q,rfl,hq,HAQ,HB⟩:=hrel;obtain ⟨hbr,hrr⟩:=HB.out;obtain ⟨a0,a1,a2,a3,a4,a5⟩:=z01 hrr;have hc:=z0u hbr _ _ _ HC0.out;have hcb:=hc.lt;obtain ⟨-, -,d2, -, -, -⟩:=hc
          dsimp only at d2
          by_cases hqt:q<y.ptrs.length
          · obtain ⟨m'',rfl⟩:=HNY.out.pred hqt
            obtain ⟨x2,zA,za,zB,zb,rfl,hc2,hdz,hnz,hniz⟩:=HNY.out.at6 hqt;have hcz:=z0u hbr _ _ _ hc2;have HTQ:=hid (fun h=>z5y y.ptrs (okN j) q hqt HAQ.out h);have HBQ:=hid (fun h=>HBD.out (z4f y.ptrs (okN j) q hqt h))
            have htp:totN m'' y.ptrs[q]≤2000000:=by have:=z1y (m:=m'') hqt; have:=HTP.out; omega
            have HC:=hid (HJ.out m'' y.ptrs[q] ⟨zA,za,zB,zb⟩ wr S (NdAt.below ⟨hdz,hnz,hniz⟩ hbr) htp)
            dsimp only at HC
            generalize y.ptrs[q]=z at hcz HTQ HBQ HC;obtain ⟨c0,c1,c2,c3,c4,c5⟩:=hcz
            dsimp only at c2 c5
            have HBR:=hid hbr;have HRR:=hid hrr;clear hbr hrr hc2 hdz hnz hniz htp HB;cases hoz:okN j z
            all_goals
             rw[hoz] at HC;have HO:=hid hoz;clear hoz
             go_wp2_with fail
             refine HC.out.mono ?_;rintro e w3 ⟨rfl,hb3⟩;have HB3:=hid (And.intro (HBR.out.trans (hb3.mono HBR.out.size)) ((hb3.block w.heap.size (z00 HRR.out)).trans HRR.out));clear hb3
             first
             | (have HX:=hid (HBQ.out HO.out)
                go_wp2;go_ret
                exact ⟨by rw[HX.out]; rfl,HB3.out.1⟩)
             | (have HX:=hid (HTQ.out HO.out)
                go_wp2
                go_roundw
                case rel=>exact ⟨q+1,by go_num,by omega,HX,HB3⟩
                case measure=>simp[intOf]; omega)
          · obtain rfl:q=y.ptrs.length:=by omega
            rw[List.take_of_length_le (Nat.le_refl _)] at HAQ;have HX:=hid (HTK.out HAQ.out);have HBB:=hid (And.intro hbr hrr);clear hbr hrr HB;go_wp2
            go_roundw
            case rel=>exact ⟨k+1,by go_num,by omega,HX,HBB⟩
            case measure=>simp[intOf]; omega
       · obtain rfl:k=n.items.length:=by omega
         rw[List.take_of_length_le (Nat.le_refl _)] at HAI;have HX:=hid (HGOOD.out HA.out HAI.out);have HBR:=hid hbr;clear hbr hrr HB;go_wp2;go_ret;exact ⟨by rw[HX.out]; rfl,HBR.out⟩
theorem zhr:∀d,d≤8→L4O d
 | 0,h=>zec 0 h (fun j hj=>by omega)
 | d+1,h=>zec (d+1) h (fun j hj=>by
   obtain rfl:d=j:=by omega
   exact zhr d (by omega))
theorem zdr {B:Nat}{a w:World}(h:Below B a w)(n:Nat):Below B a (w.drewN n):=⟨h.os,h.tape,h.output,h.size,h.block⟩
theorem z99 (m:Nat)(n:Nd)(h:Hd)(w:World)(S:Nat→Prop)(hn:NdAt w S m n h)(hf:formN n=true)(ht:totN m n≤2000000) :
 Calls Tryz.prog 83 #[.agg #[.int .i64 n.kind,.string n.data,.slice h.A n.ptrs.length h.a,.int .i64 n.size,.int .i64 n.count,.slice h.B n.items.length h.b]] w fun e w'=>e= .returned (.int .i64 (ownN n:Nat))∧Below w.heap.size w w':=by
 obtain ⟨qA,qa,qB,qb⟩:=h
 dsimp only at hn ⊢
 have hds:n.data.size≤2000000:=by unfold totN at ht; omega
 have hpl:n.ptrs.length≤2000000:=z12 hn.2.1 (by unfold totN at ht; omega);have hil:n.items.length≤2000000:=z12 hn.2.2 (by unfold totN at ht; omega)
 rcases z0d hf with hc | hc | hc
 · have HX:Hid (ownN n=0):=hid (by unfold ownN ownB; rw[hc.2.1,hc.2.2.1,z06 hc.2.2.2.2.2,hc.1]; rfl)
   have k1:(n.kind==1)=false:=by rw[hc.1]; rfl
   have k2:(n.kind != 2)=true:=by rw[hc.1]; rfl
   clear hc hn ht hf;go_enter Tryz.func83,Tryz.ntmps83;go_wp2;go_ret;exact ⟨by rw[HX.out]; rfl,(Below.refl _ _).alloc (Nat.le_refl _) _⟩
 · have HX:Hid (((ownN n:Nat):Int)=(n.data.size:Int)/8+n.ptrs.length):=hid (by
    have:ownN n=ownB n:=by unfold ownN; rw[z06 hc.2.2.2.2,if_neg (by omega)]; simp
    rw[this]; unfold ownB; have:=hc.2.1; omega)
   have k1:(n.kind==1)=true:=by rw[hc.1]; rfl
   clear hc hn ht hf;go_enter Tryz.func83,Tryz.ntmps83;go_wp2;go_ret;exact ⟨by rw[HX.out]; rfl,(Below.refl _ _).alloc (Nat.le_refl _) _⟩
 · obtain ⟨hk,hcc,hc⟩:=hc
   have k1:(n.kind==1)=false:=by rw[hk]; rfl
   have k2:(n.kind != 2)=false:=by rw[hk]; rfl
   rcases hc with hc | hc | hc
   · have HX:Hid (((ownN n:Nat):Int)=((n.data.size:Int)+7)/8):=hid (by
      have:ownN n=ownB n:=by unfold ownN; rw[z06 hc.2.2.2.2,if_neg (by omega)]; simp
      rw[this]; unfold ownB; have:=hc.2.2.2.1; omega)
     have z6:(n.size==6)=false:=by rw[beq_eq_false_iff_ne]; omega
     have z7:(n.size==7)=false:=by rw[beq_eq_false_iff_ne]; omega
     clear hc hn ht hf hk;go_enter Tryz.func83,Tryz.ntmps83;go_wp2;go_ret;exact ⟨by rw[HX.out]; rfl,(Below.refl _ _).alloc (Nat.le_refl _) _⟩
   · have HX:Hid (((ownN n:Nat):Int)=n.count):=hid (by
      have:ownN n=ownB n:=by unfold ownN; rw[z06 hc.2.2.2,if_neg (by omega)]; simp
      rw[this]; unfold ownB; rw[hc.2.1]; have:=hc.2.2.1; omega)
     have z6:(n.size==6)=true:=by rw[hc.1]; rfl
     have z7:(n.size==7)=false:=by rw[hc.1]; rfl
     clear hc hn ht hf hk;go_enter Tryz.func83,Tryz.ntmps83;go_wp2;go_ret;exact ⟨by rw[HX.out]; rfl,(Below.refl _ _).alloc (Nat.le_refl _) _⟩
   · have HX:Hid (ownN n=1+(n.items.map ownB).sum):=hid (by unfold ownN; rw[if_pos ⟨hk,hc.1⟩]; unfold ownB; rw[hc.2.1,hc.2.2.1])
     have HIT:Hid (∀k (hk:k<n.items.length),((n.items[k]).data.size:Int)%8=0∧(n.items[k]).data.size≤2000000∧(n.items[k]).ptrs.length≤2000000):=hid fun k hk=>by
      obtain ⟨h1,h2,h3⟩:=zdk hf _ (List.getElem_mem hk);obtain ⟨h4,h5⟩:=zau hn.2.2 _ (List.getElem_mem hk);unfold totN at ht;exact ⟨h2,by omega,by omega⟩
     have HSUM:Hid (∀k,((n.items.take k).map ownB).sum≤2000000):=hid fun k=>by
      have h1:=z18 n.items ownB k;have h2:=zfr hn.2.2;unfold totN at ht;omega
     have z7:(n.size==7)=true:=by rw[hc.1]; rfl
     have hba:=(Below.refl w.heap.size w).alloc (Nat.le_refl _) (.cells #[.int .i64 n.kind,.string n.data,.slice qA n.ptrs.length qa,.int .i64 n.size,.int .i64 n.count,.slice qB n.items.length qb] nodeT);have HN:=hid (NdsAt.succ _ _ _ (hn.2.2.below hba));have HBA:=hid hba;have HR:=hid (heap_alloc_new w (.cells #[.int .i64 n.kind,.string n.data,.slice qA n.ptrs.length qa,.int .i64 n.size,.int .i64 n.count,.slice qB n.items.length qb] nodeT))
     have hsz:w.heap.size<(w.alloc (.cells #[.int .i64 n.kind,.string n.data,.slice qA n.ptrs.length qa,.int .i64 n.size,.int .i64 n.count,.slice qB n.items.length qb] nodeT)).heap.size:=by simp
     clear hc hn ht hf hk hba;go_enter Tryz.func83,Tryz.ntmps83;go_wp2;generalize w.alloc (.cells #[.int .i64 n.kind,.string n.data,.slice qA n.ptrs.length qa,.int .i64 n.size,.int .i64 n.count,.slice qB n.items.length qb] nodeT)=W at *
     go_loopw [3,4] (fun q i wr=>∃(k:Nat) (z:Int),q= .int .i64 z∧i= .int .i64 k∧k≤n.items.length∧0≤z∧z≤6000000∧Hid (z=((1+((n.items.take k).map ownB).sum:Nat):Int))∧Hid (Below W.heap.size W wr)) (fun _ i _=>n.items.length-(intOf i).toNat)
     case atStart=>exact ⟨0,_,rfl,rfl,by omega,by omega,by omega,hid (by simp),hid (Below.refl _ _)⟩
     case round =>
      obtain ⟨k,z,rfl,rfl,hk,hz0,hz,HZ,HB⟩:=hrel;obtain ⟨a0,a1,a2,a3,a4,a5⟩:=z01 ((HB.out.block _ hsz).trans HR.out)
      by_cases hlt:k<n.items.length
      · obtain ⟨x,yA,ya,yB,yb,rfl,hc, -, -, -⟩:=(HN.out.below HB.out).at6 hlt
        obtain ⟨i1,i2,i3⟩:=HIT.out k hlt;have HS:=hid (zgk n.items k hlt);generalize n.items[k]=y at hc i1 i2 i3 HS;have HO:Hid (((ownB y:Nat):Int)=(y.data.size:Int)/8+y.ptrs.length):=hid (by unfold ownB; omega)
        have hz2:z+(y.data.size:Int)/8+y.ptrs.length≤6000000:=by have:=HZ.out; have:=HS.out; have:=HSUM.out (k+1); have:=HO.out; omega
        obtain ⟨d0,d1,d2,d3,d4,d5⟩:=hc
        dsimp only at d2 d5
        have hk2:(k:Int)<(n.items.length:Int):=by omega
        clear i1;go_wp2
        go_big_quiet (fail)
        go_wp2
        go_roundw
        case rel=>exact ⟨k+1,_,rfl,by go_num,by omega,by omega,hz2,hid (by rw[HZ.out,HS.out]; have:=HO.out; omega),hid (zdr HB.out _)⟩
        case measure=>simp[intOf]; omega
      · obtain rfl:k=n.items.length:=by omega
        rw[List.take_of_length_le (Nat.le_refl _)] at HZ;have HBE:=hid (HBA.out.trans (HB.out.mono HBA.out.size));go_wp2;go_ret;exact ⟨by rw[HX.out,HZ.out]; rfl,HBE.out⟩
open Go.RowKit Go.Deep
theorem z2o {w w':World}{base m:Nat}{n:Nd}{h:Hd}(hn:NdAt w (fun k=>k<base) m n h)(hb:Below base w w'):NdAt w' (fun k=>k<base) m n h:=hn.map (fun _ h=>h) (fun _ _ _ hs hc=>hc.block (hb.block _ hs))
theorem KP.rowS {P:Nat→Prop}{w w':World}(h:KP P w w'){k:Nat}{o:Obj}(hk:w.heap[k]? =some o)(hn:¬P k):w'.heap[k]? =some o:=(h.block k (z00 hk) hn).trans hk
theorem kpS {P:Nat→Prop}{w w':World}{q:Addr}{u:Value}(h:KP P w w')(hq:w.cell? q=some u)(hn:¬P q.block):w'.cell? q=some u:=(World.cell?_of_block (h.block q.block (World.block_lt_of_cell? w q hq) hn)).trans hq
theorem z3r {n:Nd}(hf:formN n=true)(ho:ownN n≤300):n.data.size≤2400∧n.ptrs.length≤300∧n.items.length≤20000∧(n.kind≠0→n.kind=1∨n.kind=2)∧(n.kind=2→0≤n.size∧n.size≤7∧0≤n.count∧n.count<12801)∧(n.kind=2→n.size=7→1≤ownN n∧(n.items.length:Int)=n.count∧n.data.size=0∧n.ptrs.length=0)∧(n.kind=1→n.data.size%8=0):=by
 have hb:ownB n≤ownN n:=by unfold ownN; omega
 have hd:n.data.size≤2400:=by unfold ownB at hb; omega
 have hp:n.ptrs.length≤300:=by unfold ownB at hb; omega
 rcases z0d hf with h | h | ⟨h1,h2,h | h | h⟩
 · exact ⟨hd,hp,by omega,fun e=>by omega,fun e=>by omega,fun e=>by omega,fun e=>by omega⟩
 · exact ⟨hd,hp,by omega,fun _=> .inl h.1,fun e=>by omega,fun e=>by omega,fun _=>by omega⟩
 · exact ⟨hd,hp,by omega,fun _=> .inr h1,fun _=>by omega,fun _ e=>by omega,fun e=>by omega⟩
 · exact ⟨hd,hp,by omega,fun _=> .inr h1,fun _=>by omega,fun _ e=>by omega,fun e=>by omega⟩
 · refine ⟨hd,hp,by omega,fun _=> .inr h1,fun _=>by omega,fun _ _=>⟨?_,by omega,by omega,by omega⟩,fun e=>by omega⟩
   unfold ownN;rw[if_pos ⟨h1,h.1⟩];omega
theorem fin8B {w w1:World}{b:Nat}{T:TypeId}{a0 a1 a2 a3 a4 a5 a6 a7:Value}(h:w1.heap[b]? =some (.cells #[a0,a1,a2,a3,a4,a5,a6,a7] T (0,0)))(hp:Below w.heap.size w w1)(hb:w.heap.size≤b)(v0 v1 v2 v3 v4 v5 v6 v7:Value) :
 ∃wf,((((((((w1.setCell ⟨b,0,none⟩ v0).setCell ⟨b,1,none⟩ v1).setCell ⟨b,2,none⟩ v2).setCell ⟨b,3,none⟩ v3).setCell ⟨b,4,none⟩ v4).setCell ⟨b,5,none⟩ v5).setCell ⟨b,6,none⟩ v6).setCell ⟨b,7,none⟩ v7)=wf∧wf.heap[b]? =some (.cells #[v0,v1,v2,v3,v4,v5,v6,v7] T (0,0))∧Below w.heap.size w wf:=by
 have hk:∀(W:World) (i:Nat) (v:Value),Below w.heap.size w W→Below w.heap.size w (W.setCell ⟨b,i,none⟩ v):=fun W i v hW=>hW.setCell (p:=⟨b,i,none⟩) hb v
 have h0:=z08 h 0 v0;rw[show (#[a0,a1,a2,a3,a4,a5,a6,a7]:Array Value).setIfInBounds 0 v0= #[v0,a1,a2,a3,a4,a5,a6,a7] from rfl] at h0;have h1:=z08 h0 1 v1;rw[show (#[v0,a1,a2,a3,a4,a5,a6,a7]:Array Value).setIfInBounds 1 v1= #[v0,v1,a2,a3,a4,a5,a6,a7] from rfl] at h1;have h2:=z08 h1 2 v2;rw[show (#[v0,v1,a2,a3,a4,a5,a6,a7]:Array Value).setIfInBounds 2 v2= #[v0,v1,v2,a3,a4,a5,a6,a7] from rfl] at h2;have h3:=z08 h2 3 v3;rw[show (#[v0,v1,v2,a3,a4,a5,a6,a7]:Array Value).setIfInBounds 3 v3= #[v0,v1,v2,v3,a4,a5,a6,a7] from rfl] at h3;have h4:=z08 h3 4 v4;rw[show (#[v0,v1,v2,v3,a4,a5,a6,a7]:Array Value).setIfInBounds 4 v4= #[v0,v1,v2,v3,v4,a5,a6,a7] from rfl] at h4;have h5:=z08 h4 5 v5;rw[show (#[v0,v1,v2,v3,v4,a5,a6,a7]:Array Value).setIfInBounds 5 v5= #[v0,v1,v2,v3,v4,v5,a6,a7] from rfl] at h5;have h6:=z08 h5 6 v6;rw[show (#[v0,v1,v2,v3,v4,v5,a6,a7]:Array Value).setIfInBounds 6 v6= #[v0,v1,v2,v3,v4,v5,v6,a7] from rfl] at h6;have h7:=z08 h6 7 v7;rw[show (#[v0,v1,v2,v3,v4,v5,v6,a7]:Array Value).setIfInBounds 7 v7= #[v0,v1,v2,v3,v4,v5,v6,v7] from rfl] at h7;exact ⟨_,rfl,h7,hk _ _ _ (hk _ _ _ (hk _ _ _ (hk _ _ _ (hk _ _ _ (hk _ _ _ (hk _ _ _ (hk _ _ _ hp)))))))⟩
def ptN (n:Nd)(off:Int):Value :=
 if n.kind=1 then .agg #[.int .i64 1,.int .i64 off,.int .i64 (n.data.size/8:Nat),.int .i64 (n.ptrs.length:Nat),.int .i64 0,.int .i64 0,.int .i64 0,.bool false]
 else .agg #[.int .i64 2,.int .i64 off,.int .i64 0,.int .i64 0,.int .i64 n.size,.int .i64 (if n.size=7 then (ownN n:Int)-1 else n.count),.int .i64 0,.bool false]
theorem zpy (n:Nd)(off:Int)(w:World)(hf:formN n=true)(ho:ownN n≤300)(hk:n.kind≠0)(h0: -100000≤off)(h1:off≤100000) :
 Calls Tryz.prog 125 #[ptN n off] w fun e w'=>e= .returned (.string ⟨(ptrW n off).toArray⟩)∧Below w.heap.size w w':=by
 obtain ⟨hd,hp,_,hkk,hs,h7,h8⟩:=z3r hf ho;unfold ptN ptrW
 split
 · exact zbx off _ _ w (by omega) (by omega) (by omega) (by omega) (by omega) (by omega)
 · have k2:n.kind=2:=by rcases hkk hk with e | e <;> omega
   have:=hs k2
   split
   · rename_i e7
     have:=h7 k2 e7;have h:=zb9 off n.size ((ownN n:Int)-1) w (by omega) (by omega) (by omega) (by omega) (by omega) (by omega);rw[e7] at h ⊢;exact h
   · exact zb9 off n.size n.count w (by omega) (by omega) (by omega) (by omega) (by omega) (by omega)
theorem z8n (m:Nat)(n:Nd)(h:Hd)(off:Int)(w:World)(S:Nat→Prop)(hn:NdAt w S m n h)(hf:formN n=true)(ht:totN m n≤2000000)(ho:ownN n≤300)(hk:n.kind≠0) :
 Calls Tryz.prog 126 #[.agg #[.int .i64 n.kind,.string n.data,.slice h.A n.ptrs.length h.a,.int .i64 n.size,.int .i64 n.count,.slice h.B n.items.length h.b],.int .i64 off] w fun e w'=>e= .returned (ptN n off)∧Below w.heap.size w w':=by
 obtain ⟨qA,qa,qB,qb⟩:=h;obtain ⟨hd,hp,_,hkk,hs,h7,h8⟩:=z3r hf ho;have hb0:Below w.heap.size w ((w.alloc (.cells #[.int .i64 n.kind,.string n.data,.slice qA n.ptrs.length qa,.int .i64 n.size,.int .i64 n.count,.slice qB n.items.length qb] nodeT)).alloc (.cells #[.int .i64 0,.int .i64 0,.int .i64 0,.int .i64 0,.int .i64 0,.int .i64 0,.int .i64 0,.bool false] 44)):=((Below.refl _ w).alloc (Nat.le_refl _) _).alloc (by simp) _;have HB0:=hid hb0
 dsimp only
 rcases hkk hk with k1 | k2
 · have hkb:(n.kind==1)=true:=by rw[k1]; rfl
   have HE:Hid (ptN n off= .agg #[.int .i64 1,.int .i64 off,.int .i64 (n.data.size/8:Nat),.int .i64 (n.ptrs.length:Nat),.int .i64 0,.int .i64 0,.int .i64 0,.bool false]):=hid (by unfold ptN; rw[if_pos k1]);rw[HE.out]
   have e8:(n.data.size:Int)/8=((n.data.size/8:Nat):Int):=by omega
   rw[← e8];clear hn hf hkk hs h7 h8 hk k1 hb0 e8;go_enter Tryz.func126,Tryz.ntmps126;go_wp2;refine bodyPost_ret (v:= .agg #[.int .i64 1,.int .i64 off,.int .i64 ((n.data.size:Int)/8),.int .i64 (n.ptrs.length:Nat),.int .i64 0,.int .i64 0,.int .i64 0,.bool false]) (by simp[results,Tryz.results126,go_sem]) rfl ⟨rfl,?_⟩;exact ((Below.refl _ w).alloc (Nat.le_refl _) _).alloc (by simp) _
 · have hkb:(n.kind==1)=false:=by rw[k2]; rfl
   have k1:¬n.kind=1:=by omega
   have HOW:=hid (z99 m n ⟨qA,qa,qB,qb⟩ _ S (hn.below hb0) hf ht)
   dsimp only at HOW
   have r1:=heap_alloc_new (w.alloc (.cells #[.int .i64 n.kind,.string n.data,.slice qA n.ptrs.length qa,.int .i64 n.size,.int .i64 n.count,.slice qB n.items.length qb] nodeT)) (.cells #[.int .i64 0,.int .i64 0,.int .i64 0,.int .i64 0,.int .i64 0,.int .i64 0,.int .i64 0,.bool false] 44);rw[show (w.alloc (.cells #[.int .i64 n.kind,.string n.data,.slice qA n.ptrs.length qa,.int .i64 n.size,.int .i64 n.count,.slice qB n.items.length qb] nodeT)).heap.size=w.heap.size+1 by simp] at r1;have r0:=z05 (heap_alloc_new w (.cells #[.int .i64 n.kind,.string n.data,.slice qA n.ptrs.length qa,.int .i64 n.size,.int .i64 n.count,.slice qB n.items.length qb] nodeT)) (.cells #[.int .i64 0,.int .i64 0,.int .i64 0,.int .i64 0,.int .i64 0,.int .i64 0,.int .i64 0,.bool false] 44);have R1:=hid r1;have R0:=hid r0
   by_cases e7:n.size=7
   · have hsb:(n.size==7)=true:=by rw[e7]; rfl
     have HE:Hid (ptN n off= .agg #[.int .i64 2,.int .i64 off,.int .i64 0,.int .i64 0,.int .i64 n.size,.int .i64 ((ownN n:Int)-1),.int .i64 0,.bool false]):=hid (by unfold ptN; rw[if_neg k1,if_pos e7]);rw[HE.out];have h1:=(h7 k2 e7).1;generalize ownN n=on at *;clear hn hf hkk hs h7 h8 hk k1 k2 hb0 e7 r0 r1;go_enter Tryz.func126,Tryz.ntmps126
     go_wp2_with fail
     refine HOW.out.mono ?_;rintro e w1 ⟨rfl,hb1⟩;have HB1:=hid (HB0.out.trans (hb1.mono HB0.out.size));have hx:=(hb1.block _ (z00 R1.out)).trans R1.out;have HX:=hid hx;obtain ⟨a0,a1,a2,a3,a4,a5⟩:=z01 ((hb1.block _ (z00 R0.out)).trans R0.out);clear hb1 hx;have X8:=HX.out;obtain ⟨b0,b1,b2,b3,b4,b5,b6,b7⟩:=z50 HX.out;have f0:=z02 X8 0;have f1:=z02 X8 1;have f2:=z02 X8 2;have f3:=z02 X8 3;have f4:=z02 X8 4;have f5:=z02 X8 5;have f6:=z02 X8 6;have f7:=z02 X8 7;clear X8
     go_wp2_with fail
     obtain ⟨wf,hwf,hrw,hbf⟩:=fin8B HX.out HB1.out (show w.heap.size≤w.heap.size+1 by omega) (.int .i64 2) (.int .i64 off) (.int .i64 0) (.int .i64 0) (.int .i64 n.size) (.int .i64 ((on:Int)-1)) (.int .i64 0) (.bool false);rw[hwf];obtain ⟨g0,g1,g2,g3,g4,g5,g6,g7⟩:=z50 hrw;exact bodyPost_ret (v:= .agg #[.int .i64 2,.int .i64 off,.int .i64 0,.int .i64 0,.int .i64 n.size,.int .i64 ((on:Int)-1),.int .i64 0,.bool false]) (by simp[results,Tryz.results126,go_sem,g0,g1,g2,g3,g4,g5,g6,g7]) rfl ⟨rfl,hbf⟩
   · have hsb:(n.size==7)=false:=by simpa using e7
     have HE:Hid (ptN n off= .agg #[.int .i64 2,.int .i64 off,.int .i64 0,.int .i64 0,.int .i64 n.size,.int .i64 n.count,.int .i64 0,.bool false]):=hid (by unfold ptN; rw[if_neg k1,if_neg e7]);rw[HE.out];clear hn hf hkk hs h7 h8 hk k1 k2 hb0 e7 r0 r1 HOW;go_enter Tryz.func126,Tryz.ntmps126;go_wp2;refine bodyPost_ret (v:= .agg #[.int .i64 2,.int .i64 off,.int .i64 0,.int .i64 0,.int .i64 n.size,.int .i64 n.count,.int .i64 0,.bool false]) (by simp[results,Tryz.results126,go_sem]) rfl ⟨rfl,?_⟩;exact ((Below.refl _ w).alloc (Nat.le_refl _) _).alloc (by simp) _
abbrev LS:Nat:=1000
def SWrQ (base b size:Nat)(P:Nat→Prop)(w:World)(r:Option Segs)(e:Ending)(w':World):Prop :=
 e= .returned (.tuple #[])∧KP P w w'∧((r=none∧∃s1,Sb w' base b size s1 true (fun k=>P k∨w.heap.size≤k))∨∃s1,r=some s1∧Sb w' base b size s1 false (fun k=>P k∨w.heap.size≤k))
def SWrD (size d:Nat):Prop:=∀(base b:Nat) (ss:Segs) (P:Nat→Prop) (w:World) (i a m:Nat) (n:Nd) (h1:Hd),Sb w base b size ss false P→(∀k,P k→base≤k∧k<w.heap.size)→SOk LS ss→i<ss.length→a<wn (sgS ss i) →
 NdAt w (fun k=>k<base) m n h1→okN d n=true→totN m n≤2000000→z03 d n≤300→totS ss+2*z03 d n≤LS →
 Calls Tryz.prog 79 #[.pointer (some ⟨b,0,none⟩),.agg #[.int .i64 n.kind,.string n.data,.slice h1.A n.ptrs.length h1.a,.int .i64 n.size,.int .i64 n.count,.slice h1.B n.items.length h1.b],.int .i64 (i:Int),.int .i64 (a:Int)] w (SWrQ base b size P w (wrP LS size d n ss i a))
theorem z4k {x:Nat} :∀ {l:List Nat},x∈l→x≤l.sum
 | [],h=>by cases h
 | y :: t,h=>by
   rw[List.sum_cons]
   rcases List.mem_cons.1 h with rfl | h
   · omega
   · have:=z4k h; omega
theorem z6f (l:List Nd)(f:Nd→Nat)(k:Nat)(hk:k<l.length):((l.take k).map f).sum+f l[k]≤(l.map f).sum:=by
 have h1:=z0w l f k hk;have h2:=z18 l f (k+1);omega
theorem zdq (size d:Nat)(IH:SWrD size d)(base b:Nat)(ss:Segs)(P:Nat→Prop)(w:World)(i a m:Nat)(n:Nd)(h1:Hd)(h:Sb w base b size ss false P)(hP0:∀k,P k→base≤k∧k<w.heap.size)(hk:SOk LS ss)(hi:i<ss.length)(ha:a+ownB n≤wn (sgS ss i))(h8:n.data.size%8=0)
 (hn:NdAt w (fun k=>k<base) m n h1) (ho:∀p∈n.ptrs,okN d p=true) (hm:totN m n≤2000000) (hws:(n.ptrs.map (z03 d)).sum≤300) (htt:totS ss+2*(n.ptrs.map (z03 d)).sum≤LS) :
 Calls Tryz.prog 163 #[.pointer (some ⟨b,0,none⟩),.agg #[.int .i64 n.kind,.string n.data,.slice h1.A n.ptrs.length h1.a,.int .i64 n.size,.int .i64 n.count,.slice h1.B n.items.length h1.b],.int .i64 (i:Int),.int .i64 (a:Int)] w (SWrQ base b size P w (bodyP (wrP LS size d) n ss i a)):=by
 obtain ⟨qA,qa,qB,qb⟩:=h1
 dsimp only at hn ⊢
 have hwi:=z09 ss i;have hto:=hk.totS;unfold LS at hto htt
 have hbd:(n.data.size+7)/8+n.ptrs.length≤1000:=by unfold ownB at ha; omega
 have hb0:Below w.heap.size w ((w.alloc (.cells #[.int .i64 n.kind,.string n.data,.slice qA n.ptrs.length qa,.int .i64 n.size,.int .i64 n.count,.slice qB n.items.length qb] nodeT))):=(Below.refl _ w).alloc (Nat.le_refl _) _;have r0:((w.alloc (.cells #[.int .i64 n.kind,.string n.data,.slice qA n.ptrs.length qa,.int .i64 n.size,.int .i64 n.count,.slice qB n.items.length qb] nodeT))).heap[w.heap.size]? =some (.cells #[.int .i64 n.kind,.string n.data,.slice qA n.ptrs.length qa,.int .i64 n.size,.int .i64 n.count,.slice qB n.items.length qb] nodeT (0,0)):=heap_alloc_new w _
 have hs0:((w.alloc (.cells #[.int .i64 n.kind,.string n.data,.slice qA n.ptrs.length qa,.int .i64 n.size,.int .i64 n.count,.slice qB n.items.length qb] nodeT))).heap.size=w.heap.size+1:=by simp
 have hbb:base≤w.heap.size:=by have:=h.base; omega
 have hl8:=z10 hk.wds i;have HFIT:=hid (z3q hk.wds ha)
 have hdl:n.data.size≤10000:=by omega
 have hdd:(⟨n.data.data.toList.toArray⟩:ByteArray)=n.data:=by simp
 have HPUT:=hid (z3d base b size ss P ((w.alloc (.cells #[.int .i64 n.kind,.string n.data,.slice qA n.ptrs.length qa,.int .i64 n.size,.int .i64 n.count,.slice qB n.items.length qb] nodeT))) (h.low hb0) i a n.data.data.toList hi HFIT.out (by omega));rw[hdd] at HPUT;have HN:=hid hn;have HB0:=hid hb0;have R0:=hid r0;have HP0:=hid hP0;have HO:=hid ho
 obtain ⟨dw,hdw⟩:∃dw,(n.data.size+7)/8=dw:=⟨_,rfl⟩
 have HE:Hid (bodyP (wrP LS size d) n ss i a=ptrsP (wrP LS size d) n.ptrs (putS ss i a n.data.data.toList) i (a+dw)):=hid (by unfold bodyP; rw[hdw]);have HDX:Hid (a+dw+n.ptrs.length≤wn (sgS (putS ss i a n.data.data.toList) i)):=hid (by rw[← (z0s hi HFIT.out).wn]; unfold ownB at ha; omega)
 have hdv:(n.data.size:Int)/8=(dw:Int):=by omega
 have HSS:Hid (SOk LS (putS ss i a n.data.data.toList)):=hid (hk.put hi HFIT.out);have HTS:Hid (totS (putS ss i a n.data.data.toList)=totS ss):=hid (z1j hi HFIT.out)
 have hii:i<(putS ss i a n.data.data.toList).length:=by rw[z0a]; exact hi
 rw[hdw] at hbd;have HWO:Hid (WrOk LS (wrP LS size d) (fun n=>okN d n=true)):=hid (z2b LS size d);have HTO:Hid (WrTot LS (wrP LS size d) (fun n=>okN d n=true) (z03 d)):=hid (zhb LS size d);clear hn h hb0 r0 hP0 ho hk hdd hdw h8 ha hl8;go_enter Tryz.func163,Tryz.ntmps163
 go_wp2_with fail
 refine HPUT.out.mono ?_;rintro e w1 ⟨rfl,hk1,hB1⟩;have HQ0:=hid (hk1.rowS R0.out (fun hp=>by have:=(HP0.out _ hp).2; omega));have HK1:=hid ((KP.of_below HB0.out).trans hk1 (fun _ _ h=>h):KP P w w1);have HB1:=hid hB1;have HS1:Hid (w.heap.size+1≤w1.heap.size):=hid (by have:=hk1.size; omega);clear hk1 hB1 hs0 HPUT
 go_wp2_with fail
 go_loopw [8] (fun c wr=>∃k:Nat,c= .int .i64 k∧k≤n.ptrs.length∧Hid (KP P w wr∧w.heap.size+1≤wr.heap.size∧wr.heap[w.heap.size]? =some (.cells #[.int .i64 n.kind,.string n.data,.slice qA n.ptrs.length qa,.int .i64 n.size,.int .i64 n.count,.slice qB n.items.length qb] nodeT (0,0)) ∧
  ((bodyP (wrP LS size d) n ss i a=none∧∃s1,Sb wr base b size s1 true (fun k=>P k∨w.heap.size+1≤k))∨∃s1,ptrsP (wrP LS size d) (n.ptrs.take k) (putS ss i a n.data.data.toList) i (a+dw)=some s1∧SOk LS s1∧Grew (putS ss i a n.data.data.toList) s1∧totS s1≤totS ss+2*((n.ptrs.take k).map (z03 d)).sum∧Sb wr base b size s1 false (fun k=>P k∨w.heap.size+1≤k)))) (fun c _=>n.ptrs.length-(intOf c).toNat)
 case atStart=>exact ⟨0,rfl,by omega,hid ⟨HK1.out,HS1.out,HQ0.out,.inr ⟨_,rfl,HSS.out,Grew.refl _,by rw[HTS.out]; exact Nat.le_add_right _ _,HB1.out.weak (fun _ h=> .inl h)⟩⟩⟩
 case round =>
  obtain ⟨k,rfl,hkk,HZ⟩:=hrel;obtain ⟨zp,zs,zq0,zor⟩:=HZ.out;have ZP:=hid zp;have ZQ0:=hid zq0;obtain ⟨n0,n1,n2,n3,n4,n5⟩:=z01 zq0;clear zp zq0 HZ
  rcases zor with ⟨zn,s1,zb⟩ | ⟨s1,zr,zk,zg,zt,zb⟩
  · have ZN:=hid zn
    have ZB:=hid zb;obtain ⟨v,hbv, -⟩:=zb;obtain ⟨c0,c1,c2⟩:=z0k hbv;have ZBW:=hid (ZB.out.weak (Q:=fun k=>P k∨w.heap.size≤k) (fun x hx=>hx.imp id (fun h=>by omega)));clear zn hbv
    by_cases hlt3:k<n.ptrs.length
    all_goals
     go_wp2
     go_end0
     exact ⟨rfl,ZP.out,.inl ⟨ZN.out,s1,ZBW.out⟩⟩
  · have ZR:=hid zr
    have ZK:=hid zk;have ZG:=hid zg;have ZT:=hid zt;have ZB:=hid zb;obtain ⟨v,hbv, -⟩:=zb;obtain ⟨c0,c1,c2⟩:=z0k hbv;clear zr zk zg zt hbv
    by_cases hlt3:k<n.ptrs.length
    · obtain ⟨m',rfl⟩:=HN.out.2.1.pred hlt3
      obtain ⟨xx,hdp,hqa,hc,hp⟩:=(HN.out.2.1).at_ hlt3;obtain rfl:qA=some xx:=hqa;have hbw:=ZP.out.below hbb (fun k hp=>(HP0.out k hp).1)
      have hcb:(xx.add (k*6)).block<base:=by
       obtain ⟨_,q,hq,hcq,_⟩:=HN.out.2.1
       rcases hcq with h | ⟨x2,e2,hs2,_⟩
       · rw[h] at hq; rw[← hq] at hlt3; cases hlt3
       · injection e2 with e2; rw[z0r,e2]; exact hs2
      obtain ⟨d0,d1,d2,d3,d4,d5⟩:=hc.block (hbw.block _ hcb);have hmem:=List.getElem_mem hlt3;have HOK:=hid (HO.out _ hmem);have HTP:Hid (totN m' n.ptrs[k]≤2000000):=hid (by have:=z1y (m:=m') hlt3; unfold totN at hm; omega);have HWP:Hid (z03 d n.ptrs[k]≤300):=hid (Nat.le_trans (z4k (List.mem_map_of_mem hmem)) hws);have HWT:Hid (totS s1+2*z03 d n.ptrs[k]≤LS):=hid (by have h1:=ZT.out; have h2:=z6f n.ptrs (z03 d) k hlt3; unfold LS; omega);have HSN:=hid (z0w n.ptrs (z03 d) k hlt3);have HSTEP:=hid (z7k (wrP LS size d) n.ptrs k hlt3 (putS ss i a n.data.data.toList) i (a+dw));have HCUT:=hid (z9c (wrP LS size d) n.ptrs (k+1) (putS ss i a n.data.data.toList) i (a+dw));have HNP:=hid hp;generalize n.ptrs[k]=p at *;have HCB:=hid hcb;have HND:=hid (z2o HNP.out hbw)
      have hw0:IntKind.i64.wrap (dw:Int)=(dw:Int):=by rw[IntKind.wrap_i64]; have:=HDX.out; have:=z09 (putS ss i a n.data.data.toList) i; have:=HTS.out; omega
      have hw1:IntKind.i64.wrap ((a:Int)+(dw:Int))=((a+dw:Nat):Int):=by rw[IntKind.wrap_i64]; have:=HDX.out; have:=z09 (putS ss i a n.data.data.toList) i; have:=HTS.out; omega
      have hw2:IntKind.i64.wrap (((a+dw:Nat):Int)+(k:Int))=((a+dw+k:Nat):Int):=by rw[IntKind.wrap_i64]; have:=HDX.out; have:=z09 (putS ss i a n.data.data.toList) i; have:=HTS.out; omega
      have hw3:IntKind.i64.wrap ((a:Int)+(dw:Int)+(k:Int))=((a+dw+k:Nat):Int):=by rw[IntKind.wrap_i64]; have:=HDX.out; have:=z09 (putS ss i a n.data.data.toList) i; have:=HTS.out; omega
      have hii1:i<s1.length:=Nat.lt_of_lt_of_le hii ZG.out.1
      have haa1:a+dw+k<wn (sgS s1 i):=by have h1:=ZG.out.wn i; have h2:=HDX.out; omega
      have HCALL:=hid (fun (V:World) (hV:Below wr.heap.size wr V)=>IH base b s1 _ V i (a+dw+k) m' p hdp (ZB.out.tight.low hV) (fun x hx=>⟨hx.2.1,Nat.lt_of_lt_of_le hx.2.2 hV.size⟩) ZK.out hii1 haa1 (z2o HND.out (hV.mono (by omega))) HOK.out HTP.out HWP.out HWT.out)
      have HNP7:Hid (∀x,(w.heap.size≤x∧x<w.heap.size+1)∨x<base→¬((P x∨w.heap.size+1≤x)∧base≤x∧x<wr.heap.size)):=hid (fun x hx hp=>by
       rcases hx with hx | hx
       · rcases hp.1 with h | h
         · have:=HP0.out x h; omega
         · omega
       · omega)
      have HPW:Hid (∀x,x<w.heap.size→((P x∨w.heap.size+1≤x)∧base≤x∧x<wr.heap.size)→P x):=hid (fun x hx hp=>by
       rcases hp.1 with h | h
       · exact h
       · omega)
      have hki:(k:Int)<(n.ptrs.length:Int):=by omega
      clear hc hp hmem hcb hbw
      go_wp2_with fail
      refine wp_region_held_drew (S:=(fun V=>(V.cell? ⟨w.heap.size,1,none⟩=some (.string n.data)∧V.cell? ⟨w.heap.size,2,none⟩=some (.slice (some xx) n.ptrs.length qa))∧V.cell? (xx.add (k*6))=some (.int .i64 p.kind)∧V.cell? ⟨(xx.add (k*6)).block,(xx.add (k*6)).off+1,none⟩=some (.string p.data)∧V.cell? ⟨(xx.add (k*6)).block,(xx.add (k*6)).off+2,none⟩=some (.slice hdp.A p.ptrs.length hdp.a)∧V.cell? ⟨(xx.add (k*6)).block,(xx.add (k*6)).off+3,none⟩=some (.int .i64 p.size)∧V.cell? ⟨(xx.add (k*6)).block,(xx.add (k*6)).off+4,none⟩=some (.int .i64 p.count)∧V.cell? ⟨(xx.add (k*6)).block,(xx.add (k*6)).off+5,none⟩=some (.slice hdp.B p.items.length hdp.b))) (by kernel_rfl) ?_ (fun hH0=>?_)
      · exact ⟨⟨n1,n2⟩,d0,d1,d2,d3,d4,d5⟩
      refine wpAnyH_take (i:=0) (v:=?_) rfl (by kernel_rfl) (by kernel_rfl) (by kernel_rfl) (fun _ _ _ h=>h) (Or.inl ⟨by rfl,?_⟩) (by assumption) ?_
      rotate_left
      · intro w hSw
        (try dsimp only at hSw)
        go_simp
        try with_reducible rfl
      try simp only[List.getElem_toArray,List.getElem_cons_succ,List.getElem_cons_zero,Act.put,List.setIfInBounds_toArray,List.set_cons_zero,List.set_cons_succ]
      refine wpAnyH_take (i:=1) (v:=?_) rfl (by kernel_rfl) (by kernel_rfl) (by kernel_rfl) (fun _ _ _ h=>h) (Or.inl ⟨by rfl,?_⟩) (by assumption) ?_
      rotate_left
      · intro w hSw
        (try dsimp only at hSw)
        go_simp
        try with_reducible rfl
      try simp only[List.getElem_toArray,List.getElem_cons_succ,List.getElem_cons_zero,Act.put,List.setIfInBounds_toArray,List.set_cons_zero,List.set_cons_succ]
      refine wpAnyH_take (i:=2) (v:=?_) rfl (by kernel_rfl) (by kernel_rfl) (by kernel_rfl) (fun _ _ _ h=>h) (Or.inl ⟨by rfl,?_⟩) (by assumption) ?_
      rotate_left
      · intro w hSw
        (try dsimp only at hSw)
        go_simp
        try with_reducible rfl
      try simp only[List.getElem_toArray,List.getElem_cons_succ,List.getElem_cons_zero,Act.put,List.setIfInBounds_toArray,List.set_cons_zero,List.set_cons_succ]
      refine wpAnyH_take (i:=3) (v:=?_) rfl (by kernel_rfl) (by kernel_rfl) (by kernel_rfl) (fun _ _ _ h=>h) (Or.inl ⟨by rfl,?_⟩) (by assumption) ?_
      rotate_left
      · intro w hSw
        (try dsimp only at hSw)
        go_simp
        try with_reducible rfl
      try simp only[List.getElem_toArray,List.getElem_cons_succ,List.getElem_cons_zero,Act.put,List.setIfInBounds_toArray,List.set_cons_zero,List.set_cons_succ]
      refine wpAnyH_take (i:=4) (v:=?_) rfl (by kernel_rfl) (by kernel_rfl) (by kernel_rfl) (fun _ _ _ h=>h) (Or.inl ⟨by rfl,?_⟩) (by assumption) ?_
      rotate_left
      · intro w hSw
        (try dsimp only at hSw)
        go_simp
        try with_reducible rfl
      try simp only[List.getElem_toArray,List.getElem_cons_succ,List.getElem_cons_zero,Act.put,List.setIfInBounds_toArray,List.set_cons_zero,List.set_cons_succ]
      refine wpAnyH_take (i:=5) (v:=?_) rfl (by kernel_rfl) (by kernel_rfl) (by kernel_rfl) (fun _ _ _ h=>h) (Or.inl ⟨by rfl,?_⟩) (by assumption) ?_
      rotate_left
      · intro w hSw
        (try dsimp only at hSw)
        go_simp
        try with_reducible rfl
      try simp only[List.getElem_toArray,List.getElem_cons_succ,List.getElem_cons_zero,Act.put,List.setIfInBounds_toArray,List.set_cons_zero,List.set_cons_succ]
      refine wpAnyH_take (i:=6) (v:=?_) rfl (by kernel_rfl) (by kernel_rfl) (by kernel_rfl) (fun _ _ _ h=>h) (Or.inl ⟨by rfl,?_⟩) (by assumption) ?_
      rotate_left
      · intro w hSw
        (try dsimp only at hSw)
        go_simp
        try with_reducible rfl
      try simp only[List.getElem_toArray,List.getElem_cons_succ,List.getElem_cons_zero,Act.put,List.setIfInBounds_toArray,List.set_cons_zero,List.set_cons_succ]
      refine wpAnyH_take (i:=7) (v:=?_) rfl (by kernel_rfl) (by kernel_rfl) (by kernel_rfl) (fun _ _ _ h=>h) (Or.inl ⟨by rfl,?_⟩) (by assumption) ?_
      rotate_left
      · intro w hSw
        (try dsimp only at hSw)
        go_simp
        try with_reducible rfl
      try simp only[List.getElem_toArray,List.getElem_cons_succ,List.getElem_cons_zero,Act.put,List.setIfInBounds_toArray,List.set_cons_zero,List.set_cons_succ]
      refine wpAnyH_take (i:=8) (v:=?_) rfl (by kernel_rfl) (by kernel_rfl) (by kernel_rfl) (fun _ _ _ h=>h) (Or.inl ⟨by rfl,?_⟩) (by assumption) ?_
      rotate_left
      · intro w hSw
        (try dsimp only at hSw)
        go_simp
        try with_reducible rfl
      try simp only[List.getElem_toArray,List.getElem_cons_succ,List.getElem_cons_zero,Act.put,List.setIfInBounds_toArray,List.set_cons_zero,List.set_cons_succ]
      refine wpAnyH_take (i:=9) (v:=?_) rfl (by kernel_rfl) (by kernel_rfl) (by kernel_rfl) (fun _ _ _ h=>h) (Or.inl ⟨by rfl,?_⟩) (by assumption) ?_
      rotate_left
      · intro w hSw
        (try dsimp only at hSw)
        go_simp
        try with_reducible rfl
      try simp only[List.getElem_toArray,List.getElem_cons_succ,List.getElem_cons_zero,Act.put,List.setIfInBounds_toArray,List.set_cons_zero,List.set_cons_succ]
      refine wpAnyH_take (i:=10) (v:=?_) rfl (by kernel_rfl) (by kernel_rfl) (by kernel_rfl) (fun _ _ _ h=>h) (Or.inl ⟨by rfl,?_⟩) (by assumption) ?_
      rotate_left
      · intro w hSw
        (try dsimp only at hSw)
        go_simp
        try with_reducible rfl
      try simp only[List.getElem_toArray,List.getElem_cons_succ,List.getElem_cons_zero,Act.put,List.setIfInBounds_toArray,List.set_cons_zero,List.set_cons_succ]
      refine wpAnyH_take (i:=11) (v:=?_) rfl (by kernel_rfl) (by kernel_rfl) (by kernel_rfl) (fun _ _ _ h=>h) (Or.inl ⟨by rfl,?_⟩) (by assumption) ?_
      rotate_left
      · intro w hSw
        (try dsimp only at hSw)
        go_simp
        try with_reducible rfl
      try simp only[List.getElem_toArray,List.getElem_cons_succ,List.getElem_cons_zero,Act.put,List.setIfInBounds_toArray,List.set_cons_zero,List.set_cons_succ]
      refine wpAnyH_take (i:=12) (v:=?_) rfl (by kernel_rfl) (by kernel_rfl) (by kernel_rfl) (fun _ _ _ h=>h) (Or.inl ⟨by rfl,?_⟩) (by assumption) ?_
      rotate_left
      · intro w hSw
        (try dsimp only at hSw)
        go_simp
        try with_reducible rfl
      try simp only[List.getElem_toArray,List.getElem_cons_succ,List.getElem_cons_zero,Act.put,List.setIfInBounds_toArray,List.set_cons_zero,List.set_cons_succ]
      refine wpAnyH_take (i:=13) (v:=?_) rfl (by kernel_rfl) (by kernel_rfl) (by kernel_rfl) (fun _ _ _ h=>h) (Or.inl ⟨by rfl,?_⟩) (by assumption) ?_
      rotate_left
      · intro w hSw
        (try dsimp only at hSw)
        go_simp
        try with_reducible rfl
      try simp only[List.getElem_toArray,List.getElem_cons_succ,List.getElem_cons_zero,Act.put,List.setIfInBounds_toArray,List.set_cons_zero,List.set_cons_succ]
      refine wpAnyH_take (i:=14) (v:=?_) rfl (by kernel_rfl) (by kernel_rfl) (by kernel_rfl) (fun _ _ _ h=>h) (Or.inl ⟨by rfl,?_⟩) (by assumption) ?_
      rotate_left
      · intro w hSw
        (try dsimp only at hSw)
        go_simp
        try with_reducible rfl
      try simp only[List.getElem_toArray,List.getElem_cons_succ,List.getElem_cons_zero,Act.put,List.setIfInBounds_toArray,List.set_cons_zero,List.set_cons_succ]
      refine wpAnyH_ready (rs:= [15]) (by kernel_rfl) (by simp) ?_;refine AllReadyH.cons rfl (fun K hK=>?_) AllReadyH.nil
      go_simp
      go_at_call 79
      rw[show ((a:Int)+(dw:Int)+(k:Int))=((a+dw+k:Nat):Int) by omega]
      with_reducible refine (HCALL.out wr.drew (Below.refl _ _).drew).mono ?_
      rintro e w2 ⟨rfl,hk2,hor⟩;have HKA:=hid (ZP.out.trans ((KP.of_below (Below.refl _ wr).drew).trans hk2 (fun _ _ h=>h)) HPW.out:KP P w w2);have HQ2:=hid (hk2.rowS (w:=wr.drew) ZQ0.out (HNP7.out _ (.inl (by omega))));have HS2:Hid (w.heap.size+1≤w2.heap.size):=hid (by have h1:=hk2.size; have h2:=z00 ZQ0.out; have h3:wr.drew.heap.size=wr.heap.size:=rfl; omega);have v1:=kpS hk2 (w:=wr.drew) n1 (HNP7.out w.heap.size (.inl (by omega)));have v2:=kpS hk2 (w:=wr.drew) n2 (HNP7.out w.heap.size (.inl (by omega)));have x0:=kpS hk2 (w:=wr.drew) d0 (HNP7.out _ (.inr HCB.out));have x1:=kpS hk2 (w:=wr.drew) d1 (HNP7.out _ (.inr HCB.out));have x2:=kpS hk2 (w:=wr.drew) d2 (HNP7.out _ (.inr HCB.out));have x3:=kpS hk2 (w:=wr.drew) d3 (HNP7.out _ (.inr HCB.out));have x4:=kpS hk2 (w:=wr.drew) d4 (HNP7.out _ (.inr HCB.out));have x5:=kpS hk2 (w:=wr.drew) d5 (HNP7.out _ (.inr HCB.out))
      have HWK:Hid (∀x,((P x∨w.heap.size+1≤x)∧base≤x∧x<wr.heap.size)∨wr.drew.heap.size≤x→P x∨w.heap.size+1≤x):=hid (fun x hx=>by
       rcases hx with hx | hx
       · exact hx.1
       · have h2:=z00 ZQ0.out; have h3:wr.drew.heap.size=wr.heap.size:=rfl; exact .inr (by omega))
      have HZN:Hid (KP P w w2∧w.heap.size+1≤w2.heap.size∧w2.heap[w.heap.size]? =some (.cells #[.int .i64 n.kind,.string n.data,.slice (some xx) n.ptrs.length qa,.int .i64 n.size,.int .i64 n.count,.slice qB n.items.length qb] nodeT (0,0)) ∧
       ((bodyP (wrP LS size d) n ss i a=none∧∃s1,Sb w2 base b size s1 true (fun k=>P k∨w.heap.size+1≤k))∨∃s1,ptrsP (wrP LS size d) (n.ptrs.take (k+1)) (putS ss i a n.data.data.toList) i (a+dw)=some s1∧SOk LS s1∧Grew (putS ss i a n.data.data.toList) s1∧totS s1≤totS ss+2*((n.ptrs.take (k+1)).map (z03 d)).sum∧Sb w2 base b size s1 false (fun k=>P k∨w.heap.size+1≤k))):=hid ⟨HKA.out,HS2.out,HQ2.out,by
       rcases hor with ⟨hnone,s2,hs2⟩ | ⟨s2,hsome,hs2⟩
       · exact .inl ⟨by rw[HE.out]; exact HCUT.out (by rw[HSTEP.out,ZR.out,Option.bind_some]; exact hnone),s2,hs2.weak HWK.out⟩
       · obtain ⟨k7a,k7b⟩:=HWO.out p s1 i (a+dw+k) s2 HOK.out ZK.out hii1 haa1 hsome
         have hto2:=HTO.out p s1 i (a+dw+k) s2 HOK.out ZK.out hii1 haa1 hsome;have hz1:=ZT.out
         exact .inr ⟨s2,by rw[HSTEP.out,ZR.out,Option.bind_some]; exact hsome,k7a,ZG.out.trans k7b,by rw[HSN.out]; omega,hs2.weak HWK.out⟩⟩
      refine hK.out _ _ ?_ (fun hH2=>?_)
      · exact ⟨⟨v1,v2⟩,x0,x1,x2,x3,x4,x5⟩
      clear hK K hH0 hk2 hor v1 v2 x0 x1 x2 x3 x4 x5 d0 d1 d2 d3 d4 d5 n0 n1 n2 n3 n4 n5 c0 c1 c2;refine wpAnyH_done (by kernel_rfl) ?_ _;clear hH2
      go_wp2_with fail
      go_roundw
      case rel=>exact ⟨k+1,by go_num,by omega,HZN⟩
      case measure=>simp[intOf]; omega
    · obtain rfl:k=n.ptrs.length:=by omega
      rw[List.take_of_length_le (Nat.le_refl _)] at ZR;have HE9:Hid (bodyP (wrP LS size d) n ss i a=some s1):=hid (by rw[HE.out]; exact ZR.out);have HBF:=hid (ZB.out.weak (Q:=fun k=>P k∨w.heap.size≤k) (fun x hx=>hx.imp id (fun h=>by omega)));go_wp2
      go_end0
      exact ⟨rfl,ZP.out,.inr ⟨s1,HE9.out,HBF.out⟩⟩
end Go.Proofs.YtlbfffokkhccaaaGreatDoor
