/- Texts of the proof of the law FnCanonSent, side by side: part 17. -/
import Derived.Test.YtlbfffokkhccaaaGreatDoorMCanonSent16
set_option maxHeartbeats 8000000
set_option maxRecDepth 100000
open Go.Lib (hid)
namespace Go.Proofs.YtlbfffokkhccaaaGreatDoor
open Go.RowKit
theorem znv {n p:Nd}(h:p∈n.ptrs):p∈ptrsL n:=List.mem_append_left _ h
theorem zko {n y p:Nd}(h:y∈n.items)(hp:p∈y.ptrs):p∈ptrsL n:=List.mem_append_right _ (List.mem_flatMap.2 ⟨y,h,hp⟩)
theorem zow (l:List Nd)(f:Nd→Nat):((l.flatMap Nd.ptrs).map f).sum=(l.map fun y=>(y.ptrs.map f).sum).sum:=by
 induction l with
 | nil=>rfl
 | cons a t ih=>rw[List.flatMap_cons,List.map_append,List.sum_append,ih]; rfl
theorem zos (n:Nd)(f:Nd→Nat):((ptrsL n).map f).sum=(n.ptrs.map f).sum+(n.items.map fun y=>(y.ptrs.map f).sum).sum:=by
 unfold ptrsL;rw[List.map_append,List.sum_append,zow]
theorem zk0 {w:World}{S:Nat→Prop}{m:Nat}{n:Nd}{h:Hd}(hn:NdAt w S m n h):totL m (ptrsL n)+n.data.size+(n.items.map fun y=>y.data.size).sum≤totN m n:=by
 cases m with
 | zero =>
  rw[hn.2.2.zero];unfold totN
  simp only[List.map_nil,List.sum_nil]
  show 0+_+0≤_
  omega
 | succ m =>
  have h1:totL (m+1) (ptrsL n)=totL (m+1) n.ptrs+(n.items.map fun y=>totL (m+1) y.ptrs).sum:=by
   unfold ptrsL;rw[z0q,List.map_append,List.sum_append,← z0q,← z0q,zia]
  have h2:(n.items.map fun y=>totL (m+1) y.ptrs+y.data.size).sum≤totL (m+1) n.items:=by
   rw[z0q]
   refine z62 _ _ _ fun y hy=>?_
   obtain ⟨hd,h3⟩:=hn.2.2.mem y hy;rw[z7o m _ _ h3.2.1];unfold totN;omega
  have h4:∀l:List Nd,(l.map fun y=>totL (m+1) y.ptrs+y.data.size).sum=(l.map fun y=>totL (m+1) y.ptrs).sum+(l.map fun y=>y.data.size).sum:=by
   intro l
   induction l with
   | nil=>rfl
   | cons a t ih=>simp only[List.map_cons,List.sum_cons,ih]; omega
  rw[h4] at h2;rw[h1];unfold totN;omega
theorem zqt (n:Nd):ownN n≤n.data.size+(n.items.map fun y=>y.data.size).sum+(ptrsL n).length+1:=by
 have h1:ownB n≤n.data.size+n.ptrs.length:=by unfold ownB; omega
 have h2:∀l:List Nd,(l.map ownB).sum≤(l.map fun y=>y.data.size).sum+(l.flatMap Nd.ptrs).length:=by
  intro l
  induction l with
  | nil=>simp
  | cons a t ih =>
   have:ownB a≤a.data.size+a.ptrs.length:=by unfold ownB; omega
   simp only[List.map_cons,List.sum_cons,List.flatMap_cons,List.length_append]
   omega
 have h3:=h2 n.items;unfold ownN ptrsL;rw[List.length_append]
 split <;> omega
theorem zf9 {w:World}{S:Nat→Prop} :∀(d m:Nat) (n:Nd) (h:Hd),NdAt w S m n h→okN d n=true→z03 d n≤2*totN m n+1:=by
 intro d
 induction d with
 | zero=>intro m n h hn hok; exact Nat.zero_le _
 | succ d ih =>
  intro m n h hn hok
  obtain ⟨hf,hk⟩:=z1h hok;have h1:=zqt n;have h2:=zk0 hn
  have h3:((ptrsL n).map (z03 d)).sum+(ptrsL n).length≤2*totL m (ptrsL n):=by
   cases m with
   | zero =>
    have:ptrsL n= []:=by unfold ptrsL; rw[hn.2.1.zero,hn.2.2.zero]; rfl
    rw[this]; simp
   | succ m =>
    have hmem:∀p∈ptrsL n,∃hp:Hd,NdAt w S m p hp:=by
     intro p hp
     unfold ptrsL at hp
     rcases List.mem_append.1 hp with hp | hp
     · exact hn.2.1.mem p hp
     · obtain ⟨y,hy,hpy⟩:=List.mem_flatMap.1 hp
       obtain ⟨hd,hyn⟩:=hn.2.2.mem y hy
       obtain ⟨j,rfl⟩:∃j,m=j+1:=by
        cases m with
        | zero=>rw[hyn.2.1.zero] at hpy; cases hpy
        | succ j=>exact ⟨j,rfl⟩
       obtain ⟨hd2,h4⟩:=hyn.2.1.mem p hpy;exact ⟨hd2,h4.mono (by omega)⟩
    have h5:((ptrsL n).map fun p=>z03 d p+1).sum≤((ptrsL n).map fun p=>2*(1+totN m p)).sum:=z62 _ _ _ fun p hp=>by
     obtain ⟨hd2,h6⟩:=hmem p hp;have:=ih m p hd2 h6 (hk p hp);omega
    have h7:∀l:List Nd,(l.map fun p=>z03 d p+1).sum=(l.map (z03 d)).sum+l.length:=by
     intro l
     induction l with
     | nil=>rfl
     | cons a t ih=>simp only[List.map_cons,List.sum_cons,List.length_cons,ih]; omega
    have h8:∀l:List Nd,(l.map fun p=>2*(1+totN m p)).sum=2*(l.map fun p=>1+totN m p).sum:=by
     intro l
     induction l with
     | nil=>rfl
     | cons a t ih=>simp only[List.map_cons,List.sum_cons,ih]; omega
    rw[h7,h8,← z0q] at h5;exact h5
  show ownN n+_≤_
  omega
def L4W (d:Nat):Prop:=∀(m:Nat) (n:Nd) (h:Hd) (w:World) (S:Nat→Prop),NdAt w S m n h→totN m n≤2000000→okN d n=true →
 Calls Tryz.prog 78 #[.agg #[.int .i64 n.kind,.string n.data,.slice h.A n.ptrs.length h.a,.int .i64 n.size,.int .i64 n.count,.slice h.B n.items.length h.b]] w fun e w'=>e= .returned (.int .i64 (z03 d n:Nat))∧Below w.heap.size w w'
theorem z7u (d:Nat)(ih:∀j,d=j+1→L4W j):L4W d:=by
 intro m n h w S hn ht hok
 have hbd:=zf9 d m n h hn hok;obtain ⟨qA,qa,qB,qb⟩:=h
 dsimp only at hn ⊢
 have hpl:n.ptrs.length≤2000000:=z12 hn.2.1 (by unfold totN at ht; omega);have hil:n.items.length≤2000000:=z12 hn.2.2 (by unfold totN at ht; omega);have hf:=(z1h hok).1;have hob:=z9g hn ht;have HN:=hid hn;have HT:=hid ht;have hba:=(Below.refl w.heap.size w).alloc (Nat.le_refl _) (.cells #[.int .i64 n.kind,.string n.data,.slice qA n.ptrs.length qa,.int .i64 n.size,.int .i64 n.count,.slice qB n.items.length qb] nodeT);have hr:=heap_alloc_new w (.cells #[.int .i64 n.kind,.string n.data,.slice qA n.ptrs.length qa,.int .i64 n.size,.int .i64 n.count,.slice qB n.items.length qb] nodeT)
 have hsz:w.heap.size<(w.alloc (.cells #[.int .i64 n.kind,.string n.data,.slice qA n.ptrs.length qa,.int .i64 n.size,.int .i64 n.count,.slice qB n.items.length qb] nodeT)).heap.size:=by simp
 have HOW:=hid (z99 m n ⟨qA,qa,qB,qb⟩ _ S (hn.below hba) hf ht)
 dsimp only at HOW
 have HBA:=hid hba;have HR:=hid hr;have HTOT:Hid (z03 d n=ownN n+(n.ptrs.map (z03 (d-1))).sum+(n.items.map fun y=>(y.ptrs.map (z03 (d-1))).sum).sum):=hid (by rw[z1c hok,zos]; omega)
 have HKID:Hid (∀p∈ptrsL n,∀(m':Nat) (hp:Hd) (W:World),NdAt W S m' p hp→totN m' p≤2000000→Calls Tryz.prog 78 #[.agg #[.int .i64 p.kind,.string p.data,.slice hp.A p.ptrs.length hp.a,.int .i64 p.size,.int .i64 p.count,.slice hp.B p.items.length hp.b]] W fun e w'=>e= .returned (.int .i64 (z03 (d-1) p:Nat))∧Below W.heap.size W w'):=hid fun p hp m' h' W h1 h2=>by
  cases d with
  | zero =>
   have h3:=z1c hok;have h4:=zc4 n
   have h5:(ptrsL n).length≠0:=by intro h; rw[z06 h] at hp; cases hp
   simp only[z03] at h3
   omega
  | succ j=>exact ih j rfl m' p h' W S h1 h2 ((z1h hok).2 p hp)
 have htb:z03 d n≤4000001:=by omega
 clear hn ht hok hf ih hbd hba hr;generalize z03 d n=tt at *;generalize ownN n=s0 at *;have HS0:Hid ((s0:Int)=((s0:Nat):Int)):=hid rfl;go_enter Tryz.func78,Tryz.ntmps78
 go_wp2_with fail
 refine HOW.out.mono ?_;rintro e w1 ⟨rfl,hb1⟩;have hr1:=(hb1.block w.heap.size hsz).trans HR.out;have HR1:=hid hr1;have HB1:=hid (HBA.out.trans (hb1.mono HBA.out.size));obtain ⟨a0,a1,a2,a3,a4,a5⟩:=z01 hr1;clear hr1 hb1;go_wp2
 go_loopw [3,4] (fun u i wr=>∃(k:Nat) (z:Int),u= .int .i64 z∧i= .int .i64 k∧k≤n.ptrs.length∧0≤z∧z≤4000001∧Hid (z=((s0+((n.ptrs.take k).map (z03 (d-1))).sum:Nat):Int))∧Hid (Below w.heap.size w wr∧wr.heap[w.heap.size]? =some (.cells #[.int .i64 n.kind,.string n.data,.slice qA n.ptrs.length qa,.int .i64 n.size,.int .i64 n.count,.slice qB n.items.length qb] nodeT (0,0)))) (fun _ i _=>n.ptrs.length-(intOf i).toNat)
 case atStart=>exact ⟨0,_,rfl,rfl,by omega,by have:=HS0.out; omega,by have:=HS0.out; omega,hid (by rw[List.take_zero,List.map_nil,List.sum_nil]; have:=HS0.out; omega),hid ⟨HB1.out,HR1.out⟩⟩
 case round =>
  obtain ⟨k,z,rfl,rfl,hk,hz0,hz1,HZ,HB⟩:=hrel;obtain ⟨hbr,hrr⟩:=HB.out;clear a0 a1 a2 a3 a4 a5;obtain ⟨a0,a1,a2,a3,a4,a5⟩:=z01 hrr
  by_cases hlt:k<n.ptrs.length
  · obtain ⟨m',rfl⟩:=HN.out.2.1.pred hlt
    obtain ⟨x,yA,ya,yB,yb,rfl,hc0,hdy,hny,hniy⟩:=HN.out.2.1.at6 hlt;have hc:=z0u hbr _ _ _ hc0;have HST:=hid (z0w n.ptrs (z03 (d-1)) k hlt);have HSL:=hid (z18 n.ptrs (z03 (d-1)) (k+1))
    have htp:totN m' n.ptrs[k]≤2000000:=by have:=z1y (m:=m') hlt; have:=HT.out; unfold totN at this; omega
    have HC:=hid (HKID.out _ (znv (List.getElem_mem hlt)) m' ⟨yA,ya,yB,yb⟩ wr (NdAt.below ⟨hdy,hny,hniy⟩ hbr) htp)
    dsimp only at HC
    generalize n.ptrs[k]=y at hc HST HC
    have hzv:z+((z03 (d-1)) y:Nat)≤4000001:=by have:=HZ.out; have:=HST.out; have:=HSL.out; have:=HTOT.out; omega
    obtain ⟨c0,c1,c2,c3,c4,c5⟩:=hc
    dsimp only at c2 c5
    have HBR:=hid hbr;have HRR:=hid hrr;clear hbr hrr hc0 hdy hny hniy htp HB;generalize (z03 (d-1)) y=v at *
    go_wp2_with fail
    refine HC.out.mono ?_;rintro e w3 ⟨rfl,hb3⟩;have HB3:=hid (And.intro (HBR.out.trans (hb3.mono HBR.out.size)) ((hb3.block w.heap.size (z00 HRR.out)).trans HRR.out));clear hb3;go_wp2
    go_roundw
    case rel=>exact ⟨k+1,_,rfl,by go_num,by omega,by omega,hzv,hid (by rw[HZ.out,HST.out]; omega),HB3⟩
    case measure=>simp[intOf]; omega
  · obtain rfl:k=n.ptrs.length:=by omega
    rw[List.take_of_length_le (Nat.le_refl _)] at HZ;have HBR:=hid hbr;have HRR:=hid hrr;have HZP:=HZ;have hzp0:=hz0;have hzp1:=hz1;clear hbr hrr HB HZ;go_wp2
    go_loopw [3,5] (fun u i wr=>∃(k:Nat) (z:Int),u= .int .i64 z∧i= .int .i64 k∧k≤n.items.length∧0≤z∧z≤4000001∧Hid (z=((s0+(n.ptrs.map (z03 (d-1))).sum+((n.items.take k).map fun y=>(y.ptrs.map (z03 (d-1))).sum).sum:Nat):Int))∧Hid (Below w.heap.size w wr∧wr.heap[w.heap.size]? =some (.cells #[.int .i64 n.kind,.string n.data,.slice qA n.ptrs.length qa,.int .i64 n.size,.int .i64 n.count,.slice qB n.items.length qb] nodeT (0,0)))) (fun _ i _=>n.items.length-(intOf i).toNat)
    case atStart=>exact ⟨0,_,rfl,rfl,by omega,hzp0,hzp1,hid (by rw[HZP.out]; simp),hid ⟨HBR.out,HRR.out⟩⟩
    case round =>
     clear hz0 hz1 hzp0 hzp1;obtain ⟨k,z,rfl,rfl,hk,hz0,hz1,HZ,HB⟩:=hrel;obtain ⟨hbr,hrr⟩:=HB.out;clear a0 a1 a2 a3 a4 a5;obtain ⟨a0,a1,a2,a3,a4,a5⟩:=z01 hrr
     by_cases hlt:k<n.items.length
     · obtain ⟨m',rfl⟩:=HN.out.2.2.pred hlt
       obtain ⟨x,yA,ya,yB,yb,rfl,hc0,hdy,hny,hniy⟩:=HN.out.2.2.at6 hlt;have HSTI:=hid (z0w n.items (fun y=>(y.ptrs.map (z03 (d-1))).sum) k hlt);have HSLI:=hid (z18 n.items (fun y=>(y.ptrs.map (z03 (d-1))).sum) (k+1));have HTP:Hid (totL m' (n.items[k]).ptrs≤2000000):=hid (by have:=z1y (m:=m') hlt; have:=HT.out; unfold totN at *; omega);have hypl:(n.items[k]).ptrs.length≤2000000:=z12 hny HTP.out;have HMY:=hid (fun p hp=>HKID.out p (zko (List.getElem_mem hlt) hp));generalize n.items[k]=y at hc0 HSTI hny HTP hypl HMY;have HC0:=hid hc0;have HNY:=hid hny;have HBR:=hid hbr;have HRR:=hid hrr;have hzi0:=hz0;have hzi1:=hz1;clear hbr hrr hc0 hdy hny hniy HB;go_wp2;clear a0 a1 a2 a3 a4 a5
       go_loopw [3,6] (fun u i wr=>∃(q:Nat) (z:Int),u= .int .i64 z∧i= .int .i64 q∧q≤y.ptrs.length∧0≤z∧z≤4000001∧Hid (z=((s0+(n.ptrs.map (z03 (d-1))).sum+((n.items.take k).map fun y=>(y.ptrs.map (z03 (d-1))).sum).sum+((y.ptrs.take q).map (z03 (d-1))).sum:Nat):Int))∧Hid (Below w.heap.size w wr∧wr.heap[w.heap.size]? =some (.cells #[.int .i64 n.kind,.string n.data,.slice qA n.ptrs.length qa,.int .i64 n.size,.int .i64 n.count,.slice (some x) n.items.length qb] nodeT (0,0)))) (fun _ i _=>y.ptrs.length-(intOf i).toNat)
       case atStart=>exact ⟨0,_,rfl,rfl,by omega,hzi0,hzi1,hid (by rw[HZ.out]; simp),hid ⟨HBR.out,HRR.out⟩⟩
       case round =>
        clear hz0 hz1 hzi0 hzi1;obtain ⟨q,z,rfl,rfl,hq,hz0,hz1,HZQ,HB⟩:=hrel;obtain ⟨hbr,hrr⟩:=HB.out;obtain ⟨a0,a1,a2,a3,a4,a5⟩:=z01 hrr;have hc:=z0u hbr _ _ _ HC0.out;obtain ⟨-, -,d2, -, -, -⟩:=hc
        dsimp only at d2
        by_cases hqt:q<y.ptrs.length
        · obtain ⟨m'',rfl⟩:=HNY.out.pred hqt
          obtain ⟨x2,zA,za,zB,zb,rfl,hc2,hdz,hnz,hniz⟩:=HNY.out.at6 hqt;have hcz:=z0u hbr _ _ _ hc2;have HST:=hid (z0w y.ptrs (z03 (d-1)) q hqt);have HSL:=hid (z18 y.ptrs (z03 (d-1)) (q+1))
          have htp:totN m'' y.ptrs[q]≤2000000:=by have:=z1y (m:=m'') hqt; have:=HTP.out; omega
          have HC:=hid (HMY.out _ (List.getElem_mem hqt) m'' ⟨zA,za,zB,zb⟩ wr (NdAt.below ⟨hdz,hnz,hniz⟩ hbr) htp)
          dsimp only at HC
          generalize y.ptrs[q]=t at hcz HST HC
          have hzv:z+((z03 (d-1)) t:Nat)≤4000001:=by have:=HZQ.out; have:=HST.out; have:=HSL.out; have:=HTOT.out; have:=HSTI.out; have:=HSLI.out; omega
          obtain ⟨c0,c1,c2,c3,c4,c5⟩:=hcz
          dsimp only at c2 c5
          have HBR:=hid hbr;have HRR:=hid hrr;clear hbr hrr hc2 hdz hnz hniz htp HB;generalize (z03 (d-1)) t=v at *
          go_wp2_with fail
          refine HC.out.mono ?_;rintro e w3 ⟨rfl,hb3⟩;have HB3:=hid (And.intro (HBR.out.trans (hb3.mono HBR.out.size)) ((hb3.block w.heap.size (z00 HRR.out)).trans HRR.out));clear hb3;go_wp2
          go_roundw
          case rel=>exact ⟨q+1,_,rfl,by go_num,by omega,by omega,hzv,hid (by rw[HZQ.out,HST.out]; omega),HB3⟩
          case measure=>simp[intOf]; omega
        · obtain rfl:q=y.ptrs.length:=by omega
          rw[List.take_of_length_le (Nat.le_refl _)] at HZQ;have HZ2:Hid (z=((s0+(n.ptrs.map (z03 (d-1))).sum+((n.items.take (k+1)).map fun y=>(y.ptrs.map (z03 (d-1))).sum).sum:Nat):Int)):=hid (by rw[HZQ.out,HSTI.out]; omega);have HBB:=hid (And.intro hbr hrr);clear hbr hrr HB;go_wp2
          go_roundw
          case rel=>exact ⟨k+1,_,rfl,by go_num,by omega,hz0,hz1,HZ2,HBB⟩
          case measure=>simp[intOf]; omega
     · obtain rfl:k=n.items.length:=by omega
       rw[List.take_of_length_le (Nat.le_refl _)] at HZ;have HBR:=hid hbr;clear hbr hrr HB;go_wp2;go_ret;exact ⟨by rw[HTOT.out,HZ.out]; rfl,HBR.out⟩
theorem zab:∀d,L4W d
 | 0=>z7u 0 (fun j hj=>by omega)
 | d+1=>z7u (d+1) (fun j hj=>by
   obtain rfl:d=j:=by omega
   exact zab d)
theorem zdn (m:Nat)(n:Nd)(h:Hd)(w:World)(S:Nat→Prop)(hn:NdAt w S m n h)(ht:totN m n≤2000000) :
 Calls Tryz.prog 38 #[.agg #[.int .i64 n.kind,.string n.data,.slice h.A n.ptrs.length h.a,.int .i64 n.size,.int .i64 n.count,.slice h.B n.items.length h.b]] w fun e w'=>e= .returned (.bool (z0g n))∧Below w.heap.size w w':=by
 have hb0:=(Below.refl w.heap.size w).alloc (Nat.le_refl _) (.cells #[.int .i64 n.kind,.string n.data,.slice h.A n.ptrs.length h.a,.int .i64 n.size,.int .i64 n.count,.slice h.B n.items.length h.b] nodeT);have HB0:=hid hb0;have HBX:=hid (heap_alloc_new w (.cells #[.int .i64 n.kind,.string n.data,.slice h.A n.ptrs.length h.a,.int .i64 n.size,.int .i64 n.count,.slice h.B n.items.length h.b] nodeT));have HO:=hid (zhr 8 (by decide) m n h _ S (hn.below hb0) ht);rw[show (((8:Nat)):Int)=8 from rfl] at HO
 have HWO:Hid (okN 8 n=true→∀W:World,Below w.heap.size w W→Calls Tryz.prog 78 #[.agg #[.int .i64 n.kind,.string n.data,.slice h.A n.ptrs.length h.a,.int .i64 n.size,.int .i64 n.count,.slice h.B n.items.length h.b]] W fun e w'=>e= .returned (.int .i64 (z03 8 n:Nat))∧Below W.heap.size W w'):=hid fun hok W hb=>zab 8 m n h W S (hn.below hb) ht hok
 clear hn ht hb0;cases hok:okN 8 n
 · have HX:Hid (z0g n=false):=hid (by unfold z0g; rw[hok]; rfl)
   rw[hok] at HO;clear hok;go_enter Tryz.func38,Tryz.ntmps38
   go_wp2_with fail
   refine HO.out.mono ?_;rintro e w2 ⟨rfl,hb2⟩;have HB2:=hid (HB0.out.trans (hb2.mono HB0.out.size));clear hb2;go_wp2;go_ret;exact ⟨by rw[HX.out]; rfl,HB2.out⟩
 · have HX:Hid (z0g n=decide (((z03 8 n:Nat):Int)<200)):=hid (by unfold z0g; rw[hok,Bool.true_and,Bool.eq_iff_iff]; simp only[decide_eq_true_eq]; omega)
   have HC:=hid (HWO.out hok);rw[hok] at HO;clear HWO hok;generalize z03 8 n=wd at *;go_enter Tryz.func38,Tryz.ntmps38
   go_wp2_with fail
   refine HO.out.mono ?_;rintro e w2 ⟨rfl,hb2⟩;obtain ⟨a0,a1,a2,a3,a4,a5⟩:=z01 ((hb2.block w.heap.size (by simp)).trans HBX.out);have HB2:=hid (HB0.out.trans (hb2.mono HB0.out.size));clear hb2
   go_wp2_with fail
   refine (HC.out _ HB2.out).mono ?_;rintro e w3 ⟨rfl,hb3⟩;have HB3:=hid (HB2.out.trans (hb3.mono HB2.out.size));clear hb3;go_wp2;go_ret;exact ⟨by rw[HX.out]; rfl,HB3.out⟩
open Go.RowKit Go.Deep
def OthQ (base b size:Nat)(P:Nat→Prop)(w:World)(r:Option (Segs×Nat))(e:Ending)(w':World):Prop :=
 (r=none∧Too P w e w')∨∃s1 j,r=some (s1,j)∧e= .returned (.int .i64 (j:Int))∧KP P w w'∧Bun w' base b size s1 (fun k=>P k∨w.heap.size≤k)
theorem zl8 (base b size:Nat)(ss:Segs)(P:Nat→Prop)(w:World)(h:Bun w base b size ss P)(k:Nat)(h1:1≤ss.length)(h6:ss.length≤6)(hz:size≤100000)(hk:k≤100000)(ht:totS ss≤100000) :
 Calls Tryz.prog 120 #[.pointer (some ⟨b,0,none⟩),.int .i64 (k:Int)] w (OthQ base b size P w (z2e size ss k)):=by
 have HH:=hid h;obtain ⟨row,g,v,hB,hP⟩:=h;obtain ⟨A,cap,rfl⟩:=z4h hB.hr;obtain ⟨c0,c1,c2⟩:=z0k hB.hb
 have e1:(ss.length:Int)-1=((ss.length-1:Nat):Int):=by omega
 have HF:=hid (zd8 base b size ss P w HH.out (ss.length-1) k (by omega) hz hk ht);rw[← e1] at HF;have HE:Hid (z2e size ss k=if fitS size ss (ss.length-1) k=true then some (ss,ss.length-1) else if ss.length<6 then some (ss++ [[]],ss.length) else none):=hid (by unfold z2e fitS; simp);cases hf:fitS size ss (ss.length-1) k
 · rw[hf] at HF HE
   by_cases hl:ss.length<6
   · have HE2:Hid (z2e size ss k=some (ss++ [[]],ss.length)):=hid (by rw[HE.out,if_neg (by decide),if_pos hl])
     clear hB hP hf e1 HE;go_enter Tryz.func120,Tryz.ntmps120
     go_wp2_with fail
     refine HF.out.mono ?_;rintro e w1 ⟨rfl,hb1⟩;have HB1:=hid hb1;clear hb1
     go_wp2_with fail
     refine (zen base b size ss P w1 (HH.out.low HB1.out) hl).mono ?_;rintro e w2 ⟨rfl,hk2,hB2⟩;have HK2:=hid hk2;have HB2:=hid hB2;clear hk2 hB2;go_wp2;go_ret;exact .inr ⟨_,_,HE2.out,rfl,(KP.of_below HB1.out).trans HK2.out (fun _ _ h=>h),HB2.out.weak (fun k hk=>hk.imp id (fun h=>Nat.le_trans HB1.out.size h))⟩
   · have HE2:Hid (z2e size ss k=none):=hid (by rw[HE.out,if_neg (by decide),if_neg hl])
     have hl6:ss.length=6:=by omega
     have HL6:=hid hl6;clear hB hP hf e1 HE hl6;go_enter Tryz.func120,Tryz.ntmps120
     go_wp2_with fail
     refine HF.out.mono ?_;rintro e w1 ⟨rfl,hb1⟩;have HB1:=hid hb1;clear hb1
     go_wp2_with fail
     refine (zkx base b size ss P w1 (HH.out.low HB1.out) HL6.out).mono ?_;rintro e w2 ⟨rfl,hk2⟩;have HK2:=hid hk2;clear hk2;go_wp2;exact ⟨rfl,.inl ⟨HE2.out,rfl,(KP.of_below HB1.out).trans HK2.out (fun _ _ h=>h)⟩⟩
 · rw[hf] at HF HE
   have HE2:Hid (z2e size ss k=some (ss,ss.length-1)):=hid (by rw[HE.out,if_pos rfl]);have HE1:=hid e1;clear hB hP hf e1 HE;go_enter Tryz.func120,Tryz.ntmps120
   go_wp2_with fail
   refine HF.out.mono ?_;rintro e w1 ⟨rfl,hb1⟩;have HB1:=hid hb1;clear hb1;go_wp2;go_ret;exact .inr ⟨_,_,HE2.out,z2n HE1.out,KP.of_below HB1.out,(HH.out.low HB1.out).weak (fun _ h=> .inl h)⟩
def RoomQ (base b size:Nat)(P:Nat→Prop)(w:World)(r:Option (Segs×Nat×Nat))(e:Ending)(w':World):Prop :=
 (r=none∧Too P w e w')∨∃s1 j c,r=some (s1,j,c)∧e= .returned (.agg #[.int .i64 (j:Int),.int .i64 (c:Int)])∧KP P w w'∧Bun w' base b size s1 (fun k=>P k∨w.heap.size≤k)
theorem KP.row {P:Nat→Prop}{w w':World}(h:KP P w w'){k:Nat}{o:Obj}(hk:w.heap[k]? =some o)(hn:¬P k):w'.heap[k]? =some o:=(h.block k (z00 hk) hn).trans hk
theorem z2v {w w':World}{base m:Nat}{n:Nd}{h:Hd}(hn:NdAt w (fun k=>k<base) m n h)(hb:Below base w w'):NdAt w' (fun k=>k<base) m n h:=hn.map (fun _ h=>h) (fun _ _ _ hs hc=>hc.block (hb.block _ hs))
theorem z0n {P:Nat→Prop}{w w':World}{q:Addr}{u:Value}(h:KP P w w')(hq:w.cell? q=some u)(hn:¬P q.block):w'.cell? q=some u:=(World.cell?_of_block (h.block q.block (World.block_lt_of_cell? w q hq) hn)).trans hq
theorem zmd (base b size:Nat)(ss:Segs)(P:Nat→Prop)(w:World)(h:Bun w base b size ss P)(hP0:∀k,P k→base≤k∧k<w.heap.size)(hw8:WdS ss)(i a:Nat)(hi:i<ss.length)(ha:a<wn (sgS ss i))(ht:totS ss≤200)(hz:size≤200)
 (m:Nat) (n:Nd) (h1:Hd) (hn:NdAt w (fun k=>k<base) m n h1) (hf:formN n=true) (hm:totN m n≤2000000) (ho:ownN n≤300) (hk:n.kind≠0) (hfit:wn (sgS ss i)+ownN n≤size) :
 Calls Tryz.prog 72 #[.pointer (some ⟨b,0,none⟩),.agg #[.int .i64 n.kind,.string n.data,.slice h1.A n.ptrs.length h1.a,.int .i64 n.size,.int .i64 n.count,.slice h1.B n.items.length h1.b],.agg #[.int .i64 (i:Int),.int .i64 (a:Int)]] w (RoomQ base b size P w (roomP 200 size n ss i a)):=by
 obtain ⟨qA,qa,qB,qb⟩:=h1
 dsimp only at hn ⊢
 have hwi:=z09 ss i
 have hF:fitS size ss i (ownN n)=true:=by unfold fitS; exact decide_eq_true hfit
 have HE:Hid (roomP 200 size n ss i a=if totS ss+ownN n≤200 then some (putS (growB ss i (ownN n)) i a (ptrW n ((wn (sgS ss i):Int)-a-1)),i,wn (sgS ss i)) else none):=hid (by unfold roomP; rw[if_pos hfit]);have hb0:Below w.heap.size w (((w.alloc (.cells #[.int .i64 n.kind,.string n.data,.slice qA n.ptrs.length qa,.int .i64 n.size,.int .i64 n.count,.slice qB n.items.length qb] nodeT)).alloc (.cells #[.int .i64 (i:Int),.int .i64 (a:Int)] plT)).alloc (.cells #[.int .i64 0,.int .i64 0] plT)):=(((Below.refl _ w).alloc (Nat.le_refl _) _).alloc (by simp) _).alloc (by simp; omega) _;have r0:(((w.alloc (.cells #[.int .i64 n.kind,.string n.data,.slice qA n.ptrs.length qa,.int .i64 n.size,.int .i64 n.count,.slice qB n.items.length qb] nodeT)).alloc (.cells #[.int .i64 (i:Int),.int .i64 (a:Int)] plT)).alloc (.cells #[.int .i64 0,.int .i64 0] plT)).heap[w.heap.size]? =some (.cells #[.int .i64 n.kind,.string n.data,.slice qA n.ptrs.length qa,.int .i64 n.size,.int .i64 n.count,.slice qB n.items.length qb] nodeT (0,0)):=z05 (z05 (heap_alloc_new w _) _) _
 have r1:(((w.alloc (.cells #[.int .i64 n.kind,.string n.data,.slice qA n.ptrs.length qa,.int .i64 n.size,.int .i64 n.count,.slice qB n.items.length qb] nodeT)).alloc (.cells #[.int .i64 (i:Int),.int .i64 (a:Int)] plT)).alloc (.cells #[.int .i64 0,.int .i64 0] plT)).heap[w.heap.size+1]? =some (.cells #[.int .i64 (i:Int),.int .i64 (a:Int)] plT (0,0)):=by
  have:=z05 (heap_alloc_new (w.alloc (.cells #[.int .i64 n.kind,.string n.data,.slice qA n.ptrs.length qa,.int .i64 n.size,.int .i64 n.count,.slice qB n.items.length qb] nodeT)) (.cells #[.int .i64 (i:Int),.int .i64 (a:Int)] plT)) (.cells #[.int .i64 0,.int .i64 0] plT)
  simpa using this
 have r2:(((w.alloc (.cells #[.int .i64 n.kind,.string n.data,.slice qA n.ptrs.length qa,.int .i64 n.size,.int .i64 n.count,.slice qB n.items.length qb] nodeT)).alloc (.cells #[.int .i64 (i:Int),.int .i64 (a:Int)] plT)).alloc (.cells #[.int .i64 0,.int .i64 0] plT)).heap[w.heap.size+2]? =some (.cells #[.int .i64 0,.int .i64 0] plT (0,0)):=by
  have:=heap_alloc_new ((w.alloc (.cells #[.int .i64 n.kind,.string n.data,.slice qA n.ptrs.length qa,.int .i64 n.size,.int .i64 n.count,.slice qB n.items.length qb] nodeT)).alloc (.cells #[.int .i64 (i:Int),.int .i64 (a:Int)] plT)) (.cells #[.int .i64 0,.int .i64 0] plT)
  simpa using this
 have hs0:(((w.alloc (.cells #[.int .i64 n.kind,.string n.data,.slice qA n.ptrs.length qa,.int .i64 n.size,.int .i64 n.count,.slice qB n.items.length qb] nodeT)).alloc (.cells #[.int .i64 (i:Int),.int .i64 (a:Int)] plT)).alloc (.cells #[.int .i64 0,.int .i64 0] plT)).heap.size=w.heap.size+3:=by simp
 have HN:=hid hn;have HH:=hid h;have HB0:=hid hb0;have R0:=hid r0;have R1:=hid r1;have R2:=hid r2;have HP0:=hid hP0;have HS0:=hid hs0;clear hn h hb0 r0 r1 r2 hP0 hs0 hfit;go_enter Tryz.func72,Tryz.ntmps72
 go_wp2_with fail
 generalize ((w.alloc (.cells #[.int .i64 n.kind,.string n.data,.slice qA n.ptrs.length qa,.int .i64 n.size,.int .i64 n.count,.slice qB n.items.length qb] nodeT)).alloc (.cells #[.int .i64 (i:Int),.int .i64 (a:Int)] plT)).alloc (.cells #[.int .i64 0,.int .i64 0] plT)=W0 at *;refine (z30 m n ⟨qA,qa,qB,qb⟩ W0 _ (HN.out.below HB0.out) hf hm).mono ?_;rintro e w1 ⟨rfl,hb1⟩;have HB1:=hid hb1;have HC0:=hid ((hb1.block _ (by have:=HS0.out; omega)).trans R0.out);have HC1:=hid ((hb1.block _ (by have:=HS0.out; omega)).trans R1.out);have HC2:=hid ((hb1.block _ (by have:=HS0.out; omega)).trans R2.out);obtain ⟨d0,d1⟩:=z04 HC1.out;clear hb1
 go_wp2_with fail
 refine (zd8 base b size ss P w1 (HH.out.low (HB0.out.trans (HB1.out.mono HB0.out.size))) i (ownN n) hi (by omega) (by omega) (by omega)).mono ?_;rw[hF];rintro e w2 ⟨rfl,hb2⟩;have HB2:=hid ((HB0.out.trans (HB1.out.mono HB0.out.size)).trans (hb2.mono (Nat.le_trans HB0.out.size HB1.out.size)))
 have hs2:w.heap.size+3≤w2.heap.size:=by have:=HS0.out; have:=HB1.out.size; have:=hb2.size; omega
 have HC0':=hid ((hb2.block _ (z00 HC0.out)).trans HC0.out);have HC1':=hid ((hb2.block _ (z00 HC1.out)).trans HC1.out);have HC2':=hid ((hb2.block _ (z00 HC2.out)).trans HC2.out);clear hb2 d0 d1 HC0 HC1 HC2 R0 R1 R2 hF;obtain ⟨d0,d1⟩:=z04 HC1'.out;have HB:=hid (HH.out.low HB2.out)
 by_cases ht2:totS ss+ownN n≤200
 · have HE2:Hid (roomP 200 size n ss i a=some (putS (growB ss i (ownN n)) i a (ptrW n ((wn (sgS ss i):Int)-a-1)),i,wn (sgS ss i))):=hid (by rw[HE.out,if_pos ht2])
   go_wp2_with fail
   refine (z9z base b size ss P w2 HB.out hw8 i (ownN n) hi ht2).mono ?_;rintro e w3 ⟨rfl,hk3,hB3⟩;have hs3:=hk3.size;have HK3:=hid hk3;have HT3:=hid hB3.tight;have HD0:=hid (hk3.row HC0'.out (fun hp=>by have:=HP0.out _ hp; omega));have HD1:=hid (hk3.row HC1'.out (fun hp=>by have:=HP0.out _ hp; omega));have HD2:=hid (hk3.row HC2'.out (fun hp=>by have:=HP0.out _ hp; omega));have hb4:Below w3.heap.size w3 (w3.alloc (.cells #[.int .i64 (i:Int),.int .i64 (wn (sgS ss i):Int)] plT)).drew:=((Below.refl _ _).alloc (Nat.le_refl _) _).drew;obtain ⟨n0,n1,n2,n3,n4,n5⟩:=z01 ((hb4.block _ (z00 HD0.out)).trans HD0.out);obtain ⟨t0,t1⟩:=z04 ((hb4.block _ (z00 HD1.out)).trans HD1.out);obtain ⟨u0,u1⟩:=z04 (heap_alloc_new w3 (.cells #[.int .i64 (i:Int),.int .i64 (wn (sgS ss i):Int)] plT))
   replace u0:(w3.alloc (.cells #[.int .i64 (i:Int),.int .i64 (wn (sgS ss i):Int)] plT)).drew.cell? ⟨w3.heap.size,0,none⟩=some (.int .i64 (i:Int)):=u0
   replace u1:(w3.alloc (.cells #[.int .i64 (i:Int),.int .i64 (wn (sgS ss i):Int)] plT)).drew.cell? ⟨w3.heap.size,1,none⟩=some (.int .i64 (wn (sgS ss i):Int)):=u1
   have HB4:=hid hb4
   have hbb:base≤w.heap.size:=by obtain ⟨_,_,_,hX,_⟩:=HH.out; have:=(hX.lt b (.inl rfl)); omega
   have HN4:Hid (NdAt (w3.alloc (.cells #[.int .i64 (i:Int),.int .i64 (wn (sgS ss i):Int)] plT)).drew (fun k=>k<base) m n ⟨qA,qa,qB,qb⟩):=hid (z2v HN.out (((HB2.out.mono hbb).trans (HK3.out.below (by omega) (fun k hp=>(HP0.out k hp).1))).trans (HB4.out.mono (by omega))))
   have HNP:Hid (∀x,(w.heap.size≤x∧x<w.heap.size+3)∨x=w3.heap.size→¬((P x∨w2.heap.size≤x)∧base≤x∧x<w3.heap.size)):=hid (fun x hx hp=>by
    rcases hx with hx | hx
    · rcases hp.1 with h | h
      · have:=HP0.out x h; omega
      · omega
    · omega)
   have hw1:IntKind.i64.wrap ((wn (sgS ss i):Int)-(a:Int))=(wn (sgS ss i):Int)-(a:Int):=by rw[IntKind.wrap_i64]; omega
   have hw2:IntKind.i64.wrap ((wn (sgS ss i):Int)-(a:Int)-1)=(wn (sgS ss i):Int)-(a:Int)-1:=by rw[IntKind.wrap_i64]; omega
   clear hk3 hB3 hb4 d0 d1 HC0' HC1' HC2'
   go_wp2_with fail
   go_region_held3 (fun V=>(V.cell? ⟨w.heap.size,0,none⟩=some (.int .i64 n.kind)∧V.cell? ⟨w.heap.size,1,none⟩=some (.string n.data)∧V.cell? ⟨w.heap.size,2,none⟩=some (.slice qA n.ptrs.length qa)∧V.cell? ⟨w.heap.size,3,none⟩=some (.int .i64 n.size)∧V.cell? ⟨w.heap.size,4,none⟩=some (.int .i64 n.count)∧V.cell? ⟨w.heap.size,5,none⟩=some (.slice qB n.items.length qb))∧(V.cell? ⟨w.heap.size+1,0,none⟩=some (.int .i64 (i:Int))∧V.cell? ⟨w.heap.size+1,1,none⟩=some (.int .i64 (a:Int))∧V.cell? ⟨w3.heap.size,0,none⟩=some (.int .i64 (i:Int))∧V.cell? ⟨w3.heap.size,1,none⟩=some (.int .i64 (wn (sgS ss i):Int)))) (((first | exact ⟨⟨n0,n1,n2,n3,n4,n5⟩,⟨t0,t1,u0,u1⟩⟩ | exact ⟨⟨kcw hb5 n0,kcw hb5 n1,kcw hb5 n2,kcw hb5 n3,kcw hb5 n4,kcw hb5 n5⟩,⟨kcw hb5 t0,kcw hb5 t1,kcw hb5 u0,kcw hb5 u1⟩⟩ | exact ⟨⟨hk6c (kcw hb5 n0) (by simp),hk6c (kcw hb5 n1) (by simp),hk6c (kcw hb5 n2) (by simp),hk6c (kcw hb5 n3) (by simp),hk6c (kcw hb5 n4) (by simp),hk6c (kcw hb5 n5) (by simp)⟩,⟨hk6c (kcw hb5 t0) (by simp),hk6c (kcw hb5 t1) (by simp),hk6c (kcw hb5 u0) (by simp),hk6c (kcw hb5 u1) (by simp)⟩⟩))) (first | (go_at_call 74; (with_reducible refine (z4n m n ⟨qA,qa,qB,qb⟩ _ _ _ HN4.out hf hm ho hk).mono ?_); rintro e w5 ⟨rfl,hb5⟩) | (go_at_call 73; (with_reducible refine (zd1 base b size (growB ss i (ownN n)) _ w5 ((HT3.out.low HB4.out).low hb5) (z5s hi hw8) i a (by rw[z0b]; exact hi) (by rw[z2q hi]; omega) (by rw[z2t hi]; omega) n hf ho hk _ (by omega) (by omega)).mono ?_); rintro e w6 ⟨rfl,hk6,hB6⟩; have hk6c:=fun {q:Addr} {u:Value} (hq:w5.cell? q=some u) (hp:(w.heap.size≤q.block∧q.block<w.heap.size+3)∨q.block=w3.heap.size)=>z0n hk6 hq (HNP.out _ hp)))
   have hd2:=(hk6.block _ (by have:=hb5.size; have:=HB4.out.size; omega) (HNP.out (w.heap.size+2) (.inl (by omega)))).trans ((hb5.block _ (by have:=HB4.out.size; omega)).trans ((HB4.out.block _ (z00 HD2.out)).trans HD2.out))
   have hkw:KP P w w6:=((KP.of_below HB2.out).trans HK3.out (fun _ _ h=>h)).trans ((KP.of_below (HB4.out.trans (hb5.mono HB4.out.size)):KP (fun k=>(P k∨w2.heap.size≤k)∧base≤k∧k<w3.heap.size) w3 w5).trans hk6 (fun _ _ h=>h)) (fun k hk h=>by
    rcases h.1 with h | h
    · exact h
    · omega)
   have hBw:=hB6.weak (Q:=fun k=>P k∨w.heap.size≤k) (fun k h=>h.1.imp id (fun h=>by omega));have HD2':=hid hd2;have HKW:=hid hkw;have HBW:=hid hBw;obtain ⟨x0,x1⟩:=z04 hd2;have xf0:=z02 hd2 0;have xf1:=z02 hd2 1;have y0:=hk6c (kcw hb5 u0) (.inr rfl);have y1:=hk6c (kcw hb5 u1) (.inr rfl);clear hk6 hB6 hb5 hk6c hw1 hw2 n0 n1 n2 n3 n4 n5 t0 t1 u0 u1 hd2 hkw hBw
   go_wp2_with fail
   have hrow:=z08 (z08 HD2'.out 0 (.int .i64 (i:Int))) 1 (.int .i64 (wn (sgS ss i):Int));obtain ⟨e0,e1⟩:=z04 hrow;refine bodyPost_ret (v:= .agg #[.int .i64 (i:Int),.int .i64 (wn (sgS ss i):Int)]) (by simp[results,Tryz.results72,go_sem,e0,e1]) rfl (.inr ⟨_,_,_,HE2.out,rfl,?_,?_⟩)
   · exact HKW.out.trans (Q:=fun k=>w.heap.size≤k) ((KP.set (by show w.heap.size≤w.heap.size+2; omega) _ 0 _).trans (KP.set (by show w.heap.size≤w.heap.size+2; omega) _ 1 _) (fun _ _ h=>h)) (fun k h1 h2=>by omega)
   · exact (HBW.out.other HD2'.out (by decide) 0 _).other (z08 HD2'.out 0 _) (by decide) 1 _
 · have HE2:Hid (roomP 200 size n ss i a=none):=hid (by rw[HE.out,if_neg ht2])
   go_wp2_with fail
   refine (ze6 base b size ss P w2 HB.out i (ownN n) ht (by omega) (by omega)).mono ?_;rintro e w3 ⟨rfl,hk3⟩;have HK3:=hid hk3;clear hk3;go_wp2;exact ⟨rfl,.inl ⟨HE2.out,rfl,(KP.of_below HB2.out).trans HK3.out (fun _ _ h=>h)⟩⟩
theorem zq3 {w w':World}(h:Below w.drew.heap.size w.drew w'):Below w.heap.size w w':=⟨h.os,h.tape,h.output,h.size,h.block⟩
theorem zfq {size:Nat}{ss s1:Segs}{k j:Nat}(h1:1≤ss.length)(hw:WdS ss)(h6:ss.length≤6)(h:z2e size ss k=some (s1,j)):j<s1.length∧WdS s1∧s1.length≤6∧totS s1=totS ss∧ss.length≤s1.length∧∀i,i<ss.length→sgS s1 i=sgS ss i:=by
 unfold z2e at h
 split at h
 · rename_i hf
   injection h with h
   injection h with h1 h2
   subst h1 h2;exact ⟨by omega,hw,h6,rfl,Nat.le_refl _,fun _ _=>rfl⟩
 · split at h
   · injection h with h
     injection h with h1 h2
     subst h1 h2;refine ⟨by simp,zk5 hw,by simp; omega,by rw[z6p]; rfl,by simp,fun i hi=>?_⟩;rw[z7g,if_neg (by omega)]
   · cases h
theorem zj4 (base b size:Nat)(ss:Segs)(P:Nat→Prop)(w:World)(h:Bun w base b size ss P)(hP0:∀k,P k→base≤k∧k<w.heap.size)(hw8:WdS ss)(i a:Nat)(hi:i<ss.length)(ha:a<wn (sgS ss i))(ht:totS ss≤200)(hz:size≤200)
 (m:Nat) (n:Nd) (h1:Hd) (hn:NdAt w (fun k=>k<base) m n h1) (hf:formN n=true) (hm:totN m n≤2000000) (ho:ownN n≤300) (hk:n.kind≠0) (hfit:¬wn (sgS ss i)+ownN n≤size) (h1l:1≤ss.length) (h6l:ss.length≤6) :
 Calls Tryz.prog 72 #[.pointer (some ⟨b,0,none⟩),.agg #[.int .i64 n.kind,.string n.data,.slice h1.A n.ptrs.length h1.a,.int .i64 n.size,.int .i64 n.count,.slice h1.B n.items.length h1.b],.agg #[.int .i64 (i:Int),.int .i64 (a:Int)]] w (RoomQ base b size P w (roomP 200 size n ss i a)):=by
 obtain ⟨qA,qa,qB,qb⟩:=h1
 dsimp only at hn ⊢
 have hwi:=z09 ss i
 have hF:fitS size ss i (ownN n)=false:=by unfold fitS; exact decide_eq_false hfit
 have HE:Hid (roomP 200 size n ss i a=match z2e size ss (1+ownN n) with
  | none=>none
  | some (s1,j)=>if totS s1+(1+ownN n)≤200 then some (putS (putS (growB s1 j (1+ownN n)) i a (farW (wn (sgS s1 j)) j)) j (wn (sgS s1 j)) (ptrW n 0),j,wn (sgS s1 j)+1) else none):=hid (by unfold roomP; rw[if_neg hfit]; rfl)
 have hb0:Below w.heap.size w (((w.alloc (.cells #[.int .i64 n.kind,.string n.data,.slice qA n.ptrs.length qa,.int .i64 n.size,.int .i64 n.count,.slice qB n.items.length qb] nodeT)).alloc (.cells #[.int .i64 (i:Int),.int .i64 (a:Int)] plT)).alloc (.cells #[.int .i64 0,.int .i64 0] plT)):=(((Below.refl _ w).alloc (Nat.le_refl _) _).alloc (by simp) _).alloc (by simp; omega) _;have r0:(((w.alloc (.cells #[.int .i64 n.kind,.string n.data,.slice qA n.ptrs.length qa,.int .i64 n.size,.int .i64 n.count,.slice qB n.items.length qb] nodeT)).alloc (.cells #[.int .i64 (i:Int),.int .i64 (a:Int)] plT)).alloc (.cells #[.int .i64 0,.int .i64 0] plT)).heap[w.heap.size]? =some (.cells #[.int .i64 n.kind,.string n.data,.slice qA n.ptrs.length qa,.int .i64 n.size,.int .i64 n.count,.slice qB n.items.length qb] nodeT (0,0)):=z05 (z05 (heap_alloc_new w _) _) _
 have r1:(((w.alloc (.cells #[.int .i64 n.kind,.string n.data,.slice qA n.ptrs.length qa,.int .i64 n.size,.int .i64 n.count,.slice qB n.items.length qb] nodeT)).alloc (.cells #[.int .i64 (i:Int),.int .i64 (a:Int)] plT)).alloc (.cells #[.int .i64 0,.int .i64 0] plT)).heap[w.heap.size+1]? =some (.cells #[.int .i64 (i:Int),.int .i64 (a:Int)] plT (0,0)):=by
  have:=z05 (heap_alloc_new (w.alloc (.cells #[.int .i64 n.kind,.string n.data,.slice qA n.ptrs.length qa,.int .i64 n.size,.int .i64 n.count,.slice qB n.items.length qb] nodeT)) (.cells #[.int .i64 (i:Int),.int .i64 (a:Int)] plT)) (.cells #[.int .i64 0,.int .i64 0] plT)
  simpa using this
 have r2:(((w.alloc (.cells #[.int .i64 n.kind,.string n.data,.slice qA n.ptrs.length qa,.int .i64 n.size,.int .i64 n.count,.slice qB n.items.length qb] nodeT)).alloc (.cells #[.int .i64 (i:Int),.int .i64 (a:Int)] plT)).alloc (.cells #[.int .i64 0,.int .i64 0] plT)).heap[w.heap.size+2]? =some (.cells #[.int .i64 0,.int .i64 0] plT (0,0)):=by
  have:=heap_alloc_new ((w.alloc (.cells #[.int .i64 n.kind,.string n.data,.slice qA n.ptrs.length qa,.int .i64 n.size,.int .i64 n.count,.slice qB n.items.length qb] nodeT)).alloc (.cells #[.int .i64 (i:Int),.int .i64 (a:Int)] plT)) (.cells #[.int .i64 0,.int .i64 0] plT)
  simpa using this
 have hs0:(((w.alloc (.cells #[.int .i64 n.kind,.string n.data,.slice qA n.ptrs.length qa,.int .i64 n.size,.int .i64 n.count,.slice qB n.items.length qb] nodeT)).alloc (.cells #[.int .i64 (i:Int),.int .i64 (a:Int)] plT)).alloc (.cells #[.int .i64 0,.int .i64 0] plT)).heap.size=w.heap.size+3:=by simp
 have HN:=hid hn;have HH:=hid h;have HB0:=hid hb0;have R0:=hid r0;have R1:=hid r1;have R2:=hid r2;have HP0:=hid hP0;have HS0:=hid hs0;clear hn h hb0 r0 r1 r2 hP0 hs0 hfit;go_enter Tryz.func72,Tryz.ntmps72
 go_wp2_with fail
 generalize ((w.alloc (.cells #[.int .i64 n.kind,.string n.data,.slice qA n.ptrs.length qa,.int .i64 n.size,.int .i64 n.count,.slice qB n.items.length qb] nodeT)).alloc (.cells #[.int .i64 (i:Int),.int .i64 (a:Int)] plT)).alloc (.cells #[.int .i64 0,.int .i64 0] plT)=W0 at *;refine (z30 m n ⟨qA,qa,qB,qb⟩ W0 _ (HN.out.below HB0.out) hf hm).mono ?_;rintro e w1 ⟨rfl,hb1⟩;have HB1:=hid hb1;have HC0:=hid ((hb1.block _ (by have:=HS0.out; omega)).trans R0.out);have HC1:=hid ((hb1.block _ (by have:=HS0.out; omega)).trans R1.out);have HC2:=hid ((hb1.block _ (by have:=HS0.out; omega)).trans R2.out);obtain ⟨d0,d1⟩:=z04 HC1.out;clear hb1
 go_wp2_with fail
 refine (zd8 base b size ss P w1 (HH.out.low (HB0.out.trans (HB1.out.mono HB0.out.size))) i (ownN n) hi (by omega) (by omega) (by omega)).mono ?_;rw[hF];rintro e w2 ⟨rfl,hb2⟩;have HB2:=hid ((HB0.out.trans (HB1.out.mono HB0.out.size)).trans (hb2.mono (Nat.le_trans HB0.out.size HB1.out.size)))
 have hs2:w.heap.size+3≤w2.heap.size:=by have:=HS0.out; have:=HB1.out.size; have:=hb2.size; omega
 have HC0':=hid ((hb2.block _ (z00 HC0.out)).trans HC0.out);have HC1':=hid ((hb2.block _ (z00 HC1.out)).trans HC1.out);have HC2':=hid ((hb2.block _ (z00 HC2.out)).trans HC2.out);clear hb2 d0 d1 HC0 HC1 HC2 R0 R1 R2 hF;obtain ⟨d0,d1⟩:=z04 HC1'.out;have HB:=hid (HH.out.low HB2.out)
 have hbb:base≤w.heap.size:=by obtain ⟨_,_,_,hX,_⟩:=HH.out; have:=(hX.lt b (.inl rfl)); omega
 have hwi0:=z09 ss
 have he1:((1+ownN n:Nat):Int)=1+(ownN n:Int):=by omega
 have HOT:=hid (zl8 base b size ss P w2 HB.out (1+ownN n) h1l h6l (by omega) (by omega) (by omega));rw[he1] at HOT
 go_wp2_with fail
 refine HOT.out.mono ?_;rintro e w3 (⟨hnone,rfl,hk3⟩ | ⟨s1,j,hsome,rfl,hk3,hB3⟩)
 · have HE2:Hid (roomP 200 size n ss i a=none):=hid (by rw[HE.out,hnone])
   have HK3:=hid hk3;clear hk3 hnone;go_wp2;exact ⟨rfl,.inl ⟨HE2.out,rfl,(KP.of_below HB2.out).trans HK3.out (fun _ _ h=>h)⟩⟩
 · obtain ⟨hj,hw1,hl1,ht1,hi1,hg1⟩:=zfq h1l hw8 h6l hsome
   have HE1:Hid (roomP 200 size n ss i a=if totS s1+(1+ownN n)≤200 then some (putS (putS (growB s1 j (1+ownN n)) i a (farW (wn (sgS s1 j)) j)) j (wn (sgS s1 j)) (ptrW n 0),j,wn (sgS s1 j)+1) else none):=hid (by rw[HE.out,hsome]);have hs3:=hk3.size;have HK3:=hid hk3;have HT3:=hid hB3.tight;have HD0:=hid (hk3.row HC0'.out (fun hp=>by have:=HP0.out _ hp; omega));have HD1:=hid (hk3.row HC1'.out (fun hp=>by have:=HP0.out _ hp; omega));have HD2:=hid (hk3.row HC2'.out (fun hp=>by have:=HP0.out _ hp; omega))
   have hai:a<wn (sgS s1 i):=by rw[hg1 i hi]; exact ha
   have hii:i<s1.length:=by omega
   have HTT:=hid ht1;clear hk3 hB3 hsome d0 d1 HOT HC0' HC1' HC2'
   by_cases ht2:totS s1+(1+ownN n)≤200
   · have HE2:Hid (roomP 200 size n ss i a=some (putS (putS (growB s1 j (1+ownN n)) i a (farW (wn (sgS s1 j)) j)) j (wn (sgS s1 j)) (ptrW n 0),j,wn (sgS s1 j)+1)):=hid (by rw[HE1.out,if_pos ht2])
     have HG:=hid (z9z base b size s1 _ w3 HT3.out hw1 j (1+ownN n) hj ht2);rw[he1] at HG;have hcw:=z09 s1 j
     go_wp2_with fail
     refine HG.out.mono ?_;rintro e w4 ⟨rfl,hk4,hB4⟩
     obtain ⟨c,hc⟩:∃c,wn (sgS s1 j)=c:=⟨_,rfl⟩
     rw[hc] at HE2 hcw;rw[hc];have hs4:=hk4.size;have HK4:=hid hk4;have HT4:=hid hB4.tight
     have HNP3:Hid (∀x,w.heap.size≤x∧x<w.heap.size+3→¬((P x∨w2.heap.size≤x)∧base≤x∧x<w3.heap.size)):=hid (fun x hx hp=>by
      rcases hp.1 with h | h
      · have:=HP0.out x h; omega
      · omega)
     have HNP:Hid (∀x,(w.heap.size≤x∧x<w.heap.size+3)∨x=w4.heap.size→¬((((P x∨w2.heap.size≤x)∧base≤x∧x<w3.heap.size)∨w3.heap.size≤x)∧base≤x∧x<w4.heap.size)):=hid (fun x hx hp=>by
      rcases hx with hx | hx
      · rcases hp.1 with h | h
        · exact HNP3.out x hx h
        · omega
      · omega)
     have HF0:=hid (hk4.row HD0.out (HNP3.out _ (by omega)));have HF1:=hid (hk4.row HD1.out (HNP3.out _ (by omega)));have HF2:=hid (hk4.row HD2.out (HNP3.out _ (by omega)));have hb5:Below w4.heap.size w4 (w4.alloc (.cells #[.int .i64 (j:Int),.int .i64 (c:Int)] plT)):=(Below.refl _ _).alloc (Nat.le_refl _) _;have g0:=(hb5.block _ (z00 HF0.out)).trans HF0.out;have g1:=(hb5.block _ (z00 HF1.out)).trans HF1.out;have g2:=(hb5.block _ (z00 HF2.out)).trans HF2.out;have g3:=heap_alloc_new w4 (.cells #[.int .i64 (j:Int),.int .i64 (c:Int)] plT);obtain ⟨t0,t1⟩:=z04 g1;obtain ⟨u0,u1⟩:=z04 g3;have HT5:=hid (HT4.out.low hb5);have HB5:=hid hb5;have G0:=hid g0;have G2:=hid g2;have G3:=hid g3;have HSET:=hid (zs5 base b size (growB s1 j (1+ownN n)) _ _ HT5.out (z5s hj hw1) i a (by rw[z0b]; exact hii) (Nat.lt_of_lt_of_le hai ((z2p hj).wn i)) (by rw[z2t hj]; omega) (c:Int) (j:Int) (by omega) (by omega) (by omega) (by omega));have HFW:Hid (w8 ((c:Int)*8+2) (j:Int)=farW c j):=hid rfl;rw[HFW.out] at HSET;clear hk4 hB4 hb5 g0 g1 g2 g3 HG
     go_wp2_with fail
     refine HSET.out.mono ?_;rintro e w6 ⟨rfl,hk6,hB6⟩;have hs6:=hk6.size;have HK6:=hid hk6;have HB6:=hid hB6;have J0:=hid (hk6.row G0.out (HNP.out _ (.inl (by omega))));have J2:=hid (hk6.row G2.out (HNP.out _ (.inl (by omega))));have J3:=hid (hk6.row G3.out (HNP.out _ (.inr rfl)))
     have HKW:=hid ((((KP.of_below HB2.out).trans HK3.out (fun _ _ h=>h):KP P w w3).trans HK4.out (fun k hk h=>by
      rcases h.1 with h | h
      · exact h
      · omega)).trans ((KP.of_below HB5.out).trans hk6 (fun _ _ h=>h)) (fun k hk h=>by
      rcases h.1 with h | h
      · rcases h.1 with h | h
        · exact h
        · omega
      · omega))
     have HN6:=hid (z2v HN.out (HKW.out.below hbb (fun k hp=>(HP0.out k hp).1)));obtain ⟨n0,n1,n2,n3,n4,n5⟩:=z01 J0.out
     replace n0:w6.drew.cell? ⟨w.heap.size,0,none⟩=some (.int .i64 n.kind):=n0
     replace n1:w6.drew.cell? ⟨w.heap.size,1,none⟩=some (.string n.data):=n1
     replace n2:w6.drew.cell? ⟨w.heap.size,2,none⟩=some (.slice qA n.ptrs.length qa):=n2
     replace n3:w6.drew.cell? ⟨w.heap.size,3,none⟩=some (.int .i64 n.size):=n3
     replace n4:w6.drew.cell? ⟨w.heap.size,4,none⟩=some (.int .i64 n.count):=n4
     replace n5:w6.drew.cell? ⟨w.heap.size,5,none⟩=some (.slice qB n.items.length qb):=n5
     clear u0 u1 t0 t1;obtain ⟨u0,u1⟩:=z04 J3.out
     replace u0:w6.drew.cell? ⟨w4.heap.size,0,none⟩=some (.int .i64 (j:Int)):=u0
     replace u1:w6.drew.cell? ⟨w4.heap.size,1,none⟩=some (.int .i64 (c:Int)):=u1
     have hal:=z0s (ss:=growB s1 j (1+ownN n)) (i:=i) (a:=a) (t:=farW c j) (by rw[z0b]; exact hii) (by rw[z1e]; have h1:=Nat.lt_of_lt_of_le hai ((z2p (k:=1+ownN n) hj).wn i); have h2:=z10 (z5s (k:=1+ownN n) hj hw1) i; omega);have HAL:=hid hal
     have hcc:c<wn (sgS (putS (growB s1 j (1+ownN n)) i a (farW c j)) j):=by
      have h1:=z2q (k:=1+ownN n) hj
      have h2:wn (sgS (putS (growB s1 j (1+ownN n)) i a (farW c j)) j)=wn (sgS (growB s1 j (1+ownN n)) j):=by unfold wn; rw[← hal.2 j]
      omega
     have HWD:=hid (hal.wds (z5s hj hw1))
     have htot:totS (putS (growB s1 j (1+ownN n)) i a (farW c j))≤100000:=by rw[← z9q hal,z2t hj]; omega
     have hjl:j<(putS (growB s1 j (1+ownN n)) i a (farW c j)).length:=by rw[z0a,z0b]; exact hj
     clear hk6 hal hB6
     go_wp2_with fail
     go_region_held3 (fun V=>(V.cell? ⟨w.heap.size,0,none⟩=some (.int .i64 n.kind)∧V.cell? ⟨w.heap.size,1,none⟩=some (.string n.data)∧V.cell? ⟨w.heap.size,2,none⟩=some (.slice qA n.ptrs.length qa)∧V.cell? ⟨w.heap.size,3,none⟩=some (.int .i64 n.size)∧V.cell? ⟨w.heap.size,4,none⟩=some (.int .i64 n.count)∧V.cell? ⟨w.heap.size,5,none⟩=some (.slice qB n.items.length qb))∧(V.cell? ⟨w4.heap.size,0,none⟩=some (.int .i64 (j:Int))∧V.cell? ⟨w4.heap.size,1,none⟩=some (.int .i64 (c:Int)))) (((first | exact ⟨⟨n0,n1,n2,n3,n4,n5⟩,⟨u0,u1⟩⟩ | exact ⟨⟨kcw hb7 n0,kcw hb7 n1,kcw hb7 n2,kcw hb7 n3,kcw hb7 n4,kcw hb7 n5⟩,⟨kcw hb7 u0,kcw hb7 u1⟩⟩ | exact ⟨⟨hk8c (kcw hb7 n0) (by simp),hk8c (kcw hb7 n1) (by simp),hk8c (kcw hb7 n2) (by simp),hk8c (kcw hb7 n3) (by simp),hk8c (kcw hb7 n4) (by simp),hk8c (kcw hb7 n5) (by simp)⟩,⟨hk8c (kcw hb7 u0) (by simp),hk8c (kcw hb7 u1) (by simp)⟩⟩))) (first | (go_at_call 74; (with_reducible refine (z4n m n ⟨qA,qa,qB,qb⟩ _ _ _ (z2v HN6.out (by exact ⟨rfl,rfl,rfl,Nat.le_refl _,fun _ _=>rfl⟩)) hf hm ho hk).mono ?_); rintro e w7 ⟨rfl,hb7⟩) | (go_at_call 73; (with_reducible refine (zd1 base b size (putS (growB s1 j (1+ownN n)) i a (farW c j)) _ w7 (HB6.out.low (w':=w7) (zq3 hb7)) HWD.out j c hjl hcc htot n hf ho hk _ (by omega) (by omega)).mono ?_); rintro e w8 ⟨rfl,hk8,hB8⟩; have hk8c:=fun {q:Addr} {u:Value} (hq:w7.cell? q=some u) (hp:(w.heap.size≤q.block∧q.block<w.heap.size+3)∨q.block=w4.heap.size)=>z0n hk8 hq (HNP.out _ hp)))
     have hs7:=hb7.size;have hs7':w6.heap.size≤w7.heap.size:=hs7;have hk68:=(KP.of_below (zq3 hb7):KP (fun k=>(((P k∨w2.heap.size≤k)∧base≤k∧k<w3.heap.size)∨w3.heap.size≤k)∧base≤k∧k<w4.heap.size) w6 w7).trans hk8 (fun _ _ h=>h);have hj2:=hk68.row J2.out (HNP.out (w.heap.size+2) (.inl (by omega)));have y0:=hk8c (kcw hb7 u0) (.inr rfl);have y1:=hk8c (kcw hb7 u1) (.inr rfl);have HK8:=hid hk68;have HB8:=hid hB8;have HJ2:=hid hj2
     have hbeh:=fun W=>z7m j c 1 W (by omega) (by omega)
     obtain ⟨C,hC⟩:∃C:Int,((c+1:Nat):Int)=C:=⟨_,rfl⟩
     rw[hC] at hbeh;have HC:=hid hC;have HBEH:=hid hbeh;clear hbeh hC n0 n1 n2 n3 n4 n5 u0 u1 hk8 hB8 hb7 hj2 hk8c hk68 hs7
     go_wp2_with fail
     refine (HBEH.out _).mono ?_;rintro e w9 ⟨rfl,hb9⟩;have HB9:=hid hb9;have hr9:=(hb9.block _ (z00 HJ2.out)).trans HJ2.out;obtain ⟨x0,x1⟩:=z04 hr9;have xf0:=z02 hr9 0;have xf1:=z02 hr9 1;have HR9:=hid hr9;have hs9:=hb9.size;have hs8:=HK8.out.size;clear hb9 hr9 y0 y1
     go_wp2_with fail
     have hrow:=z08 (z08 HR9.out 0 (.int .i64 (j:Int))) 1 (.int .i64 C);obtain ⟨e0,e1⟩:=z04 hrow;refine bodyPost_ret (v:= .agg #[.int .i64 (j:Int),.int .i64 C]) (by simp[results,Tryz.results72,go_sem,e0,e1]) rfl (.inr ⟨_,_,_,HE2.out,by rw[HC.out],?_,?_⟩)
     · have k1:=HKW.out.trans HK8.out (fun k hk h=>by
        rcases h.1 with h | h
        · rcases h.1 with h | h
          · exact h
          · omega
        · omega)
       have k2:=k1.trans (KP.of_below HB9.out:KP P w8 w9) (fun _ _ h=>h);exact k2.trans (Q:=fun k=>w.heap.size≤k) ((KP.set (by show w.heap.size≤w.heap.size+2; omega) _ 0 _).trans (KP.set (by show w.heap.size≤w.heap.size+2; omega) _ 1 _) (fun _ _ h=>h)) (fun k h1 h2=>by omega)
     · have b1:=(HB8.out.low HB9.out).weak (Q:=fun k=>P k∨w.heap.size≤k) (fun k h=>by
        rcases h.1 with h | h
        · exact h.1.imp id (fun h=>by omega)
        · exact .inr (by omega))
       exact (b1.other HR9.out (by decide) 0 _).other (z08 HR9.out 0 _) (by decide) 1 _
   · have HE2:Hid (roomP 200 size n ss i a=none):=hid (by rw[HE1.out,if_neg ht2])
     have HG:=hid (ze6 base b size s1 _ w3 HT3.out j (1+ownN n) (by omega) (by omega) (by omega));rw[he1] at HG
     go_wp2_with fail
     refine HG.out.mono ?_;rintro e w4 ⟨rfl,hk4⟩;have HK4:=hid hk4;clear hk4;go_wp2
     exact ⟨rfl,.inl ⟨HE2.out,rfl,((KP.of_below HB2.out).trans HK3.out (fun _ _ h=>h)).trans HK4.out (fun k hk h=>by
      rcases h.1 with h | h
      · exact h
      · omega)⟩⟩
end Go.Proofs.YtlbfffokkhccaaaGreatDoor
