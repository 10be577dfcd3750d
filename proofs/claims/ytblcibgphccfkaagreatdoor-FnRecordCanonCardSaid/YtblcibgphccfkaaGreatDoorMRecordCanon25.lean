/- Texts of the proof of the law FnRecordCanon, side by side: part 25. -/
import Derived.Test.YtblcibgphccfkaaGreatDoorMRecordCanon24
set_option maxHeartbeats 8000000
set_option maxRecDepth 100000
open Go.Lib (hid)
namespace Go.Proofs.YtblcibgphccfkaaGreatDoor
open Go.RowKit
theorem zkd {n p:Nd}(h:p∈n.ptrs):p∈ptrsL n:=List.mem_append_left _ h
theorem zgv {n y p:Nd}(h:y∈n.items)(hp:p∈y.ptrs):p∈ptrsL n:=List.mem_append_right _ (List.mem_flatMap.2 ⟨y,h,hp⟩)
theorem zja (l:List Nd)(f:Nd→Nat):((l.flatMap Nd.ptrs).map f).sum=(l.map fun y=>(y.ptrs.map f).sum).sum:=by
 induction l with
 | nil=>rfl
 | cons a t ih=>rw[List.flatMap_cons,List.map_append,List.sum_append,ih]; rfl
theorem zkz (n:Nd)(f:Nd→Nat):((ptrsL n).map f).sum=(n.ptrs.map f).sum+(n.items.map fun y=>(y.ptrs.map f).sum).sum:=by
 unfold ptrsL;rw[List.map_append,List.sum_append,zja]
theorem ziv {w:World}{S:Nat→Prop}{m:Nat}{n:Nd}{h:Hd}(hn:NdAt w S m n h):totL m (ptrsL n)+n.data.size+(n.items.map fun y=>y.data.size).sum≤totN m n:=by
 cases m with
 | zero =>
  rw[hn.2.2.zero];unfold totN
  simp only[List.map_nil,List.sum_nil]
  show 0+_+0≤_
  omega
 | succ m =>
  have h1:totL (m+1) (ptrsL n)=totL (m+1) n.ptrs+(n.items.map fun y=>totL (m+1) y.ptrs).sum:=by
   unfold ptrsL;rw[z0v,List.map_append,List.sum_append,← z0v,← z0v,ze1]
  have h2:(n.items.map fun y=>totL (m+1) y.ptrs+y.data.size).sum≤totL (m+1) n.items:=by
   rw[z0v]
   refine z5r _ _ _ fun y hy=>?_
   obtain ⟨hd,h3⟩:=hn.2.2.mem y hy;rw[z69 m _ _ h3.2.1];unfold totN;omega
  have h4:∀l:List Nd,(l.map fun y=>totL (m+1) y.ptrs+y.data.size).sum=(l.map fun y=>totL (m+1) y.ptrs).sum+(l.map fun y=>y.data.size).sum:=by
   intro l
   induction l with
   | nil=>rfl
   | cons a t ih=>simp only[List.map_cons,List.sum_cons,ih]; omega
  rw[h4] at h2;rw[h1];unfold totN;omega
theorem znc (n:Nd):ownN n≤n.data.size+(n.items.map fun y=>y.data.size).sum+(ptrsL n).length+1:=by
 have h1:ownB n≤n.data.size+n.ptrs.length:=by unfold ownB; omega
 have h2:∀l:List Nd,(l.map ownB).sum≤(l.map fun y=>y.data.size).sum+(l.flatMap Nd.ptrs).length:=by
  intro l
  induction l with
  | nil=>simp
  | cons a t ih =>
   have:ownB a≤a.data.size+a.ptrs.length:=by unfold ownB; omega
   simp only[List.map_cons,List.sum_cons,List.flatMap_cons,List.length_append]
   omega
 have h3:=h2 n.items;unfold ownN ptrsL;rw[List.length_append]
 split <;> omega
theorem zcr {w:World}{S:Nat→Prop} :∀(d m:Nat) (n:Nd) (h:Hd),NdAt w S m n h→okN d n=true→z0b d n≤2*totN m n+1:=by
 intro d
 induction d with
 | zero=>intro m n h hn hok; exact Nat.zero_le _
 | succ d ih =>
  intro m n h hn hok
  obtain ⟨hf,hk⟩:=z1o hok;have h1:=znc n;have h2:=ziv hn
  have h3:((ptrsL n).map (z0b d)).sum+(ptrsL n).length≤2*totL m (ptrsL n):=by
   cases m with
   | zero =>
    have:ptrsL n= []:=by unfold ptrsL; rw[hn.2.1.zero,hn.2.2.zero]; rfl
    rw[this]; simp
   | succ m =>
    have hmem:∀p∈ptrsL n,∃hp:Hd,NdAt w S m p hp:=by
     intro p hp
     unfold ptrsL at hp
     rcases List.mem_append.1 hp with hp | hp
     · exact hn.2.1.mem p hp
     · obtain ⟨y,hy,hpy⟩:=List.mem_flatMap.1 hp
       obtain ⟨hd,hyn⟩:=hn.2.2.mem y hy
       obtain ⟨j,rfl⟩:∃j,m=j+1:=by
        cases m with
        | zero=>rw[hyn.2.1.zero] at hpy; cases hpy
        | succ j=>exact ⟨j,rfl⟩
       obtain ⟨hd2,h4⟩:=hyn.2.1.mem p hpy;exact ⟨hd2,h4.mono (by omega)⟩
    have h5:((ptrsL n).map fun p=>z0b d p+1).sum≤((ptrsL n).map fun p=>2*(1+totN m p)).sum:=z5r _ _ _ fun p hp=>by
     obtain ⟨hd2,h6⟩:=hmem p hp;have:=ih m p hd2 h6 (hk p hp);omega
    have h7:∀l:List Nd,(l.map fun p=>z0b d p+1).sum=(l.map (z0b d)).sum+l.length:=by
     intro l
     induction l with
     | nil=>rfl
     | cons a t ih=>simp only[List.map_cons,List.sum_cons,List.length_cons,ih]; omega
    have h8:∀l:List Nd,(l.map fun p=>2*(1+totN m p)).sum=2*(l.map fun p=>1+totN m p).sum:=by
     intro l
     induction l with
     | nil=>rfl
     | cons a t ih=>simp only[List.map_cons,List.sum_cons,ih]; omega
    rw[h7,h8,← z0v] at h5;exact h5
  show ownN n+_≤_
  omega
def L4W (d:Nat):Prop:=∀(m:Nat) (n:Nd) (h:Hd) (w:World) (S:Nat→Prop),NdAt w S m n h→totN m n≤2000000→okN d n=true →
 Calls Tryz.prog 82 #[.agg #[.int .i64 n.kind,.string n.data,.slice h.A n.ptrs.length h.a,.int .i64 n.size,.int .i64 n.count,.slice h.B n.items.length h.b]] w fun e w'=>e= .returned (.int .i64 (z0b d n:Nat))∧Below w.heap.size w w'
theorem z6p (d:Nat)(ih:∀j,d=j+1→L4W j):L4W d:=by
 intro m n h w S hn ht hok
 have hbd:=zcr d m n h hn hok;obtain ⟨qA,qa,qB,qb⟩:=h
 dsimp only at hn ⊢
 have hpl:n.ptrs.length≤2000000:=z16 hn.2.1 (by unfold totN at ht; omega);have hil:n.items.length≤2000000:=z16 hn.2.2 (by unfold totN at ht; omega);have hf:=(z1o hok).1;have hob:=zc0 hn ht;have HN:=hid hn;have HT:=hid ht;have hba:=(Below.refl w.heap.size w).alloc (Nat.le_refl _) (.cells #[.int .i64 n.kind,.string n.data,.slice qA n.ptrs.length qa,.int .i64 n.size,.int .i64 n.count,.slice qB n.items.length qb] nodeT);have hr:=heap_alloc_new w (.cells #[.int .i64 n.kind,.string n.data,.slice qA n.ptrs.length qa,.int .i64 n.size,.int .i64 n.count,.slice qB n.items.length qb] nodeT)
 have hsz:w.heap.size<(w.alloc (.cells #[.int .i64 n.kind,.string n.data,.slice qA n.ptrs.length qa,.int .i64 n.size,.int .i64 n.count,.slice qB n.items.length qb] nodeT)).heap.size:=by simp
 have HOW:=hid (zn5 m n ⟨qA,qa,qB,qb⟩ _ S (hn.below hba) hf ht)
 dsimp only at HOW
 have HBA:=hid hba;have HR:=hid hr;have HTOT:Hid (z0b d n=ownN n+(n.ptrs.map (z0b (d-1))).sum+(n.items.map fun y=>(y.ptrs.map (z0b (d-1))).sum).sum):=hid (by rw[z26 hok,zkz]; omega)
 have HKID:Hid (∀p∈ptrsL n,∀(m':Nat) (hp:Hd) (W:World),NdAt W S m' p hp→totN m' p≤2000000→Calls Tryz.prog 82 #[.agg #[.int .i64 p.kind,.string p.data,.slice hp.A p.ptrs.length hp.a,.int .i64 p.size,.int .i64 p.count,.slice hp.B p.items.length hp.b]] W fun e w'=>e= .returned (.int .i64 (z0b (d-1) p:Nat))∧Below W.heap.size W w'):=hid fun p hp m' h' W h1 h2=>by
  cases d with
  | zero =>
   have h3:=z26 hok;have h4:=zk0 n
   have h5:(ptrsL n).length≠0:=by intro h; rw[z0c h] at hp; cases hp
   simp only[z0b] at h3
   omega
  | succ j=>exact ih j rfl m' p h' W S h1 h2 ((z1o hok).2 p hp)
 have htb:z0b d n≤4000001:=by omega
 clear hn ht hok hf ih hbd hba hr;generalize z0b d n=tt at *;generalize ownN n=s0 at *;have HS0:Hid ((s0:Int)=((s0:Nat):Int)):=hid rfl;go_enter Tryz.func82,Tryz.ntmps82
 go_wp2_with fail
 refine HOW.out.mono ?_;rintro e w1 ⟨rfl,hb1⟩;have hr1:=(hb1.block w.heap.size hsz).trans HR.out;have HR1:=hid hr1;have HB1:=hid (HBA.out.trans (hb1.mono HBA.out.size));obtain ⟨a0,a1,a2,a3,a4,a5⟩:=z04 hr1;clear hr1 hb1;go_wp2
 go_loopw [3,4] (fun u i wr=>∃(k:Nat) (z:Int),u= .int .i64 z∧i= .int .i64 k∧k≤n.ptrs.length∧0≤z∧z≤4000001∧Hid (z=((s0+((n.ptrs.take k).map (z0b (d-1))).sum:Nat):Int))∧Hid (Below w.heap.size w wr∧wr.heap[w.heap.size]? =some (.cells #[.int .i64 n.kind,.string n.data,.slice qA n.ptrs.length qa,.int .i64 n.size,.int .i64 n.count,.slice qB n.items.length qb] nodeT (0,0)))) (fun _ i _=>n.ptrs.length-(intOf i).toNat)
 case atStart=>exact ⟨0,_,rfl,rfl,by omega,by have:=HS0.out; omega,by have:=HS0.out; omega,hid (by rw[List.take_zero,List.map_nil,List.sum_nil]; have:=HS0.out; omega),hid ⟨HB1.out,HR1.out⟩⟩
 case round =>
  obtain ⟨k,z,rfl,rfl,hk,hz0,hz1,HZ,HB⟩:=hrel;obtain ⟨hbr,hrr⟩:=HB.out;clear a0 a1 a2 a3 a4 a5;obtain ⟨a0,a1,a2,a3,a4,a5⟩:=z04 hrr
  by_cases hlt:k<n.ptrs.length
  · obtain ⟨m',rfl⟩:=HN.out.2.1.pred hlt
    obtain ⟨x,yA,ya,yB,yb,rfl,hc0,hdy,hny,hniy⟩:=HN.out.2.1.at6 hlt;have hc:=z13 hbr _ _ _ hc0;have HST:=hid (z27 n.ptrs (z0b (d-1)) k hlt);have HSL:=hid (z1i n.ptrs (z0b (d-1)) (k+1))
    have htp:totN m' n.ptrs[k]≤2000000:=by have:=z2q (m:=m') hlt; have:=HT.out; unfold totN at this; omega
    have HC:=hid (HKID.out _ (zkd (List.getElem_mem hlt)) m' ⟨yA,ya,yB,yb⟩ wr (NdAt.below ⟨hdy,hny,hniy⟩ hbr) htp)
    dsimp only at HC
    generalize n.ptrs[k]=y at hc HST HC
    have hzv:z+((z0b (d-1)) y:Nat)≤4000001:=by have:=HZ.out; have:=HST.out; have:=HSL.out; have:=HTOT.out; omega
    obtain ⟨c0,c1,c2,c3,c4,c5⟩:=hc
    dsimp only at c2 c5
    have HBR:=hid hbr;have HRR:=hid hrr;clear hbr hrr hc0 hdy hny hniy htp HB;generalize (z0b (d-1)) y=v at *
    go_wp2_with fail
    refine HC.out.mono ?_;rintro e w3 ⟨rfl,hb3⟩;have HB3:=hid (And.intro (HBR.out.trans (hb3.mono HBR.out.size)) ((hb3.block w.heap.size (z00 HRR.out)).trans HRR.out));clear hb3;go_wp2
    go_roundw
    case rel=>exact ⟨k+1,_,rfl,by go_num,by omega,by omega,hzv,hid (by rw[HZ.out,HST.out]; omega),HB3⟩
    case measure=>simp[intOf]; omega
  · obtain rfl:k=n.ptrs.length:=by omega
    rw[List.take_of_length_le (Nat.le_refl _)] at HZ;have HBR:=hid hbr;have HRR:=hid hrr;have HZP:=HZ;have hzp0:=hz0;have hzp1:=hz1;clear hbr hrr HB HZ;go_wp2
    go_loopw [3,5] (fun u i wr=>∃(k:Nat) (z:Int),u= .int .i64 z∧i= .int .i64 k∧k≤n.items.length∧0≤z∧z≤4000001∧Hid (z=((s0+(n.ptrs.map (z0b (d-1))).sum+((n.items.take k).map fun y=>(y.ptrs.map (z0b (d-1))).sum).sum:Nat):Int))∧Hid (Below w.heap.size w wr∧wr.heap[w.heap.size]? =some (.cells #[.int .i64 n.kind,.string n.data,.slice qA n.ptrs.length qa,.int .i64 n.size,.int .i64 n.count,.slice qB n.items.length qb] nodeT (0,0)))) (fun _ i _=>n.items.length-(intOf i).toNat)
    case atStart=>exact ⟨0,_,rfl,rfl,by omega,hzp0,hzp1,hid (by rw[HZP.out]; simp),hid ⟨HBR.out,HRR.out⟩⟩
    case round =>
     clear hz0 hz1 hzp0 hzp1;obtain ⟨k,z,rfl,rfl,hk,hz0,hz1,HZ,HB⟩:=hrel;obtain ⟨hbr,hrr⟩:=HB.out;clear a0 a1 a2 a3 a4 a5;obtain ⟨a0,a1,a2,a3,a4,a5⟩:=z04 hrr
     by_cases hlt:k<n.items.length
     · obtain ⟨m',rfl⟩:=HN.out.2.2.pred hlt
       obtain ⟨x,yA,ya,yB,yb,rfl,hc0,hdy,hny,hniy⟩:=HN.out.2.2.at6 hlt;have HSTI:=hid (z27 n.items (fun y=>(y.ptrs.map (z0b (d-1))).sum) k hlt);have HSLI:=hid (z1i n.items (fun y=>(y.ptrs.map (z0b (d-1))).sum) (k+1));have HTP:Hid (totL m' (n.items[k]).ptrs≤2000000):=hid (by have:=z2q (m:=m') hlt; have:=HT.out; unfold totN at *; omega);have hypl:(n.items[k]).ptrs.length≤2000000:=z16 hny HTP.out;have HMY:=hid (fun p hp=>HKID.out p (zgv (List.getElem_mem hlt) hp));generalize n.items[k]=y at hc0 HSTI hny HTP hypl HMY;have HC0:=hid hc0;have HNY:=hid hny;have HBR:=hid hbr;have HRR:=hid hrr;have hzi0:=hz0;have hzi1:=hz1;clear hbr hrr hc0 hdy hny hniy HB;go_wp2;clear a0 a1 a2 a3 a4 a5
       go_loopw [3,6] (fun u i wr=>∃(q:Nat) (z:Int),u= .int .i64 z∧i= .int .i64 q∧q≤y.ptrs.length∧0≤z∧z≤4000001∧Hid (z=((s0+(n.ptrs.map (z0b (d-1))).sum+((n.items.take k).map fun y=>(y.ptrs.map (z0b (d-1))).sum).sum+((y.ptrs.take q).map (z0b (d-1))).sum:Nat):Int))∧Hid (Below w.heap.size w wr∧wr.heap[w.heap.size]? =some (.cells #[.int .i64 n.kind,.string n.data,.slice qA n.ptrs.length qa,.int .i64 n.size,.int .i64 n.count,.slice (some x) n.items.length qb] nodeT (0,0)))) (fun _ i _=>y.ptrs.length-(intOf i).toNat)
       case atStart=>exact ⟨0,_,rfl,rfl,by omega,hzi0,hzi1,hid (by rw[HZ.out]; simp),hid ⟨HBR.out,HRR.out⟩⟩
       case round =>
        clear hz0 hz1 hzi0 hzi1;obtain ⟨q,z,rfl,rfl,hq,hz0,hz1,HZQ,HB⟩:=hrel;obtain ⟨hbr,hrr⟩:=HB.out;obtain ⟨a0,a1,a2,a3,a4,a5⟩:=z04 hrr;have hc:=z13 hbr _ _ _ HC0.out;obtain ⟨-, -,d2, -, -, -⟩:=hc
        dsimp only at d2
        by_cases hqt:q<y.ptrs.length
        · obtain ⟨m'',rfl⟩:=HNY.out.pred hqt
          obtain ⟨x2,zA,za,zB,zb,rfl,hc2,hdz,hnz,hniz⟩:=HNY.out.at6 hqt;have hcz:=z13 hbr _ _ _ hc2;have HST:=hid (z27 y.ptrs (z0b (d-1)) q hqt);have HSL:=hid (z1i y.ptrs (z0b (d-1)) (q+1))
          have htp:totN m'' y.ptrs[q]≤2000000:=by have:=z2q (m:=m'') hqt; have:=HTP.out; omega
          have HC:=hid (HMY.out _ (List.getElem_mem hqt) m'' ⟨zA,za,zB,zb⟩ wr (NdAt.below ⟨hdz,hnz,hniz⟩ hbr) htp)
          dsimp only at HC
          generalize y.ptrs[q]=t at hcz HST HC
          have hzv:z+((z0b (d-1)) t:Nat)≤4000001:=by have:=HZQ.out; have:=HST.out; have:=HSL.out; have:=HTOT.out; have:=HSTI.out; have:=HSLI.out; omega
          obtain ⟨c0,c1,c2,c3,c4,c5⟩:=hcz
          dsimp only at c2 c5
          have HBR:=hid hbr;have HRR:=hid hrr;clear hbr hrr hc2 hdz hnz hniz htp HB;generalize (z0b (d-1)) t=v at *
          go_wp2_with fail
          refine HC.out.mono ?_;rintro e w3 ⟨rfl,hb3⟩;have HB3:=hid (And.intro (HBR.out.trans (hb3.mono HBR.out.size)) ((hb3.block w.heap.size (z00 HRR.out)).trans HRR.out));clear hb3;go_wp2
          go_roundw
          case rel=>exact ⟨q+1,_,rfl,by go_num,by omega,by omega,hzv,hid (by rw[HZQ.out,HST.out]; omega),HB3⟩
          case measure=>simp[intOf]; omega
        · obtain rfl:q=y.ptrs.length:=by omega
          rw[List.take_of_length_le (Nat.le_refl _)] at HZQ;have HZ2:Hid (z=((s0+(n.ptrs.map (z0b (d-1))).sum+((n.items.take (k+1)).map fun y=>(y.ptrs.map (z0b (d-1))).sum).sum:Nat):Int)):=hid (by rw[HZQ.out,HSTI.out]; omega);have HBB:=hid (And.intro hbr hrr);clear hbr hrr HB;go_wp2
          go_roundw
          case rel=>exact ⟨k+1,_,rfl,by go_num,by omega,hz0,hz1,HZ2,HBB⟩
          case measure=>simp[intOf]; omega
     · obtain rfl:k=n.items.length:=by omega
       rw[List.take_of_length_le (Nat.le_refl _)] at HZ;have HBR:=hid hbr;clear hbr hrr HB;go_wp2;go_ret;exact ⟨by rw[HTOT.out,HZ.out]; rfl,HBR.out⟩
theorem z7q:∀d,L4W d
 | 0=>z6p 0 (fun j hj=>by omega)
 | d+1=>z6p (d+1) (fun j hj=>by
   obtain rfl:d=j:=by omega
   exact z7q d)
theorem z3m (m:Nat)(n:Nd)(h:Hd)(w:World)(S:Nat→Prop)(hn:NdAt w S m n h)(ht:totN m n≤2000000) :
 Calls Tryz.prog 53 #[.agg #[.int .i64 n.kind,.string n.data,.slice h.A n.ptrs.length h.a,.int .i64 n.size,.int .i64 n.count,.slice h.B n.items.length h.b]] w fun e w'=>e= .returned (.bool (z0l n))∧Below w.heap.size w w':=by
 have hb0:=(Below.refl w.heap.size w).alloc (Nat.le_refl _) (.cells #[.int .i64 n.kind,.string n.data,.slice h.A n.ptrs.length h.a,.int .i64 n.size,.int .i64 n.count,.slice h.B n.items.length h.b] nodeT);have HB0:=hid hb0;have HBX:=hid (heap_alloc_new w (.cells #[.int .i64 n.kind,.string n.data,.slice h.A n.ptrs.length h.a,.int .i64 n.size,.int .i64 n.count,.slice h.B n.items.length h.b] nodeT));have HO:=hid (zf6 8 (by decide) m n h _ S (hn.below hb0) ht);rw[show (((8:Nat)):Int)=8 from rfl] at HO
 have HWO:Hid (okN 8 n=true→∀W:World,Below w.heap.size w W→Calls Tryz.prog 82 #[.agg #[.int .i64 n.kind,.string n.data,.slice h.A n.ptrs.length h.a,.int .i64 n.size,.int .i64 n.count,.slice h.B n.items.length h.b]] W fun e w'=>e= .returned (.int .i64 (z0b 8 n:Nat))∧Below W.heap.size W w'):=hid fun hok W hb=>z7q 8 m n h W S (hn.below hb) ht hok
 clear hn ht hb0;cases hok:okN 8 n
 · have HX:Hid (z0l n=false):=hid (by unfold z0l; rw[hok]; rfl)
   rw[hok] at HO;clear hok;go_enter Tryz.func53,Tryz.ntmps53
   go_wp2_with fail
   refine HO.out.mono ?_;rintro e w2 ⟨rfl,hb2⟩;have HB2:=hid (HB0.out.trans (hb2.mono HB0.out.size));clear hb2;go_wp2;go_ret;exact ⟨by rw[HX.out]; rfl,HB2.out⟩
 · have HX:Hid (z0l n=decide (((z0b 8 n:Nat):Int)<200)):=hid (by unfold z0l; rw[hok,Bool.true_and,Bool.eq_iff_iff]; simp only[decide_eq_true_eq]; omega)
   have HC:=hid (HWO.out hok);rw[hok] at HO;clear HWO hok;generalize z0b 8 n=wd at *;go_enter Tryz.func53,Tryz.ntmps53
   go_wp2_with fail
   refine HO.out.mono ?_;rintro e w2 ⟨rfl,hb2⟩;obtain ⟨a0,a1,a2,a3,a4,a5⟩:=z04 ((hb2.block w.heap.size (by simp)).trans HBX.out);have HB2:=hid (HB0.out.trans (hb2.mono HB0.out.size));clear hb2
   go_wp2_with fail
   refine (HC.out _ HB2.out).mono ?_;rintro e w3 ⟨rfl,hb3⟩;have HB3:=hid (HB2.out.trans (hb3.mono HB2.out.size));clear hb3;go_wp2;go_ret;exact ⟨by rw[HX.out]; rfl,HB3.out⟩
theorem ne2 (k:Int):(k != 2)=decide (k≠2):=by by_cases h:k=2 <;> simp[h]
theorem z4e (A:Option Addr)(c:Nat)(l:List Fld)(m:Nat)(n:Nd)(h:Hd)(w:World)(S:Nat→Prop)(hl:Flds w A l)(hll:l.length≤10000000)(hn:NdAt w S m n h)(htn:totN m n≤2000000) :
 Calls Tryz.prog 33 #[.slice A l.length c,.agg #[.int .i64 n.kind,.string n.data,.slice h.A n.ptrs.length h.a,.int .i64 n.size,.int .i64 n.count,.slice h.B n.items.length h.b]] w fun e w'=>e= .returned (.bool (recB l n))∧Below w.heap.size w w':=by
 have hbx:=(Below.refl w.heap.size w).alloc (Nat.le_refl _) (.cells #[.int .i64 n.kind,.string n.data,.slice h.A n.ptrs.length h.a,.int .i64 n.size,.int .i64 n.count,.slice h.B n.items.length h.b] nodeT);have HR0:=hid (heap_alloc_new w (.cells #[.int .i64 n.kind,.string n.data,.slice h.A n.ptrs.length h.a,.int .i64 n.size,.int .i64 n.count,.slice h.B n.items.length h.b] nodeT));have HF:=hid (z1a A c l _ (hl.below hbx) hll)
 have HNO:Hid (∀W:World,Below w.heap.size w W→Calls Tryz.prog 53 #[.agg #[.int .i64 n.kind,.string n.data,.slice h.A n.ptrs.length h.a,.int .i64 n.size,.int .i64 n.count,.slice h.B n.items.length h.b]] W fun e w'=>e= .returned (.bool (z0l n))∧Below W.heap.size W w'):=hid fun W hW=>z3m m n h W S (hn.below hW) htn
 have HBX:=hid hbx;clear hn hl hbx;cases hok:z14 l
 · have HX:Hid (recB l n=false):=hid (by unfold recB; rw[hok]; rfl)
   rw[hok] at HF;clear hok;go_enter Tryz.func33,Tryz.ntmps33
   go_wp2_with fail
   refine HF.out.mono ?_;rintro e w1 ⟨rfl,hb1⟩;have HB1:=hid (HBX.out.trans (hb1.mono HBX.out.size));clear hb1;go_wp2;go_ret;exact ⟨by rw[HX.out]; rfl,HB1.out⟩
 · have HX:Hid (recB l n=(z0l n&&(n.kind != 2))):=hid (by unfold recB isRec; rw[hok,Bool.true_and,Bool.and_comm,ne2])
   rw[hok] at HF;clear hok;go_enter Tryz.func33,Tryz.ntmps33
   go_wp2_with fail
   refine HF.out.mono ?_;rintro e w1 ⟨rfl,hb1⟩;have hr1:=(hb1.block _ (z00 HR0.out)).trans HR0.out;have HR1:=hid hr1;obtain ⟨a0,a1,a2,a3,a4,a5⟩:=z04 hr1;have HB1:=hid (HBX.out.trans (hb1.mono HBX.out.size));clear hb1 hr1
   go_wp2_with fail
   refine (HNO.out _ HB1.out).mono ?_;rintro e w2 ⟨rfl,hb2⟩;clear a0 a1 a2 a3 a4 a5;obtain ⟨a0,a1,a2,a3,a4,a5⟩:=z04 ((hb2.block _ (z00 HR1.out)).trans HR1.out);have HB2:=hid (HB1.out.trans (hb2.mono HB1.out.size));clear hb2;cases hno:z0l n
   · rw[hno] at HX
     clear hno HNO;go_wp2;go_ret;exact ⟨by rw[HX.out]; rfl,HB2.out⟩
   · rw[hno] at HX
     clear hno HNO;go_wp2;go_ret;exact ⟨by rw[HX.out]; rfl,HB2.out⟩
def layV4 (l:List Fld)(v1:Value):Value:= .agg #[.int .i64 ((layF l ps0).2.ls.words:Int),.int .i64 ((layF l ps0).2.ptrs:Int),v1,.int .i64 (tagL l)]
theorem z1u (A1:Option Addr)(ln cp1:Nat)(l:List Fld)(n:Nd)(h:Hd)(w:World)(hd:n.data.size≤maxLen)(hok:recB l n=true) :
 Calls Tryz.prog 36 #[layV4 l (.slice A1 ln cp1),.agg #[.int .i64 n.kind,.string n.data,.slice h.A n.ptrs.length h.a,.int .i64 n.size,.int .i64 n.count,.slice h.B n.items.length h.b]] w fun e w'=>e= .returned (.int .i64 (choN l n))∧Below w.heap.size w w':=by
 have hb:=z8d (z17 hok).2.2;have HX:Hid (choN l n=if tagL l<0 then -1 else wrap64 (leN n.data.data.toList (2*tagL l).toNat 2:Nat)):=hid (by unfold choN; rw[if_pos hok]);unfold layV4;generalize tagL l=tg at *;have hbx:Below w.heap.size w ((w.alloc (.cells #[.int .i64 ((layF l ps0).2.ls.words:Int),.int .i64 ((layF l ps0).2.ptrs:Int),.slice A1 ln cp1,.int .i64 tg] 37)).alloc (.cells #[.int .i64 n.kind,.string n.data,.slice h.A n.ptrs.length h.a,.int .i64 n.size,.int .i64 n.count,.slice h.B n.items.length h.b] nodeT)):=((Below.refl _ _).alloc (Nat.le_refl _) _).alloc (by simp) _;have hg0:((w.alloc (.cells #[.int .i64 ((layF l ps0).2.ls.words:Int),.int .i64 ((layF l ps0).2.ptrs:Int),.slice A1 ln cp1,.int .i64 tg] 37)).alloc (.cells #[.int .i64 n.kind,.string n.data,.slice h.A n.ptrs.length h.a,.int .i64 n.size,.int .i64 n.count,.slice h.B n.items.length h.b] nodeT)).heap[w.heap.size]? =some (.cells #[.int .i64 ((layF l ps0).2.ls.words:Int),.int .i64 ((layF l ps0).2.ptrs:Int),.slice A1 ln cp1,.int .i64 tg] 37 (0,0)):=z02 (heap_alloc_new w _) _;obtain ⟨c0,c1,c2,c3⟩:=z0p hg0;have HBX:=hid hbx;clear hbx hg0
 by_cases hneg:tg<0
 · rw[if_pos hneg] at HX
   go_enter Tryz.func36,Tryz.ntmps36
   go_wp2_with fail
   go_ret;exact ⟨by rw[HX.out]; rfl,HBX.out⟩
 · rw[if_neg hneg] at HX
   have hw:wrap64 (2*tg)=2*tg:=by unfold wrap64; omega
   have HW:=hid hw;clear hw;have HL:=hid (fun W=>zb7 n.data (2*tg) 2 W hd (by omega) (by omega) (by decide) (by decide));rw[show (2:Int).toNat=2 from rfl] at HL;generalize wrap64 (leN n.data.data.toList (2*tg).toNat 2:Nat)=r at *;go_enter Tryz.func36,Tryz.ntmps36
   go_wp2_with fail
   refine (HL.out _).mono ?_;rintro e w2 ⟨rfl,rfl⟩;go_wp2;go_ret;exact ⟨by rw[HX.out]; rfl,HBX.out⟩
open Go.RowKit Go.Deep
theorem z9p {z:Int}(hz:z=2∨z=3∨z=4∨z=5):z1h z=8*wdF z:=by
 rcases hz with rfl | rfl | rfl | rfl <;> rfl
theorem zb2 (fc:Bool)(el:Int)(d:ByteArray)(s:Int)(w:World)(hd:d.size≤maxLen) :
 Calls Tryz.prog 39 #[.agg #[.int .i64 1,.bool fc,.int .i64 el],.string d,.int .i64 s] w fun e w'=>e= .returned (.int .i64 (xorI (bitI d.data.toList s) el))∧Below w.heap.size w w':=by
 have HB0:=hid ((Below.refl w.heap.size w).alloc (Nat.le_refl _) (.cells #[.int .i64 1,.bool fc,.int .i64 el] 41));have HX:Hid (xorI (bitI d.data.toList s) el=bits .xor .i64 (bitI d.data.toList s) el):=hid rfl;have HS:=hid (fun W=>z90 d s W hd)
 have hq:∀V:World,(V.alloc (.cells #[.int .i64 1,.bool fc,.int .i64 el] 41)).drew.cell? ⟨V.heap.size,2,none⟩=some (.int .i64 el):=fun V=>by
  show (V.alloc _).cell? _=_
  rw[cell_of_row _ _ _ _ _ _ (heap_alloc_new V _)]; rfl
 generalize bitI d.data.toList s=gv at *;go_enter Tryz.func39,Tryz.ntmps39;go_wp2
 go_region_with (go_at_call 66; refine (HS.out _).mono ?_; rintro e w2 ⟨rfl,rfl⟩)
 all_goals
  go_wp2;go_ret;exact ⟨by rw[HX.out]; rfl,HB0.out.drew⟩
theorem zb3 (z:Int)(hz:z=2∨z=3∨z=4∨z=5)(fc:Bool)(el:Int)(d:ByteArray)(s:Nat)(hs:s≤2000)(w:World)(hd:d.size≤maxLen)(hw:d.data.toList.length%8=0∧d.data.toList.length≤1600) :
 Calls Tryz.prog 39 #[.agg #[.int .i64 z,.bool fc,.int .i64 el],.string d,.int .i64 (s:Int)] w fun e w'=>e= .returned (.int .i64 (xorI (getI d.data.toList ((s:Int)*wdF z) (wdF z)) el))∧Below w.heap.size w w':=by
 have hbd:=zcc z;have hor:=zdy z
 have hmul:0≤(s:Int)*wdF z∧(s:Int)*wdF z≤16000:=by
  refine ⟨Int.mul_nonneg (by omega) hbd.1,?_⟩;have:=Int.mul_le_mul (show (s:Int)≤2000 by omega) hbd.2 hbd.1 (by decide);omega
 have HS:Hid (∀W:World,Calls Tryz.prog 65 #[.string d,.int .i64 ((s:Int)*wdF z),.int .i64 (wdF z)] W fun e w'=>e= .returned (.int .i64 (getI d.data.toList ((s:Int)*wdF z) (wdF z)))∧W=w'):=hid fun W=>by
  have:=zb7 d ((s:Int)*wdF z) (wdF z) W hd hmul.1 (by omega) hbd.1 hbd.2
  rwa [← zmh (l:=d.data.toList) hw hor hmul.1 (by rw[Int.mul_emod_left])] at this
 have HL:=hid (fun W=>z4u z W (by omega) (by omega));rw[z9p hz] at HL
 have hdiv:(8*wdF z).tdiv 8=wdF z:=by rw[Int.tdiv_eq_ediv_of_nonneg (by omega)]; omega
 have HB0:=hid ((Below.refl w.heap.size w).alloc (Nat.le_refl _) (.cells #[.int .i64 z,.bool fc,.int .i64 el] 41));have HR0:=hid (heap_alloc_new w (.cells #[.int .i64 z,.bool fc,.int .i64 el] 41));have HX:Hid (xorI (getI d.data.toList ((s:Int)*wdF z) (wdF z)) el=bits .xor .i64 (getI d.data.toList ((s:Int)*wdF z) (wdF z)) el):=hid rfl
 have hz1:(z==1)=false:=by simp; omega
 have hwm:IntKind.i64.wrap ((s:Int)*wdF z)=(s:Int)*wdF z:=by rw[IntKind.wrap_i64]; omega
 have hwq:IntKind.i64.wrap (wdF z)=wdF z:=by rw[IntKind.wrap_i64]; omega
 generalize getI d.data.toList ((s:Int)*wdF z) (wdF z)=gv at *;generalize wdF z=q at *;have HWM:=hid hwm;have HWQ:=hid hwq;have HDV:=hid hdiv;generalize hm:(s:Int)*q=mm at *;have HMM:=hid hm;clear hwm hwq hdiv hmul hbd hor hz hw hd hs hm;go_enter Tryz.func39,Tryz.ntmps39
 go_wp2_with fail
 refine (HL.out _).mono ?_;rintro e w2 ⟨rfl,hb2⟩;have HB2:=hid (HB0.out.trans (hb2.mono HB0.out.size));have hr2:=(hb2.block _ (z00 HR0.out)).trans HR0.out
 have q0:w2.drew.cell? ⟨w.heap.size,0,none⟩=some (.int .i64 z):=by show w2.cell? _=_; rw[cell_of_row _ _ _ _ _ _ hr2]; rfl
 have q2:w2.drew.cell? ⟨w.heap.size,2,none⟩=some (.int .i64 el):=by show w2.cell? _=_; rw[cell_of_row _ _ _ _ _ _ hr2]; rfl
 clear hb2 hr2;have hdv:=HDV.out;have hwq:=HWQ.out
 go_wp2_with fail
 clear hdv hwq;have hmm:=HMM.out;have hwm:=HWM.out
 go_region_with (go_at_call 65; refine (HS.out _).mono ?_; rintro e w3 ⟨rfl,rfl⟩)
 all_goals
  clear hmm hwm;go_wp2;go_ret;exact ⟨by rw[HX.out]; rfl,HB2.out.drew⟩
end Go.Proofs.YtblcibgphccfkaaGreatDoor
