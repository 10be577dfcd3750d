/- Texts of the proof of the law FnRecordCanon, side by side: part 9. -/
import Derived.Test.YtblcibgphccfkaaGreatDoorMRecordCanon08
set_option maxHeartbeats 8000000
set_option maxRecDepth 100000
open Go.Lib (hid)
namespace Go.Proofs.YtblcibgphccfkaaGreatDoor
open Go.RowKit
def numV (z:Int):Value:= .agg #[.int .i64 z,.int .i64 0,.string ⟨#[]⟩,.slice none 0 0,.int .i64 0,.int .i64 0,.slice none 0 0]
theorem ze5 (n:Nd)(h:Hd)(at_ k:Int)(b:Nat)(w:World)(hd:n.data.size≤maxLen)(hk:w.heap[b]? =some (.cells #[.int .i64 k] 3 (0,0)))(h0:0≤at_)(h1:at_≤10000)(k0:0≤k)(k1:k≤8) :
 Calls Tryz.prog 127 #[.agg #[.int .i64 n.kind,.string n.data,.slice h.A n.ptrs.length h.a,.int .i64 n.size,.int .i64 n.count,.slice h.B n.items.length h.b],.int .i64 at_,.pointer (some ⟨b,0,none⟩)] w fun e w'=>e= .returned (numV (getI n.data.data.toList (at_*k) k))∧Below w.heap.size w w':=by
 have hax:(w.alloc (.cells #[.int .i64 n.kind,.string n.data,.slice h.A n.ptrs.length h.a,.int .i64 n.size,.int .i64 n.count,.slice h.B n.items.length h.b] nodeT)).heap.size=w.heap.size+1:=by simp
 have hbx:Below w.heap.size w ((w.alloc (.cells #[.int .i64 n.kind,.string n.data,.slice h.A n.ptrs.length h.a,.int .i64 n.size,.int .i64 n.count,.slice h.B n.items.length h.b] nodeT)).alloc (.cells #[.int .i64 0,.int .i64 0,.string { data:= #[] },.slice none 0 0,.int .i64 0,.int .i64 0,.slice none 0 0] valT)):=((Below.refl _ _).alloc (Nat.le_refl _) _).alloc (by simp) _;have hg0:((w.alloc (.cells #[.int .i64 n.kind,.string n.data,.slice h.A n.ptrs.length h.a,.int .i64 n.size,.int .i64 n.count,.slice h.B n.items.length h.b] nodeT)).alloc (.cells #[.int .i64 0,.int .i64 0,.string { data:= #[] },.slice none 0 0,.int .i64 0,.int .i64 0,.slice none 0 0] valT)).heap[w.heap.size]? =some (.cells #[.int .i64 n.kind,.string n.data,.slice h.A n.ptrs.length h.a,.int .i64 n.size,.int .i64 n.count,.slice h.B n.items.length h.b] nodeT (0,0)):=z02 (heap_alloc_new w _) _;have hg1:((w.alloc (.cells #[.int .i64 n.kind,.string n.data,.slice h.A n.ptrs.length h.a,.int .i64 n.size,.int .i64 n.count,.slice h.B n.items.length h.b] nodeT)).alloc (.cells #[.int .i64 0,.int .i64 0,.string { data:= #[] },.slice none 0 0,.int .i64 0,.int .i64 0,.slice none 0 0] valT)).heap[w.heap.size+1]? =some (.cells #[.int .i64 0,.int .i64 0,.string { data:= #[] },.slice none 0 0,.int .i64 0,.int .i64 0,.slice none 0 0] valT (0,0)):=hax ▸ heap_alloc_new _ _;have hbk:=(hbx.block b (z00 hk)).trans hk
 have hbc:=(show ((w.alloc (.cells #[.int .i64 n.kind,.string n.data,.slice h.A n.ptrs.length h.a,.int .i64 n.size,.int .i64 n.count,.slice h.B n.items.length h.b] nodeT)).alloc (.cells #[.int .i64 0,.int .i64 0,.string { data:= #[] },.slice none 0 0,.int .i64 0,.int .i64 0,.slice none 0 0] valT)).cell? ⟨b,0,none⟩=some (.int .i64 k) by rw[cell_of_row _ _ _ _ _ _ hbk]; rfl)
 obtain ⟨a0,a1,a2,a3,a4,a5⟩:=z04 hg0;have HB0:=hid hbx;have HG1:=hid hg1
 have HW:Hid (wrap64 (at_*k)=at_*k):=hid (by
  have h2:0≤at_*k:=Int.mul_nonneg h0 k0;have h3:at_*k≤10000*8:=Int.mul_le_mul h1 k1 k0 (by decide);generalize at_*k=x at *;unfold wrap64
  omega)
 clear hbx hg0 hg1 hbk hax hk;go_enter Tryz.func127,Tryz.ntmps127
 go_wp2_with fail
 rw[HW.out];clear a0 a1 a2 a3 a4 a5 hbc;generalize ((w.alloc (.cells #[.int .i64 n.kind,.string n.data,.slice h.A n.ptrs.length h.a,.int .i64 n.size,.int .i64 n.count,.slice h.B n.items.length h.b] nodeT)).alloc (.cells #[.int .i64 0,.int .i64 0,.string { data:= #[] },.slice none 0 0,.int .i64 0,.int .i64 0,.slice none 0 0] valT))=W at *;refine (zco n.data (at_*k) k W hd).mono ?_;rintro e w2 ⟨rfl,hb2⟩;have hs:=HB0.out.size;have HB2:=hid (HB0.out.trans (hb2.mono hs));have hr:=(hb2.block _ (z00 HG1.out)).trans HG1.out;have HR:=hid hr;obtain ⟨z0,z1,z2,z3,z4,z5,z6⟩:=zao hr;have zf:=z03 hr
 obtain ⟨gv,hgv⟩:∃gv,getI n.data.data.toList (at_*k) k=gv:=⟨_,rfl⟩
 have HGV:=hid hgv;rw[hgv];clear hgv;clear hb2 hr
 go_wp2_with fail
 obtain ⟨wf,hwf,hrw,hbf, -, -⟩:=fin7 (R:=w.heap.size) (.int .i64 gv) (.int .i64 0) (.string ⟨#[]⟩) (.slice none 0 0) (.int .i64 0) (.int .i64 0) (.slice none 0 0) HR.out HB2.out (by omega);rw[hwf];obtain ⟨e0,e1,e2,e3,e4,e5,e6⟩:=zao hrw;exact bodyPost_ret (v:=numV gv) (by simp[results,Tryz.results127,go_sem,numV,e0,e1,e2,e3,e4,e5,e6]) rfl ⟨by rw[HGV.out],hbf⟩
open Go.RowKit Go.Deep
def NRowC (w:World)(B:Nat)(v:Value)(q:List (Nd×Hd))(M T:Nat):Prop :=
 w.ownsRow B nodeT 6 v q.length (rowOf q)∧∀r∈q,NdAt w (fun k=>FromC w B k∧some k≠v.ownBlock) M r.1 r.2∧totN M r.1≤T
theorem NRowC.nil (w:World)(B M T:Nat):NRowC w B (.slice none 0 0) [] M T:=⟨World.ownsRow_nil _ _ _ _,fun r h=>by cases h⟩
theorem NRowC.picked {w w':World}{B M T R n:Nat}{v:Value}{q:List (Nd×Hd)}(h:NRowC w B v q M T)(hp:z0e w R n w')(hR:R<B):NRowC w' B v q M T :=
 ⟨z8l h.1 hp hR,fun r hr=>⟨(h.2 r hr).1.map' (fun k hk hs=>⟨⟨hs.1.1,z5q hs.1.2 (hp.2.block k hk (by have:=hs.1.1; omega))⟩,hs.2⟩) (fun p _ _ hs hc=>hc.block (hp.2.block _ hc.lt (by have:=hs.1.1; omega))),(h.2 r hr).2⟩⟩
theorem NRowC.store {w:World}{B M T g i:Nat}{u v:Value}{q:List (Nd×Hd)}(h:NRowC w B v q M T)(hg:g<B):NRowC (w.setCell ⟨g,i,none⟩ u) B v q M T :=
 ⟨ownsRow_setCell_below h.1 hg u,fun r hr=>⟨(h.2 r hr).1.map' (fun k hk hs=>⟨⟨hs.1.1,zi4 hs.1.2 _ _⟩,hs.2⟩) (fun p _ _ hs hc=>hc.block (Below.heap_setCell w ⟨g,i,none⟩ u _ (by have:=hs.1.1; show p.block≠g; omega))),(h.2 r hr).2⟩⟩
theorem NRowC.drew {w:World}{B M T:Nat}{v:Value}{q:List (Nd×Hd)}(h:NRowC w B v q M T):NRowC w.drew B v q M T :=
 ⟨h.1.drew,fun r hr=>⟨(h.2 r hr).1.below ⟨rfl,rfl,rfl,Nat.le_refl _,fun _ _=>rfl⟩,(h.2 r hr).2⟩⟩
theorem NRowC.low {w w':World}{B M T:Nat}{v:Value}{q:List (Nd×Hd)}(h:NRowC w B v q M T)(hb:Below w.heap.size w w'):NRowC w' B v q M T :=
 ⟨h.1.kept (row:=none) ⟨hb.os,hb.tape,hb.output,hb.size,fun k hk _=>hb.block k hk⟩ (by
  by_cases hv:v.ownBlock=none
  · exact .inl hv
  · exact .inr (fun e=>hv e)),fun r hr=>⟨((h.2 r hr).1.below hb).weak (fun k hs=>⟨⟨hs.1.1,z5p hs.1.2 hb⟩,hs.2⟩),(h.2 r hr).2⟩⟩
theorem NRowC.alloc {w:World}{B M T:Nat}{v:Value}{q:List (Nd×Hd)}(h:NRowC w B v q M T)(o:Obj):NRowC (w.alloc o) B v q M T:=h.low ((Below.refl _ _).alloc (Nat.le_refl _) o)
theorem NRowC.next {w3 w4:World}{B H M T:Nat}{v v':Value}{q:List (Nd×Hd)}{y:Nd}{hy:Hd}(h:NRowC w3 B v q M T)(hny:NdAt w3 (FromC w3 H) M y hy)(hty:totN M y≤T)(hBH:B≤H)(hvH:∀k,v.ownBlock=some k→k<H)
 (hown:w4.ownsRow B nodeT 6 v' (q.length+1) (rowOf q++rowOf [(y,hy)])) (hgrow:w3.grownBy w4 v.ownBlock) (hat:v'.ownBlock=v.ownBlock∨v'.ownBlock=some w3.heap.size):NRowC w4 B v' (q++ [(y,hy)]) M T:=by
 have hS:∀k,k<w3.heap.size→(FromC w3 B k∧some k≠v.ownBlock)→(FromC w4 B k∧some k≠v'.ownBlock):=fun k hk ⟨h1,h2⟩=>⟨⟨h1.1,z5q h1.2 (hgrow.block k hk h2)⟩,by
  rcases hat with h | h
  · rw[h]; exact h2
  · rw[h]; intro e; injection e with e; omega⟩
 refine ⟨by rw[List.length_append,z4m]; exact hown,fun r hr=>?_⟩
 rcases List.mem_append.1 hr with hr | hr
 · exact ⟨(h.2 r hr).1.map' hS (fun p _ _ hs hc=>hc.block (hgrow.block _ hc.lt hs.2)),(h.2 r hr).2⟩
 · obtain rfl:=List.mem_singleton.1 hr
   have h1:NdAt w3 (fun k=>FromC w3 B k∧some k≠v.ownBlock) M y hy:=hny.weak (fun k hk=>⟨⟨Nat.le_trans hBH hk.1,hk.2⟩,fun e=>by have:=hvH k e.symm; have:=hk.1; omega⟩);exact ⟨h1.map' hS (fun p _ _ hs hc=>hc.block (hgrow.block _ hc.lt hs.2)),hty⟩
theorem NRowC.nds {w:World}{B M T:Nat}{v:Value}{q:List (Nd×Hd)}(h:NRowC w B v q M T)(hq:q.length≤1000000):∃A cap,v= .slice A q.length cap∧NdsAt w (FromC w B) (M+1) A (q.map (·.1))∧totL (M+1) (q.map (·.1))≤q.length*(1+T):=by
 obtain ⟨A,cap,hv,hn⟩:=zdg h.1 (by unfold maxLen; omega) (fun r hr=>(h.2 r hr).1.weak (fun _ h=>h.1));refine ⟨A,cap,hv,hn,?_⟩;rw[z0v]
 have:∀q:List (Nd×Hd),(∀r∈q,totN M r.1≤T)→((q.map (·.1)).map fun n=>1+totN M n).sum≤q.length*(1+T):=by
  intro q
  induction q with
  | nil=>intro _; simp
  | cons a t ih =>
   intro hq
   have h1:=hq a List.mem_cons_self;have h2:=ih (fun r hr=>hq r (List.mem_cons_of_mem _ hr))
   simp only[List.map_cons,List.sum_cons,List.length_cons,Nat.add_mul]
   omega
 exact this q (fun r hr=>(h.2 r hr).2)
end Go.Proofs.YtblcibgphccfkaaGreatDoor
namespace Go.Proofs.YtblcibgphccfkaaGreatDoor
open Go.RowKit
def blk:Option Addr→List Nat
 | none=> []
 | some a=> [a.block]
abbrev NB:=Nd×Hd×List Nat
def rowB (q:List NB):List Value:=rowOf (q.map fun r=>(r.1,r.2.1))
def blkB (q:List NB):List Nat:=q.flatMap fun r=>r.2.2
def OwS (w:World):Nat→Option Addr→Nat→List Nd→List Nat→Prop
 | 0,A,c,l,bs=>l= []∧w.ownsRow 0 nodeT 6 (.slice A 0 c) 0 []∧bs=blk A
 | m+1,A,c,l,bs=>∃q:List NB,q.map (·.1)=l∧w.ownsRow 0 nodeT 6 (.slice A q.length c) q.length (rowB q)∧bs=blk A++blkB q ∧
    ∀r∈q,r.1.data.size≤maxLen∧∃b1 b2,r.2.2=b1++b2∧OwS w m r.2.1.A r.2.1.a r.1.ptrs b1∧OwS w m r.2.1.B r.2.1.b r.1.items b2
def OwN (w:World)(m:Nat)(n:Nd)(h:Hd)(bs:List Nat):Prop:=n.data.size≤maxLen∧∃b1 b2,bs=b1++b2∧OwS w m h.A h.a n.ptrs b1∧OwS w m h.B h.b n.items b2
theorem z3d {w:World}{B n k c:Nat}{A:Option Addr}{xs:List Value}(h:w.ownsRow B nodeT 6 (.slice A n c) k xs):(A=none∧n=0∧c=0∧k=0)∨∃g cur,A=some ⟨g,0,none⟩∧n=k∧B≤g∧w.heap[g]? =some (.cells cur nodeT (0,0))∧k≤c∧c≤maxLen∧cur.size=c*6∧cur.toList.take (k*6)=xs:=by
 rcases h.2 with ⟨hv,h0⟩ | ⟨g,cap,cur,hv,h1,h2,h3,h4,h5,h6⟩
 · injection hv with a b c
   exact .inl ⟨a,b,c,h0⟩
 · injection hv with a b c
   subst a b c;exact .inr ⟨g,cur,rfl,rfl,h1,h2,h3,h4,h5,h6⟩
theorem z8r {w w':World}{n k c:Nat}{A:Option Addr}{xs:List Value}(h:w.ownsRow 0 nodeT 6 (.slice A n c) k xs)(hb:∀b∈blk A,w'.heap[b]? =w.heap[b]?):w'.ownsRow 0 nodeT 6 (.slice A n c) k xs:=by
 refine ⟨h.1,?_⟩
 rcases h.2 with hv | ⟨g,cap,cur,hv,h1,h2,h3⟩
 · exact .inl hv
 · refine .inr ⟨g,cap,cur,hv,h1,?_,h3⟩
   injection hv with a
   rw[hb g (by rw[a]; exact List.mem_singleton.2 rfl)];exact h2
theorem OwS.frame {w w':World} :∀(m:Nat) (A:Option Addr) (c:Nat) (l:List Nd) (bs:List Nat),OwS w m A c l bs→(∀b∈bs,w'.heap[b]? =w.heap[b]?)→OwS w' m A c l bs
 | 0,A,c,l,bs,⟨hl,ho,hb⟩,hf=>⟨hl,z8r ho (fun b hm=>hf b (by rw[hb]; exact hm)),hb⟩
 | m+1,A,c,l,bs,⟨q,hq,ho,hb,hr⟩,hf=>by
   refine ⟨q,hq,z8r ho (fun b hm=>hf b (by rw[hb]; exact List.mem_append_left _ hm)),hb,fun r hm=>?_⟩;obtain ⟨h0,b1,b2,he,h1,h2⟩:=hr r hm
   have hsub:∀b∈r.2.2,w'.heap[b]? =w.heap[b]? :=fun b hbm=>hf b (by rw[hb]; exact List.mem_append_right _ (List.mem_flatMap.2 ⟨r,hm,hbm⟩))
   exact ⟨h0,b1,b2,he,OwS.frame m _ _ _ _ h1 (fun b hbm=>hsub b (by rw[he]; exact List.mem_append_left _ hbm)),OwS.frame m _ _ _ _ h2 (fun b hbm=>hsub b (by rw[he]; exact List.mem_append_right _ hbm))⟩
theorem OwN.frame {w w':World}{m:Nat}{n:Nd}{h:Hd}{bs:List Nat}(hn:OwN w m n h bs)(hf:∀b∈bs,w'.heap[b]? =w.heap[b]?):OwN w' m n h bs:=by
 obtain ⟨h0,b1,b2,he,h1,h2⟩:=hn;exact ⟨h0,b1,b2,he,OwS.frame m _ _ _ _ h1 (fun b hbm=>hf b (by rw[he]; exact List.mem_append_left _ hbm)),OwS.frame m _ _ _ _ h2 (fun b hbm=>hf b (by rw[he]; exact List.mem_append_right _ hbm))⟩
theorem zly {w:World}{n k c:Nat}{A:Option Addr}{xs:List Value}(h:w.ownsRow 0 nodeT 6 (.slice A n c) k xs):∀b∈blk A,b<w.heap.size∧Clean w b:=by
 intro b hb
 rcases z3d h with ⟨rfl,_⟩ | ⟨g,cur,rfl,_,_,hg,_⟩
 · cases hb
 · obtain rfl:=List.mem_singleton.1 hb
   exact ⟨z00 hg,_,_,hg⟩
theorem OwS.lt {w:World} :∀(m:Nat) (A:Option Addr) (c:Nat) (l:List Nd) (bs:List Nat),OwS w m A c l bs→∀b∈bs,b<w.heap.size∧Clean w b
 | 0,A,c,l,bs,⟨hl,ho,hb⟩=>by rw[hb]; exact zly ho
 | m+1,A,c,l,bs,⟨q,hq,ho,hb,hr⟩=>by
   rw[hb]
   intro b hm
   rcases List.mem_append.1 hm with hm | hm
   · exact zly ho b hm
   · obtain ⟨r,hrm,hbr⟩:=List.mem_flatMap.1 hm
     obtain ⟨_,b1,b2,he,h1,h2⟩:=hr r hrm
     have hbr':b∈b1++b2:=by rw[← he]; exact hbr
     rcases List.mem_append.1 hbr' with hbr' | hbr'
     · exact OwS.lt m _ _ _ _ h1 b hbr'
     · exact OwS.lt m _ _ _ _ h2 b hbr'
theorem OwN.lt {w:World}{m:Nat}{n:Nd}{h:Hd}{bs:List Nat}(hn:OwN w m n h bs):∀b∈bs,b<w.heap.size∧Clean w b:=by
 obtain ⟨_,b1,b2,he,h1,h2⟩:=hn
 intro b hb
 rw[he] at hb
 rcases List.mem_append.1 hb with hb | hb
 · exact h1.lt _ _ _ _ _ b hb
 · exact h2.lt _ _ _ _ _ b hb
theorem OwS.nil (w:World):∀m,OwS w m none 0 [] []
 | 0=>⟨rfl,World.ownsRow_nil _ _ _ _,rfl⟩
 | m+1=>⟨[],rfl,World.ownsRow_nil _ _ _ _,rfl,fun r h=>by cases h⟩
theorem OwN.none (w:World)(m:Nat):OwN w m (.mk 0 ⟨#[]⟩ [] 0 0 []) ⟨none,0,none,0⟩ []:=⟨by decide,[],[],rfl,OwS.nil w m,OwS.nil w m⟩
theorem OwS.succ {w:World} :∀(m:Nat) (A:Option Addr) (c:Nat) (l:List Nd) (bs:List Nat),OwS w m A c l bs→OwS w (m+1) A c l bs
 | 0,A,c,l,bs,⟨hl,ho,hb⟩=>⟨[],by rw[hl]; rfl,ho,by rw[hb]; simp[blkB],fun r h=>by cases h⟩
 | m+1,A,c,l,bs,⟨q,hq,ho,hb,hr⟩=>⟨q,hq,ho,hb,fun r hm=>by
   obtain ⟨h0,b1,b2,he,h1,h2⟩:=hr r hm
   exact ⟨h0,b1,b2,he,OwS.succ m _ _ _ _ h1,OwS.succ m _ _ _ _ h2⟩⟩
theorem OwN.succ {w:World}{m:Nat}{n:Nd}{h:Hd}{bs:List Nat}(hn:OwN w m n h bs):OwN w (m+1) n h bs:=by
 obtain ⟨h0,b1,b2,he,h1,h2⟩:=hn;exact ⟨h0,b1,b2,he,h1.succ _ _ _ _ _,h2.succ _ _ _ _ _⟩
def InB (w:World)(bs:List Nat):Nat→Prop:=fun k=>k∈bs∧Clean w k
theorem zmp {w:World}{n k c:Nat}{A:Option Addr}{xs:List Value}(h:w.ownsRow 0 nodeT 6 (.slice A n c) k xs):k≤maxLen:=by
 rcases z3d h with ⟨_,_,_,h0⟩ | ⟨_,_,_,_,_,_,h1,h2,_⟩
 · omega
 · omega
theorem OwS.nds {w:World} :∀(m:Nat) (A:Option Addr) (c:Nat) (l:List Nd) (bs:List Nat),OwS w m A c l bs→NdsAt w (InB w bs) m A l
 | 0,A,c,l,bs,⟨hl,_,_⟩=>hl
 | m+1,A,c,l,bs,⟨q,hq,ho,hb,hr⟩=>by
   have hlen:=zmp ho;refine ⟨by rw[← hq,List.length_map]; exact hlen,q.map fun r=>(r.1,r.2.1),by rw[List.map_map]; exact hq,?_,fun r hm=>?_⟩
   · rcases z3d ho with ⟨_,h0,_⟩ | ⟨g,cur,hA,_,_,hg,h3,h4,h5,h6⟩
     · left
       rw[List.eq_nil_of_length_eq_zero h0]; rfl
     · right
       refine ⟨⟨g,0,Option.none⟩,hA,⟨by rw[hb,hA]; exact List.mem_append_left _ (List.mem_singleton.2 rfl),_,_,hg⟩,z7e fun j u hj=>?_⟩;rw[z2h,cell_of_row _ _ _ _ _ _ hg]
       have hj':(cur.toList.take (q.length*6))[j]? =some u:=by rw[h6]; exact hj
       have hlt:j<q.length*6:=by
        rcases Nat.lt_or_ge j (q.length*6) with h | h
        · exact h
        · rw[List.getElem?_eq_none (by rw[List.length_take]; omega)] at hj'; cases hj'
       rw[List.getElem?_take_of_lt hlt] at hj'
       simpa using hj'
   · obtain ⟨r0,hr0,rfl⟩:=List.mem_map.1 hm
     obtain ⟨h0,b1,b2,he,h1,h2⟩:=hr r0 hr0
     have hsub:∀b∈r0.2.2,b∈bs:=fun b hbm=>by rw[hb]; exact List.mem_append_right _ (List.mem_flatMap.2 ⟨r0,hr0,hbm⟩)
     exact ⟨h0,(OwS.nds m _ _ _ _ h1).weak (fun k hk=>⟨hsub k (by rw[he]; exact List.mem_append_left _ hk.1),hk.2⟩),(OwS.nds m _ _ _ _ h2).weak (fun k hk=>⟨hsub k (by rw[he]; exact List.mem_append_right _ hk.1),hk.2⟩)⟩
theorem OwN.nd {w:World}{m:Nat}{n:Nd}{h:Hd}{bs:List Nat}(hn:OwN w m n h bs):NdAt w (InB w bs) m n h:=by
 obtain ⟨h0,b1,b2,he,h1,h2⟩:=hn;exact ⟨h0,(h1.nds _ _ _ _ _).weak (fun k hk=>⟨by rw[he]; exact List.mem_append_left _ hk.1,hk.2⟩),(h2.nds _ _ _ _ _).weak (fun k hk=>⟨by rw[he]; exact List.mem_append_right _ hk.1,hk.2⟩)⟩
def RowO (w:World)(B:Nat)(v:Value)(q:List NB)(M:Nat):Prop :=
 w.ownsRow B nodeT 6 v q.length (rowB q)∧(∀r∈q,OwN w M r.1 r.2.1 r.2.2)∧(blkB q).Nodup∧∀b∈blkB q,B≤b∧some b≠v.ownBlock
theorem RowO.nil (w:World)(B M:Nat):RowO w B (.slice none 0 0) [] M:=⟨World.ownsRow_nil _ _ _ _,fun r h=>(by cases h),List.nodup_nil,fun b h=>(by cases h)⟩
theorem RowO.lt {w:World}{B M:Nat}{v:Value}{q:List NB}(h:RowO w B v q M):∀b∈blkB q,b<w.heap.size:=by
 intro b hb
 obtain ⟨r,hr,hbr⟩:=List.mem_flatMap.1 hb;exact ((h.2.1 r hr).lt b hbr).1
theorem RowO.low {w w':World}{B M:Nat}{v:Value}{q:List NB}(h:RowO w B v q M)(hb:Below w.heap.size w w'):RowO w' B v q M :=
 ⟨h.1.kept (row:=none) ⟨hb.os,hb.tape,hb.output,hb.size,fun k hk _=>hb.block k hk⟩ (by
  by_cases hv:v.ownBlock=none
  · exact .inl hv
  · exact .inr (fun e=>hv e)),fun r hr=>(h.2.1 r hr).frame (fun b hbr=>hb.block b ((h.2.1 r hr).lt b hbr).1),h.2.2⟩
theorem RowO.drew {w:World}{B M:Nat}{v:Value}{q:List NB}(h:RowO w B v q M):RowO w.drew B v q M:=⟨h.1.drew,fun r hr=>(h.2.1 r hr).frame (fun _ _=>rfl),h.2.2⟩
theorem RowO.alloc {w:World}{B M:Nat}{v:Value}{q:List NB}(h:RowO w B v q M)(o:Obj):RowO (w.alloc o) B v q M:=h.low ((Below.refl _ _).alloc (Nat.le_refl _) o)
theorem RowO.store {w:World}{B M g i:Nat}{u v:Value}{q:List NB}(h:RowO w B v q M)(hg:g<B):RowO (w.setCell ⟨g,i,none⟩ u) B v q M :=
 ⟨ownsRow_setCell_below h.1 hg u,fun r hr=>(h.2.1 r hr).frame (fun b hbr=>Below.heap_setCell w ⟨g,i,none⟩ u b (by have:=(h.2.2.2 b (List.mem_flatMap.2 ⟨r,hr,hbr⟩)).1; show b≠g; omega)),h.2.2⟩
theorem zbk (q:List NB)(r:NB):blkB (q++ [r])=blkB q++r.2.2:=by unfold blkB; simp
theorem zi0 (q:List NB)(r:NB):rowB (q++ [r])=rowB q++rowOf [(r.1,r.2.1)]:=by unfold rowB; rw[List.map_append,z4m]; rfl
theorem RowO.next {w3 w4:World}{B H M:Nat}{v v':Value}{q:List NB}{y:Nd}{hy:Hd}{bs:List Nat}(h:RowO w3 B v q M)(hny:OwN w3 M y hy bs)(hnd:bs.Nodup)(hbs:∀b∈bs,H≤b)(hBH:B≤H)(hqH:∀b∈blkB q,b<H)(hvH:∀k,v.ownBlock=some k→k<H)
 (hown:w4.ownsRow B nodeT 6 v' (q.length+1) (rowB q++rowOf [(y,hy)])) (hgrow:w3.grownBy w4 v.ownBlock) (hat:v'.ownBlock=v.ownBlock∨v'.ownBlock=some w3.heap.size):RowO w4 B v' (q++ [(y,hy,bs)]) M:=by
 have hk:∀b,b<w3.heap.size→some b≠v.ownBlock→w4.heap[b]? =w3.heap[b]? ∧some b≠v'.ownBlock:=fun b h1 h2=>⟨hgrow.block b h1 h2,by
  rcases hat with e | e
  · rw[e]; exact h2
  · rw[e]; intro e2; injection e2 with e2; omega⟩
 have hy':∀b∈bs,b<w3.heap.size∧some b≠v.ownBlock:=fun b hb=>⟨(hny.lt b hb).1,fun e=>by have:=hvH b e.symm; have:=hbs b hb; omega⟩
 refine ⟨by rw[List.length_append,zi0]; exact hown,fun r hr=>?_,?_,?_⟩
 · rcases List.mem_append.1 hr with hr | hr
   · exact (h.2.1 r hr).frame (fun b hb=>(hk b (((h.2.1 r hr).lt b hb).1) (h.2.2.2 b (List.mem_flatMap.2 ⟨r,hr,hb⟩)).2).1)
   · obtain rfl:=List.mem_singleton.1 hr
     exact hny.frame (fun b hb=>(hk b (hy' b hb).1 (hy' b hb).2).1)
 · rw[zbk]
   exact List.nodup_append.2 ⟨h.2.2.1,hnd,fun a ha b hb e=>by have:=hqH a ha; have:=hbs b hb; omega⟩
 · intro b hb
   rw[zbk] at hb
   rcases List.mem_append.1 hb with hb | hb
   · exact ⟨(h.2.2.2 b hb).1,(hk b (h.lt b hb) (h.2.2.2 b hb).2).2⟩
   · exact ⟨Nat.le_trans hBH (hbs b hb),(hk b (hy' b hb).1 (hy' b hb).2).2⟩
theorem zl8 {w:World}{B:Nat}{v:Value}{n:Nat}{xs:List Value}(h:w.ownsRow B nodeT 6 v n xs):w.ownsRow 0 nodeT 6 v n xs:=by
 refine ⟨h.1,?_⟩
 rcases h.2 with hv | ⟨g,cap,cur,hv,_,h3⟩
 · exact .inl hv
 · exact .inr ⟨g,cap,cur,hv,Nat.zero_le _,h3⟩
theorem RowO.done {w:World}{B M:Nat}{v:Value}{q:List NB}(h:RowO w B v q M):∃A c bs,v= .slice A q.length c∧OwS w (M+1) A c (q.map (·.1)) bs∧bs.Nodup∧∀b∈bs,B≤b:=by
 have hv:∃A c,v= .slice A q.length c:=by
  rcases h.1.2 with ⟨h1,h0⟩ | ⟨g,cap,cur,h1,_⟩
  · exact ⟨none,0,by rw[h1,h0]⟩
  · exact ⟨_,_,h1⟩
 obtain ⟨A,c,rfl⟩:=hv;refine ⟨A,c,blk A++blkB q,rfl,⟨q,rfl,zl8 h.1,rfl,fun r hr=>h.2.1 r hr⟩,?_,?_⟩
 · refine List.nodup_append.2 ⟨?_,h.2.2.1,fun a ha b hb e=>?_⟩
   · cases A with
     | none=>exact List.nodup_nil
     | some x=>exact List.nodup_cons.2 ⟨by simp,List.nodup_nil⟩
   · cases A with
     | none=>cases ha
     | some x =>
      obtain rfl:=List.mem_singleton.1 ha;exact (h.2.2.2 b hb).2 (by rw[← e]; rfl)
 · intro b hb
   rcases List.mem_append.1 hb with hb | hb
   · rcases z3d h.1 with ⟨rfl,_⟩ | ⟨g,cur,rfl,_,hg,_⟩
     · cases hb
     · obtain rfl:=List.mem_singleton.1 hb; exact hg
   · exact (h.2.2.2 b hb).1
def NewO (m:Nat)(n:Nd)(w:World)(e:Ending)(w':World):Prop:=∃(h:Hd) (bs:List Nat),e= .returned (.agg #[.int .i64 n.kind,.string n.data,.slice h.A n.ptrs.length h.a,.int .i64 n.size,.int .i64 n.count,.slice h.B n.items.length h.b])∧OwN w' m n h bs∧bs.Nodup∧(∀b∈bs,w.heap.size≤b)∧Below w.heap.size w w'
def NewOS (m:Nat)(l:List Nd)(w:World)(e:Ending)(w':World):Prop:=∃(A:Option Addr) (c:Nat) (bs:List Nat),e= .returned (.slice A l.length c)∧OwS w' m A c l bs∧bs.Nodup∧(∀b∈bs,w.heap.size≤b)∧Below w.heap.size w w'
theorem OwN.below {w w':World}{m:Nat}{n:Nd}{h:Hd}{bs:List Nat}(hn:OwN w m n h bs)(hb:Below w.heap.size w w'):OwN w' m n h bs:=hn.frame (fun b hm=>hb.block b (hn.lt b hm).1)
theorem OwS.below {w w':World}{m:Nat}{A:Option Addr}{c:Nat}{l:List Nd}{bs:List Nat}(hn:OwS w m A c l bs)(hb:Below w.heap.size w w'):OwS w' m A c l bs:=hn.frame _ _ _ _ _ (fun b hm=>hb.block b (hn.lt _ _ _ _ _ b hm).1)
theorem OwN.clean {w:World}{m:Nat}{n:Nd}{h:Hd}{bs:List Nat}(hn:OwN w m n h bs):NdAt w (Clean w) m n h:=hn.nd.weak (fun _ hk=>hk.2)
theorem z0j (w:World)(o:Obj):(w.alloc o).heap.size=w.heap.size+1∧Below w.heap.size w (w.alloc o):=⟨by simp,(Below.refl _ _).alloc (Nat.le_refl _) _⟩
theorem z0m {w W:World}{n:Nat}(h:W.heap.size=w.heap.size+n∧Below w.heap.size w W)(o:Obj):(W.alloc o).heap.size=w.heap.size+(n+1)∧Below w.heap.size w (W.alloc o):=⟨by simp; omega,h.2.alloc (by omega) _⟩
theorem z0s {w W:World}{n:Nat}(h:W.heap.size=w.heap.size+n∧Below w.heap.size w W)(a:Array Value)(T:TypeId):(W.alloc (.cells a T)).heap[w.heap.size+n]? =some (.cells a T (0,0)):=by
 rw[← h.1];exact heap_alloc_new _ _
open Go.RowKit Go.Deep
abbrev valV (x:Int)(y:Nd)(h:Hd):Value:= .agg #[.int .i64 x,.int .i64 y.kind,.string y.data,.slice h.A y.ptrs.length h.a,.int .i64 y.size,.int .i64 y.count,.slice h.B y.items.length h.b]
def z0x (m:Nat)(x:Int)(y:Nd)(b:Bool)(w:World)(e:Ending)(w':World):Prop:=∃(h:Hd) (bs:List Nat),e= .returned (.tuple #[.agg #[.int .i64 x,.int .i64 y.kind,.string y.data,.slice h.A y.ptrs.length h.a,.int .i64 y.size,.int .i64 y.count,.slice h.B y.items.length h.b],.bool b])∧OwN w' m y h bs∧bs.Nodup∧(∀b∈bs,w.heap.size≤b)∧Below w.heap.size w w'
theorem z0x.none {m:Nat}{x:Int}{y:Nd}{b:Bool}{w w':World}(hy:y=z07)(hb:Below w.heap.size w w'):z0x m x y b w (.returned (.tuple #[.agg #[.int .i64 x,.int .i64 0,.string { data:= #[] },.slice none 0 0,.int .i64 0,.int .i64 0,.slice none 0 0],.bool b])) w':=by
 subst hy;exact ⟨⟨.none,0,.none,0⟩,[],rfl,OwN.none w' m,List.nodup_nil,fun b hb=>(by cases hb),hb⟩
theorem z09 {w:World}{g:Nat}{v0 v1 v2 v3 v4 v5 v6:Value}{T:TypeId}(h:w.heap[g]? =some (.cells #[v0,v1,v2,v3,v4,v5,v6] T (0,0))) :
 w.cell? ⟨g,0,none⟩=some v0∧w.cell? ⟨g,1,none⟩=some v1∧w.cell? ⟨g,2,none⟩=some v2∧w.cell? ⟨g,3,none⟩=some v3∧w.cell? ⟨g,4,none⟩=some v4∧w.cell? ⟨g,5,none⟩=some v5∧w.cell? ⟨g,6,none⟩=some v6:=by
 refine ⟨?_,?_,?_,?_,?_,?_,?_⟩ <;> (rw[cell_of_row _ _ _ _ _ _ h]; rfl)
theorem finV {w W:World}{g R:Nat}{T:TypeId}{u0 u1 u2 u3 u4 u5 u6:Value}(v0 v1 v2 v3 v4 v5 v6:Value)(hz:W.heap[g]? =some (.cells #[u0,u1,u2,u3,u4,u5,u6] T (0,0)))(hb:Below R w W)(hR:R≤g) :
 ∃wf,(((((((W.setCell ⟨g,0,none⟩ v0).setCell ⟨g,1,none⟩ v1).setCell ⟨g,2,none⟩ v2).setCell ⟨g,3,none⟩ v3).setCell ⟨g,4,none⟩ v4).setCell ⟨g,5,none⟩ v5).setCell ⟨g,6,none⟩ v6)=wf∧wf.heap[g]? =some (.cells #[v0,v1,v2,v3,v4,v5,v6] T (0,0))∧Below R w wf∧∀k,k≠g→wf.heap[k]? =W.heap[k]? :=by
 have hk:∀(V:World) (i:Nat) (v:Value),Below R w V→Below R w (V.setCell ⟨g,i,none⟩ v):=fun V i v hV=>hV.setCell (p:=⟨g,i,none⟩) hR v
 have hn:∀(V:World) (i:Nat) (v:Value) {k:Nat},k≠g→(V.setCell ⟨g,i,none⟩ v).heap[k]? =V.heap[k]? :=fun V i v k h=>Below.heap_setCell V ⟨g,i,none⟩ v k h
 refine ⟨_,rfl,?_,?_,fun k h=>?_⟩
 · exact z06 (z06 (z06 (z06 (z06 (z06 (z06 hz 0 v0) 1 v1) 2 v2) 3 v3) 4 v4) 5 v5) 6 v6
 · exact hk _ _ _ (hk _ _ _ (hk _ _ _ (hk _ _ _ (hk _ _ _ (hk _ _ _ (hk _ _ _ hb))))))
 · rw[hn _ _ _ h,hn _ _ _ h,hn _ _ _ h,hn _ _ _ h,hn _ _ _ h,hn _ _ _ h,hn _ _ _ h]
end Go.Proofs.YtblcibgphccfkaaGreatDoor
