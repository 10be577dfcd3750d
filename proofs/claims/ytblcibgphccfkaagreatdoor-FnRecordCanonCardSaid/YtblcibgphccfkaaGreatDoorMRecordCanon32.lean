/- Texts of the proof of the law FnRecordCanon, side by side: part 32. -/
import Derived.Test.YtblcibgphccfkaaGreatDoorMRecordCanon31
set_option maxHeartbeats 8000000
set_option maxRecDepth 100000
open Go.Lib (hid)
namespace Go.Proofs.YtblcibgphccfkaaGreatDoor
open Go.RowKit Go.Deep
def NewNb (m:Nat)(y:Nd)(b:Bool)(w:World)(e:Ending)(w':World):Prop:=∃(h:Hd) (bs:List Nat),e= .returned (.tuple #[.agg #[.int .i64 y.kind,.string y.data,.slice h.A y.ptrs.length h.a,.int .i64 y.size,.int .i64 y.count,.slice h.B y.items.length h.b],.bool b])∧OwN w' m y h bs∧bs.Nodup∧(∀b∈bs,w.heap.size≤b)∧Below w.heap.size w w'
theorem NewNb.none {m:Nat}{w w':World}(hb:Below w.heap.size w w'):NewNb m z07 false w (.returned (.tuple #[.agg #[.int .i64 0,.string { data:= #[] },.slice none 0 0,.int .i64 0,.int .i64 0,.slice none 0 0],.bool false])) w' :=
 ⟨⟨.none,0,.none,0⟩,[],rfl,OwN.none w' m,List.nodup_nil,fun b hb=>(by cases hb),hb⟩
theorem finN {w W:World}{g R:Nat}{T:TypeId}{u0 u1 u2 u3 u4 u5:Value}(v0 v1 v2 v3 v4 v5:Value)(hz:W.heap[g]? =some (.cells #[u0,u1,u2,u3,u4,u5] T (0,0)))(hb:Below R w W)(hR:R≤g) :
 ∃wf,((((((W.setCell ⟨g,0,none⟩ v0).setCell ⟨g,1,none⟩ v1).setCell ⟨g,2,none⟩ v2).setCell ⟨g,3,none⟩ v3).setCell ⟨g,4,none⟩ v4).setCell ⟨g,5,none⟩ v5)=wf∧wf.heap[g]? =some (.cells #[v0,v1,v2,v3,v4,v5] T (0,0))∧Below R w wf∧∀k,k≠g→wf.heap[k]? =W.heap[k]? :=by
 have hk:∀(V:World) (i:Nat) (v:Value),Below R w V→Below R w (V.setCell ⟨g,i,none⟩ v):=fun V i v hV=>hV.setCell (p:=⟨g,i,none⟩) hR v
 have hn:∀(V:World) (i:Nat) (v:Value) {k:Nat},k≠g→(V.setCell ⟨g,i,none⟩ v).heap[k]? =V.heap[k]? :=fun V i v k h=>Below.heap_setCell V ⟨g,i,none⟩ v k h
 refine ⟨_,rfl,?_,?_,fun k h=>?_⟩
 · exact z06 (z06 (z06 (z06 (z06 (z06 hz 0 v0) 1 v1) 2 v2) 3 v3) 4 v4) 5 v5
 · exact hk _ _ _ (hk _ _ _ (hk _ _ _ (hk _ _ _ (hk _ _ _ (hk _ _ _ hb)))))
 · rw[hn _ _ _ h,hn _ _ _ h,hn _ _ _ h,hn _ _ _ h,hn _ _ _ h,hn _ _ _ h]
theorem zkt (d:List UInt8)(a n:Int):(bputT d a n).length≤d.length:=by
 unfold bputT
 split
 · split
   · unfold z5v; simp
   · exact Nat.le_refl _
 · exact Nat.zero_le _
theorem zo3 (f:Fld)(s:Nat)(n:Int)(d:List UInt8):(wrF f s n d).length≤d.length:=by
 unfold wrF
 split
 · exact zkt _ _ _
 · exact zif _ _ _ _
theorem zm9 (l:List Fld)(k:Nat)(v:Vl)(st:RSt):(setF l k v st).d.length≤st.d.length∧(setF l k v st).p.length=st.p.length:=by
 unfold setF
 split
 · exact ⟨zli l k st.d,by simp⟩
 · exact ⟨Nat.le_trans (zo3 _ _ _ _) (zli l k st.d),rfl⟩
theorem z50 (l:List Fld)(vs:List Vl)(ch:Int):∀k,(fillF l vs ch k).d.length≤8*(layF l ps0).2.ls.words∧(fillF l vs ch k).p.length=(layF l ps0).2.ptrs
 | 0=>by unfold fillF; simp
 | k+1=>by
   obtain ⟨h1,h2⟩:=z50 l vs ch k;unfold fillF
   split
   · obtain ⟨h3,h4⟩:=zm9 l k (vlK vs k) (fillF l vs ch k)
     exact ⟨Nat.le_trans h3 h1,h4.trans h2⟩
   · exact ⟨h1,h2⟩
theorem zdt:∀(p:List Nd) (s:Nat) (y:Nd),sizL (p.set s y)≤sizL p+sizN y
 | [],s,y=>by simp
 | a :: t,0,y=>by rw[List.set_cons_zero,sizL,sizL]; omega
 | a :: t,s+1,y=>by rw[List.set_cons_succ,sizL,sizL]; have:=zdt t s y; omega
def sumV:List Vl→Nat
 | []=>0
 | v :: t=>sizN v.nd+sumV t
theorem zcv:∀(vs:List Vl) (k:Nat),sizN (vlK vs k).nd≤sumV vs
 | [],k=>by show sizN z07≤0; decide
 | v :: t,0=>by show sizN v.nd≤sizN v.nd+sumV t; omega
 | v :: t,k+1=>by have:=zcv t k; show sizN (vlK t k).nd≤sizN v.nd+sumV t; omega
theorem zfc:∀(a b:List Vl),sumV (a++b)=sumV a+sumV b
 | [],b=>by simp[sumV]
 | v :: t,b=>by rw[List.cons_append,sumV,sumV,zfc t b]; omega
theorem zgs (vs:List Vl)(k:Nat):sumV (vs.take (k+1))=sumV (vs.take k)+(if k<vs.length then sizN (vlK vs k).nd else 0):=by
 by_cases h:k<vs.length
 · rw[if_pos h,List.take_succ_eq_append_getElem h,zfc,zed h]
   rfl
 · rw[if_neg h,List.take_of_length_le (by omega),List.take_of_length_le (by omega)]; rfl
theorem zlf (P:Nat):sizL (List.replicate P z07)≤P:=by
 induction P with
 | zero=>simp[sizL]
 | succ P ih=>rw[List.replicate_succ,sizL]; have:sizN z07≤0:=by decide
              omega
theorem zkj (l:List Fld)(k:Nat)(v:Vl)(st:RSt):sizL (setF l k v st).p≤sizL st.p+sizN v.nd:=by
 unfold setF
 split
 · exact zdt _ _ _
 · exact Nat.le_add_right _ _
theorem ze8 (l:List Fld)(vs:List Vl)(ch:Int):∀k,k≤vs.length→sizL (fillF l vs ch k).p≤(layF l ps0).2.ptrs+sumV (vs.take k)
 | 0,_=>by
   have:=zlf (layF l ps0).2.ptrs
   show sizL (List.replicate (layF l ps0).2.ptrs z07)≤_
   omega
 | k+1,hk=>by
   have h1:=ze8 l vs ch k (by omega);have h2:=zkj l k (vlK vs k) (fillF l vs ch k);have h3:=zgs vs k;rw[if_pos (by omega)] at h3
   have e:fillF l vs ch (k+1)=if pickB l k ch=true then setF l k (vlK vs k) (fillF l vs ch k) else fillF l vs ch k:=rfl
   rw[e];generalize fillF l vs ch k=F at *;generalize sizN (vlK vs k).nd=a at *;cases pickB l k ch
   · rw[if_neg (by decide)]; omega
   · rw[if_pos rfl]; omega
theorem zdd (l:List Fld)(vs:List Vl)(ch:Int)(hl:l.length≤12)(hv:sumV vs≤1900000)(hvl:vs.length=l.length):sizN (recN (fillF l vs ch l.length))≤2000000:=by
 have h1:=ze8 l vs ch l.length (by omega);have h2:=(z50 l vs ch l.length).1;obtain ⟨h3,h4⟩:=z24 l;rw[List.take_of_length_le (by omega)] at h1;rw[z2a]
 show (⟨(fillF l vs ch l.length).d.toArray⟩:ByteArray).size+sizL (fillF l vs ch l.length).p+sizL []≤2000000
 rw[ba_sz,z7g];omega
theorem zno:(Tryz.prog.info? valT).map (fun i=>(i.zero,i.size,i.bytes))=some (some (.agg #[.int .i64 0,.int .i64 0,.string ByteArray.empty,.slice none 0 0,.int .i64 0,.int .i64 0,.slice none 0 0]),7,96):=by kernel_rfl
theorem Flds.picked {w w':World}{R n:Nat}{x:Addr}{l:List Fld}(h:Flds w (some x) l)(hp:z0e w R n w')(hne:x.block≠R):Flds w' (some x) l:=by
 rcases h with h | ⟨y,e,hx,hc⟩
 · exact .inl h
 · injection e with e
   subst e;refine .inr ⟨x,rfl,Nat.lt_of_lt_of_le hx hp.2.size,fun k f hk=>?_⟩;obtain ⟨c0,c1,c2⟩:=hc k f hk;have hb:=hp.2.block x.block hx hne
   exact ⟨(World.cell?_of_block (w:=w) (w':=w') (a:=x.add (k*3)) (by rw[z05]; exact hb)).trans c0,
    (World.cell?_of_block (w:=w) (w':=w') (a:=⟨(x.add (k*3)).block,(x.add (k*3)).off+1,none⟩) (by show w'.heap[(x.add (k*3)).block]? =w.heap[(x.add (k*3)).block]?; rw[z05]; exact hb)).trans c1,
    (World.cell?_of_block (w:=w) (w':=w') (a:=⟨(x.add (k*3)).block,(x.add (k*3)).off+2,none⟩) (by show w'.heap[(x.add (k*3)).block]? =w.heap[(x.add (k*3)).block]?; rw[z05]; exact hb)).trans c2⟩
theorem zkk {w:World}{B:Nat}{v:Value}{l:List Fld}(h:w.ownsRow B z1q 3 v l.length (z1p l))(hs:SomeS v):∃g cap,v= .slice (some ⟨g,0,none⟩) l.length cap∧B≤g∧g<w.heap.size∧l.length≤cap∧Flds w (some ⟨g,0,none⟩) l:=by
 obtain ⟨A,cap,hv,hf⟩:=zd7 h;obtain ⟨g,n,c,hv2⟩:=hs
 rcases h.2 with ⟨h0, -⟩ | ⟨g',cap',cur,hv3,hR,hg,hc, -⟩
 · rw[h0] at hv2; cases hv2
 · rw[hv3] at hv2 hv
   injection hv with e1 e2 e3
   subst e3;exact ⟨g',cap',hv3,hR,z00 hg,hc,by rw[e1]; exact hf⟩
theorem VRow.sum {w:World}{B M T:Nat}{v:Value}{q:List (Vl×Hd)}(h:VRow w B v q M T):sumV (q.map (·.1))≤q.length*T:=by
 have:∀q:List (Vl×Hd),(∀r∈q,sizN r.1.nd≤T)→sumV (q.map (·.1))≤q.length*T:=by
  intro q
  induction q with
  | nil=>intro _; simp[sumV]
  | cons a t ih =>
   intro hq
   have h1:=hq a List.mem_cons_self;have h2:=ih (fun r hr=>hq r (List.mem_cons_of_mem _ hr))
   simp only[List.map_cons,sumV,List.length_cons,Nat.add_mul]
   omega
 exact this q (fun r hr=>by rw[← z19 (h.2 r hr).1]; exact (h.2 r hr).2.1)
def ValsD (R k N:Nat)(w:World)(e:Ending)(w':World):Prop:=∃(v:Value) (q:List (Vl×Hd)),e= .returned v∧q.length=N∧VRow w' w.heap.size v q 4 7007∧z0e w R k w'
theorem zcg (R n:Nat)(x:Addr)(c:Nat)(l:List Fld)(w:World)(h:Rd w R n)(hn:n≤200000)(hfl:Flds w (some x) l)(hx:x.block≠R)(hl:l.length≤13) :
 Calls Tryz.prog 43 #[.pointer (some ⟨R,0,none⟩),.slice (some x) l.length c] w (ValsD R (n+350*l.length) l.length w):=by
 have hRw:=h.lt;obtain ⟨i0,hi,hz0,hz1,hz2⟩:=info_parts zno;have HQ0:=hid (h.self.below ((Below.refl w.heap.size w).alloc (Nat.le_refl _) (.cells #[] valT)));have HV0:Hid (VRow (w.alloc (.cells #[] valT)) w.heap.size (.slice (some ⟨w.heap.size,0,none⟩) 0 0) [] 4 7007):=hid ⟨World.ownsRow_lit w #[] 0 (Nat.le_refl _) (by decide) rfl,fun r hr=>(by cases hr)⟩;have HFL:=hid hfl;have HX:=hid hx;clear h hfl hx;unfold ValsD;go_enter Tryz.func43,Tryz.ntmps43
 go_wp2_with fail
 go_loopw [5,6] (fun v i wr=>∃q:List (Vl×Hd),i= .int .i64 (q.length:Int)∧q.length≤l.length∧Hid (VRow wr w.heap.size v q 4 7007)∧Hid (z0e w R (n+350*q.length) wr)) (fun _ i _=>l.length-(intOf i).toNat)
 case atStart=>exact ⟨[],rfl,by simp,HV0,by exact HQ0⟩
 case round =>
  clear HV0 HQ0;obtain ⟨q,rfl,hq,HV,HP⟩:=hrel
  by_cases hlt:q.length<l.length
  · obtain ⟨x',hx',hxb,hxa⟩:=(HFL.out.picked HP.out HX.out).at2 hlt
    obtain rfl:=Option.some.inj hx';generalize l[q.length]=f at hxa;obtain ⟨z,fc,el⟩:=f;obtain ⟨c0,c1,c2⟩:=hxa;obtain ⟨A1,cp1,rfl⟩:=z34 HV.out.1
    have hq2:(q.length:Int)<(l.length:Int):=by omega
    go_wp2_with fail
    refine (zgh R (n+350*q.length) z el fc wr HP.out.1 (by omega)).mono ?_;rintro e w2 ⟨y,yn,hy,rfl,hyr,hyn,hyt,hp2⟩;clear c0 c1 c2;have HSW:=hid HP.out.2.size;have HLT:=hid (fun k hk=>(HV.out.1.lt k hk).2);have HV1:=hid (HV.out.picked hp2 hRw);have HV2:=hid (HV1.out.alloc (.cells #[.int .i64 y,.int .i64 yn.kind,.string yn.data,.slice hy.A yn.ptrs.length hy.a,.int .i64 yn.size,.int .i64 yn.count,.slice hy.B yn.items.length hy.b] valT));have HP2:=hid (HP.out.then hp2);have HYN:=hid (And.intro (hyn.below ((Below.refl w2.heap.size w2).alloc (Nat.le_refl _) (.cells #[.int .i64 y,.int .i64 yn.kind,.string yn.data,.slice hy.A yn.ptrs.length hy.a,.int .i64 yn.size,.int .i64 yn.count,.slice hy.B yn.items.length hy.b] valT))) (And.intro hyt hyr));have hs2:=HP2.out.2.size;clear hp2 hyn hyt hyr HV HP
    go_wp2_with (at_builtin; go_must (refine wpList_append_own_at _ rfl (.tmp 14) (.tmp 21) 43 rfl w.heap.size valT i0 (.agg #[.int .i64 0,.int .i64 0,.string ByteArray.empty,.slice none 0 0,.int .i64 0,.int .i64 0,.slice none 0 0]) 7 96 Tryz.underlying43 hi hz0 hz1 hz2 rfl (by decide) _ q.length _ rfl HV2.out.1 ⟨w2.heap.size,0,none⟩ 1 1 (rowW [((⟨y,yn⟩:Vl),hy)]) rfl rfl (z7v w2 ((⟨y,yn⟩:Vl),hy) _) (by simp[rowW,Value.oneCell']) (by unfold maxLen; omega) (by omega) (by simp; omega) ?_); intro v' wn hown' hgrow _ hat)
    have HVN:=hid (HV2.out.next HYN.out.1 HYN.out.2 HSW.out HLT.out hown' hgrow hat);have HPN:=hid (z2g HP2.out hRw hs2 (Nat.le_refl _) HV1.out.1 hgrow);clear hown' hgrow hat HV1 HV2 HYN;go_wp2
    go_roundw
    case rel=>exact ⟨q++ [((⟨y,yn⟩:Vl),hy)],by simp,by simp; omega,HVN,hid (HPN.out.mono (by simp; omega))⟩
    case measure=>simp[intOf]; omega
  · have hql:q.length=l.length:=by omega
    rw[hql] at HP;have HF:Hid (VRow wr w.heap.size _ q 4 7007):=HV;go_wp2;go_ret;exact ⟨_,q,rfl,hql,HF.out,HP.out⟩
end Go.Proofs.YtblcibgphccfkaaGreatDoor
