/- Texts of the proof of the law FnCanonSent, side by side: part 11. -/
import Derived.Lib.Builder
import Derived.Lib.Strings
import Derived.Lib.UnsafeStr
import Derived.Lib.AppendStr
import Derived.Laws.Externs
import Derived.Deep.LoopGhost
import Derived.Test.YtlbfffokkhccaaaGreatDoorMCanonSent10
set_option maxHeartbeats 8000000
set_option maxRecDepth 100000
open Go.Lib (hid)
namespace Go.Proofs.YtlbfffokkhccaaaGreatDoor
open Go.RowKit
theorem zqj:(Tryz.prog.info? 119).map (·.size)=some 2:=by kernel_rfl
theorem zm5:(Tryz.prog.info? 5).map (fun i=>(i.zero,i.size,i.bytes))=some (some (.int .u8 0),1,1):=by kernel_rfl
theorem zpl:Tryz.prog.cellsOf 5=1:=by kernel_rfl
def LiesB (T:TypeId)(m:Nat):Prop:=T≠5∧liesAt Tryz.prog Tryz.prog.depth T ((m+2)/Tryz.prog.cellsOf T) 0 119 1=true
def fcs (p v:Value)(rest:List Value):Array Value:=(p :: v :: rest).toArray
theorem fcs_0 {w:World}{b:Nat}{p v:Value}{rest:List Value}{T:TypeId}(h:w.heap[b]? =some (.cells (fcs p v rest) T (0,0))):w.cell? ⟨b,0,none⟩=some p:=by
 rw[cell_of_row _ _ _ _ _ _ h]; rfl
theorem fcs_1 {w:World}{b:Nat}{p v:Value}{rest:List Value}{T:TypeId}(h:w.heap[b]? =some (.cells (fcs p v rest) T (0,0))):w.cell? ⟨b,1,none⟩=some v:=by
 rw[cell_of_row _ _ _ _ _ _ h]; rfl
theorem fcs_2 {w:World}{b i:Nat}{p v:Value}{rest:List Value}{T:TypeId}(h:w.heap[b]? =some (.cells (fcs p v rest) T (0,0))):w.cell? ⟨b,i+2,none⟩=rest[i]? :=by
 rw[cell_of_row _ _ _ _ _ _ h]; simp[fcs]
theorem zt1 {w:World}{b:Nat}{p v q:Value}{rest:List Value}{T:TypeId}(h:w.heap[b]? =some (.cells (fcs p v rest) T (0,0))):(w.setCell ⟨b,0,none⟩ q).heap[b]? =some (.cells (fcs q v rest) T (0,0)):=by
 simp[World.setCell,Array.getElem?_modify,h,fcs]
theorem ztj {w:World}{b:Nat}{p v q:Value}{rest:List Value}{T:TypeId}(h:w.heap[b]? =some (.cells (fcs p v rest) T (0,0))):(w.setCell ⟨b,1,none⟩ q).heap[b]? =some (.cells (fcs p q rest) T (0,0)):=by
 simp[World.setCell,Array.getElem?_modify,h,fcs]
theorem zt4 {w:World}{b i:Nat}{p v q:Value}{rest:List Value}{T:TypeId}(h:w.heap[b]? =some (.cells (fcs p v rest) T (0,0))):(w.setCell ⟨b,i+2,none⟩ q).heap[b]? =some (.cells (fcs p v (rest.set i q)) T (0,0)):=by
 simp[World.setCell,Array.getElem?_modify,h,fcs]
theorem z78 (w:World)(b i:Nat)(u:Value):w.grownBy (w.setCell ⟨b,i,none⟩ u) (some b) :=
 ⟨rfl,rfl,rfl,by simp[World.setCell],fun k _ hk=>Below.heap_setCell w ⟨b,i,none⟩ u k (fun e=>hk (by rw[e]))⟩
def BF (T:TypeId)(B b:Nat)(bs:List Value)(rest:List Value)(w:World):Prop :=
 ∃p v,(p= .pointer none∨p= .pointer (some ⟨b,0,none⟩))∧w.heap[b]? =some (.cells (fcs p v rest) T (0,0))∧w.ownsRow B 5 1 v bs.length bs
theorem BF.fresh {w:World}{T:TypeId}{b:Nat}{rest:List Value}(B:Nat)(h:w.heap[b]? =some (.cells (fcs (.pointer none) (.slice none 0 0) rest) T (0,0))):BF T B b [] rest w :=
 ⟨_,_,.inl rfl,h,World.ownsRow_nil _ _ _ _⟩
theorem BF.below {T:TypeId}{B b:Nat}{bs rest:List Value}{w w':World}(h:BF T B b bs rest w)(hb:Below w.heap.size w w'):BF T B b bs rest w':=by
 obtain ⟨p,v,hp,hr,hown⟩:=h;exact ⟨p,v,hp,(hb.block b (z00 hr)).trans hr,hown.kept (row:=none) ⟨hb.os,hb.tape,hb.output,hb.size,fun k hk _=>hb.block k hk⟩ (Classical.em _)⟩
theorem BF.lt {T:TypeId}{B b:Nat}{bs rest:List Value}{w:World}(h:BF T B b bs rest w):b<w.heap.size:=by
 obtain ⟨p,v,hp,hr,hown⟩:=h;exact z00 hr
theorem BF.cell {T:TypeId}{B b:Nat}{bs rest:List Value}{w:World}(h:BF T B b bs rest w)(i:Nat):w.cell? ⟨b,i+2,none⟩=rest[i]? :=by
 obtain ⟨p,v,hp,hr,hown⟩:=h;exact fcs_2 hr
theorem BF.frozen {T:TypeId}{B b:Nat}{bs rest:List Value}{w:World}(h:BF T B b bs rest w)(i:Nat):w.frozen? ⟨b,i,none⟩=false:=by
 obtain ⟨p,v,hp,hr,hown⟩:=h;exact z02 hr i
theorem BF.set {T:TypeId}{B b:Nat}{bs rest:List Value}{w:World}(hT:T≠5)(h:BF T B b bs rest w)(i:Nat)(q:Value):BF T B b bs (rest.set i q) (w.setCell ⟨b,i+2,none⟩ q):=by
 obtain ⟨p,v,hp,hr,hown⟩:=h;exact ⟨p,v,hp,zt4 hr,hown.kept (z78 w b (i+2) q) (.inr (Lib.ownBlock_ne hown hr hT))⟩
theorem za2 (b:Nat)(w:World)(h0:w.cell? ⟨b,0,none⟩=some (.pointer (some ⟨b,0,none⟩))) :
 Calls Tryz.prog 121 #[.pointer (some ⟨b,0,none⟩)] w fun e w'=>e= .returned (.tuple #[])∧w'=w:=by
 obtain ⟨j,hj,_⟩:=Option.map_eq_some_iff.1 zqj;have hne:=Lib.run_neq_ptr_same (P:=Tryz.prog) w (tp:=117) (te:=119) ⟨b,0,none⟩ Tryz.underlying117 hj;go_enter Tryz.func121,Tryz.ntmps121;go_wp2
 go_end0
 exact ⟨rfl,rfl⟩
theorem z87 (T:TypeId)(m b:Nat)(w:World)(hT:LiesB T m)(h0:w.cell? ⟨b,0,none⟩=some (.pointer none))(hsh:w.shape? b=some (T,m+2))(hfz:w.frozen? ⟨b,0,none⟩=false) :
 Calls Tryz.prog 121 #[.pointer (some ⟨b,0,none⟩)] w fun e w'=>e= .returned (.tuple #[])∧w'=w.setCell ⟨b,0,none⟩ (.pointer (some ⟨b,0,none⟩)):=by
 obtain ⟨j,hj,hjs⟩:=Option.map_eq_some_iff.1 zqj;have hto:=Lib.run_to_unsafe (P:=Tryz.prog) w (src:=117) (dst:=134) (t:=119) ⟨b,0,none⟩ Tryz.underlying117 Tryz.underlying134 hj (by rw[hjs]; decide) hsh (Nat.zero_lt_succ _);have hfrom:=Lib.run_from_unsafe (P:=Tryz.prog) w (src:=134) (dst:=117) (u:=119) ⟨b,0,none⟩ Tryz.underlying134 Tryz.underlying117 hj hsh hT.2
 have hesc:(callFunc 161 #[.pointer (some ⟨b,0,none⟩)]).run Tryz.prog w= .ok (.value (.pointer (some ⟨b,0,none⟩))) w:=by
  rw[run_callFunc_extern Tryz.func161 (by kernel_rfl) (by kernel_rfl) (by kernel_rfl) (e:=Extern.AbiNoEscape.same) (by kernel_rfl),Lib.run_noEscape]
  rfl
 clear hT;go_enter Tryz.func121,Tryz.ntmps121;go_wp2
 go_end0
 exact ⟨rfl,rfl⟩
def Oth (b:Nat)(w w':World):Prop:=∀c cs T fr,c≠b→T≠5→w.heap[c]? =some (.cells cs T fr)→w'.heap[c]? =some (.cells cs T fr)
def BSelf (T:TypeId)(B b:Nat)(v:Value)(bs rest:List Value)(w0 w:World):Prop :=
 w.heap[b]? =some (.cells (fcs (.pointer (some ⟨b,0,none⟩)) v rest) T (0,0))∧w.ownsRow B 5 1 v bs.length bs∧Keeps B b w0 w∧w.heap.size=w0.heap.size∧∀c,c≠b→w.heap[c]? =w0.heap[c]?
theorem z62 (T:TypeId)(B b:Nat)(bs rest:List Value)(w:World)(hT:LiesB T rest.length)(h:BF T B b bs rest w) :
 ∃v,Calls Tryz.prog 121 #[.pointer (some ⟨b,0,none⟩)] w fun e w'=>e= .returned (.tuple #[])∧BSelf T B b v bs rest w w':=by
 obtain ⟨p,v,hp,hb,hown⟩:=h;have hne:=Lib.ownBlock_ne hown hb hT.1;have c0:=fcs_0 hb
 rcases hp with rfl | rfl
 · refine ⟨v,(z87 T rest.length b w hT c0 (by simp[World.shape?,hb,fcs]) (z02 hb 0)).mono ?_⟩
   rintro e w' ⟨rfl,rfl⟩;exact ⟨rfl,zt1 hb,hown.kept (z78 w b 0 _) (.inr hne),z0o B b w 0 _,by simp[World.setCell],fun c hc=>Below.heap_setCell w ⟨b,0,none⟩ _ c hc⟩
 · refine ⟨v,(za2 b w c0).mono ?_⟩
   rintro e w' ⟨rfl,rfl⟩;exact ⟨rfl,hb,hown,Keeps.refl _ _ _,rfl,fun _ _=>rfl⟩
theorem BSelf.put {T:TypeId}{B b:Nat}{bs rest new:List Value}{v v':Value}{w0 w1 w2:World}(hT:T≠5)(h:BSelf T B b v bs rest w0 w1){wx:World}(hx:Keeps w1.heap.size w1.heap.size w1 wx)(hg:wx.grownBy w2 v.ownBlock)(hown:w2.ownsRow B 5 1 v' (bs++new).length (bs++new)) :
 w2.heap[b]? =some (.cells (fcs (.pointer (some ⟨b,0,none⟩)) v rest) T (0,0))∧BF T B b (bs++new) rest (w2.setCell ⟨b,1,none⟩ v')∧(B≤w1.heap.size→Keeps B b w0 (w2.setCell ⟨b,1,none⟩ v'))∧Oth b w0 (w2.setCell ⟨b,1,none⟩ v'):=by
 obtain ⟨hb,ho,hk,_,hoth⟩:=h;have hne:=Lib.ownBlock_ne ho hb hT;have hlt:b<w1.heap.size:=z00 hb
 have h2:w2.heap[b]? =some (.cells (fcs (.pointer (some ⟨b,0,none⟩)) v rest) T (0,0)) :=
  (hg.block b (Nat.lt_of_lt_of_le hlt hx.size) (Ne.symm hne)).trans ((hx.block b hlt (by omega)).trans hb)
 have hne2:=Lib.ownBlock_ne hown h2 hT;refine ⟨h2,⟨_,_,.inr rfl,ztj h2,hown.kept (z78 w2 b 1 _) (.inr hne2)⟩,fun hB=>hk.trans ?_,fun c cs T' fr hc hT' hh=>?_⟩
 rotate_left
 · have h1:w1.heap[c]? =some (.cells cs T' fr):=(hoth c hc).trans hh
   have hl1:=z00 h1;have hne3:=Lib.ownBlock_ne ho h1 hT';rw[Below.heap_setCell w2 ⟨b,1,none⟩ _ c hc];exact (hg.block c (Nat.lt_of_lt_of_le hl1 hx.size) (Ne.symm hne3)).trans ((hx.block c hl1 (by omega)).trans h1)
 refine Keeps.trans (c:=w2) ⟨hg.os.trans hx.os,hg.tape.trans hx.tape,hg.output.trans hx.output,Nat.le_trans hx.size hg.size,fun k hk' hn=>?_⟩ (z0o B b w2 1 _);refine (hg.block k (Nat.lt_of_lt_of_le (Nat.lt_of_lt_of_le hk' hB) hx.size) (fun e=>?_)).trans (hx.block k (by omega) (by omega));have:=(ho.lt k e.symm).1;omega
theorem zdf (w:World)(x:Obj):Keeps w.heap.size w.heap.size w (w.alloc x):=Keeps.of_below ((Below.refl _ w).alloc (Nat.le_refl _) x)
theorem zmo {w:World}{B e n:Nat}{v:Value}{xs:List Value}(h:w.ownsRow B e 1 v (n+1) xs):∃g cap,v= .slice (some ⟨g,0,none⟩) (n+1) cap :=
 h.2.elim (fun h0=>absurd h0.2 (by omega)) (fun ⟨g,cap,_,hv,_⟩=>⟨g,cap,hv⟩)
theorem zi4 {w:World}{B e n:Nat}{v:Value}{xs:List Value}(h:w.ownsRow B e 1 v n xs):∃A cap,v= .slice A n cap:=by
 rcases h.2 with ⟨rfl,rfl⟩ | ⟨g,cap,_,rfl,_⟩
 · exact ⟨none,0,rfl⟩
 · exact ⟨_,cap,rfl⟩
theorem z3j (T:TypeId)(B b:Nat)(bs rest:List Value)(c:Int)(w:World)(hT:LiesB T rest.length)(h:BF T B b bs rest w)(hlen:bs.length≤1099511627776)(hBw:B≤w.heap.size) :
 Calls Tryz.prog 140 #[.pointer (some ⟨b,0,none⟩),.int .u8 c] w fun e w'=>e= .returned .nilIface∧(BF T B b (bs++ [.int .u8 c]) rest w'∧Keeps B b w w'∧Oth b w w'):=by
 obtain ⟨i0,hi,hz0,hz1,hz2⟩:=info_parts zm5;obtain ⟨v,hcc⟩:=z62 T B b bs rest w hT h;have HC:=hid hcc;have HT:=hid hT.1;clear hcc h hT;go_enter Tryz.func140,Tryz.ntmps140
 go_wp2_with (first | (go_at_call 121; refine HC.out.mono ?_; rintro e w1 ⟨rfl,hS⟩; have hT:=hid hS; have hsz:=Nat.le_trans hBw (Nat.le_of_eq hS.2.2.2.1.symm); have c1:=fcs_1 hS.1; clear hS) | (at_builtin; refine wpList_append_own _ rfl _ _ 22 rfl B 5 i0 (.int .u8 0) 1 1 Tryz.underlying22 hi hz0 hz1 hz2 rfl (by decide) v _ _ rfl (hT.out.2.1.alloc _) ⟨w1.heap.size,0,none⟩ 1 1 [.int .u8 c] rfl rfl (cell_one_new _ _ _) (by simp[Value.oneCell']) (by unfold maxLen; omega) (by omega) (by simp; omega) ?_; intro v' w2 hown' hgrow _; obtain ⟨h2,hU,hKp,hOt⟩:=hT.out.put HT.out (new:= [.int .u8 c]) (zdf w1 _) hgrow (by rw[List.length_append]; exact hown'); have d1:=fcs_1 h2; have f1:=z02 h2 1; obtain ⟨g,cap,rfl⟩:=zmo hown'; clear h2 hgrow))
 go_ret;exact ⟨rfl,hU,hKp hsz,hOt⟩
theorem z47 (T:TypeId)(B b:Nat)(bs rest:List Value)(c:Int)(w:World)(hT:LiesB T rest.length)(h:BF T B b bs rest w)(hlen:bs.length≤1099511627776)(hBw:B≤w.heap.size) :
 Calls Tryz.prog 140 #[.pointer (some ⟨b,0,none⟩),.int .u8 c] w fun e w'=>e= .returned .nilIface∧(BF T B b (bs++ [.int .u8 c]) rest w'∧Keeps B b w w') :=
 (z3j T B b bs rest c w hT h hlen hBw).mono fun _ _ ⟨h1,h2,h3,_⟩=>⟨h1,h2,h3⟩
theorem z4w (T:TypeId)(B b:Nat)(bs rest:List Value)(s:ByteArray)(w:World)(hTT:LiesB T rest.length)(h:BF T B b bs rest w)(hlen:bs.length≤1099511627776)(hs:s.size≤1099511627776)(hBw:B≤w.heap.size) :
 Calls Tryz.prog 75 #[.pointer (some ⟨b,0,none⟩),.string s] w fun e w'=>e= .returned (.tuple #[.int .i64 s.size,.nilIface])∧(BF T B b (bs++Lib.strCells s) rest w'∧Keeps B b w w'):=by
 obtain ⟨i0,hi,hz0,hz1,hz2⟩:=info_parts zm5;obtain ⟨v,hcc⟩:=z62 T B b bs rest w hTT h;have HC:=hid hcc;have HT:=hid hTT.1;clear hcc h hTT;have hsl:=Lib.strCells_length s;have HSL:=hid hsl;clear hsl;go_enter Tryz.func75,Tryz.ntmps75
 go_wp2_with (first | (go_at_call 121; refine HC.out.mono ?_; rintro e w1 ⟨rfl,hS⟩; have hT:=hid hS; have hsz:=Nat.le_trans hBw (Nat.le_of_eq hS.2.2.2.1.symm); have c1:=fcs_1 hS.1; clear hS) | (at_builtin; go_must (refine Lib.wpList_append_own_string _ rfl (.tmp 12) (.tmp 13) 22 9 rfl B 5 i0 Tryz.underlying22 Tryz.underlying9 hi hz0 hz1 hz2 v _ _ rfl hT.out.2.1 s rfl (by unfold maxLen; omega) (by omega) hsz ?_); intro v' w2 hown' hgrow _; obtain ⟨h2,hU,hKp,_⟩:=hT.out.put HT.out (new:=Lib.strCells s) (Keeps.refl _ _ _) hgrow (by rw[List.length_append,HSL.out]; exact hown'); have d1:=fcs_1 h2; have f1:=z02 h2 1; obtain ⟨g,cap,rfl⟩:=zi4 hown'; clear h2 hgrow))
 go_ret2
 exact ⟨rfl,hU,hKp hsz⟩
theorem zgj (T:TypeId)(B b:Nat)(bs rest:List Value)(w:World)(h:BF T B b bs rest w) :
 Calls Tryz.prog 93 #[.pointer (some ⟨b,0,none⟩)] w fun e w'=>e= .returned (.int .i64 bs.length)∧w=w':=by
 obtain ⟨p,v,hp,hb,hown⟩:=h;obtain ⟨g,cap,rfl⟩:=zi4 hown;have c1:=fcs_1 hb;clear hb hown hp;go_enter Tryz.func93,Tryz.ntmps93;go_wp2;go_ret;exact ⟨rfl,rfl⟩
theorem z8n (T:TypeId)(B b:Nat)(l:List UInt8)(rest:List Value)(w:World)(h:BF T B b (Lib.byteCells l) rest w)(hBw:B≤w.heap.size) :
 Calls Tryz.prog 76 #[.pointer (some ⟨b,0,none⟩)] w fun e w'=>e= .returned (.string ⟨l.toArray⟩)∧Below B w w':=by
 obtain ⟨p,v,hp,hbk,hown⟩:=h;have c1:w.drew.cell? ⟨b,1,none⟩=some v:=fcs_1 (w:=w.drew) hbk;have hlt:=z00 hbk;rw[Lib.byteCells_length] at hown;clear hp
 by_cases h0:l= []
 · subst h0
   have hUS:=fun (W:World) (q:Option Addr)=>Lib.run_unsafeString_none (P:=Tryz.prog) W 188 3 9 q
   rcases hown.2 with ⟨rfl,_⟩ | ⟨g,cap,cur,rfl,hbg,hg,hnc,hcm,hcs,htake⟩
   · have hSD:(Builtin.unsafeSliceData_ #[22] 188 #[.slice none 0 0]).run Tryz.prog w.drew= .ok (.pointer none) w.drew:=rfl
     clear hbk hown;go_enter Tryz.func76,Tryz.ntmps76;go_wp2
     go_region
     all_goals (go_wp2; go_ret; exact ⟨rfl,Below.drew (Below.refl B w)⟩)
   · by_cases hc0:cap=0
     · subst hc0
       have hSD:(Builtin.unsafeSliceData_ #[22] 188 #[.slice (some ⟨g,0,none⟩) 0 0]).run Tryz.prog w.drew= .ok (.pointer (some ⟨w.drew.heap.size,0,none⟩)) (w.drew.alloc (.view ⟨g,0,none⟩ 5)) :=
        Lib.run_unsafeSliceData_zero w.drew _ _ 5 Tryz.underlying188 ⟨g,0,none⟩ 0 (5,cur.size) (by have hg':w.drew.heap[g]? =some (.cells cur 5 (0,0)):=hg; simp[World.shape?,hg'])
       have c2:(w.drew.alloc (.view ⟨g,0,none⟩ 5)).cell? ⟨b,1,none⟩=some (.slice (some ⟨g,0,none⟩) 0 0):=fcs_1 (w:=w.drew.alloc (.view ⟨g,0,none⟩ 5)) ((Lib.alloc_old w.drew _ b hlt).trans hbk);have c3:(w.alloc (.view ⟨g,0,none⟩ 5)).drew.cell? ⟨b,1,none⟩=some (.slice (some ⟨g,0,none⟩) 0 0):=c2;have c0:w.cell? ⟨b,1,none⟩=some (.slice (some ⟨g,0,none⟩) 0 0):=c1;clear hbk hown;go_enter Tryz.func76,Tryz.ntmps76;go_wp2
       go_region
       all_goals (go_wp2; go_ret; exact ⟨rfl,(Below.drew (Below.refl B w)).alloc hBw _⟩)
     · have hSD:(Builtin.unsafeSliceData_ #[22] 188 #[.slice (some ⟨g,0,none⟩) 0 cap]).run Tryz.prog w.drew= .ok (.pointer (some ⟨g,0,none⟩)) w.drew :=
        Lib.run_unsafeSliceData_row _ _ _ _ _ _ hc0
       clear hc0 hbk hown hnc hcm hcs;go_enter Tryz.func76,Tryz.ntmps76;go_wp2
       go_region
       all_goals (go_wp2; go_ret; exact ⟨rfl,Below.drew (Below.refl B w)⟩)
 · have hl0:l.length≠0:=by simpa using h0
   obtain ⟨g,cap,cur,rfl,hbg,hg,hnc,hcm,hcs,htake⟩:∃g cap cur,v= .slice (some ⟨g,0,none⟩) l.length cap∧B≤g∧w.heap[g]? =some (.cells cur 5 (0,0))∧l.length≤cap∧cap≤maxLen∧cur.size=cap*1∧cur.toList.take (l.length*1)=Lib.byteCells l:=by
    rcases hown.2 with ⟨_,hz⟩ | ⟨g,cap,cur,hv,r⟩
    · exact absurd hz hl0
    · exact ⟨g,cap,cur,hv,r⟩
   have hSD:(Builtin.unsafeSliceData_ #[22] 188 #[.slice (some ⟨g,0,none⟩) l.length cap]).run Tryz.prog w.drew= .ok (.pointer (some ⟨g,0,none⟩)) w.drew :=
    Lib.run_unsafeSliceData_row _ _ _ _ _ _ (by omega)
   have hUS:(Builtin.unsafeString_ #[188,3] 9 #[.pointer (some ⟨g,0,none⟩),.int .i64 l.length]).run Tryz.prog w.drew= .ok (.string ⟨l.toArray⟩) (w.drew.freeze ⟨g,0,none⟩ l.length):=by
    refine Lib.run_unsafeString_row w.drew 188 3 9 5 Tryz.underlying188 zpl g cur.size (by have hg':w.drew.heap[g]? =some (.cells cur 5 (0,0)):=hg; simp[World.shape?,hg']) l h0 (by omega) (by unfold maxLen at hcm; omega) ?_
    intro j x hx
    have:=hown.cells (g:=g) rfl j (.int .u8 x.toNat) (by simp[Lib.byteCells,hx]);exact this
   go_enter Tryz.func76,Tryz.ntmps76;go_wp2
   go_region
   all_goals (go_wp2; go_ret; exact ⟨rfl,Lib.below_freeze (Below.drew (Below.refl B w)) (p:=⟨g,0,none⟩) hbg _⟩)
end Go.Proofs.YtlbfffokkhccaaaGreatDoor
namespace Go.Proofs.YtlbfffokkhccaaaGreatDoor
def zerL (l:List UInt8):Bool:=l.all (· ==0)
def fullL (l:List UInt8):Bool:=l.all (· != 0)
def fewL (l:List UInt8):Bool:=decide ((l.filter (· ==0)).length≤1)
def maskN:List UInt8→Nat
 | []=>0
 | b :: r=>(if b=0 then 0 else 1)+2*maskN r
def nzL (l:List UInt8):List UInt8:=l.filter (· != 0)
def runN (p:List UInt8→Bool)(r:List (List UInt8)):Nat:=((r.take 255).takeWhile p).length
theorem z56 (p)(r:List (List UInt8)):runN p r≤r.length∧runN p r≤255:=by
 have h:=(List.takeWhile_sublist p (l:=r.take 255)).length_le;rw[List.length_take] at h;unfold runN;omega
theorem z4v (p:List UInt8→Bool):∀(l:List (List UInt8)) (n:Nat),n≤l.length→(∀j (h:j<l.length),j<n→p l[j]=true)→(n=l.length∨∃h:n<l.length,p l[n]=false)→(l.takeWhile p).length=n
 | [],n,h,_,_=>by simp at h; simp[h]
 | x :: r,0,_,_,h=>by
   rcases h with h | ⟨_,h⟩
   · simp at h
   · simp at h; simp[List.takeWhile_cons,h]
 | x :: r,n+1,hl,hp,h=>by
   have h0:=hp 0 (by simp) (by omega)
   simp at h0
   rw[List.takeWhile_cons,if_pos h0,List.length_cons,z4v p r n (by simpa using hl) (fun j hj hn=>by
    have:=hp (j+1) (by simp; omega) (by omega)
    simpa using this) (by
    rcases h with h | ⟨h1,h⟩
    · left; simpa using h
    · right; exact ⟨by simpa using h1,by simpa using h⟩)]
theorem zcs {p:List UInt8→Bool}{r:List (List UInt8)}{n:Nat}(h1:n≤r.length)(h2:n≤255)(h3:∀j (h:j<r.length),j<n→p r[j]=true)(h4:n=255∨n=r.length∨∃h:n<r.length,p r[n]=false):runN p r=n:=by
 unfold runN;refine z4v p _ n (by rw[List.length_take]; omega) (fun j hj hn=>?_) ?_
 · rw[List.getElem_take]; exact h3 j _ hn
 · by_cases hn:n=(r.take 255).length
   · exact .inl hn
   · rw[List.length_take] at hn
     refine .inr ⟨by rw[List.length_take]; omega,?_⟩;rw[List.getElem_take]
     rcases h4 with h | h | ⟨_,h⟩
     · omega
     · omega
     · exact h
def packW:List (List UInt8)→List UInt8
 | []=> []
 | w :: r =>
  if zerL w then 0 :: UInt8.ofNat (runN zerL r) :: packW (r.drop (runN zerL r))
  else if fullL w then 255 :: (w++(UInt8.ofNat (runN fewL r) :: ((r.take (runN fewL r)).flatten++packW (r.drop (runN fewL r)))))
  else UInt8.ofNat (maskN w) :: (nzL w++packW r)
termination_by ws=>ws.length
decreasing_by all_goals (simp; try omega)
def z0l:Nat→Nat→List UInt8→List UInt8
 | 0,_,_=> []
 | k+1,t,bs=>if t%2=0 then 0 :: z0l k (t/2) bs else bs.headD 0 :: z0l k (t/2) bs.tail
def popN:Nat→Nat→Nat
 | 0,_=>0
 | k+1,t=>t%2+popN k (t/2)
theorem z1p:∀(k t:Nat) (bs:List UInt8),(z0l k t bs).length=k
 | 0,_,_=>rfl
 | k+1,t,bs=>by rw[z0l]; split <;> simp[z1p k]
def stepU:List UInt8→Option (List UInt8×List UInt8)
 | []=>none
 | t :: r =>
  if r.length<popN 8 t.toNat then none else
  if t=0 then (if r.length=0 then none else some (List.replicate (8*((r.headD 0).toNat+1)) 0,r.tail))
  else if t=255 then (if r.length<9+8*((r.drop 8).headD 0).toNat then none else some (r.take 8++(r.drop 9).take (8*((r.drop 8).headD 0).toNat),(r.drop 9).drop (8*((r.drop 8).headD 0).toNat)))
  else some (z0l 8 t.toNat (r.take (popN 8 t.toNat)),r.drop (popN 8 t.toNat))
theorem z4l {l o r:List UInt8}(h:stepU l=some (o,r)):r.length<l.length:=by
 cases l with
 | nil=>simp[stepU] at h
 | cons t s =>
  rw[stepU] at h
  split at h
  · cases h
  · split at h
    · split at h
      · cases h
      · simp only[Option.some.injEq,Prod.mk.injEq] at h; obtain ⟨_,rfl⟩:=h; simp; omega
    · split at h
      · split at h
        · cases h
        · simp only[Option.some.injEq,Prod.mk.injEq] at h
          obtain ⟨_,rfl⟩:=h
          simp; omega
      · simp only[Option.some.injEq,Prod.mk.injEq] at h
        obtain ⟨_,rfl⟩:=h
        simp; omega
def unF:Nat→List UInt8→Option (List UInt8)
 | _,[]=>some []
 | 0,_=>none
 | f+1,t :: r=>match stepU (t :: r) with
   | none=>none
   | some (o,r')=>(unF f r').map (o++ ·)
def unW (l:List UInt8):Option (List UInt8):=unF l.length l
theorem zgt:∀(f g:Nat) (l:List UInt8),l.length≤f→l.length≤g→unF f l=unF g l
 | f,g,[],_,_=>by cases f <;> cases g <;> rfl
 | 0,_,t :: r,h,_=>by simp at h
 | _,0,t :: r,_,h=>by simp at h
 | f+1,g+1,t :: r,hf,hg=>by
   rw[unF,unF]
   cases hs:stepU (t :: r) with
   | none=>rfl
   | some x =>
    obtain ⟨o,r'⟩:=x;have hsh:=z4l hs
    simp only
    rw[zgt f g r' (by simp at hsh hf; omega) (by simp at hsh hg; omega)]
theorem zly:unW []=some []:=rfl
theorem z41 {l o r:List UInt8}(h:stepU l=some (o,r)):unW l=(unW r).map (o++ ·):=by
 cases l with
 | nil=>simp[stepU] at h
 | cons t s =>
  have hsh:=z4l h;rw[unW,List.length_cons,unF,h]
  simp only
  rw[zgt s.length r.length r (by simp at hsh; omega) (Nat.le_refl _)]
  rfl
theorem zd6 {l:List UInt8}(h0:l≠ [])(h:stepU l=none):unW l=none:=by
 cases l with
 | nil=>exact absurd rfl h0
 | cons t s=>rw[unW,List.length_cons,unF,h]
theorem zje {l o r:List UInt8}(t:List UInt8)(h:stepU l=some (o,r)):stepU (l++t)=some (o,r++t):=by
 cases l with
 | nil=>simp[stepU] at h
 | cons x s =>
  rw[stepU] at h;rw[List.cons_append,stepU]
  split at h
  · cases h
  · rename_i hlen
    rw[if_neg (by simp; omega)]
    split at h
    · rename_i h0
      rw[if_pos h0]
      cases s with
      | nil=>simp at h
      | cons c s' =>
       simp only[List.length_cons,List.headD_cons,List.tail_cons,List.cons_append] at h ⊢
       rw[if_neg (by omega)] at h ⊢
       simp only[Option.some.injEq,Prod.mk.injEq] at h ⊢
       obtain ⟨rfl,rfl⟩:=h;exact ⟨rfl,rfl⟩
    · rename_i h0
      rw[if_neg h0]
      split at h
      · rename_i h255
        rw[if_pos h255]
        split at h
        · cases h
        · rename_i hl
          have e8:((s++t).drop 8).headD 0=(s.drop 8).headD 0:=by
           rw[List.drop_append_of_le_length (by omega),List.drop_eq_getElem_cons (show 8<s.length by omega)]
           rfl
          rw[e8];generalize ((s.drop 8).headD 0).toNat=c at hl h ⊢;rw[if_neg (by simp; omega),List.take_append_of_le_length (by omega),List.drop_append_of_le_length (by omega),List.take_append_of_le_length (by simp; omega),List.drop_append_of_le_length (by simp; omega)]
          simp only[Option.some.injEq,Prod.mk.injEq] at h ⊢
          obtain ⟨rfl,rfl⟩:=h;exact ⟨rfl,rfl⟩
      · rename_i h255
        rw[if_neg h255]
        simp only[Option.some.injEq,Prod.mk.injEq] at h ⊢
        obtain ⟨rfl,rfl⟩:=h;rw[List.take_append_of_le_length (by omega),List.drop_append_of_le_length (by omega)];exact ⟨rfl,rfl⟩
theorem zm6 (t:List UInt8):∀(f:Nat) (l o:List UInt8),l.length≤f→unW l=some o→unW (l++t)=(unW t).map (o++ ·)
 | f,[],o,_,h=>by
   rw[zly] at h;cases h
   simp
 | 0,x :: s,_,h,_=>by simp at h
 | f+1,x :: s,o,hf,h=>by
   cases hs:stepU (x :: s) with
   | none=>rw[zd6 (by simp) hs] at h; cases h
   | some y =>
    obtain ⟨o1,r⟩:=y;have hsh:=z4l hs;rw[z41 hs] at h;rw[z41 (zje t hs)]
    cases hr:unW r with
    | none=>rw[hr] at h; cases h
    | some o2 =>
     rw[hr] at h
     simp at h
     rw[zm6 t f r o2 (by simp at hsh hf; omega) hr];subst h
     cases unW t <;> simp
theorem zsj {l o:List UInt8}(t:List UInt8)(h:unW l=some o):unW (l++t)=(unW t).map (o++ ·):=zm6 t l.length l o (Nat.le_refl _) h
open Go.RowKit
def US (B b:Nat)(out:List UInt8)(L:ByteArray)(bad:Bool)(w:World):Prop:=BF 161 B b (Lib.byteCells out) [.string L,.bool bad] w
theorem unpT:LiesB 161 2:=⟨by decide,by kernel_rfl⟩
theorem US.left {B b:Nat}{out:List UInt8}{L:ByteArray}{bad:Bool}{w:World}(h:US B b out L bad w):w.cell? ⟨b,2,none⟩=some (.string L):=by
 have:=BF.cell h 0; simpa using this
theorem US.bad {B b:Nat}{out:List UInt8}{L:ByteArray}{bad:Bool}{w:World}(h:US B b out L bad w):w.cell? ⟨b,3,none⟩=some (.bool bad):=by
 have:=BF.cell h 1; simpa using this
theorem US.setLeft {B b:Nat}{out:List UInt8}{L:ByteArray}{bad:Bool}{w:World}(h:US B b out L bad w)(L':ByteArray):US B b out L' bad (w.setCell ⟨b,2,none⟩ (.string L')):=by
 have:=BF.set unpT.1 h 0 (.string L'); simpa [US] using this
theorem US.setBad {B b:Nat}{out:List UInt8}{L:ByteArray}{bad:Bool}{w:World}(h:US B b out L bad w)(c:Bool):US B b out L c (w.setCell ⟨b,3,none⟩ (.bool c)):=by
 have:=BF.set unpT.1 h 1 (.bool c); simpa [US] using this
theorem US.below {B b:Nat}{out:List UInt8}{L:ByteArray}{bad:Bool}{w w':World}(h:US B b out L bad w)(hb:Below w.heap.size w w'):US B b out L bad w':=BF.below h hb
theorem zfp (B b:Nat)(out:List UInt8)(L:ByteArray)(bad:Bool)(w:World)(h:US B b out L bad w) :
 Calls Tryz.prog 145 #[.pointer (some ⟨b,0,none⟩)] w fun e w'=>e= .returned .nilFunc∧US B b out L true w'∧Keeps B b w w':=by
 have h1:=BF.frozen h 3;have h3:=h.bad;have H2:=hid (h.setBad true);clear h;go_enter Tryz.func145,Tryz.ntmps145;go_wp2;go_ret;exact ⟨rfl,H2.out,z0o B b w 3 _⟩
theorem z8d (B b:Nat)(out:List UInt8)(L:ByteArray)(bad:Bool)(n:Nat)(w:World)(h:US B b out L bad w)(hn:L.size<n) :
 Calls Tryz.prog 143 #[.pointer (some ⟨b,0,none⟩),.int .i64 n] w fun e w'=>e= .returned (.tuple #[.string ⟨#[]⟩,.bool false])∧w=w':=by
 have h1:=h.left
 have hlt:((L.size:Nat):Int)<(n:Int):=by omega
 clear h;go_enter Tryz.func143,Tryz.ntmps143;go_wp2
 go_ret2
 exact ⟨rfl,rfl⟩
theorem z6t (B b:Nat)(out:List UInt8)(L:ByteArray)(bad:Bool)(n:Nat)(w:World)(h:US B b out L bad w)(hn:n≤L.size) :
 Calls Tryz.prog 143 #[.pointer (some ⟨b,0,none⟩),.int .i64 n] w fun e w'=>e= .returned (.tuple #[.string (L.extract 0 n),.bool true])∧US B b out (L.extract n L.size) bad w'∧Keeps B b w w':=by
 have h1:=h.left;have h2:=BF.frozen h 2
 have hlt:¬((L.size:Nat):Int)<(n:Int):=by omega
 have H2:=hid (h.setLeft (L.extract n L.size));clear h;go_enter Tryz.func143,Tryz.ntmps143;go_wp2
 go_ret2
 exact ⟨rfl,H2.out,z0o B b w 2 _⟩
def uTag (b:Nat):Value:= .func (.func 103) #[.pointer (some ⟨b,0,none⟩)] #[]
def uNou (b:Nat):Value:= .func (.func 146) #[.pointer (some ⟨b,0,none⟩)] #[]
def uPla (b:Nat):Value:= .func (.func 147) #[.pointer (some ⟨b,0,none⟩)] #[]
def uBro (b:Nat):Value:= .func (.func 145) #[.pointer (some ⟨b,0,none⟩)] #[]
theorem z9r (B b:Nat)(out:List UInt8)(L:ByteArray)(bad:Bool)(x:ByteArray)(next:Value)(w:World)(h:US B b out L bad w)(hn:1600<out.length+x.size)(hx:x.size≤100000)(ho:out.length≤1600) :
 Calls Tryz.prog 148 #[.pointer (some ⟨b,0,none⟩),.string x,next] w fun e w'=>e= .returned (uBro b)∧w=w':=by
 have hl:=zgj 161 B b (Lib.byteCells out) [.string L,.bool bad] w h;rw[Lib.byteCells_length] at hl;have HL:=hid hl
 have hlt:(1600:Int)<((out.length:Nat):Int)+((x.size:Nat):Int):=by omega
 clear h hl;go_enter Tryz.func148,Tryz.ntmps148
 go_wp2_with (go_at_call 93; refine HL.out.mono ?_; rintro e w' ⟨rfl,rfl⟩)
 go_ret;exact ⟨rfl,rfl⟩
theorem z7h (B b:Nat)(out:List UInt8)(L:ByteArray)(bad:Bool)(x:ByteArray)(next:Value)(w:World)(h:US B b out L bad w)(hn:out.length+x.size≤1600)(hBw:B≤w.heap.size) :
 Calls Tryz.prog 148 #[.pointer (some ⟨b,0,none⟩),.string x,next] w fun e w'=>e= .returned next∧US B b (out++x.data.toList) L bad w'∧Keeps B b w w':=by
 have hl:=zgj 161 B b (Lib.byteCells out) [.string L,.bool bad] w h;rw[Lib.byteCells_length] at hl;have HL:=hid hl;have hws:=z4w 161 B b (Lib.byteCells out) [.string L,.bool bad] x w unpT h (by rw[Lib.byteCells_length]; omega) (by omega) hBw
 have e:Lib.byteCells out++Lib.strCells x=Lib.byteCells (out++x.data.toList):=by simp[Lib.strCells,Lib.byteCells]
 rw[e] at hws;have HW:=hid hws
 have hlt:¬(1600:Int)<((out.length:Nat):Int)+((x.size:Nat):Int):=by omega
 clear h hl hws e;go_enter Tryz.func148,Tryz.ntmps148
 go_wp2_with (first | (go_at_call 93; refine HL.out.mono ?_; rintro e w' ⟨rfl,rfl⟩) | (go_at_call 75; refine HW.out.mono ?_; rintro e w1 ⟨rfl,hU,hK⟩))
 go_ret;exact ⟨rfl,hU,hK⟩
theorem z22:∀(k t:Nat),popN (k+1) t=popN k t+t/2^k%2
 | 0,t=>by simp[popN]
 | k+1,t=>by
   rw[popN,z22 k (t/2),popN,Nat.div_div_eq_div_mul,Nat.pow_succ,Nat.mul_comm (2^k) 2];omega
theorem z52:∀(k t:Nat) (bs:List UInt8),z0l (k+1) t bs=z0l k t bs++ [if t/2^k%2=0 then 0 else (bs.drop (popN k t)).headD 0]
 | 0,t,bs=>by
   rw[z0l]
   simp only[z0l,popN,List.drop_zero,Nat.pow_zero,Nat.div_one,List.nil_append]
   split <;> rfl
 | k+1,t,bs=>by
   have e:t/2^(k+1)%2=t/2/2^k%2:=by rw[Nat.div_div_eq_div_mul,Nat.pow_succ,Nat.mul_comm (2^k) 2]
   have hL:z0l (k+1+1) t bs=if t%2=0 then 0 :: z0l (k+1) (t/2) bs else bs.headD 0 :: z0l (k+1) (t/2) bs.tail:=rfl
   have hR:z0l (k+1) t bs=if t%2=0 then 0 :: z0l k (t/2) bs else bs.headD 0 :: z0l k (t/2) bs.tail:=rfl
   rw[hL,hR,e,popN]
   by_cases h0:t%2=0
   · rw[if_pos h0,if_pos h0,z52 k (t/2) bs,List.cons_append,h0,Nat.zero_add]
   · have h1:t%2=1:=by omega
     rw[if_neg h0,if_neg h0,z52 k (t/2) bs.tail,List.cons_append,h1]
     have e2:bs.tail.drop (popN k (t/2))=bs.drop (1+popN k (t/2)):=by rw[← List.drop_one,List.drop_drop]
     rw[e2]
theorem zl1 (t:Nat)(k:Nat):∀m,k≤m→popN k t≤popN m t:=by
 intro m hm
 induction m with
 | zero=>obtain rfl:k=0:=by omega
         exact Nat.le_refl _
 | succ m ih =>
  by_cases hk:k=m+1
  · rw[hk]; exact Nat.le_refl _
  · have:=ih (by omega)
    rw[z22]; omega
def spUp (k t:Nat)(bs:List UInt8):List UInt8:=z0l k t bs++List.replicate (8-k) 0
theorem zpe (k t:Nat)(bs:List UInt8)(h:k≤8):(spUp k t bs).length=8:=by simp[spUp,z1p]; omega
theorem zt2 (t:Nat)(bs:List UInt8):spUp 8 t bs=z0l 8 t bs:=by simp[spUp]
theorem zjw (k t:Nat)(bs:List UInt8)(h:k<8):spUp (k+1) t bs=if t/2^k%2=0 then spUp k t bs else (spUp k t bs).set k ((bs.drop (popN k t)).headD 0):=by
 have e:List.replicate (8-k) (0:UInt8)=0 :: List.replicate (8-(k+1)) 0:=by
  rw[show 8-k=(8-(k+1))+1 by omega]; rfl
 have hl:=z1p k t bs;rw[spUp,spUp,z52,e]
 split
 · simp
 · rw[List.set_append_right _ _ (by omega),hl,Nat.sub_self]
   simp
theorem zsd (t k:Nat)(ht:t<256):bits .and .u8 ((t:Int)/2^k) 1=((t/2^k%2:Nat):Int):=by
 have h:=Nat.div_le_self t (2^k);rw[zp2,show (1:Int)=((1:Nat):Int) from rfl,u8_and_nat _ _ (by omega) (by omega),nat_mask1]
theorem zjd (t:Nat)(s:ByteArray)(w:World)(ht:t<256)(hs:s.size=popN 8 t) :
 Calls Tryz.prog 149 #[.int .u8 t,.string s] w fun e w'=>e= .returned (.string ⟨(z0l 8 t s.data.toList).toArray⟩)∧Below w.heap.size w w':=by
 have hsl:s.data.toList.length=s.size:=rfl;have HSL:=hid hsl
 have hs8:s.size≤8:=by
  have h:=fun k=>Nat.mod_lt (t/2^k) (show 0<2 by decide)
  rw[hs,z22,z22,z22,z22,z22,z22,z22,z22,popN]
  have:=h 0; have:=h 1; have:=h 2; have:=h 3; have:=h 4; have:=h 5; have:=h 6; have:=h 7
  omega
 have HS:=hid hs;clear hs hsl;go_enter Tryz.func149,Tryz.ntmps149
 go_wp2_with fail
 have h0:=heap_alloc_new w (.cells #[.int .u8 0,.int .u8 0,.int .u8 0,.int .u8 0,.int .u8 0,.int .u8 0,.int .u8 0,.int .u8 0] 87)
 go_loopw [1,7] (fun o i wr=>∃(k:Nat) (u:ByteArray),k≤8∧i= .int .i64 k∧o= .string u∧Hid (u.data.toList=s.data.toList.drop (popN k t))∧Hid (wr.heap[w.heap.size]? =some (.cells (wd (spUp k t s.data.toList)) 87 (0,0)))∧Hid (Below w.heap.size w wr)) (fun _ i _=>8-(intOf i).toNat)
 case atStart=>exact ⟨0,s,by omega,rfl,rfl,by simp[Hid,popN],h0,(Below.refl _ _).alloc (Nat.le_refl _) _⟩
 case round =>
  obtain ⟨k,u,hk,rfl,rfl,HU,HR,HB⟩:=hrel;clear h0
  have hstep:=fun h=>zjw k t s.data.toList h
  have hand:=zsd t k ht;have hpm:=zl1 t (k+1) 8;have hps:=z22 k t;have hul:=congrArg List.length HU.out;rw[List.length_drop,HSL.out,HS.out] at hul;have hul2:u.data.toList.length=u.size:=rfl
  by_cases hk1:k<8
  · have hfz:=zbt HR.out k
    have hcl:=z9y HR.out k (by rw[zpe _ _ _ hk]; exact hk1);have HP:=hid (hstep hk1);have hpm2:=hpm (by omega);clear hstep hpm
    by_cases hb:t/2^k%2=0
    · rw[hb] at hand
      have HN:Hid (spUp (k+1) t s.data.toList=spUp k t s.data.toList):=hid (by rw[HP.out,if_pos hb]);have HPop:Hid (popN (k+1) t=popN k t):=hid (by rw[hps,hb]; rfl);have hand2:bits .and .u8 ((t:Int)/2^k) 1=0:=hand;clear hand hb hps hpm2 hul hul2 hcl hfz;go_wp2
      go_roundw
      case rel=>exact ⟨k+1,u,by omega,by go_num,rfl,by rw[HPop.out]; exact HU,by rw[HN.out]; exact HR,HB⟩
      case measure=>simp[intOf]; omega
    · have hb1:t/2^k%2=1:=by omega
      rw[hb1] at hand;have hand2:bits .and .u8 ((t:Int)/2^k) 1=1:=hand
      have hu0:0<u.size:=by omega
      have hg:((s.data.toList.drop (popN k t)).headD 0)=u[0]:=by
       rw[← HU.out,← z6j u 0 hu0]
       cases u.data.toList <;> rfl
      have HN:Hid (spUp (k+1) t s.data.toList=(spUp k t s.data.toList).set k u[0]):=hid (by rw[HP.out,if_neg (by omega),hg]);have HPop:Hid (popN (k+1) t=popN k t+1):=hid (by rw[hps,hb1])
      have HU2:Hid ((u.extract 1 u.size).data.toList=s.data.toList.drop (popN (k+1) t)):=hid (by
       rw[Lib.extract_data,HPop.out,← List.drop_drop,← HU.out,List.take_of_length_le (by simp)])
      have HR2:Hid ((wr.setCell ⟨w.heap.size,k,none⟩ (.int .u8 ((u[0]).toNat:Int))).heap[w.heap.size]? =some (.cells (wd ((spUp k t s.data.toList).set k u[0])) 87 (0,0))):=hid (by rw[heap_set _ HR.out,zqi]);have HB2:=hid (HB.out.setCell (p:=⟨w.heap.size,k,none⟩) (Nat.le_refl _) (.int .u8 ((u[0]).toNat:Int)));have hu1:1≤u.size:=hu0;clear hand hb hb1 hps hpm2 hul hul2 hg;go_wp2
      go_roundw
      case rel=>exact ⟨k+1,_,by omega,by go_num,rfl,HU2,by rw[HN.out]; exact HR2,HB2⟩
      case measure=>simp[intOf]; omega
  · obtain rfl:k=8:=by omega
    have hR:=HR.out;have hl8:=z1p 8 t s.data.toList;rw[zt2] at hR;have HR8:=hid hR;have HL8:=hid hl8;clear hstep hand hpm hps hul hul2 hR hl8
    obtain ⟨l,hle⟩:∃l,z0l 8 t s.data.toList=l:=⟨_,rfl⟩
    rw[hle] at HR8 HL8;have HLE:=hid hle;clear hle
    go_wp2_with (refine z1b rfl 87 (.tmp 5) rfl w.heap.size rfl 87 l _ HR8.out Tryz.underlying87 rfl (by rw[HL8.out]; exact z24) ?_)
    refine (zd8 l _ HL8.out).mono ?_;rintro e w2 ⟨rfl,hb2⟩;have HB2:=hid (HB.out.trans (hb2.mono HB.out.size));go_wp2;go_ret;exact ⟨by rw[HLE.out]; rfl,HB2.out⟩
theorem mk_sz (l:List UInt8):(⟨l.toArray⟩:ByteArray).size=l.length:=by simp[ByteArray.size]
def fitU (out:List UInt8):Option (List UInt8)→Option (List UInt8)
 | none=>none
 | some o=>if out.length+o.length≤1600 then some (out++o) else none
theorem zg9 (out x:List UInt8)(o:Option (List UInt8)):fitU out (o.map (x++ ·))=fitU (out++x) o:=by
 cases o with
 | none=>rfl
 | some o=>simp[fitU,Nat.add_assoc]
theorem zac {out:List UInt8}(h:1600<out.length)(o:Option (List UInt8)):fitU out o=none:=by
 cases o with
 | none=>rfl
 | some o=>rw[fitU,if_neg (by omega)]
theorem zr9 {out:List UInt8}(h:out.length≤1600):fitU out (unW [])=some out:=by
 rw[zly,fitU,if_pos (by simpa using h),List.append_nil]
def nouR (out l:List UInt8):Option (List UInt8):=if l.length=0 then none else fitU (out++List.replicate (8*(l.headD 0).toNat) 0) (unW l.tail)
def plaR (out l:List UInt8):Option (List UInt8):=if l.length<1+8*(l.headD 0).toNat then none else fitU (out++(l.drop 1).take (8*(l.headD 0).toNat)) (unW ((l.drop 1).drop (8*(l.headD 0).toNat)))
theorem zrv {out:List UInt8}(t:UInt8)(r:List UInt8)(h:r.length<popN 8 t.toNat):fitU out (unW (t :: r))=none:=by
 rw[zd6 (by simp) (by rw[stepU,if_pos h])]; rfl
theorem zqv {out:List UInt8}(r:List UInt8):fitU out (unW (0 :: r))=nouR (out++z0l 8 0 []) r:=by
 have e0:popN 8 (0:UInt8).toNat=0:=by decide
 have es:z0l 8 0 []=List.replicate 8 0:=by decide
 rw[nouR]
 by_cases h:r.length=0
 · rw[if_pos h,zd6 (by simp) (by rw[stepU,e0,if_neg (by omega),if_pos rfl,if_pos h])]; rfl
 · rw[if_neg h,z41 (show stepU (0 :: r)=some _ by rw[stepU,e0,if_neg (by omega),if_pos rfl,if_neg h]),zg9,es,List.append_assoc,List.replicate_append_replicate]
   congr 3; omega
theorem zjb:∀x:List UInt8,x.length=8→z0l 8 255 x=x
 | [a,b,c,d,e,f,g,i],_=>by simp[z0l]
theorem zsc {out:List UInt8}(r:List UInt8)(h8:8≤r.length):fitU out (unW (255 :: r))=plaR (out++z0l 8 255 (r.take 8)) (r.drop 8):=by
 have e0:popN 8 (255:UInt8).toNat=8:=by decide
 rw[zjb _ (by simp; omega),plaR,List.length_drop];generalize hc:((r.drop 8).headD 0).toNat=c
 by_cases h:r.length<9+8*c
 · rw[if_pos (by omega),zd6 (by simp) (by rw[stepU,e0,if_neg (by omega),if_neg (by decide),if_pos rfl,hc,if_pos h])]; rfl
 · rw[if_neg (by omega),z41 (show stepU (255 :: r)=some _ by rw[stepU,e0,if_neg (by omega),if_neg (by decide),if_pos rfl,hc,if_neg h]),zg9,List.append_assoc,show (r.drop 8).drop 1=r.drop 9 by rw[List.drop_drop]]
theorem zrd {out:List UInt8}(t:UInt8)(r:List UInt8)(h:popN 8 t.toNat≤r.length)(h0:t≠0)(h255:t≠255) :
 fitU out (unW (t :: r))=fitU (out++z0l 8 t.toNat (r.take (popN 8 t.toNat))) (unW (r.drop (popN 8 t.toNat))):=by
 rw[z41 (show stepU (t :: r)=some _ by rw[stepU,if_neg (by omega),if_neg h0,if_neg h255]),zg9]
theorem zs6 {out l:List UInt8}(h:1600<out.length):nouR out l=none:=by
 rw[nouR]; split
 · rfl
 · exact zac (by simp; omega) _
theorem zqx {out l:List UInt8}(h:1600<out.length):plaR out l=none:=by
 rw[plaR]; split
 · rfl
 · exact zac (by simp; omega) _
inductive UJ (R:Option (List UInt8)) (B b:Nat):Nat→Value→World→Prop
 | tag (k:Nat) (out:List UInt8) (L:ByteArray) (w:World):US B b out L false w→out.length≤1600→fitU out (unW L.data.toList)=R→2*L.size+2≤k→UJ R B b k (uTag b) w
 | nou (k:Nat) (out:List UInt8) (L:ByteArray) (w:World):US B b out L false w→out.length≤1600→nouR out L.data.toList=R→2*L.size+3≤k→UJ R B b k (uNou b) w
 | pla (k:Nat) (out:List UInt8) (L:ByteArray) (w:World):US B b out L false w→out.length≤1600→plaR out L.data.toList=R→2*L.size+3≤k→UJ R B b k (uPla b) w
 | bro (k:Nat) (out:List UInt8) (L:ByteArray) (w:World):US B b out L false w→out.length≤1600→R=none→1≤k→UJ R B b k (uBro b) w
 | fin (k:Nat) (out:List UInt8) (L:ByteArray) (bad:Bool) (w:World):US B b out L bad w→(bad=true∧R=none∨bad=false∧R=some out)→UJ R B b k .nilFunc w
def UNext (R:Option (List UInt8))(B b k:Nat)(w:World)(e:Ending)(w':World):Prop:=∃v k',k'<k∧e= .returned v∧UJ R B b k' v w'∧Keeps B b w w'
theorem zmp (R:Option (List UInt8))(B b k:Nat)(out:List UInt8)(L:ByteArray)(w:World)(h:US B b out L false w)(hR:R=none)(hk:1≤k) :
 Calls Tryz.prog 145 #[.pointer (some ⟨b,0,none⟩)] w (UNext R B b k w) :=
 (zfp B b out L false w h).mono fun e w' ⟨he,hU,hK⟩=>⟨_,0,by omega,he,.fin 0 out L true w' hU (.inl ⟨rfl,hR⟩),hK⟩
theorem zci (L:ByteArray)(h:0<L.size):L.data.toList=L[0] :: (L.extract 1 L.size).data.toList:=by
 have hl:L.data.toList.length=L.size:=rfl;rw[Lib.extract_data,List.take_of_length_le (by simp <;> omega)]
 conv=>lhs; rw[← List.drop_zero (l:=L.data.toList),List.drop_eq_getElem_cons (by omega)]
 rfl
theorem rep0 (n:Nat):Lib.repeatL [0] n=List.replicate n (0:UInt8):=by
 induction n with
 | zero=>rfl
 | succ n ih=>rw[Lib.repeatL,ih,List.replicate_succ]; rfl
theorem zmm (R:Option (List UInt8))(B b k:Nat)(out:List UInt8)(L:ByteArray)(w:World)(h:US B b out L false w)(ho:out.length≤1600)(hR:nouR out L.data.toList=R)(hk:2*L.size+3≤k)(hBw:B≤w.heap.size) :
 Calls Tryz.prog 146 #[.pointer (some ⟨b,0,none⟩)] w (UNext R B b k w):=by
 have hl:L.data.toList.length=L.size:=rfl
 by_cases h0:L.size<1
 · have hn:=z8d B b out L false 1 w h h0
   have HN:=hid hn
   have hr:R=none:=by rw[← hR,nouR,if_pos (by omega)]
   have HR:Hid (UNext R B b k w (.returned (uBro b)) w):=hid ⟨uBro b,1,by omega,rfl,.bro 1 out L w h ho hr (Nat.le_refl _),Keeps.refl _ _ _⟩;clear h hn hR hr hl;go_enter Tryz.func146,Tryz.ntmps146
   go_wp2_with (go_at_call 143; refine HN.out.mono ?_; rintro e w' ⟨rfl,rfl⟩)
   go_ret;exact HR.out
 · have hy:=z6t B b out L false 1 w h (by omega)
   have HY:=hid hy
   have hx0:0<(L.extract 0 1).size:=by simp; omega
   have hc:(L.extract 0 1)[0]=L[0]'(by omega):=by simp[ByteArray.getElem_eq_getElem_data]
   have hcut:=zci L (by omega)
   have hr:fitU (out++List.replicate (8*(L[0]'(by omega)).toNat) 0) (unW (L.extract 1 L.size).data.toList)=R:=by
    rw[← hR,nouR,if_neg (by omega),hcut]; rfl
   have hs2:(L.extract 1 L.size).size+1=L.size:=by simp; omega
   generalize L[0]'(by omega)=c at hc hr;have hc256:=c.toNat_lt;have hc0:=hc;generalize hX:L.extract 0 1=X at hx0 hc HY;generalize L.extract 1 L.size=L' at hr hs2 HY
   have hrep:Hid (∀w:World,Calls Tryz.prog 176 #[.string ⟨#[0]⟩,.int .i64 ((c.toNat:Int)*8)] w fun e w'=>e= .returned (.string ⟨(List.replicate (8*c.toNat) 0).toArray⟩)∧Below w.heap.size w w'):=hid (fun w=>by
    have:=Tryz.strings_Repeat ⟨#[0]⟩ (8*c.toNat) w (by omega) (by show 1*_≤_; omega);rw[show (⟨#[0]⟩:ByteArray).data.toList= [0] from rfl,rep0] at this;rw[show (c.toNat:Int)*8=((8*c.toNat:Nat):Int) by omega]
    exact this)
   clear h hy hR hl hcut hX hc0;go_enter Tryz.func146,Tryz.ntmps146
   go_wp2_with fail
   refine HY.out.mono ?_;rintro e w1 ⟨rfl,hU,hK⟩;have HU:=hid hU;have HK:=hid hK;clear hU hK
   go_wp2_with fail
   refine (hrep.out _).mono ?_;rintro e w2 ⟨rfl,hb2⟩;have HU2:=hid (HU.out.below hb2);have HK2:=hid (HK.out.trans (Keeps.of_below (hb2.mono (Nat.le_trans hBw HK.out.size))));have hB2:=Nat.le_trans hBw HK2.out.size;clear hb2
   have hzs:(⟨(List.replicate (8*c.toNat) (0:UInt8)).toArray⟩:ByteArray).size=8*c.toNat:=by rw[mk_sz]; simp
   by_cases hbig:1600<out.length+8*c.toNat
   · have hr2:R=none:=by rw[← hr]; exact zac (by simp; omega) _
     have HR2:=hid hr2;have HW:=hid (z9r B b out L' false _ (uTag b) w2 HU2.out (by rw[hzs]; exact hbig) (by rw[hzs]; omega) ho);clear hr hr2 hzs;unfold uTag at HW
     go_wp2_with fail
     refine HW.out.mono ?_;rintro e w' ⟨rfl,rfl⟩;go_wp2;go_ret;exact ⟨uBro b,1,by omega,rfl,.bro 1 out L' w2 HU2.out ho HR2.out (Nat.le_refl _),HK2.out⟩
   · have HW:=hid (z7h B b out L' false _ (uTag b) w2 HU2.out (by rw[hzs]; omega) hB2)
     have HRR:=hid hr;clear hr hzs;unfold uTag at HW
     go_wp2_with fail
     refine HW.out.mono ?_;rintro e w3 ⟨rfl,hU3,hK3⟩;have HU3:=hid hU3;have HK3:=hid (HK2.out.trans hK3);clear hU3 hK3;go_wp2;go_ret;exact ⟨uTag b,2*L'.size+2,by omega,rfl,.tag _ _ L' w3 HU3.out (by simp; omega) HRR.out (Nat.le_refl _),HK3.out⟩
theorem zjz (R:Option (List UInt8))(B b k:Nat)(out:List UInt8)(L:ByteArray)(w:World)(h:US B b out L false w)(ho:out.length≤1600)(hR:plaR out L.data.toList=R)(hk:2*L.size+3≤k)(hBw:B≤w.heap.size) :
 Calls Tryz.prog 147 #[.pointer (some ⟨b,0,none⟩)] w (UNext R B b k w):=by
 have hl:L.data.toList.length=L.size:=rfl
 by_cases h0:L.size<1
 · have hn:=z8d B b out L false 1 w h h0
   have HN:=hid hn
   have hr:R=none:=by rw[← hR,plaR,if_pos (by omega)]
   have HR:Hid (UNext R B b k w (.returned (uBro b)) w):=hid ⟨uBro b,1,by omega,rfl,.bro 1 out L w h ho hr (Nat.le_refl _),Keeps.refl _ _ _⟩;clear h hn hR hr hl;go_enter Tryz.func147,Tryz.ntmps147
   go_wp2_with (go_at_call 143; refine HN.out.mono ?_; rintro e w' ⟨rfl,rfl⟩)
   go_ret;exact HR.out
 · have hy:=z6t B b out L false 1 w h (by omega)
   have HY:=hid hy
   have hx0:0<(L.extract 0 1).size:=by simp; omega
   have hc:(L.extract 0 1)[0]=L[0]'(by omega):=by simp[ByteArray.getElem_eq_getElem_data]
   have hcut:=zci L (by omega)
   have hs2:(L.extract 1 L.size).size+1=L.size:=by simp; omega
   rw[hcut,plaR,List.length_cons,List.headD_cons,List.drop_succ_cons,List.drop_zero] at hR;generalize L[0]'(by omega)=c at hc hR;have hc256:=c.toNat_lt;generalize hX:L.extract 0 1=X at hx0 hc HY;generalize L.extract 1 L.size=L' at hR hs2 HY;have hl':L'.data.toList.length=L'.size:=rfl;rw[hl'] at hR;clear h hy hl hcut hX hl';go_enter Tryz.func147,Tryz.ntmps147
   go_wp2_with fail
   refine HY.out.mono ?_;rintro e w1 ⟨rfl,hU,hK⟩;have HU:=hid hU;have HK:=hid hK;clear hU hK
   have hcc:(c.toNat:Int)*8=((8*c.toNat:Nat):Int):=by omega
   by_cases hlt:L'.size<8*c.toNat
   · have hn:=z8d B b out L' false (8*c.toNat) w1 HU.out hlt
     rw[← hcc] at hn;have HN:=hid hn
     have hr:R=none:=by rw[← hR,if_pos (by omega)]
     have HR2:=hid hr;clear hn hr hR hcc
     go_wp2_with fail
     refine HN.out.mono ?_;rintro e w' ⟨rfl,rfl⟩;go_wp2;go_ret;exact ⟨uBro b,1,by omega,rfl,.bro 1 out L' w1 HU.out ho HR2.out (Nat.le_refl _),HK.out⟩
   · have hn:=z6t B b out L' false (8*c.toNat) w1 HU.out (by omega)
     rw[← hcc] at hn;have HN:=hid hn;rw[if_neg (by omega)] at hR
     have hxs:(L'.extract 0 (8*c.toNat)).size=8*c.toNat:=by simp; omega
     have hxl:(L'.extract 0 (8*c.toNat)).data.toList=L'.data.toList.take (8*c.toNat):=by rw[Lib.extract_data]; simp
     have hyl:(L'.extract (8*c.toNat) L'.size).data.toList=L'.data.toList.drop (8*c.toNat):=by rw[Lib.extract_data,List.take_of_length_le (by simp <;> omega)]
     have hys:(L'.extract (8*c.toNat) L'.size).size≤L'.size:=by simp
     rw[← hxl,← hyl] at hR;generalize L'.extract 0 (8*c.toNat)=X2 at hxs hR HN;generalize L'.extract (8*c.toNat) L'.size=L2 at hys hR HN;clear hn hcc hxl hyl
     go_wp2_with fail
     refine HN.out.mono ?_;rintro e w2 ⟨rfl,hU2,hK2⟩;have HU2:=hid hU2;have HK2:=hid (HK.out.trans hK2);have hB2:=Nat.le_trans hBw HK2.out.size;clear hU2 hK2
     by_cases hbig:1600<out.length+X2.size
     · have hr2:R=none:=by rw[← hR]; exact zac (by rw[List.length_append]; have:X2.data.toList.length=X2.size:=rfl; omega) _
       have HR2:=hid hr2;have HW:=hid (z9r B b out L2 false X2 (uTag b) w2 HU2.out hbig (by omega) ho);clear hR hr2 hxs;unfold uTag at HW
       go_wp2_with fail
       refine HW.out.mono ?_;rintro e w' ⟨rfl,rfl⟩;go_wp2;go_ret;exact ⟨uBro b,1,by omega,rfl,.bro 1 out L2 w2 HU2.out ho HR2.out (Nat.le_refl _),HK2.out⟩
     · have HW:=hid (z7h B b out L2 false X2 (uTag b) w2 HU2.out (by omega) hB2)
       have HRR:=hid hR;clear hR hxs;unfold uTag at HW
       go_wp2_with fail
       refine HW.out.mono ?_;rintro e w3 ⟨rfl,hU3,hK3⟩;have HU3:=hid hU3;have HK3:=hid (HK2.out.trans hK3);clear hU3 hK3;go_wp2;go_ret;exact ⟨uTag b,2*L2.size+2,by omega,rfl,.tag _ _ L2 w3 HU3.out (by rw[List.length_append]; have:X2.data.toList.length=X2.size:=rfl; omega) HRR.out (Nat.le_refl _),HK3.out⟩
theorem zfm (R:Option (List UInt8))(B b k:Nat)(out:List UInt8)(L x:ByteArray)(next:Value)(w:World)(h:US B b out L false w)(ho:out.length≤1600)(hx:x.size≤100000)(hk:2≤k)(hBw:B≤w.heap.size)
 (hN:1600<out.length+x.size→R=none) (hJ:∀w',US B b (out++x.data.toList) L false w'→out.length+x.size≤1600→∃k',k'<k∧UJ R B b k' next w') :
 Calls Tryz.prog 148 #[.pointer (some ⟨b,0,none⟩),.string x,next] w (UNext R B b k w):=by
 by_cases hbig:1600<out.length+x.size
 · refine (z9r B b out L false x next w h hbig hx ho).mono ?_
   rintro e w' ⟨rfl,rfl⟩;exact ⟨_,1,by omega,rfl,.bro 1 out L w h ho (hN hbig) (Nat.le_refl _),Keeps.refl _ _ _⟩
 · refine (z7h B b out L false x next w h (by omega) hBw).mono ?_
   rintro e w' ⟨rfl,hU,hK⟩;obtain ⟨k',hk',hj⟩:=hJ w' hU (by omega);exact ⟨_,k',hk',rfl,hj,hK⟩
theorem UNext.of {R:Option (List UInt8)}{B b k:Nat}{w w1:World}{e:Ending}{w':World}(h:UNext R B b k w1 e w')(hk:Keeps B b w w1):UNext R B b k w e w':=by
 obtain ⟨v,k',h1,h2,h3,h4⟩:=h;exact ⟨v,k',h1,h2,h3,hk.trans h4⟩
theorem zpf:((List.range 256).all fun x=>Lib.onesCount x==popN 8 x)=true:=by decide +kernel
theorem zl9 (t:Nat)(h:t<256):Lib.onesCount t=popN 8 t:=by
 have:=List.all_eq_true.1 zpf t (List.mem_range.2 h)
 simpa using this
theorem zmk:∀k t,popN k t≤k
 | 0,_=>Nat.le_refl _
 | k+1,t=>by
   have:=zmk k (t/2)
   rw[popN]; omega
theorem zkz (R:Option (List UInt8))(B b k:Nat)(out:List UInt8)(L:ByteArray)(w:World)(h:US B b out L false w)(ho:out.length≤1600)(hR:fitU out (unW L.data.toList)=R)(hk:2*L.size+2≤k)(hBw:B≤w.heap.size) :
 Calls Tryz.prog 103 #[.pointer (some ⟨b,0,none⟩)] w (UNext R B b k w):=by
 have hl:L.data.toList.length=L.size:=rfl;have hcl:=h.left;have hfz:=BF.frozen h 2
 by_cases h0:L.size=0
 · have hl0:L.data.toList= []:=List.eq_nil_of_length_eq_zero (by omega)
   have hL:L=⟨#[]⟩:=by rw[← Lib.mk_data L,hl0]
   have hr:R=some out:=by rw[← hR,hl0]; exact zr9 ho
   have HR:Hid (UNext R B b k w (.returned .nilFunc) w):=hid ⟨_,0,by omega,rfl,.fin 0 out L false w h (.inr ⟨rfl,hr⟩),Keeps.refl _ _ _⟩;rw[hL] at hcl;clear h hR hr hl hl0 hL hfz;go_enter Tryz.func103,Tryz.ntmps103;go_wp2;go_ret;exact HR.out
 have hne:L.toList.isEmpty=false:=by
  rw[ByteArray.toList_eq]
  cases hx:L.data.toList with
  | nil=>rw[hx] at hl; simp at hl; omega
  | cons a r=>rfl
 have hcut:=zci L (by omega)
 have hs2:(L.extract 1 L.size).size+1=L.size:=by simp; omega
 have hset:=h.setLeft (L.extract 1 L.size);have hk2:=z0o B b w 2 (.string (L.extract 1 L.size))
 have hl1:1≤L.size:=by omega
 have hl0:0<L.size:=by omega
 obtain ⟨c,hc⟩:∃c,L[0]'(by omega)=c:=⟨_,rfl⟩
 rw[hc] at hcut;rw[hcut] at hR;have hc256:=c.toNat_lt
 have hones:=fun w=>Tryz.bits_OnesCount8 (c.toNat:Int) w (by omega) (by omega)
 rw[Int.toNat_natCast,zl9 c.toNat hc256] at hones;have HON:=hid hones;have HC:=hid hc;have HSET:=hid hset;have HK2:=hid hk2;have hB2:B≤(w.setCell ⟨b,2,none⟩ (.string (L.extract 1 L.size))).heap.size:=Nat.le_trans hBw hk2.size;have HB2:=hid hB2
 obtain ⟨L',hL'⟩:∃L',L.extract 1 L.size=L':=⟨_,rfl⟩
 rw[hL'] at hR hs2;have HL':=hid hL';have hpl:=zmk 8 c.toNat
 obtain ⟨n,hn⟩:∃n,popN 8 c.toNat=n:=⟨_,rfl⟩
 rw[hn] at HON hpl;have HN:=hid hn;have HR:=hid hR;have hll:L'.data.toList.length=L'.size:=rfl;have HLL:=hid hll;clear h hset hk2 hB2 hcut hR hones hc hl hL' hn hll;go_enter Tryz.func103,Tryz.ntmps103
 go_wp2_with fail
 rw[HC.out];refine (HON.out _).mono ?_;rintro e w1 ⟨rfl,rfl⟩;rw[HL'.out] at HSET HK2 HB2 ⊢;clear hcl hfz hne;generalize w.setCell ⟨b,2,none⟩ (.string L')=w1 at HSET HK2 HB2 ⊢
 by_cases hlt:L'.size<n
 · have HT:=hid (z8d B b out L' false n w1 HSET.out hlt)
   have hr:R=none:=by rw[← HR.out]; exact zrv c _ (by rw[HN.out,HLL.out]; exact hlt)
   have HRR:=hid hr;clear hr
   go_wp2_with fail
   refine HT.out.mono ?_;rintro e w' ⟨rfl,rfl⟩;go_wp2;go_ret;exact ⟨uBro b,1,by omega,rfl,.bro 1 out L' w1 HSET.out ho HRR.out (Nat.le_refl _),HK2.out⟩
 have HT:=hid (z6t B b out L' false n w1 HSET.out (by omega))
 have hxs:(L'.extract 0 n).size=n:=by simp; omega
 have hxl:(L'.extract 0 n).data.toList=L'.data.toList.take n:=by rw[Lib.extract_data]; simp
 have hyl:(L'.extract n L'.size).data.toList=L'.data.toList.drop n:=by rw[Lib.extract_data,List.take_of_length_le (by simp <;> omega)]
 have hys:(L'.extract n L'.size).size+n=L'.size:=by simp; omega
 have hsp:=fun w=>zjd c.toNat (L'.extract 0 n) w hc256 (by rw[hxs,HN.out])
 rw[hxl] at hsp;have HSP:=hid hsp
 have hxlen:(⟨(z0l 8 c.toNat (L'.data.toList.take n)).toArray⟩:ByteArray).size=8:=by rw[mk_sz,z1p]
 have hwr:∀(next:Value) (w2:World),US B b out (L'.extract n L'.size) false w2→B≤w2.heap.size→(1600<out.length+8→R=none)→(∀w',US B b (out++z0l 8 c.toNat (L'.data.toList.take n)) (L'.extract n L'.size) false w'→out.length+8≤1600→∃k',k'<k∧UJ R B b k' next w') →
  Calls Tryz.prog 148 #[.pointer (some ⟨b,0,none⟩),.string ⟨(z0l 8 c.toNat (L'.data.toList.take n)).toArray⟩,next] w2 (UNext R B b k w2):=fun next w2 hu hb hN hJ =>
  zfm R B b k out _ _ next w2 hu ho (by rw[hxlen]; omega) (by omega) hb (by rw[hxlen]; exact hN) (by rw[hxlen]; exact hJ)
 have HWR:=hid hwr
 have hlen8:(out++z0l 8 c.toNat (L'.data.toList.take n)).length=out.length+8:=by rw[List.length_append,z1p]
 have HL8:=hid hlen8;clear hsp hxl hxs hwr hxlen hlen8;generalize L'.extract 0 n=X at HT HSP;generalize L'.extract n L'.size=L2 at HT HWR hyl hys;have HYL:=hid hyl;clear hyl
 go_wp2_with fail
 refine HT.out.mono ?_;rintro e w2 ⟨rfl,hU2,hK2⟩;have HU2:=hid hU2;have HK3:=hid (HK2.out.trans hK2);have HB3:=hid (Nat.le_trans HB2.out hK2.size);clear hU2 hK2
 have fin:∀(next:Value) (st:List UInt8→List UInt8→Option (List UInt8)),st (out++z0l 8 c.toNat (L'.data.toList.take n)) L2.data.toList=R→(∀o l,1600<o.length→st o l=none) →
  (∀w',US B b (out++z0l 8 c.toNat (L'.data.toList.take n)) L2 false w'→out.length+8≤1600→∃k',k'<k∧UJ R B b k' next w') →
  ∀w3,Below w2.heap.size w2 w3→Calls Tryz.prog 148 #[.pointer (some ⟨b,0,none⟩),.string ⟨(z0l 8 c.toNat (L'.data.toList.take n)).toArray⟩,next] w3 (UNext R B b k w):=fun next st hst hbg hJ w3 hb3 =>
  (HWR.out next w3 (HU2.out.below hb3) (Nat.le_trans HB3.out hb3.size) (fun hb=>by rw[← hst]; exact hbg _ _ (by rw[HL8.out]; exact hb)) hJ).mono fun e w' hu=>hu.of (HK3.out.trans (Keeps.of_below (hb3.mono HB3.out)))
 have FIN:=hid fin;clear fin
 by_cases hc0:c=0
 · have hst:nouR (out++z0l 8 c.toNat (L'.data.toList.take n)) L2.data.toList=R:=by
    have hn0:n=0:=by rw[← HN.out,hc0]; decide
    rw[← HR.out,HYL.out,hn0,hc0];exact (zqv _).symm
   have HF:=hid (FIN.out (uNou b) nouR hst (fun o l h=>zs6 h) (fun w' hu h8=>⟨2*L2.size+3,by omega,.nou _ _ L2 w' hu (by rw[HL8.out]; exact h8) hst (Nat.le_refl _)⟩))
   have hci:((c.toNat:Int)==0)=true:=by rw[hc0]; rfl
   clear hst hc0;unfold uNou at HF
   go_wp2_with fail
   refine (HSP.out _).mono ?_;rintro e w3 ⟨rfl,hb3⟩;have HB3':=hid hb3;clear hb3
   go_wp2_with fail
   refine (HF.out _ HB3'.out).mono ?_;rintro e w4 ⟨v,k',h1,rfl,h3,h4⟩;go_wp2;go_ret;exact ⟨v,k',h1,rfl,h3,h4⟩
 have hci:((c.toNat:Int)==0)=false:=by
  rw[beq_eq_false_iff_ne]; intro h; exact hc0 (UInt8.toNat_inj.1 (by simpa using h))
 by_cases hc1:c=255
 · have hst:plaR (out++z0l 8 c.toNat (L'.data.toList.take n)) L2.data.toList=R:=by
    have hn8:n=8:=by rw[← HN.out,hc1]; decide
    rw[← HR.out,HYL.out,hn8,hc1];exact (zsc _ (by rw[HLL.out]; omega)).symm
   have HF:=hid (FIN.out (uPla b) plaR hst (fun o l h=>zqx h) (fun w' hu h8=>⟨2*L2.size+3,by omega,.pla _ _ L2 w' hu (by rw[HL8.out]; exact h8) hst (Nat.le_refl _)⟩))
   have hcj:((c.toNat:Int)==255)=true:=by rw[hc1]; rfl
   clear hst hc0 hc1;unfold uPla at HF
   go_wp2_with fail
   refine (HSP.out _).mono ?_;rintro e w3 ⟨rfl,hb3⟩;have HB3':=hid hb3;clear hb3
   go_wp2_with fail
   refine (HF.out _ HB3'.out).mono ?_;rintro e w4 ⟨v,k',h1,rfl,h3,h4⟩;go_wp2;go_ret;exact ⟨v,k',h1,rfl,h3,h4⟩
 · have hst:(fun o l=>fitU o (unW l)) (out++z0l 8 c.toNat (L'.data.toList.take n)) L2.data.toList=R:=by
    show fitU _ (unW L2.data.toList)=R
    rw[← HR.out,HYL.out,← HN.out];exact (zrd c _ (by rw[HN.out,HLL.out]; omega) hc0 hc1).symm
   have HF:=hid (FIN.out (uTag b) (fun o l=>fitU o (unW l)) hst (fun o l h=>zac h _) (fun w' hu h8=>⟨2*L2.size+2,by omega,.tag _ _ L2 w' hu (by rw[HL8.out]; exact h8) hst (Nat.le_refl _)⟩))
   have hcj:((c.toNat:Int)==255)=false:=by
    rw[beq_eq_false_iff_ne]; intro h; exact hc1 (UInt8.toNat_inj.1 (show c.toNat=255 by omega))
   clear hst hc0 hc1;unfold uTag at HF
   go_wp2_with fail
   refine (HSP.out _).mono ?_;rintro e w3 ⟨rfl,hb3⟩;have HB3':=hid hb3;clear hb3
   go_wp2_with fail
   refine (HF.out _ HB3'.out).mono ?_;rintro e w4 ⟨v,k',h1,rfl,h3,h4⟩;go_wp2;go_ret;exact ⟨v,k',h1,rfl,h3,h4⟩
theorem zlz (W:World):(binOp .neq 156 .nilFunc .nilFunc).run Tryz.prog W= .ok (.bool false) W:=by kernel_rfl
theorem z9s (f:Fn)(xs ys:Array Value)(W:World):(binOp .neq 156 (.func f xs ys) .nilFunc).run Tryz.prog W= .ok (.bool true) W:=by kernel_rfl
theorem UJ.parts {R:Option (List UInt8)}{B b k:Nat}{v:Value}{w:World}(h:UJ R B b k v w) :
 (∃out L,v=uTag b∧US B b out L false w∧out.length≤1600∧fitU out (unW L.data.toList)=R∧2*L.size+2≤k) ∨
 (∃out L,v=uNou b∧US B b out L false w∧out.length≤1600∧nouR out L.data.toList=R∧2*L.size+3≤k) ∨
 (∃out L,v=uPla b∧US B b out L false w∧out.length≤1600∧plaR out L.data.toList=R∧2*L.size+3≤k) ∨
 (∃out L,v=uBro b∧US B b out L false w∧out.length≤1600∧R=none∧1≤k) ∨
 (∃out L bad,v= .nilFunc∧US B b out L bad w∧(bad=true∧R=none∨bad=false∧R=some out)):=by
 match h with
 | .tag _ out L _ h1 h2 h3 h4=>exact .inl ⟨out,L,rfl,h1,h2,h3,h4⟩
 | .nou _ out L _ h1 h2 h3 h4=>exact .inr (.inl ⟨out,L,rfl,h1,h2,h3,h4⟩)
 | .pla _ out L _ h1 h2 h3 h4=>exact .inr (.inr (.inl ⟨out,L,rfl,h1,h2,h3,h4⟩))
 | .bro _ out L _ h1 h2 h3 h4=>exact .inr (.inr (.inr (.inl ⟨out,L,rfl,h1,h2,h3,h4⟩)))
 | .fin _ out L bad _ h1 h2=>exact .inr (.inr (.inr (.inr ⟨out,L,bad,rfl,h1,h2⟩)))
theorem UJ.ended {R:Option (List UInt8)}{B b k:Nat}{w:World}(h:UJ R B b k .nilFunc w):∃out L bad,US B b out L bad w∧(bad=true∧R=none∨bad=false∧R=some out):=by
 rcases h.parts with ⟨out,L,e,_⟩ | ⟨out,L,e,_⟩ | ⟨out,L,e,_⟩ | ⟨out,L,e,_⟩ | ⟨out,L,bad,_,h1,h2⟩
 · cases e
 · cases e
 · cases e
 · cases e
 · exact ⟨out,L,bad,h1,h2⟩
theorem zo4 (R:Option (List UInt8))(B b k:Nat)(v:Value)(w:World)(h:UJ R B b k v w)(hBw:B≤w.heap.size) :
 Calls Tryz.prog 98 #[v] w fun e w'=>e= .returned (.tuple #[])∧(∃k',UJ R B b k' .nilFunc w')∧Keeps B b w w':=by
 have H:=hid h;clear h;go_enter Tryz.func98,Tryz.ntmps98
 go_wp2_with fail
 go_loopg [0] k (fun k s wr=>Hid (UJ R B b k s wr)∧Hid (Keeps B b w wr))
 case atStart=>exact ⟨H,Keeps.refl _ _ _⟩
 case round =>
  obtain ⟨HJ,HK⟩:=hrel;have hB:=Nat.le_trans hBw HK.out.size
  rcases HJ.out.parts with ⟨out,L,rfl,h1,h2,h3,h4⟩ | ⟨out,L,rfl,h1,h2,h3,h4⟩ | ⟨out,L,rfl,h1,h2,h3,h4⟩ | ⟨out,L,rfl,h1,h2,h3,h4⟩ | ⟨out,L,bad,rfl,h1,h2⟩
  · have HN:=hid (zkz R B b gk out L wr h1 h2 h3 h4 hB)
    clear h1 h3 HJ;unfold uTag;have hneq:=z9s
    go_wp2_with fail
    refine HN.out.mono ?_;rintro e w4 ⟨v,k',hk',rfl,hj4,hk4⟩;have HJ4:=hid hj4;have HK4:=hid (HK.out.trans hk4);clear hj4 hk4;go_wp2
    go_roundg k'
    case measure=>exact hk'
    case rel=>exact ⟨HJ4,HK4⟩
  · have HN:=hid (zmm R B b gk out L wr h1 h2 h3 h4 hB)
    clear h1 h3 HJ;unfold uNou;have hneq:=z9s
    go_wp2_with fail
    refine HN.out.mono ?_;rintro e w4 ⟨v,k',hk',rfl,hj4,hk4⟩;have HJ4:=hid hj4;have HK4:=hid (HK.out.trans hk4);clear hj4 hk4;go_wp2
    go_roundg k'
    case measure=>exact hk'
    case rel=>exact ⟨HJ4,HK4⟩
  · have HN:=hid (zjz R B b gk out L wr h1 h2 h3 h4 hB)
    clear h1 h3 HJ;unfold uPla;have hneq:=z9s
    go_wp2_with fail
    refine HN.out.mono ?_;rintro e w4 ⟨v,k',hk',rfl,hj4,hk4⟩;have HJ4:=hid hj4;have HK4:=hid (HK.out.trans hk4);clear hj4 hk4;go_wp2
    go_roundg k'
    case measure=>exact hk'
    case rel=>exact ⟨HJ4,HK4⟩
  · have HN:=hid (zmp R B b gk out L wr h1 h3 h4)
    clear h1 h3 HJ;unfold uBro;have hneq:=z9s
    go_wp2_with fail
    refine HN.out.mono ?_;rintro e w4 ⟨v,k',hk',rfl,hj4,hk4⟩;have HJ4:=hid hj4;have HK4:=hid (HK.out.trans hk4);clear hj4 hk4;go_wp2
    go_roundg k'
    case measure=>exact hk'
    case rel=>exact ⟨HJ4,HK4⟩
  · clear h1 h2
    have hneq:=zlz;go_wp2
    go_end0
    exact ⟨rfl,⟨gk,HJ.out⟩,HK.out⟩
def unV (s:ByteArray):Value:=match fitU [] (unW s.data.toList) with
 | none=> .tuple #[.string ⟨#[]⟩,.bool false]
 | some o=> .tuple #[.string ⟨o.toArray⟩,.bool true]
theorem zas (s:ByteArray)(w:World) :
 Calls Tryz.prog 54 #[.string s] w fun e w'=>e= .returned (unV s)∧Below w.heap.size w w':=by
 have h0:=heap_alloc_new w (.cells #[.pointer none,.slice none 0 0,.string s,.bool false] 161);have hb0:Below w.heap.size w (w.alloc (.cells #[.pointer none,.slice none 0 0,.string s,.bool false] 161)):=(Below.refl _ _).alloc (Nat.le_refl _) _
 obtain ⟨w1,hw1⟩:∃w1,w.alloc (.cells #[.pointer none,.slice none 0 0,.string s,.bool false] 161)=w1:=⟨_,rfl⟩
 have hsz:w1.heap.size=w.heap.size+1:=by rw[← hw1]; simp
 rw[hw1] at h0 hb0;have hU:US (w.heap.size+1) w.heap.size [] s false w1:=BF.fresh (w.heap.size+1) h0;have hrun:=zo4 (fitU [] (unW s.data.toList)) (w.heap.size+1) w.heap.size _ (uTag w.heap.size) w1 (.tag _ [] s w1 hU (by simp) rfl (Nat.le_refl _)) (by omega);have HRun:=hid hrun;have HW1:=hid hw1;have HB0:=hid hb0;clear h0 hb0 hU hrun hw1;unfold uTag at HRun;go_enter Tryz.func54,Tryz.ntmps54
 go_wp2_with fail
 rw[HW1.out];refine HRun.out.mono ?_;rintro e w2 ⟨rfl,⟨k,hj⟩,hk⟩;have HK:=hid (HB0.out.trans (hk.below (Nat.le_succ _) (Nat.le_refl _)));have hB2:=hk.size;obtain ⟨out,L,bad,h1,h2⟩:=hj.ended
 · have hbc:=h1.bad
   clear hj
   rcases h2 with ⟨rfl,hR⟩ | ⟨rfl,hR⟩
   · have hv:unV s= .tuple #[.string ⟨#[]⟩,.bool false]:=by rw[unV,hR]
     have HV:=hid hv;clear h1 hR hv hk;go_wp2
     go_ret2
     exact ⟨by rw[HV.out]; rfl,HK.out⟩
   · have hv:unV s= .tuple #[.string ⟨out.toArray⟩,.bool true]:=by rw[unV,hR]
     have HV:=hid hv;have HS:=hid (z8n 161 (w.heap.size+1) w.heap.size out [.string L,.bool false] w2 h1 (by omega));clear h1 hR hv hk
     go_wp2_with fail
     refine HS.out.mono ?_;rintro e w3 ⟨rfl,hb3⟩;have HB3:=hid (HK.out.trans (hb3.mono (Nat.le_succ _)));clear hb3;go_wp2
     go_ret2
     exact ⟨by rw[HV.out]; rfl,HB3.out⟩
def gN (l:List UInt8)(i:Nat):Nat:=leN l (4*i) 4
theorem gN_lt (l:List UInt8)(i:Nat):gN l i<4294967296:=by
 have:=zdp l 4 (4*i)
 simpa [gN] using this
def szs (l:List UInt8)(n:Nat):List Nat:=(List.range n).map fun i=>gN l (i+1)
theorem zh6 (l:List UInt8)(n:Nat):szs l (n+1)=szs l n++ [gN l (n+1)]:=by simp[szs,List.range_succ]
theorem z5o (l:List UInt8)(n:Nat):(szs l n).length=n:=by simp[szs]
theorem z80 (l:List UInt8)(n:Nat):(szs l (n+1)).sum=(szs l n).sum+gN l (n+1):=by simp[zh6]
theorem zbz (l:List UInt8):∀n,(szs l n).sum≤4294967296*n
 | 0=>by simp[szs]
 | n+1=>by
   have:=zbz l n;have:=gN_lt l (n+1)
   rw[z80]; omega
def cutB (s:ByteArray):Nat→List Nat→List ByteArray
 | _,[]=> []
 | a,z :: r=>s.extract a (a+8*z) :: cutB s (a+8*z) r
theorem z8s (s:ByteArray):∀(zs:List Nat) (a:Nat),(cutB s a zs).length=zs.length
 | [],_=>rfl
 | z :: r,a=>by simp[cutB,z8s s r]
theorem zew (s:ByteArray):∀(zs:List Nat) (a z:Nat),cutB s a (zs++ [z])=cutB s a zs++ [s.extract (a+8*zs.sum) (a+8*zs.sum+8*z)]
 | [],a,z=>by simp[cutB]
 | y :: r,a,z=>by
   have e:a+8*y+8*r.sum=a+8*(y+r.sum):=by omega
   simp[cutB,zew s r,e]
def z1a (n:Nat):Nat:=(n/2+1)*8
def fgZ (l:List UInt8)(n:Nat):Bool:=((l.take (z1a n)).drop (4*(n+1))).all (· ==0)
def fg (s:ByteArray):Int×List ByteArray :=
 if s.size<4 then (0,[]) else
 if 6<gN s.data.toList 0+1 then (-1,[]) else
 if s.size<z1a (gN s.data.toList 0+1) then (0,[]) else
 if fgZ s.data.toList (gN s.data.toList 0+1)=false∨200<(szs s.data.toList (gN s.data.toList 0+1)).sum then (-1,[]) else
 if s.size<z1a (gN s.data.toList 0+1)+8*(szs s.data.toList (gN s.data.toList 0+1)).sum then (0,[]) else
 (((z1a (gN s.data.toList 0+1)+8*(szs s.data.toList (gN s.data.toList 0+1)).sum:Nat):Int),cutB s (z1a (gN s.data.toList 0+1)) (szs s.data.toList (gN s.data.toList 0+1)))
theorem fg0 {s:ByteArray}(h:s.size<4):fg s=(0,[]):=by rw[fg,if_pos h]
theorem fg1 {s:ByteArray}{n:Nat}(hn:gN s.data.toList 0+1=n)(h:4≤s.size)(h1:6<n):fg s=(-1,[]):=by
 rw[fg,if_neg (by omega),hn,if_pos h1]
theorem fg2 {s:ByteArray}{n:Nat}(hn:gN s.data.toList 0+1=n)(h:4≤s.size)(h1:n≤6)(h2:s.size<z1a n):fg s=(0,[]):=by
 rw[fg,if_neg (by omega),hn,if_neg (by omega),if_pos h2]
theorem fg3 {s:ByteArray}{n:Nat}(hn:gN s.data.toList 0+1=n)(h:4≤s.size)(h1:n≤6)(h2:z1a n≤s.size)(h3:fgZ s.data.toList n=false∨200<(szs s.data.toList n).sum):fg s=(-1,[]):=by
 rw[fg,if_neg (by omega),hn,if_neg (by omega),if_neg (by omega),if_pos h3]
theorem fg4 {s:ByteArray}{n:Nat}(hn:gN s.data.toList 0+1=n)(h:4≤s.size)(h1:n≤6)(h2:z1a n≤s.size)(h3:fgZ s.data.toList n=true)(h4:(szs s.data.toList n).sum≤200)(h5:s.size<z1a n+8*(szs s.data.toList n).sum):fg s=(0,[]):=by
 rw[fg,if_neg (by omega),hn,if_neg (by omega),if_neg (by omega),if_neg (by rw[h3]; simp; omega),if_pos h5]
theorem fg5 {s:ByteArray}{n:Nat}(hn:gN s.data.toList 0+1=n)(h:4≤s.size)(h1:n≤6)(h2:z1a n≤s.size)(h3:fgZ s.data.toList n=true)(h4:(szs s.data.toList n).sum≤200)(h5:z1a n+8*(szs s.data.toList n).sum≤s.size) :
 fg s=(((z1a n+8*(szs s.data.toList n).sum:Nat):Int),cutB s (z1a n) (szs s.data.toList n)):=by
 rw[fg,if_neg (by omega),hn,if_neg (by omega),if_neg (by omega),if_neg (by rw[h3]; simp; omega),if_neg (by omega)]
theorem znz {l m:List UInt8}(i:Nat)(h:∀j,j<4*i+4→l[j]? =m[j]?):gN l i=gN m i :=
 z2d _ _ 4 _ _ (fun k hk=>h (4*i+k) (by omega))
theorem zlb {l m:List UInt8}(n:Nat)(h:∀j,j<4*n+4→l[j]? =m[j]?):szs l n=szs m n:=by
 unfold szs
 apply List.map_congr_left
 intro i hi
 exact znz (i+1) (fun j hj=>h j (by have:=List.mem_range.1 hi; omega))
end Go.Proofs.YtlbfffokkhccaaaGreatDoor
