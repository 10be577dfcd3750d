/- Texts of the proof of the law FnExactRecordOf, side by side: part 26. -/
import Derived.RangeFuncNested
import Derived.RangeFuncBound
import Derived.RangeFuncCalls
import Derived.RangeFuncLeaves
import Derived.Shelf.Abstract
import Derived.Shelf.RegionOpen
import Derived.OwnWalkIn
import Derived.TacticsInMore
import Derived.LoopNIn
import Derived.LoopIn
import Derived.Deep.DeepMust
import Derived.Stop.BytesEq
import Derived.Test.YtehhbbdaeonebaaGreatDoorMExactRecordOf25
set_option maxHeartbeats 8000000
set_option maxRecDepth 100000
namespace Go.Proofs.YtehhbbdaeonebaaGreatDoor
open Go.RowKit Go.Shelf
attribute [local go_sem] Oper.semAt_some
abbrev W8 := { l : List UInt8 // l.length = 8 }
end Go.Proofs.YtehhbbdaeonebaaGreatDoor
namespace Go.Proofs.YtehhbbdaeonebaaGreatDoor
open Go.RowKit
open Go.RowKit Go.Shelf
attribute [local go_sem] Oper.semAt_some
end Go.Proofs.YtehhbbdaeonebaaGreatDoor
namespace Go.Proofs.YtehhbbdaeonebaaGreatDoor
open Go.RowKit
open Go.RowKit Go.Deep
theorem own_cap {w : World} {m c : Nat} {A : Option Addr} {l : List Nd} {bs : List Nat} (h : OwS w m A c l bs) : (A = none ∧ l = [] ∧ c = 0) ∨ (∃ g, A = some ⟨g, 0, none⟩) ∧ l.length ≤ c := by
 cases m with
 | zero =>
  obtain ⟨hl, ho, _⟩ := h
  rcases own_blk ho with ⟨h1, _, h3, _⟩ | ⟨g, _, h1, _⟩
  · exact .inl ⟨h1, hl, h3⟩
  · exact .inr ⟨⟨g, h1⟩, by rw [hl]; exact Nat.zero_le _⟩
 | succ m =>
  obtain ⟨q, hq, ho, _⟩ := h
  rcases own_blk ho with ⟨h1, h2, h3, _⟩ | ⟨g, cur, h1, _, _, _, h5, _⟩
  · exact .inl ⟨h1, by rw [← hq, List.eq_nil_of_length_eq_zero h2]; rfl, h3⟩
  · exact .inr ⟨⟨g, h1⟩, by rw [← hq, List.length_map]; exact h5⟩
theorem RowG.cells {w : World} {M g c : Nat} {pre post : List NB} {r : NB} (h : RowG w g c (pre ++ r :: post) M) : w.cell? ⟨g, pre.length * 6, none⟩ = some (.int .i64 r.1.kind) ∧ w.cell? ⟨g, pre.length * 6 + 1, none⟩ = some (.string r.1.data) ∧ w.cell? ⟨g, pre.length * 6 + 2, none⟩ = some (.slice r.2.1.A r.1.ptrs.length r.2.1.a) ∧ w.cell? ⟨g, pre.length * 6 + 3, none⟩ = some (.int .i64 r.1.size) ∧ w.cell? ⟨g, pre.length * 6 + 4, none⟩ = some (.int .i64 r.1.count) ∧ w.cell? ⟨g, pre.length * 6 + 5, none⟩ = some (.slice r.2.1.B r.1.items.length r.2.1.b) ∧ ∀ i, w.frozen? ⟨g, i, none⟩ = false := by
 obtain ⟨cur, h1, h2, h3, h4, h5, h6, h7, h8⟩ := h
 have hl : pre.length < (pre ++ r :: post).length := by simp
 have key : ∀ e, e < 6 → w.cell? ⟨g, pre.length * 6 + e, none⟩ = some (cellE (r.1, r.2.1) e) := by
  intro e he
  rw [cell_of_row _ _ _ _ _ _ h1]
  have h9 : (cur.toList.take ((pre ++ r :: post).length * 6))[pre.length * 6 + e]? = some (cellE (r.1, r.2.1) e) := by
   rw [h5]
   unfold rowB
   rw [rowOf_get, List.getElem?_map, show (pre.length * 6 + e) / 6 = pre.length by omega, show (pre.length * 6 + e) % 6 = e by omega, List.getElem?_append_right (Nat.le_refl _), Nat.sub_self]
   rfl
  rw [List.getElem?_take_of_lt (by omega)] at h9
  simpa using h9
 exact ⟨key 0 (by decide), key 1 (by decide), key 2 (by decide), key 3 (by decide), key 4 (by decide), key 5 (by decide), row_free h1⟩
end Go.Proofs.YtehhbbdaeonebaaGreatDoor
namespace Go.Proofs.YtehhbbdaeonebaaGreatDoor
open Go.RowKit
def digsL (k : Nat) : List UInt8 := if h : k = 0 then [] else digsL (k / 10) ++ [UInt8.ofNat (48 + k % 10)]
termination_by k
decreasing_by omega
theorem digsL_0 : digsL 0 = [] := by rw [digsL]; rfl
theorem digsL_step (k : Nat) (h : k ≠ 0) : digsL k = digsL (k / 10) ++ [UInt8.ofNat (48 + k % 10)] := by rw [digsL, dif_neg h]
theorem digsL_len : ∀ k : Nat, (digsL k).length ≤ k := by
 intro k
 induction k using Nat.strongRecOn with
 | _ k ih =>
  by_cases h : k = 0
  · subst h; rw [digsL_0]; simp
  · rw [digsL_step k h, List.length_append, List.length_singleton]
    have := ih (k / 10) (by omega)
    omega
def markB (k : Nat) : ByteArray := ⟨(109 :: digsL k).toArray⟩
theorem markB_size (k : Nat) : (markB k).size ≤ k + 1 := by
 show (109 :: digsL k).length ≤ k + 1
 rw [List.length_cons]
 have := digsL_len k
 omega
theorem cat_one (b : UInt8) (u : ByteArray) : ((⟨#[b]⟩ : ByteArray) ++ u).data.toList = b :: u.data.toList := by simp
theorem markText_any (k : Nat) (w : World) (h1 : 1 ≤ k) (h2 : k ≤ 2147483647) :
 Calls Tryz.prog 57 #[.int .i64 k] w fun e w' => e = .returned (.string (markB k)) ∧ Below w.heap.size w w' := by
 have hl := digsL_len k
 go_enter Tryz.func57, Tryz.ntmps57
 go_wp2_with fail
 go_loopw [0, 3] (fun m o wr => ∃ (j : Nat) (u : ByteArray), j ≤ k ∧ m = .int .i64 j ∧ o = .string u ∧ Hid (digsL j ++ u.data.toList = digsL k) ∧ Hid (Below w.heap.size w wr)) (fun m _ _ => (intOf m).toNat)
 case atStart => exact ⟨k, ByteArray.empty, by omega, rfl, rfl, by simp [Hid], Below.refl _ _⟩
 case round =>
  obtain ⟨j, u, hj, rfl, rfl, HU, HB⟩ := hrel
  by_cases hj0 : j = 0
  · subst hj0
    have hu : u.data.toList = digsL k := by have := HU.out; rwa [digsL_0, List.nil_append] at this
    have hcat : (⟨#[109]⟩ : ByteArray) ++ u = markB k := by apply ext_ba; rw [cat_one, hu]; rfl
    have hus : u.size ≤ k := by
     have e : u.data.toList.length = u.size := rfl
     rw [hu] at e; omega
    have HC := Lib.hid hcat
    clear hu hcat
    have f1 : ¬ 9223372036854775807 < 1 + u.size := by omega
    go_wp2
    go_ret
    exact ⟨congrArg (fun x => Ending.returned (Value.string x)) HC.out, HB.out⟩
  · have hj1 : (0 : Int) < (j : Int) := by omega
    have hus : u.size ≤ k := by
     have e : u.data.toList.length = u.size := rfl
     have h3 := congrArg List.length HU.out
     rw [List.length_append] at h3; omega
    have hd : digsL (j / 10) ++ (UInt8.ofNat (48 + j % 10) :: u.data.toList) = digsL k := by
     rw [← HU.out, digsL_step j hj0, List.append_assoc]; rfl
    have HD := Lib.hid hd
    have hbv : (48 : Int) + (j : Int) % 10 = ((UInt8.ofNat (48 + j % 10)).toNat : Int) := by rw [UInt8.toNat_ofNat']; omega
    have hrow := heap_alloc_new wr (.cells #[.int .u8 (48 + (j : Int) % 10)] 5)
    have hcv : (convert 123 9 (.slice (some ⟨wr.heap.size, 0, none⟩) 1 1)).run Tryz.prog (wr.alloc (.cells #[.int .u8 (48 + (j : Int) % 10)] 5)) = .ok (.string ⟨#[UInt8.ofNat (48 + j % 10)]⟩) (wr.alloc (.cells #[.int .u8 (48 + (j : Int) % 10)] 5)) := by
     exact convert_wd _ _ _ _ _ _ 1 [UInt8.ofNat (48 + j % 10)] rfl Tryz.underlying123 Tryz.underlying5 Tryz.underlying9 hrow (by rw [hbv]; rfl)
    have HB2 := Lib.hid (HB.out.alloc HB.out.size (.cells #[.int .u8 (48 + (j : Int) % 10)] 5))
    have f1 : ¬ 9223372036854775807 < 1 + u.size := by omega
    have hw8 : IntKind.u8.wrap (48 + (j : Int) % 10) = 48 + (j : Int) % 10 := by rw [IntKind.wrap_u8]; omega
    generalize hb : UInt8.ofNat (48 + j % 10) = b at HD hcv
    clear hrow hbv hd hb
    have hq : ((j : Int) / 10) = ((j / 10 : Nat) : Int) := by omega
    have HQ := Lib.hid hq
    clear hq
    go_wp2
    go_roundw
    case rel => exact ⟨j / 10, _, by omega, by rw [HQ.out], rfl, by rw [cat_one]; exact HD, HB2⟩
    case measure => simp [intOf]; omega
def HelS : Nat → List Nd → Nat → Nat → Prop
 | 0, l, q, q' => l = [] ∧ q' = q
 | _ + 1, [], q, q' => q' = q
 | m + 1, y :: t, q, q' => ∃ q1 q2, y.kind = (q : Int) ∧ y.data = markB (q + 1) ∧ HelS m y.ptrs (q + 2) q1 ∧ y.size = (q1 : Int) ∧ y.count = ((q1 + 1 : Nat) : Int) ∧ HelS m y.items (q1 + 2) q2 ∧ HelS (m + 1) t q2 q'
termination_by m l => (m, l.length)
def HelN (m : Nat) (y : Nd) (q q2 : Nat) : Prop := ∃ q1, y.kind = (q : Int) ∧ y.data = markB (q + 1) ∧ HelS m y.ptrs (q + 2) q1 ∧ y.size = (q1 : Int) ∧ y.count = ((q1 + 1 : Nat) : Int) ∧ HelS m y.items (q1 + 2) q2
theorem helS_nil (m q q' : Nat) : HelS m [] q q' ↔ q' = q := by
 cases m with
 | zero => rw [HelS]; simp
 | succ m => rw [HelS]
theorem helS_cons (m : Nat) (y : Nd) (t : List Nd) (q q' : Nat) : HelS (m + 1) (y :: t) q q' ↔ ∃ q2, HelN m y q q2 ∧ HelS (m + 1) t q2 q' := by
 rw [HelS]
 constructor
 · rintro ⟨q1, q2, a, b, c, d, e, f, g⟩
   exact ⟨q2, ⟨q1, a, b, c, d, e, f⟩, g⟩
 · rintro ⟨q2, ⟨q1, a, b, c, d, e, f⟩, g⟩
   exact ⟨q1, q2, a, b, c, d, e, f, g⟩
theorem helS_app (m : Nat) : ∀ (l t : List Nd) (q q' : Nat), HelS (m + 1) (l ++ t) q q' ↔ ∃ q1, HelS (m + 1) l q q1 ∧ HelS (m + 1) t q1 q'
 | [], t, q, q' => by
   constructor
   · intro h
     exact ⟨q, (helS_nil _ _ _).2 rfl, h⟩
   · rintro ⟨q1, h1, h2⟩
     obtain rfl := (helS_nil _ _ _).1 h1
     exact h2
 | y :: l, t, q, q' => by
   rw [List.cons_append, helS_cons]
   constructor
   · rintro ⟨q2, h1, h2⟩
     obtain ⟨q1, h3, h4⟩ := (helS_app m l t q2 q').1 h2
     exact ⟨q1, (helS_cons _ _ _ _ _).2 ⟨q2, h1, h3⟩, h4⟩
   · rintro ⟨q1, h1, h2⟩
     obtain ⟨q2, h3, h4⟩ := (helS_cons _ _ _ _ _).1 h1
     exact ⟨q2, h3, (helS_app m l t q2 q').2 ⟨q1, h4, h2⟩⟩
theorem helS_one (m : Nat) (y : Nd) (q q' : Nat) : HelS (m + 1) [y] q q' ↔ HelN m y q q' := by
 rw [helS_cons]
 constructor
 · rintro ⟨q2, h1, h2⟩
   obtain rfl := (helS_nil _ _ _).1 h2
   exact h1
 · intro h
   exact ⟨q', h, (helS_nil _ _ _).2 rfl⟩
theorem RowG.lists {w : World} {M g c : Nat} {pre post : List NB} {r : NB} (h : RowG w g c (pre ++ r :: post) M) : ∃ b1 b2, r.2.2 = b1 ++ b2 ∧ OwS w M r.2.1.A r.2.1.a r.1.ptrs b1 ∧ OwS w M r.2.1.B r.2.1.b r.1.items b2 ∧ b1.Nodup ∧ b2.Nodup ∧ g ∉ b1 ∧ g ∉ b2 := by
 obtain ⟨cur, h1, h2, h3, h4, h5, h6, h7, h8⟩ := h
 obtain ⟨_, b1, b2, e1, e2, e3⟩ := h6 r (List.mem_append_right _ List.mem_cons_self)
 rw [blkB_app, blkB_cons, e1] at h7 h8
 have n1 := (List.nodup_append.1 (List.nodup_append.1 h7).2.1).1
 have n2 := List.nodup_append.1 n1
 exact ⟨b1, b2, e1, e2, e3, n2.1, n2.2.1, fun hm => h8 (by simp [hm]), fun hm => h8 (by simp [hm])⟩
theorem RowG.relist {w w' : World} {M g c : Nat} {pre post : List NB} {r : NB} {b1 b2 : List Nat} (h : RowG w g c (pre ++ r :: post) M) (hb : r.2.2 = b1 ++ b2) {bw : List Nat} (hw : bw = b1 ∨ bw = b2) (ho : OnlyIn bw w w') {p i : List Nd}
 (hp : OwS w' M r.2.1.A r.2.1.a p b1) (hi : OwS w' M r.2.1.B r.2.1.b i b2) (lp : p.length = r.1.ptrs.length) (li : i.length = r.1.items.length) : RowG w' g c (pre ++ (.mk r.1.kind r.1.data p r.1.size r.1.count i, r.2) :: post) M := by
 obtain ⟨cur, h1, h2, h3, h4, h5, h6, h7, h8⟩ := h
 have hblk : blkB (pre ++ ((.mk r.1.kind r.1.data p r.1.size r.1.count i : Nd), r.2) :: post) = blkB (pre ++ r :: post) := by rw [blkB_app, blkB_app, blkB_cons, blkB_cons]
 have hin : ∀ b ∈ bw, b ∈ r.2.2 := fun b hm => by
  rw [hb]
  rcases hw with e | e
  · exact List.mem_append_left _ (e ▸ hm)
  · exact List.mem_append_right _ (e ▸ hm)
 have hg : g ∉ bw := fun hm => h8 (by rw [blkB_app, blkB_cons]; exact List.mem_append_right _ (List.mem_append_left _ (hin g hm)))
 have hrow : rowB (pre ++ ((.mk r.1.kind r.1.data p r.1.size r.1.count i : Nd), r.2) :: post) = rowB (pre ++ r :: post) := by
  rw [rowB_app, rowB_app]
  congr 1
  show rowOf _ = rowOf _
  rw [List.map_cons, List.map_cons]
  show .int .i64 r.1.kind :: .string r.1.data :: .slice r.2.1.A p.length r.2.1.a :: .int .i64 r.1.size :: .int .i64 r.1.count :: .slice r.2.1.B i.length r.2.1.b :: rowOf _ = .int .i64 r.1.kind :: .string r.1.data :: .slice r.2.1.A r.1.ptrs.length r.2.1.a :: .int .i64 r.1.size :: .int .i64 r.1.count :: .slice r.2.1.B r.1.items.length r.2.1.b :: rowOf _
  rw [lp, li]
 have hkeep : ∀ x, x ∈ pre ∨ x ∈ post → OwN w' M x.1 x.2.1 x.2.2 := fun x hx => by
  have hx' : x ∈ pre ++ r :: post := by
   rcases hx with hx | hx
   · exact List.mem_append_left _ hx
   · exact List.mem_append_right _ (List.mem_cons_of_mem _ hx)
  refine (h6 x hx').frame (fun b hm => ho.block b ((h6 x hx').lt b hm).1 (fun hbw => ?_))
  have hr := hin b hbw
  rw [blkB_app, blkB_cons] at h7
  have q := List.nodup_append.1 h7
  rcases hx with hx | hx
  · exact q.2.2 b (List.mem_flatMap.2 ⟨x, hx, hm⟩) b (List.mem_append_left _ hr) rfl
  · exact (List.nodup_append.1 q.2.1).2.2 b hr b (List.mem_flatMap.2 ⟨x, hx, hm⟩) rfl
 refine ⟨cur, (ho.block g (row_lt h1) hg).trans h1, h2, by simpa using h3, h4, by rw [hrow]; simpa using h5, fun x hx => ?_, by rw [hblk]; exact h7, by rw [hblk]; exact h8⟩
 rcases List.mem_append.1 hx with hx | hx
 · exact hkeep x (.inl hx)
 · rcases List.mem_cons.1 hx with rfl | hx
   · exact ⟨(h6 r (List.mem_append_right _ List.mem_cons_self)).1, b1, b2, hb, hp, hi⟩
   · exact hkeep x (.inr hx)
open Go.RowKit Go.Deep
def MkS (m : Nat) : Prop := ∀ (A : Option Addr) (c : Nat) (l : List Nd) (bs : List Nat) (w : World) (q : Nat), OwS w m A c l bs → bs.Nodup → 1 ≤ q → q + 4 * sizL l ≤ 100000000 →
 Calls Tryz.prog 44 #[.slice A l.length c, .int .i64 (q : Int)] w fun e w' => ∃ (l' : List Nd) (q' : Nat), e = .returned (.int .i64 (q' : Int)) ∧ q ≤ q' ∧ q' ≤ q + 4 * sizL l ∧ l'.length = l.length ∧ OwS w' m A c l' bs ∧ HelS m l' q q' ∧ OnlyIn bs w w'
def MkR (l : List Nd) (g c j : Nat) (bs : List Nat) (q k qq : Nat) (wr : World) : Prop :=
 ∃ pre post : List NB, pre.length = k ∧ post.map (·.1) = l.drop k ∧ RowG wr g c (pre ++ post) j ∧ bs = g :: blkB (pre ++ post) ∧ HelS (j + 1) (pre.map (·.1)) q qq ∧ q ≤ qq ∧ qq ≤ q + 4 * sizL (l.take k)
theorem cellE_ne {a b : Nd × Hd} (e : Nat) (h0 : e ≠ 0 → a.1.kind = b.1.kind) (h1 : e ≠ 1 → a.1.data = b.1.data) (h2 : a.1.ptrs = b.1.ptrs) (h3 : e ≠ 3 → a.1.size = b.1.size) (h4 : e ≠ 4 → a.1.count = b.1.count) (h5 : a.1.items = b.1.items) (hh : a.2 = b.2) : ∀ f, f < 6 → f ≠ e → cellE a f = cellE b f := by
 obtain ⟨a, x⟩ := a
 obtain ⟨b, y⟩ := b
 dsimp only at h0 h1 h2 h3 h4 h5 hh
 subst hh
 intro f hf hne
 match f, hf with
 | 0, _ => show Value.int .i64 a.kind = .int .i64 b.kind; rw [h0 (fun h => hne h.symm)]
 | 1, _ => show Value.string a.data = .string b.data; rw [h1 (fun h => hne h.symm)]
 | 2, _ => show Value.slice x.A a.ptrs.length x.a = .slice x.A b.ptrs.length x.a; rw [h2]
 | 3, _ => show Value.int .i64 a.size = .int .i64 b.size; rw [h3 (fun h => hne h.symm)]
 | 4, _ => show Value.int .i64 a.count = .int .i64 b.count; rw [h4 (fun h => hne h.symm)]
 | 5, _ => show Value.slice x.B a.items.length x.b = .slice x.B b.items.length x.b; rw [h5]
theorem RowG.dsize {w : World} {M g c : Nat} {pre post : List NB} {r : NB} (h : RowG w g c (pre ++ r :: post) M) : r.1.data.size ≤ maxLen := by
 obtain ⟨_, _, _, _, _, _, h6, _⟩ := h
 exact (h6 r (List.mem_append_right _ List.mem_cons_self)).1
theorem RowG.capl {w : World} {M g c : Nat} {q : List NB} (h : RowG w g c q M) : q.length ≤ c := by
 obtain ⟨_, _, _, h3, _⟩ := h
 exact h3
theorem mkS_of (m : Nat) (IH : ∀ j, m = j + 1 → MkS j) : MkS m := by
 intro A c l bs w q ho hnd h1 h2
 have hlm : l.length ≤ 100000000 := by have := sizL_len l; omega
 by_cases hl : l = []
 · subst hl
   have HO := Lib.hid ho
   clear ho hnd
   go_enter Tryz.func44, Tryz.ntmps44
   go_wp2_with fail
   refine wp_loop_rounds 1 ?_
   rw [rounds_succ]
   go_wp2
   go_ret
   exact ⟨[], q, rfl, Nat.le_refl _, by omega, rfl, HO.out, (helS_nil _ _ _).2 rfl, OnlyIn.refl _ _⟩
 rcases own_cap ho with ⟨_, h, _⟩ | ⟨⟨g, rfl⟩, hlc⟩
 · exact absurd h hl
 obtain ⟨j, rfl⟩ : ∃ j, m = j + 1 := by
  cases m with
  | zero => exact absurd ho.1 hl
  | succ j => exact ⟨j, rfl⟩
 have HIH := Lib.hid (IH j rfl)
 obtain ⟨q0, hq0, hb0, hg0⟩ := ho.rowG hnd
 have HR0 : Hid (MkR l g c j bs q 0 q w) := Lib.hid ⟨[], q0, rfl, hq0, hg0, hb0, (helS_nil _ _ _).2 rfl, Nat.le_refl _, by omega⟩
 have HND := Lib.hid hnd
 clear ho hnd IH hq0 hb0 hg0 hl
 go_enter Tryz.func44, Tryz.ntmps44
 go_wp2_with fail
 go_loopw [1, 5] (fun u i wr => ∃ (k qq : Nat), u = .int .i64 (qq : Int) ∧ i = .int .i64 k ∧ k ≤ l.length ∧ Hid (MkR l g c j bs q k qq wr) ∧ Hid (OnlyIn bs w wr)) (fun _ i _ => l.length - (intOf i).toNat)
 case atStart => exact ⟨0, q, rfl, rfl, by omega, HR0, Lib.hid (OnlyIn.refl _ _)⟩
 case round =>
  clear HR0
  obtain ⟨k, qq, rfl, rfl, hk, HR, HOI⟩ := hrel
  obtain ⟨pre, post, hpk, hpost, hg, hbs, hhel, hqa, hqb⟩ := HR.out
  by_cases hlt : k < l.length
  · subst hpk
    have hdrop : l.drop pre.length = l[pre.length] :: l.drop (pre.length + 1) := List.drop_eq_getElem_cons hlt
    rw [hdrop] at hpost
    cases post with
    | nil =>
     simp at hpost
     omega
    | cons r t =>
     rw [List.map_cons] at hpost
     injection hpost with e1 e2
     obtain ⟨y, hd, bsy⟩ := r
     dsimp only at e1
     have hsz : sizL (l.take (pre.length + 1)) = sizL (l.take pre.length) + (1 + sizN y) := by rw [List.take_succ_eq_append_getElem hlt, sizL_app, sizL, sizL_nil, ← e1]; omega
     have htl := sizL_take l (pre.length + 1)
     have hyz := sizN_eq y
     clear hdrop e1
     have hcap := hg.capl
     rw [List.length_append, List.length_cons] at hcap
     obtain ⟨d0, d1, d2, d3, d4, d5, df⟩ := hg.cells
     have hd0 := df (pre.length * 6)
     have hg1 : RowG (wr.setCell ⟨g, pre.length * 6, none⟩ (.int .i64 (qq : Int))) g c (pre ++ ((.mk (qq : Int) y.data y.ptrs y.size y.count y.items : Nd), hd, bsy) :: t) j := hg.set (n' := .mk (qq : Int) y.data y.ptrs y.size y.count y.items) 0 (.int .i64 (qq : Int)) (by decide) rfl (cellE_ne 0 (fun h => absurd rfl h) (fun _ => rfl) rfl (fun _ => rfl) (fun _ => rfl) rfl rfl) rfl rfl hg.dsize
     have hgb : g ∈ bs := by rw [hbs]; exact List.mem_cons_self
     have ho1 := HOI.out.trans (OnlyIn.setCell (p := ⟨g, pre.length * 6, none⟩) hgb (.int .i64 (qq : Int)))
     have hw1 : IntKind.i64.wrap ((qq : Int) + 1) = (qq : Int) + 1 := by rw [IntKind.wrap_i64]; omega
     have hw2 : IntKind.i64.wrap ((qq : Int) + 1 + 1) = (qq : Int) + 1 + 1 := by rw [IntKind.wrap_i64]; omega
     have HG1 := Lib.hid hg1
     have HO1 := Lib.hid ho1
     have HE2 := Lib.hid (And.intro e2 (And.intro hhel hbs))
     clear hg hg1 ho1 df e2 hhel hbs HR HOI d1 d2 d3 d4 d5
     have d0' : wr.cell? ⟨g, pre.length * 6, none⟩ = some (.int .i64 y.kind) := d0
     clear d0
     go_wp2_with fail
     generalize wr.setCell ⟨g, pre.length * 6, none⟩ (.int .i64 (qq : Int)) = W1 at *
     clear d0' hd0
     refine (markText_any (qq + 1) _ (by omega) (by omega)).mono ?_
     rintro e W2 ⟨rfl, hb2⟩
     have hmb : (markB (qq + 1)).size ≤ maxLen := by have := markB_size (qq + 1); unfold maxLen; omega
     obtain ⟨mk, hmk⟩ : ∃ mk, mk = markB (qq + 1) := ⟨_, rfl⟩
     rw [← hmk] at hmb
     rw [← hmk]
     have HMK := Lib.hid hmk
     have hg2 := HG1.out.below hb2
     have ho2 := HO1.out.trans (OnlyIn.of_below hb2)
     obtain ⟨d0, d1, d2, d3, d4, d5, df⟩ := hg2.cells
     have hd1 := df (pre.length * 6 + 1)
     have hg3 : RowG (W2.setCell ⟨g, pre.length * 6 + 1, none⟩ (.string mk)) g c (pre ++ ((.mk (qq : Int) mk y.ptrs y.size y.count y.items : Nd), hd, bsy) :: t) j := hg2.set (n' := .mk (qq : Int) mk y.ptrs y.size y.count y.items) 1 (.string mk) (by decide) rfl (cellE_ne 1 (fun _ => rfl) (fun h => absurd rfl h) rfl (fun _ => rfl) (fun _ => rfl) rfl rfl) rfl rfl hmb
     have ho3 := ho2.trans (OnlyIn.setCell (p := ⟨g, pre.length * 6 + 1, none⟩) hgb (.string mk))
     obtain ⟨f0, f1, f2, f3, f4, f5, ff⟩ := hg3.cells
     have f2' : (W2.setCell ⟨g, pre.length * 6 + 1, none⟩ (.string mk)).cell? ⟨g, pre.length * 6 + 2, none⟩ = some (.slice hd.A y.ptrs.length hd.a) := f2
     have HG3 := Lib.hid hg3
     have HO3 := Lib.hid ho3
     obtain ⟨b1, b2, hbb, ls1, ls2, nd1, nd2, ng1, ng2⟩ := hg3.lists
     have HC1 := Lib.hid (HIH.out hd.A hd.a y.ptrs b1 _ (qq + 2) ls1 nd1 (by omega) (by omega))
     have HL2 := Lib.hid (And.intro ls2 (And.intro nd1 nd2))
     have HBB := Lib.hid hbb
     have d1' : W2.cell? ⟨g, pre.length * 6 + 1, none⟩ = some (.string y.data) := d1
     clear hg2 ho2 hg3 ho3 hb2 HG1 HO1 d0 d1 d2 d3 d4 d5 df f0 f1 f2 f3 f4 f5 ff ls1 ls2 nd1 nd2 ng1 ng2 hbb hmk hmb
     go_wp2_with fail
     generalize W2.setCell ⟨g, pre.length * 6 + 1, none⟩ (.string mk) = W3 at *
     clear d1' hd1 f2'
     refine HC1.out.mono ?_
     rintro e W4 ⟨p', q1, rfl, hq1a, hq1b, hlp, hop, hhp, hoi⟩
     have hdis := (List.nodup_append.1 (show (b1 ++ b2).Nodup by
      have h := HND.out
      rw [HE2.out.2.2, blkB_app, blkB_cons] at h
      have h' := (List.nodup_append.1 (List.nodup_append.1 (List.nodup_cons.1 h).2).2.1).1
      rw [← HBB.out]
      exact h')).2.2
     have hi4 := HL2.out.1.frame (w' := W4) _ _ _ _ _ (fun b hb => hoi.block b (HL2.out.1.lt _ _ _ _ _ b hb).1 (fun hm => hdis b hm b hb rfl))
     have hg4 : RowG W4 g c (pre ++ ((.mk (qq : Int) mk p' y.size y.count y.items : Nd), hd, bsy) :: t) j := HG3.out.relist HBB.out (.inl rfl) hoi hop hi4 hlp rfl
     have ho4 := HO3.out.trans (hoi.mono (fun b hb => .inl (by
      rw [HE2.out.2.2, blkB_app, blkB_cons]
      refine List.mem_cons_of_mem _ (List.mem_append_right _ (List.mem_append_left _ ?_))
      show b ∈ bsy
      rw [show bsy = b1 ++ b2 from HBB.out]
      exact List.mem_append_left _ hb)))
     obtain ⟨d0, d1, d2, d3, d4, d5, df⟩ := hg4.cells
     have hd3 := df (pre.length * 6 + 3)
     have hg5 : RowG (W4.setCell ⟨g, pre.length * 6 + 3, none⟩ (.int .i64 (q1 : Int))) g c (pre ++ ((.mk (qq : Int) mk p' (q1 : Int) y.count y.items : Nd), hd, bsy) :: t) j := hg4.set (n' := .mk (qq : Int) mk p' (q1 : Int) y.count y.items) 3 (.int .i64 (q1 : Int)) (by decide) rfl (cellE_ne 3 (fun _ => rfl) (fun _ => rfl) rfl (fun h => absurd rfl h) (fun _ => rfl) rfl rfl) rfl rfl hg4.dsize
     obtain ⟨f0, f1, f2, f3, f4, f5, ff⟩ := hg5.cells
     have hf4 := ff (pre.length * 6 + 4)
     have hg6 : RowG ((W4.setCell ⟨g, pre.length * 6 + 3, none⟩ (.int .i64 (q1 : Int))).setCell ⟨g, pre.length * 6 + 4, none⟩ (.int .i64 ((q1 : Int) + 1))) g c (pre ++ ((.mk (qq : Int) mk p' (q1 : Int) ((q1 : Int) + 1) y.items : Nd), hd, bsy) :: t) j := hg5.set (n' := .mk (qq : Int) mk p' (q1 : Int) ((q1 : Int) + 1) y.items) 4 (.int .i64 ((q1 : Int) + 1)) (by decide) rfl (cellE_ne 4 (fun _ => rfl) (fun _ => rfl) rfl (fun _ => rfl) (fun h => absurd rfl h) rfl rfl) rfl rfl hg5.dsize
     have ho6 := (ho4.trans (OnlyIn.setCell (p := ⟨g, pre.length * 6 + 3, none⟩) hgb (.int .i64 (q1 : Int)))).trans (OnlyIn.setCell (p := ⟨g, pre.length * 6 + 4, none⟩) hgb (.int .i64 ((q1 : Int) + 1)))
     obtain ⟨g0, g1, g2, g3, g4, g5, gf⟩ := hg6.cells
     have g5' : ((W4.setCell ⟨g, pre.length * 6 + 3, none⟩ (.int .i64 (q1 : Int))).setCell ⟨g, pre.length * 6 + 4, none⟩ (.int .i64 ((q1 : Int) + 1))).cell? ⟨g, pre.length * 6 + 5, none⟩ = some (.slice hd.B y.items.length hd.b) := g5
     have f4' : (W4.setCell ⟨g, pre.length * 6 + 3, none⟩ (.int .i64 (q1 : Int))).cell? ⟨g, pre.length * 6 + 4, none⟩ = some (.int .i64 y.count) := f4
     have d3' : W4.cell? ⟨g, pre.length * 6 + 3, none⟩ = some (.int .i64 y.size) := d3
     have hw3 : IntKind.i64.wrap ((q1 : Int) + 1) = (q1 : Int) + 1 := by rw [IntKind.wrap_i64]; omega
     have hw4 : IntKind.i64.wrap ((q1 : Int) + 1 + 1) = (q1 : Int) + 1 + 1 := by rw [IntKind.wrap_i64]; omega
     have HG6 := Lib.hid hg6
     have HO6 := Lib.hid ho6
     obtain ⟨c1, c2, hcc, ls1, ls2, nd1, nd2, ng1, ng2⟩ := hg6.lists
     have HC2 := Lib.hid (HIH.out hd.B hd.b y.items c2 _ (q1 + 2) ls2 nd2 (by omega) (by omega))
     have HL1 := Lib.hid ls1
     have HCC := Lib.hid hcc
     have HHP := Lib.hid (And.intro hhp hlp)
     clear hg4 ho4 hg5 hg6 ho6 hi4 hop hhp hoi hdis HG3 HO3 HC1 HL2 d0 d1 d2 d3 d4 d5 df f0 f1 f2 f3 f4 f5 ff g0 g1 g2 g3 g4 g5 gf ls1 ls2 nd1 nd2 ng1 ng2 hcc hw1 hw2 hlp
     go_wp2_with fail
     generalize (W4.setCell ⟨g, pre.length * 6 + 3, none⟩ (.int .i64 (q1 : Int))).setCell ⟨g, pre.length * 6 + 4, none⟩ (.int .i64 ((q1 : Int) + 1)) = W6 at *
     clear d3' hd3 f4' hf4 g5'
     refine HC2.out.mono ?_
     rintro e W7 ⟨i', q2, rfl, hq2a, hq2b, hli, hoi2, hhi, hoj⟩
     have hdis := (List.nodup_append.1 (show (c1 ++ c2).Nodup by
      have h := HND.out
      rw [HE2.out.2.2, blkB_app, blkB_cons] at h
      have h' := (List.nodup_append.1 (List.nodup_append.1 (List.nodup_cons.1 h).2).2.1).1
      rw [← HCC.out]
      exact h')).2.2
     have hp7 := HL1.out.frame (w' := W7) _ _ _ _ _ (fun b hb => hoj.block b (HL1.out.lt _ _ _ _ _ b hb).1 (fun hm => hdis b hb b hm rfl))
     have hg7 : RowG W7 g c (pre ++ ((.mk (qq : Int) mk p' (q1 : Int) ((q1 : Int) + 1) i' : Nd), hd, bsy) :: t) j := HG6.out.relist HCC.out (.inr rfl) hoj hp7 hoi2 rfl hli
     have HOI7 := Lib.hid (HO6.out.trans (hoj.mono (fun b hb => .inl (by
      rw [HE2.out.2.2, blkB_app, blkB_cons]
      refine List.mem_cons_of_mem _ (List.mem_append_right _ (List.mem_append_left _ ?_))
      show b ∈ bsy
      rw [show bsy = c1 ++ c2 from HCC.out]
      exact List.mem_append_right _ hb))))
     have HR7 : Hid (MkR l g c j bs q (pre.length + 1) q2 W7) := Lib.hid ⟨pre ++ [((.mk (qq : Int) mk p' (q1 : Int) ((q1 : Int) + 1) i' : Nd), hd, bsy)], t, by simp, HE2.out.1, by rw [List.append_assoc]; exact hg7, by
      rw [List.append_assoc, List.singleton_append, HE2.out.2.2, blkB_app, blkB_app, blkB_cons, blkB_cons], by
      rw [List.map_append]
      exact (helS_app _ _ _ _ _).2 ⟨qq, HE2.out.2.1, (helS_one _ _ _ _).2 ⟨q1, rfl, HMK.out, HHP.out.1, rfl, rfl, hhi⟩⟩, by omega, by omega⟩
     clear hg7 hp7 hdis hoi2 hhi hoj hw3 hw4 HC2 HL1 HG6 HO6
     go_wp2
     go_roundw
     case rel => exact ⟨pre.length + 1, q2, rfl, by go_num, by omega, HR7, HOI7⟩
     case measure => simp [intOf]; omega
  · obtain rfl : k = l.length := by omega
    rw [List.drop_length] at hpost
    obtain rfl : post = [] := List.map_eq_nil_iff.1 hpost
    rw [List.append_nil] at hg hbs
    obtain ⟨o1, o2⟩ := hg.own
    rw [List.take_of_length_le (Nat.le_refl _)] at hqb
    have HFIN : Hid (∃ (l' : List Nd) (q' : Nat), Ending.returned (.int .i64 (qq : Int)) = .returned (.int .i64 (q' : Int)) ∧ q ≤ q' ∧ q' ≤ q + 4 * sizL l ∧ l'.length = l.length ∧ OwS wr (j + 1) (some ⟨g, 0, none⟩) c l' bs ∧ HelS (j + 1) l' q q' ∧ OnlyIn bs w wr) := Lib.hid ⟨pre.map (·.1), qq, rfl, hqa, hqb, by rw [List.length_map, hpk], by rw [hbs]; exact o1, hhel, HOI.out⟩
    clear hpk hpost hg hbs hhel hqa hqb HR HOI o1 o2
    go_wp2
    go_ret
    exact HFIN.out
theorem mkS_any : ∀ m, MkS m
 | 0 => mkS_of 0 (fun j h => by cases h)
 | m + 1 => mkS_of (m + 1) (fun j h => by obtain rfl : m = j := by omega
                                          exact mkS_any m)
theorem helS_len : ∀ (m : Nat) (l : List Nd) (q q' : Nat), HelS m l q q' → q + 4 * l.length ≤ q'
 | 0, l, q, q', h => by
   rw [HelS] at h
   obtain ⟨rfl, rfl⟩ := h
   simp
 | m + 1, [], q, q', h => by
   obtain rfl := (helS_nil _ _ _).1 h
   simp
 | m + 1, y :: t, q, q', h => by
   obtain ⟨q2, ⟨q1, _, _, h1, _, _, h2⟩, h3⟩ := (helS_cons _ _ _ _ _).1 h
   have a := helS_len m _ _ _ h1
   have b := helS_len m _ _ _ h2
   have c := helS_len (m + 1) t _ _ h3
   rw [List.length_cons]
   omega
termination_by m l => (m, l.length)
def HeS (m : Nat) : Prop := ∀ (A : Option Addr) (c : Nat) (l : List Nd) (w : World) (S : Nat → Prop) (q q' : Nat), NdsAt w S m A l → HelS m l q q' → 1 ≤ q → q' ≤ 200000000 →
 Calls Tryz.prog 58 #[.slice A l.length c, .int .i64 (q : Int)] w fun e w' => e = .returned (.int .i64 (q' : Int)) ∧ Below w.heap.size w w'
theorem heS_of (m : Nat) (IH : ∀ j, m = j + 1 → HeS j) : HeS m := by
 intro A c l w S q q' hn hh h1 h2
 have hlq := helS_len m l q q' hh
 have hlm : l.length ≤ 100000000 := by omega
 have HN := Lib.hid hn
 have HIH := Lib.hid IH
 have HH0 : Hid (HelS m (l.drop 0) q q') := Lib.hid hh
 clear hn hh IH
 go_enter Tryz.func58, Tryz.ntmps58
 go_wp2_with fail
 go_loopw [1, 5] (fun u i wr => ∃ (k qq : Nat), u = .int .i64 (qq : Int) ∧ i = .int .i64 k ∧ k ≤ l.length ∧ 1 ≤ qq ∧ Hid (HelS m (l.drop k) qq q') ∧ Hid (Below w.heap.size w wr)) (fun _ i _ => l.length - (intOf i).toNat)
 case atStart => exact ⟨0, q, rfl, rfl, by omega, h1, HH0, Lib.hid (Below.refl _ _)⟩
 case round =>
  clear HH0
  obtain ⟨k, qq, rfl, rfl, hk, hq1, HH, HB⟩ := hrel
  by_cases hlt : k < l.length
  · obtain ⟨j, rfl⟩ := HN.out.pred hlt
    obtain ⟨x, hd, rfl, hc, hne⟩ := (HN.out.below HB.out).at_ hlt
    have hdrop : l.drop k = l[k] :: l.drop (k + 1) := List.drop_eq_getElem_cons hlt
    have hhk := HH.out
    rw [hdrop] at hhk
    obtain ⟨qb, ⟨qa, hk0, hk1, hk2, hk3, hk4, hk5⟩, hrest⟩ := (helS_cons _ _ _ _ _).1 hhk
    have hl2 := helS_len _ _ _ _ hk2
    have hl5 := helS_len _ _ _ _ hk5
    have hlr := helS_len _ _ _ _ hrest
    have HREST := Lib.hid hrest
    obtain ⟨y, hy⟩ : ∃ y, y = l[k] := ⟨_, rfl⟩
    rw [← hy] at hc hne hk0 hk1 hk2 hk3 hk4 hk5
    have hkq : (y.kind != (qq : Int)) = false := by rw [hk0]; simp
    have hsq : (y.size != (qa : Int)) = false := by rw [hk3]; simp
    have hcq : (y.count != (qa : Int) + 1) = false := by rw [hk4]; simp
    obtain ⟨mk, hmk⟩ : ∃ mk, mk = markB (qq + 1) := ⟨_, rfl⟩
    have HMT : Hid (∀ W : World, Calls Tryz.prog 57 #[.int .i64 ((qq : Int) + 1)] W fun e w' => e = .returned (.string mk) ∧ Below W.heap.size W w') := Lib.hid fun W => by rw [hmk]; exact markText_any (qq + 1) W (by omega) (by omega)
    have HC1 : Hid (∀ W : World, Below wr.heap.size wr W → Calls Tryz.prog 58 #[.slice hd.A y.ptrs.length hd.a, .int .i64 ((qq : Int) + 1 + 1)] W fun e w' => e = .returned (.int .i64 (qa : Int)) ∧ Below W.heap.size W w') := Lib.hid fun W hW => HIH.out j rfl hd.A hd.a y.ptrs W S (qq + 2) qa (hne.2.1.below hW) hk2 (by omega) (by omega)
    have HC2 : Hid (∀ W : World, Below wr.heap.size wr W → Calls Tryz.prog 58 #[.slice hd.B y.items.length hd.b, .int .i64 ((qa : Int) + 1 + 1)] W fun e w' => e = .returned (.int .i64 (qb : Int)) ∧ Below W.heap.size W w') := Lib.hid fun W hW => HIH.out j rfl hd.B hd.b y.items W S (qa + 2) qb (hne.2.2.below hW) hk5 (by omega) (by omega)
    have HCE := Lib.hid hc
    have hw1 : IntKind.i64.wrap ((qq : Int) + 1) = (qq : Int) + 1 := by rw [IntKind.wrap_i64]; omega
    have hw2 : IntKind.i64.wrap ((qq : Int) + 1 + 1) = (qq : Int) + 1 + 1 := by rw [IntKind.wrap_i64]; omega
    have hw3 : IntKind.i64.wrap ((qa : Int) + 1) = (qa : Int) + 1 := by rw [IntKind.wrap_i64]; omega
    have hw4 : IntKind.i64.wrap ((qa : Int) + 1 + 1) = (qa : Int) + 1 + 1 := by rw [IntKind.wrap_i64]; omega
    have hn1 : ¬ ((qa : Int) < 0) := by omega
    have hn2 : ¬ ((qb : Int) < 0) := by omega
    obtain ⟨d0, d1, d2, d3, d4, d5⟩ := hc
    rw [hk1, ← hmk] at d1
    have hHD : Hid (y.data = mk) := Lib.hid (hk1.trans hmk.symm)
    clear hdrop hhk hrest hne hk0 hk1 hk2 hk3 hk4 hk5 hy hmk
    go_wp2_with fail
    go_region_with (go_at_call 57; (with_reducible refine (HMT.out _).mono ?_); rintro e w2 ⟨rfl, hb2⟩; have d1' := (cell_below (w := wr) (w' := w2) ⟨hb2.os, hb2.tape, hb2.output, hb2.size, hb2.block⟩ _ _ _ HCE.out).c1; rw [hHD.out] at d1')
    all_goals
     have hb2' : Below wr.heap.size wr w2 := ⟨hb2.os, hb2.tape, hb2.output, hb2.size, hb2.block⟩
     have HB2 := Lib.hid hb2'
     clear hb2 hb2' d0 d1 d2 d3 d4 d5 d1'
     obtain ⟨d0, d1, d2, d3, d4, d5⟩ := cell_below HB2.out _ _ _ HCE.out
     clear d1
     go_wp2_with fail
     refine (HC1.out _ HB2.out).mono ?_
     rintro e w3 ⟨rfl, hb3⟩
     have HB3 := Lib.hid (HB2.out.trans (hb3.mono HB2.out.size))
     clear hb3 d0 d2 d3 d4 d5
     obtain ⟨d0, d1, d2, d3, d4, d5⟩ := cell_below HB3.out _ _ _ HCE.out
     clear d1
     go_wp2_with fail
     refine (HC2.out _ HB3.out).mono ?_
     rintro e w4 ⟨rfl, hb4⟩
     have HB4 := Lib.hid (HB.out.trans ((HB3.out.trans (hb4.mono HB3.out.size)).mono HB.out.size))
     clear hb4 d0 d2 d3 d4 d5
     go_wp2
     go_roundw
     case rel => exact ⟨k + 1, qb, rfl, by go_num, by omega, by omega, HREST, HB4⟩
     case measure => simp [intOf]; omega
  · obtain rfl : k = l.length := by omega
    have hh := HH.out
    rw [List.drop_length] at hh
    obtain rfl := (helS_nil _ _ _).1 hh
    clear hh
    go_wp2
    go_ret
    exact ⟨rfl, HB.out⟩
theorem heS_any : ∀ m, HeS m
 | 0 => heS_of 0 (fun j h => by cases h)
 | m + 1 => heS_of (m + 1) (fun j h => by obtain rfl : m = j := by omega
                                          exact heS_any m)
end Go.Proofs.YtehhbbdaeonebaaGreatDoor
