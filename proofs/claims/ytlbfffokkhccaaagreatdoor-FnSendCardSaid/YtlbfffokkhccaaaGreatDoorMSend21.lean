/- Texts of the proof of the law FnSend, side by side: part 21. -/
import Derived.StillTailTactics
import Derived.Test.YtlbfffokkhccaaaGreatDoorMSend20
set_option maxHeartbeats 8000000
set_option maxRecDepth 100000
namespace Go.Proofs.YtlbfffokkhccaaaGreatDoor
open Go.RowKit
theorem run_copy_string_le {P : Program} (w : World) (dT sT ty elem : TypeId) (g dCap : Nat) (s : ByteArray) (cur : List UInt8) (t : TypeId)
 (hu : P.underlying dT = some (.slice elem)) (hs : (P.info? elem).map (·.size) = some 1) (hg : w.heap[g]? = some (.cells (wd cur) t (0, 0))) (hle : s.size ≤ cur.length) :
 (Builtin.copy_ #[dT, sT] ty #[.slice (some ⟨g, 0, none⟩) cur.length dCap, .string s]).run P w =
  .ok (goInt s.size) (w.setRow g (wd (s.data.toList ++ cur.drop s.size))) := by
 have hlen : (Lib.byteCells s.data.toList).length = s.size := by
  rw [Lib.byteCells_length, ← Lib.size_eq]
 have hst := run_storeCells_at P g 0 t (Lib.byteCells s.data.toList) 0 (wd cur) w hg (by rw [hlen]; simp [wd, Lib.byteCells_length]; omega) (Lib.byteCells_one _)
 have hmin : Nat.min s.size cur.length = s.size := Nat.min_eq_left hle
 have htk : List.take s.size (List.map (fun b : UInt8 => Value.int IntKind.u8 (b.toNat : Int)) s.data.toList) = Lib.byteCells s.data.toList := by
  rw [Lib.byteCells, List.take_of_length_le (by simp)]
 rw [hlen] at hst
 have hd : List.drop s.size (wd cur).toList = Lib.byteCells (cur.drop s.size) := by simp [wd, Lib.byteCells, List.map_drop]
 simp only [Nat.add_zero, Nat.zero_add, List.take_zero, List.nil_append, hd] at hst
 cases hq : P.info? elem with
 | none => simp [hq] at hs
 | some i =>
  simp [Builtin.copy_, run_underlying hu, Builtin.lenOf, Builtin.firstCells, sizeOf, typeInfo, hq, hmin]
  rw [show (List.take s.size (List.map (fun b : UInt8 => Value.int IntKind.u8 (b.toNat : Int)) s.data.toList)) = Lib.byteCells s.data.toList from htk, hst]
  simp [Result.andThen, wd, Lib.byteCells]
theorem wpList_copy_string_le {P : Program} {ops : Array Oper} {rest : List Oper} {o : Oper} {a : Act} {w : World} {Q : Exit → Act → World → Prop} (hgd : o.guard = none) (d s : Operand) (dT sT : TypeId)
 (ho : o.op = .call { callee := .builtin .copy, args := #[d, s], argTypes := #[dT, sT] }) (elem : TypeId) (hu : P.underlying dT = some (.slice elem)) (hsz : (P.info? elem).map (·.size) = some 1)
 (g dCap n : Nat) (S : ByteArray) (cur : List UInt8) (t : TypeId) (hn : cur.length = n) (hd : a.eval d = .slice (some ⟨g, 0, none⟩) n dCap) (hs : a.eval s = .string S)
 (hg : w.heap[g]? = some (.cells (wd cur) t (0, 0))) (hle : S.size ≤ n)
 (h : ∀ w', Hid (w'.heap[g]? = some (.cells (wd (S.data.toList ++ cur.drop S.size)) t (0, 0))) → Hid (w.grownBy w' (some g)) → wpList P ops Q rest (a.put o.dst (goInt S.size)) w') :
 wpList P ops Q (o :: rest) a w := by
 subst hn
 refine wpList_plain hgd fun _ hK => ?_
 have hrun := run_copy_string_le (P := P) w dT sT o.type elem g dCap S cur t hu hsz hg hle
 unfold Oper.wp
 simp [execOp, ho, resolve, invoke, builtin, hd, hs, hrun, Result.andThen]
 exact hK _ _ (h _ (setRow_heap w g _ _ t _ hg) ⟨rfl, rfl, rfl, by simp [World.setRow], fun k _ hk => setRow_other w g k _ (fun e => hk (by rw [e]))⟩)
theorem leN_cut (s : ByteArray) (p : Nat) (h : 4 * p + 4 ≤ s.size) : leN ((s.extract (4 * p) (4 * p + 4)).data.toList ++ [0, 0, 0, 0]) 0 4 = gN s.data.toList p := by
 refine leN_congr _ _ 4 _ _ (fun i hi => ?_)
 have hl : s.data.toList.length = s.size := by simp
 rw [Lib.extract_data, List.getElem?_append_left (by simp; omega), List.getElem?_take_of_lt (by omega), List.getElem?_drop, Nat.zero_add]
theorem getNumber_any (s : ByteArray) (p : Nat) (w : World) (hs : s.size ≤ maxLen) (hp : 4 * p + 4 ≤ s.size) :
 Calls Tryz.prog 104 #[.string s, .int .i64 p] w fun e w' => e = .returned (.int .i64 (gN s.data.toList p)) ∧ Below w.heap.size w w' := by
 unfold maxLen at hs
 have hcut := leN_cut s p hp
 have hsz : (s.extract (p * 4) ((p + 1) * 4)).size = 4 := by simp; omega
 have e0 : s.extract (4 * p) (4 * p + 4) = s.extract (p * 4) ((p + 1) * 4) := by rw [Nat.mul_comm 4 p, show p * 4 + 4 = (p + 1) * 4 by omega]
 rw [e0] at hcut
 have hlen : ((s.extract (p * 4) ((p + 1) * 4)).data.toList ++ [(0 : UInt8), 0, 0, 0]).length = 8 := by
  have h2 : (s.extract (p * 4) ((p + 1) * 4)).data.toList.length = (s.extract (p * 4) ((p + 1) * 4)).size := rfl
  rw [List.length_append, h2, hsz, List.length_cons, List.length_cons, List.length_cons, List.length_cons, List.length_nil]
 have hgl := gN_lt s.data.toList p
 generalize gN s.data.toList p = G at hcut hgl ⊢
 generalize hX : s.extract (p * 4) ((p + 1) * 4) = X at hcut hlen hsz
 have HX := Lib.hid hX
 have HC := Lib.hid hcut
 have HSZ := Lib.hid hsz
 clear hX hcut e0 hsz
 go_enter Tryz.func104, Tryz.ntmps104
 go_wp2
 have e1 : IntKind.i64.wrap ((p : Int) * 4) = (p : Int) * 4 := by rw [IntKind.wrap_i64]; omega
 have e1b : IntKind.i64.wrap ((p : Int) + 1) = (p : Int) + 1 := by rw [IntKind.wrap_i64]; omega
 have e1c : IntKind.i64.wrap (((p : Int) + 1) * 4) = ((p : Int) + 1) * 4 := by rw [IntKind.wrap_i64]; omega
 have e2 : (0 : Int) ≤ (p : Int) * 4 := by omega
 have e2b : (p : Int) * 4 ≤ ((p : Int) + 1) * 4 := by omega
 have e3 : ((p : Int) + 1) * 4 ≤ (s.size : Int) := by omega
 have e4 : ((p : Int) * 4).toNat = p * 4 := by omega
 have e5 : (((p : Int) + 1) * 4).toNat = (p + 1) * 4 := by omega
 have e6 : (0 : Int) ≤ ((p : Int) + 1) * 4 := by omega
 have e7 : (p : Int) ≤ (p : Int) + 1 := by omega
 have hg0 := heap_alloc_new w (.cells #[.int .u8 0, .int .u8 0, .int .u8 0, .int .u8 0, .int .u8 0, .int .u8 0, .int .u8 0, .int .u8 0] 87)
 have HWB := Lib.hid ((Below.refl _ w).alloc (Nat.le_refl _) (.cells #[.int .u8 0, .int .u8 0, .int .u8 0, .int .u8 0, .int .u8 0, .int .u8 0, .int .u8 0, .int .u8 0] 87))
 generalize w.alloc (.cells #[.int .u8 0, .int .u8 0, .int .u8 0, .int .u8 0, .int .u8 0, .int .u8 0, .int .u8 0, .int .u8 0] 87) = W at hg0 HWB ⊢
 refine wp_region_still_tail 8 (by kernel_rfl) (by kernel_rfl) ?_
 simp only [List.take_succ_cons, List.take_zero, List.drop_succ_cons, List.drop_zero]
 refine wpStill_step (fun K hK => ?_)
 go_simp
 refine hK _ ?_
 clear hK K
 still_step
 still_step
 still_step
 still_step
 still_step
 still_step
 refine wpStill_step (fun K hK => ?_)
 go_simp
 refine hK _ ?_
 clear hK K
 refine wpStill_nil ?_
 clear e1 e1b e1c e2 e2b e3 e4 e5 e6 e7
 change wpList _ _ _ _ _ W.drew
 have hgD : W.drew.heap[w.heap.size]? = some (.cells (wd [0, 0, 0, 0, 0, 0, 0, 0]) 87 (0, 0)) := hg0
 have hbD : Below w.heap.size w W.drew := HWB.out.drew
 generalize W.drew = W2 at hgD hbD ⊢
 refine wpList_copy_string_le rfl (.tmp 6) (.tmp 13) 22 9 rfl 5 Tryz.underlying22 size5 w.heap.size 8 8 (s.extract (p * 4) ((p + 1) * 4)) [0, 0, 0, 0, 0, 0, 0, 0] 87 rfl rfl rfl hgD (by rw [HX.out, HSZ.out]; decide) ?_
 intro w4 hg4 hb4
 rw [HX.out, HSZ.out] at hg4
 have hB := Lib.hid (hbD.grown hb4.out (by have := hbD.size; omega) (fun k e => by cases e; exact Nat.le_refl _))
 have hlen := Lib.hid hlen
 have hC := HC
 clear hb4 hbD hgD
 generalize hl : X.data.toList ++ [(0 : UInt8), 0, 0, 0] = l at hlen hC
 have hg5 : Hid (w4.heap[w.heap.size]? = some (.cells (wd l) 87 (0, 0))) := Lib.hid (by rw [← hl]; exact hg4.out)
 clear hg4 hl HC HX HSZ hg0
 go_wp2_with (refine wpList_load_wd rfl 87 (.tmp 5) rfl w.heap.size rfl 87 l _ hg5.out Tryz.underlying87 rfl (by rw [hlen.out]; exact size46) ?_)
 refine (number_any l 0 4 _ hlen.out (by decide) (by decide) (by decide)).mono ?_
 rintro e w5 ⟨rfl, hb5⟩
 rw [show (0 : Int).toNat = 0 from rfl, show (4 : Int).toNat = 4 from rfl, hC.out]
 have hw : IntKind.i64.wrap (G : Int) = G := by rw [IntKind.wrap_i64]; omega
 go_wp2
 go_ret
 exact ⟨rfl, hB.out.trans (hb5.mono hB.out.size)⟩
open Go.RowKit Go.Shelf
def trimRen : Ren := ⟨fun | 231 => 177 | 232 => 178 | n => n, fun | 9 => 9 | 4 => 4 | 3 => 3 | 5 => 5 | n => n, fun n => n⟩
theorem laysLeft : Go.Proofs.Lays.n231 Tryz.prog trimRen := {
 mixed := by kernel_rfl
 f231 := Tryz.func177.trans (congrArg some (by kernel_rfl))
 t3 := Tryz.underlying3, a3 := Tryz.isAgg3, z3 := Tryz.sizeOf3, v3 := Tryz.zeroValue3
 t4 := Tryz.underlying4, a4 := Tryz.isAgg4, z4 := Tryz.sizeOf4, v4 := Tryz.zeroValue4
 t5 := Tryz.underlying5, a5 := Tryz.isAgg5, z5 := Tryz.sizeOf5, v5 := Tryz.zeroValue5
 t9 := Tryz.underlying9, a9 := Tryz.isAgg9, z9 := Tryz.sizeOf9, v9 := Tryz.zeroValue9 }
theorem laysRight : Go.Proofs.Lays.n232 Tryz.prog trimRen := {
 mixed := by kernel_rfl
 f232 := Tryz.func178.trans (congrArg some (by kernel_rfl))
 t3 := Tryz.underlying3, a3 := Tryz.isAgg3, z3 := Tryz.sizeOf3, v3 := Tryz.zeroValue3
 t4 := Tryz.underlying4, a4 := Tryz.isAgg4, z4 := Tryz.sizeOf4, v4 := Tryz.zeroValue4
 t5 := Tryz.underlying5, a5 := Tryz.isAgg5, z5 := Tryz.sizeOf5, v5 := Tryz.zeroValue5
 t9 := Tryz.underlying9, a9 := Tryz.isAgg9, z9 := Tryz.sizeOf9, v9 := Tryz.zeroValue9 }
theorem trimLeft_any (s : ByteArray) (w : World) :
 Calls Tryz.prog 177 #[.string s, .int .u8 0] w fun e w' => e = .returned (.string ⟨(Lib.trimLeftB s.data.toList 0).toArray⟩) ∧ w' = w := Any.strings_trimLeftByte laysLeft s 0 w
theorem trimRight_any (s : ByteArray) (w : World) (hs : s.size ≤ 9223372036854775807) :
 Calls Tryz.prog 178 #[.string s, .int .u8 0] w fun e w' => e = .returned (.string ⟨(Lib.trimRightB s.data.toList 0).toArray⟩) ∧ w' = w := Any.strings_trimRightByte laysRight s 0 w hs
theorem dw_nil (m : List UInt8) : m.dropWhile (· == (0 : UInt8)) = [] ↔ ∀ b ∈ m, b = 0 := by
 induction m with
 | nil => simp
 | cons x r ih =>
  by_cases h : x = 0
  · subst h
    rw [List.dropWhile_cons_of_pos (by rfl), ih]
    simp
  · rw [List.dropWhile_cons_of_neg (by simpa using h)]
    simp [h]
theorem trimZ_nil (l : List UInt8) : Lib.trimB l 0 = [] ↔ ∀ b ∈ l, b = 0 := by
 have hL : ∀ m : List UInt8, Lib.trimLeftB m 0 = [] ↔ ∀ b ∈ m, b = 0 := fun m => by
  exact dw_nil m
 unfold Lib.trimB
 rw [hL]
 unfold Lib.trimRightB
 constructor
 · intro h
   have h2 : l.reverse.dropWhile (· == (0 : UInt8)) = [] := by
    cases hd : l.reverse.dropWhile (· == (0 : UInt8)) with
    | nil => rfl
    | cons x r =>
     have hx := List.head_dropWhile_not (fun b : UInt8 => b == 0) (l := l.reverse) (by rw [hd]; simp)
     have e : (l.reverse.dropWhile (· == (0 : UInt8))).head (by rw [hd]; simp) = x := by simp [hd]
     rw [e] at hx
     have := h x (by rw [hd]; simp)
     subst this
     simp at hx
   rw [dw_nil] at h2
   intro b hb
   exact h2 b (by simpa using hb)
 · intro h b hb
   have : b ∈ l.reverse.dropWhile (· == (0 : UInt8)) := by simpa using hb
   exact h b (by simpa using (List.dropWhile_sublist _).subset this)
theorem trimZ_any (s : ByteArray) (w : World) (hs : s.size ≤ 1048576) :
 Calls Tryz.prog 150 #[.string s, .string ⟨#[0]⟩] w fun e w' => e = .returned (.string ⟨(Lib.trimB s.data.toList 0).toArray⟩) ∧ Below w.heap.size w w' := by
 have hR := trimRight_any s
 have hL := trimLeft_any ⟨(Lib.trimRightB s.data.toList 0).toArray⟩
 have hR' := Lib.hid hR
 have hL' := Lib.hid hL
 clear hR hL
 go_enter Tryz.func150, Tryz.ntmps150
 go_wp2
 · have hl : s.data.toList = [] := by rw [← Lib.toList_data]; assumption
   go_ret
   refine ⟨?_, Below.refl _ _⟩
   show Ending.returned (Value.string s) = _
   have hs0 : s = ⟨#[]⟩ := by rw [← Lib.mk_data s, hl]
   rw [hl, (trimZ_nil []).2 (by simp), hs0]
 · rename_i h1 h2
   exact absurd (by simpa using h2) h1
 · go_region_with (first
    | (refine (hR'.out _ (by omega)).mono ?_; rintro e w' ⟨rfl, rfl⟩)
    | (refine (hL'.out _).mono ?_; rintro e w' ⟨rfl, rfl⟩))
   all_goals (go_wp2; go_ret; exact ⟨rfl, (Below.refl _ _).drew⟩)
end Go.Proofs.YtlbfffokkhccaaaGreatDoor
namespace Go.Proofs.YtlbfffokkhccaaaGreatDoor
open Go.RowKit
theorem infoInt : (Tryz.prog.info? 3).map (fun i => (i.zero, i.size, i.bytes)) = some (some (.int .i64 0), 1, 8) := by kernel_rfl
def szCells (zs : List Nat) : List Value := zs.map fun z : Nat => .int .i64 ((z : Int) * 8)
theorem szCells_snoc (zs : List Nat) (z : Nat) : szCells (zs ++ [z]) = szCells zs ++ [.int .i64 ((z : Int) * 8)] := by simp [szCells]
theorem szCells_length (zs : List Nat) : (szCells zs).length = zs.length := by simp [szCells]
theorem own_shape {w : World} {B e n : Nat} {v : Value} {xs : List Value} (h : w.ownsRow B e 1 v n xs) : ∃ A cap, v = .slice A n cap := by
 rcases h.2 with ⟨rfl, rfl⟩ | ⟨g, cap, _, rfl, _⟩
 · exact ⟨none, 0, rfl⟩
 · exact ⟨_, cap, rfl⟩
def FSz (h : ByteArray) (n : Nat) (w : World) (e : Ending) (w' : World) : Prop :=
 ∃ v, e = .returned (.tuple #[v, .bool (fgZ h.data.toList n && decide ((szs h.data.toList n).sum ≤ 200))]) ∧ w'.ownsRow w.heap.size 3 1 v n (szCells (szs h.data.toList n)) ∧ Below w.heap.size w w'
theorem cat_nil_isEmpty (l : List UInt8) : (⟨l.toArray⟩ : ByteArray).toList.isEmpty = l.isEmpty := by rw [ByteArray.toList_eq]
theorem frameSizes_any (h : ByteArray) (n : Nat) (w : World) (hn1 : 1 ≤ n) (hn : n ≤ 6) (hs : h.size = fgHead n) :
 Calls Tryz.prog 105 #[.string h, .int .i64 n] w (FSz h n w) := by
 have hs2 := hs
 unfold fgHead at hs2
 have hsm : h.size ≤ 32 := by omega
 have hs4 : 4 * n + 4 ≤ h.size := by omega
 have hZ : fgZ h.data.toList n = (h.data.toList.drop (4 * (n + 1))).all (· == 0) := by
  have e : h.data.toList.length = h.size := rfl
  rw [fgZ, List.take_of_length_le (by omega)]
 have HZ := Lib.hid hZ
 have HS := Lib.hid hs
 obtain ⟨i0, hi, hz0, hz1, hz2⟩ := info_parts infoInt
 clear hs hs2 hZ
 go_enter Tryz.func105, Tryz.ntmps105
 go_wp2_with fail
 go_loopw [6, 7, 12] (fun v t i wr => ∃ k : Nat, k ≤ n ∧ i = .int .i64 k ∧ t = .int .i64 ((szs h.data.toList k).sum * 8 : Nat) ∧ Hid (wr.ownsRow w.heap.size 3 1 v k (szCells (szs h.data.toList k))) ∧ Hid (Below w.heap.size w wr)) (fun _ _ i _ => n - (intOf i).toNat)
 case atStart => exact ⟨0, by omega, rfl, rfl, Lib.hid (World.ownsRow_nil _ _ _ _), Below.refl _ _⟩
 case round =>
  obtain ⟨k, hk, rfl, rfl, HO, HB⟩ := hrel
  obtain ⟨A, cp, rfl⟩ := own_shape HO.out
  have hsl := szs_sum_lt h.data.toList k
  by_cases hk1 : k < n
  · have hg := gN_lt h.data.toList (k + 1)
    have hstep := szs_succ h.data.toList k
    have hsum := szs_sum_succ h.data.toList k
    have HSt := Lib.hid hstep
    have HSu := Lib.hid hsum
    generalize (szs h.data.toList k).sum = T at hsl HSu ⊢
    clear hstep hsum
    go_wp2_with fail
    refine (getNumber_any h (k + 1) _ (by unfold maxLen; omega) (by omega)).mono ?_
    rintro e w1 ⟨rfl, hb1⟩
    generalize hG : gN h.data.toList (k + 1) = G at hg HSt HSu ⊢
    have HO1 := Lib.hid (HO.out.kept (row := none) ⟨hb1.os, hb1.tape, hb1.output, hb1.size, fun k hk _ => hb1.block k hk⟩ (Classical.em _))
    have HB1 := Lib.hid (HB.out.trans (hb1.mono HB.out.size))
    have hsz1 := HB1.out.size
    clear hb1 hG
    go_wp2_with (at_builtin; go_must (refine wpList_append_own _ rfl (.tmp 20) (.tmp 22) 50 rfl w.heap.size 3 i0 (.int .i64 0) 1 8 Tryz.underlying50 hi hz0 hz1 hz2 rfl (by decide) _ _ _ rfl (HO1.out.alloc _) ⟨w1.heap.size, 0, none⟩ 1 1 [.int .i64 ((G : Int) * 8)] rfl rfl (cell_one_new _ _ _) (by simp [Value.oneCell']) (by unfold maxLen; omega) (by omega) (by simp <;> omega) ?_); intro v' wn hown' hgrow _)
    have HON := Lib.hid (show wn.ownsRow w.heap.size 3 1 v' (k + 1) (szCells (szs h.data.toList (k + 1))) by rw [HSt.out, szCells_snoc]; exact hown')
    have HBN := Lib.hid (below_append HB1.out hsz1 HO1.out hgrow)
    clear hgrow hown'
    go_wp2
    go_roundw
    case rel => exact ⟨k + 1, by omega, by go_num, by rw [HSu.out]; go_num, HON, HBN⟩
    case measure => simp [intOf]; omega
  · obtain rfl : k = n := by omega
    have hcut : (h.extract ((k + 1) * 4) h.size).data.toList = h.data.toList.drop (4 * (k + 1)) := by
     have e : h.data.toList.length = h.size := rfl
     rw [Lib.extract_data, List.take_of_length_le (by simp <;> omega), Nat.mul_comm]
    have hxs : (h.extract ((k + 1) * 4) h.size).size ≤ 1048576 := by simp; omega
    have hz : Lib.trimB (h.extract ((k + 1) * 4) h.size).data.toList 0 = [] ↔ fgZ h.data.toList k = true := by
     rw [trimZ_nil, hcut, HZ.out, List.all_eq_true]
     simp only [beq_iff_eq]
    have HZZ := Lib.hid hz
    clear hcut hz
    generalize hT : (szs h.data.toList k).sum = T at hsl ⊢
    generalize hL : Lib.trimB (h.extract ((k + 1) * 4) h.size).data.toList 0 = L at HZZ
    have HT := Lib.hid hT
    have HL := Lib.hid hL
    clear hT hL
    go_wp2_with fail
    refine (trimZ_any _ _ hxs).mono ?_
    rintro e w1 ⟨rfl, hb1⟩
    rw [HL.out]
    have HO1 := Lib.hid (HO.out.kept (row := none) ⟨hb1.os, hb1.tape, hb1.output, hb1.size, fun k hk _ => hb1.block k hk⟩ (Classical.em _))
    have HB1 := Lib.hid (HB.out.trans (hb1.mono HB.out.size))
    clear hb1
    have hres : ∀ b : Bool, ∀ c : Bool, fgZ h.data.toList k = b → decide (T ≤ 200) = c → FSz h k w (.returned (.tuple #[.slice A k cp, .bool (b && c)])) w1 := fun b c hb hc => ⟨.slice A k cp, by rw [hb, HT.out, hc], HO1.out, HB1.out⟩
    have HR := Lib.hid hres
    clear hres
    by_cases hL : L = []
    · have hf := HZZ.out.1 hL
      subst hL
      have HF := Lib.hid hf
      clear hf
      have HD : Hid (decide ((T : Int) * 8 ≤ 1600) = decide (T ≤ 200)) := Lib.hid (by rw [decide_eq_decide]; omega)
      go_wp2
      go_ret2
      have h3 := HR.out true (decide (T ≤ 200)) HF.out rfl
      rw [← HD.out] at h3
      exact h3
    · have hf : fgZ h.data.toList k = false := by
       cases hz : fgZ h.data.toList k
       · rfl
       · exact absurd (HZZ.out.2 hz) hL
      have hx : (⟨L.toArray⟩ : ByteArray).toList.isEmpty = false := by
       rw [cat_nil_isEmpty]
       cases L with
       | nil => exact absurd rfl hL
       | cons a r => rfl
      generalize (⟨L.toArray⟩ : ByteArray) = X at hx ⊢
      have HF := Lib.hid hf
      clear hf hL
      go_wp2
      go_ret2
      have := HR.out false (decide (T ≤ 200)) HF.out rfl
      exact this
def Ones (w : World) (A : Option Addr) (xs : List Value) : Prop :=
 xs = [] ∨ ∃ a : Addr, A = some a ∧ a.block < w.heap.size ∧ ∀ i (h : i < xs.length), w.cell? (a.add i) = some xs[i]
theorem Ones.below {w w' : World} {A : Option Addr} {xs : List Value} (h : Ones w A xs) (hb : Below w.heap.size w w') : Ones w' A xs := by
 rcases h with h0 | ⟨a, ha, hlt, hc⟩
 · exact .inl h0
 · refine .inr ⟨a, ha, Nat.lt_of_lt_of_le hlt hb.size, fun i hi => ?_⟩
   exact (hb.cell (p := a.add i) (by rw [add_block]; exact hlt)).trans (hc i hi)
theorem Ones.own {w : World} {B e n cap : Nat} {A : Option Addr} {xs : List Value} (h : w.ownsRow B e 1 (.slice A n cap) n xs) : Ones w A xs := by
 rcases h.2 with ⟨_, h0⟩ | ⟨g, cap, _, he, _⟩
 · exact .inl (List.eq_nil_of_length_eq_zero (by rw [h.1, h0]))
 · cases he
   refine .inr ⟨_, rfl, (h.lt g rfl).2, fun i hi => ?_⟩
   exact h.cells rfl i _ (by simp [List.getElem?_eq_getElem hi])
def CutYes (s : ByteArray) (a : Nat) (zs : List Nat) (w : World) (e : Ending) (w' : World) : Prop :=
 ∃ v, e = .returned (.tuple #[v, .int .i64 ((a + 8 * zs.sum : Nat) : Int)]) ∧ w'.ownsRow w.heap.size 9 1 v zs.length ((cutB s a zs).map Value.string) ∧ Below w.heap.size w w'
def CutNo (w : World) (e : Ending) (w' : World) : Prop := e = .returned (.tuple #[.slice none 0 0, .int .i64 0]) ∧ Below w.heap.size w w'
theorem sum_take_leC (zs : List Nat) (k : Nat) : (zs.take k).sum ≤ zs.sum := by
 conv => rhs; rw [← List.take_append_drop k zs]
 rw [List.sum_append]; omega
theorem sum_take_succC (zs : List Nat) (k : Nat) (h : k < zs.length) : (zs.take (k + 1)).sum = (zs.take k).sum + zs[k] := by
 rw [List.take_succ_eq_append_getElem h, List.sum_append]; simp
theorem cutB_take (s : ByteArray) (a : Nat) (zs : List Nat) (k : Nat) (h : k < zs.length) : cutB s a (zs.take (k + 1)) = cutB s a (zs.take k) ++ [s.extract (a + 8 * (zs.take k).sum) (a + 8 * (zs.take k).sum + 8 * zs[k])] := by
 rw [List.take_succ_eq_append_getElem h, cutB_snoc]
theorem cutSegments_any (s : ByteArray) (a : Nat) (A : Option Addr) (cap : Nat) (zs : List Nat) (w : World) (hs : s.size ≤ 1099511627776) (ha : a ≤ s.size) (hn : zs.length ≤ 6) (hz : zs.sum ≤ 200) (h : Ones w A (szCells zs)) :
 Calls Tryz.prog 106 #[.string s, .int .i64 a, .slice A zs.length cap] w (fun e w' => if s.size < a + 8 * zs.sum then CutNo w e w' else CutYes s a zs w e w') := by
 have hpost : ∃ P : Ending → World → Prop, P = (fun e w' => if s.size < a + 8 * zs.sum then CutNo w e w' else CutYes s a zs w e w') := ⟨_, rfl⟩
 obtain ⟨P, hP⟩ := hpost
 rw [← hP]
 have HP := Lib.hid hP
 have H := Lib.hid h
 obtain ⟨i0, hi, hz0, hz1, hz2⟩ := info_parts infoStr
 clear h hP
 go_enter Tryz.func106, Tryz.ntmps106
 go_wp2_with fail
 go_loopw [1, 8, 13] (fun at_ v i wr => ∃ k : Nat, k ≤ zs.length ∧ i = .int .i64 k ∧ at_ = .int .i64 ((a + 8 * (zs.take k).sum : Nat) : Int) ∧ a + 8 * (zs.take k).sum ≤ s.size ∧ Hid (wr.ownsRow w.heap.size 9 1 v k ((cutB s a (zs.take k)).map Value.string)) ∧ Hid (Below w.heap.size w wr)) (fun _ _ i _ => zs.length - (intOf i).toNat)
 case atStart => exact ⟨0, by omega, rfl, by simp, by simpa using ha, Lib.hid (World.ownsRow_nil _ _ _ _), Below.refl _ _⟩
 case round =>
  obtain ⟨k, hk, rfl, rfl, hat, HO, HB⟩ := hrel
  obtain ⟨A2, cp, rfl⟩ := own_shape HO.out
  by_cases hk1 : k < zs.length
  · obtain ⟨ad, rfl, _, hc⟩ := (H.out.below HB.out).resolve_left (by intro h; have := szCells_length zs; rw [h] at this; simp at this; omega)
    have hck := hc k (by rw [szCells_length]; exact hk1)
    have he : (szCells zs)[k]'(by rw [szCells_length]; exact hk1) = .int .i64 ((zs[k] : Int) * 8) := by simp [szCells]
    rw [he] at hck
    have hs1 := sum_take_succC zs k hk1
    have hs2 := sum_take_leC zs (k + 1)
    have hs3 := sum_take_leC zs k
    have hct := cutB_take s a zs k hk1
    have HCT := Lib.hid hct
    have HS1 := Lib.hid hs1
    generalize hz' : zs[k] = z at hck hs1 HCT HS1
    generalize (zs.take k).sum = T at hs1 hs2 hs3 hat HO HCT HS1 ⊢
    have hzl : z ≤ 200 := by omega
    have HS2 := Lib.hid hs2
    clear hc hct hs1 hs2 he
    by_cases hlt : s.size < a + 8 * T + 8 * z
    · have hd : ((s.size : Nat) : Int) < (a : Int) + 8 * (T : Int) + (z : Int) * 8 := by omega
      go_wp2
      rw [HP.out]
      show if s.size < a + 8 * zs.sum then _ else _
      rw [if_pos (by have := HS1.out; have := HS2.out; omega)]
      exact ⟨rfl, HB.out⟩
    · have hd : ¬ ((s.size : Nat) : Int) < (a : Int) + 8 * (T : Int) + (z : Int) * 8 := by omega
      have hcutE : s.extract (a + 8 * T) (a + 8 * T + 8 * z) = s.extract (a + 8 * T) (a + 8 * T + z * 8) := by rw [Nat.mul_comm 8 z]
      rw [hcutE] at HCT
      clear hcutE
      have g1 : (0 : Int) ≤ (a : Int) + 8 * (T : Int) := by omega
      have hsz1 := HB.out.size
      go_wp2_with (at_builtin; go_must (refine wpList_append_own _ rfl (.tmp 23) (.tmp 30) 28 rfl w.heap.size 9 i0 (.string ByteArray.empty) 1 16 Tryz.underlying28 hi hz0 hz1 hz2 rfl (by decide) _ _ _ rfl (HO.out.alloc _) ⟨wr.heap.size, 0, none⟩ 1 1 [.string (s.extract (a + 8 * T) (a + 8 * T + z * 8))] rfl rfl (cell_one_new _ _ _) (by simp [Value.oneCell']) (by unfold maxLen; omega) (by omega) (by simp <;> omega) ?_); intro v' wn hown' hgrow _)
      have HON := Lib.hid (show wn.ownsRow w.heap.size 9 1 v' (k + 1) ((cutB s a (zs.take (k + 1))).map Value.string) by rw [HCT.out, List.map_append]; exact hown')
      have HBN := Lib.hid (below_append HB.out hsz1 HO.out hgrow)
      clear hgrow hown'
      go_wp2
      go_roundw
      case rel => exact ⟨k + 1, by omega, by go_num, by rw [HS1.out]; go_num, by rw [HS1.out]; omega, HON, HBN⟩
      case measure => simp [intOf]; omega
  · obtain rfl : k = zs.length := by omega
    go_wp2
    rw [HP.out]
    show if s.size < a + 8 * zs.sum then _ else _
    rw [List.take_length] at hat HO ⊢
    rw [if_neg (by omega)]
    exact ⟨_, by simp, HO.out, HB.out⟩
theorem bsize : (Tryz.prog.info? 119).map (·.size) = some 2 := by kernel_rfl
theorem blies : liesAt Tryz.prog Tryz.prog.depth 119 (2 / Tryz.prog.cellsOf 119) 0 119 1 = true := by kernel_rfl
theorem binfo5 : (Tryz.prog.info? 5).map (fun i => (i.zero, i.size, i.bytes)) = some (some (.int .u8 0), 1, 1) := by kernel_rfl
theorem copyCheck_used (b : Nat) (w : World) (h0 : w.cell? ⟨b, 0, none⟩ = some (.pointer (some ⟨b, 0, none⟩))) :
 Calls Tryz.prog 121 #[.pointer (some ⟨b, 0, none⟩)] w fun e w' => e = .returned (.tuple #[]) ∧ w' = w := by
 obtain ⟨j, hj, _⟩ := Option.map_eq_some_iff.1 bsize
 have hne := Lib.run_neq_ptr_same (P := Tryz.prog) w (tp := 117) (te := 119) ⟨b, 0, none⟩ Tryz.underlying117 hj
 go_enter Tryz.func121, Tryz.ntmps121
 go_wp2
 go_end0
 exact ⟨rfl, rfl⟩
theorem copyCheck_fresh (b : Nat) (w : World) (h0 : w.cell? ⟨b, 0, none⟩ = some (.pointer none)) (hsh : w.shape? b = some (119, 2)) (hfz : w.frozen? ⟨b, 0, none⟩ = false) :
 Calls Tryz.prog 121 #[.pointer (some ⟨b, 0, none⟩)] w fun e w' => e = .returned (.tuple #[]) ∧ w' = w.setCell ⟨b, 0, none⟩ (.pointer (some ⟨b, 0, none⟩)) := by
 obtain ⟨j, hj, hjs⟩ := Option.map_eq_some_iff.1 bsize
 have hto := Lib.run_to_unsafe (P := Tryz.prog) w (src := 117) (dst := 134) (t := 119) ⟨b, 0, none⟩ Tryz.underlying117 Tryz.underlying134 hj (by rw [hjs]; decide) hsh (Nat.zero_lt_succ 1)
 have hfrom := Lib.run_from_unsafe (P := Tryz.prog) w (src := 134) (dst := 117) (u := 119) ⟨b, 0, none⟩ Tryz.underlying134 Tryz.underlying117 hj hsh blies
 have hesc : (callFunc 161 #[.pointer (some ⟨b, 0, none⟩)]).run Tryz.prog w = .ok (.value (.pointer (some ⟨b, 0, none⟩))) w := by
  rw [run_callFunc_extern Tryz.func161 (by kernel_rfl) (by kernel_rfl) (by kernel_rfl) (e := Extern.AbiNoEscape.same) (by kernel_rfl), Lib.run_noEscape]
  rfl
 go_enter Tryz.func121, Tryz.ntmps121
 go_wp2
 go_end0
 exact ⟨rfl, rfl⟩
def Bld (B b : Nat) (bs : List Value) (w : World) : Prop :=
 ∃ p v, (p = .pointer none ∨ p = .pointer (some ⟨b, 0, none⟩)) ∧ w.heap[b]? = some (.cells #[p, v] 119 (0, 0)) ∧ w.ownsRow B 5 1 v bs.length bs
theorem Bld.fresh {w : World} {b : Nat} (B : Nat) (h : w.heap[b]? = some (.cells #[.pointer none, .slice none 0 0] 119 (0, 0))) : Bld B b [] w :=
 ⟨_, _, .inl rfl, h, World.ownsRow_nil _ _ _ _⟩
theorem Bld.is {B b B' : Nat} {bs : List Value} {w : World} (h : Bld B b bs w) (h1 : B' ≤ B) (h2 : B' ≤ b) : Lib.IsBuilder 119 5 B' b bs w := by
 obtain ⟨p, v, hp, hb, hown⟩ := h
 have hne := Lib.ownBlock_ne hown hb (by decide)
 have hown' : w.ownsRow B' 5 1 v bs.length bs := ⟨hown.1, hown.2.imp (fun x => x) (fun ⟨g, cap, cur, hv, hg, r⟩ => ⟨g, cap, cur, hv, Nat.le_trans h1 hg, r⟩)⟩
 rcases hp with rfl | rfl
 · exact .inl ⟨h2, v, hb, hown', hne⟩
 · exact .inr ⟨h2, v, hb, hown', hne⟩
theorem pair_set {w : World} {b : Nat} {p v q : Value} {T : TypeId} (h : w.heap[b]? = some (.cells #[p, v] T (0, 0))) : (w.setCell ⟨b, 0, none⟩ q).heap[b]? = some (.cells #[q, v] T (0, 0)) := by
 simp [World.setCell, Array.getElem?_modify, h]
theorem set_grown (w : World) (b i : Nat) (u : Value) : w.grownBy (w.setCell ⟨b, i, none⟩ u) (some b) :=
 ⟨rfl, rfl, rfl, by simp [World.setCell], fun k _ hk => Below.heap_setCell w ⟨b, i, none⟩ u k (fun e => hk (by rw [e]))⟩
def Self (B b : Nat) (v : Value) (bs : List Value) (w0 w : World) : Prop :=
 w.heap[b]? = some (.cells #[.pointer (some ⟨b, 0, none⟩), v] 119 (0, 0)) ∧ w.ownsRow B 5 1 v bs.length bs ∧ Keeps B b w0 w ∧ w.heap.size = w0.heap.size
theorem copyCheck_any (B b : Nat) (bs : List Value) (w : World) (h : Bld B b bs w) :
 ∃ v, Calls Tryz.prog 121 #[.pointer (some ⟨b, 0, none⟩)] w fun e w' => e = .returned (.tuple #[]) ∧ Self B b v bs w w' := by
 obtain ⟨p, v, hp, hb, hown⟩ := h
 have hne := Lib.ownBlock_ne hown hb (by decide)
 obtain ⟨c0, _⟩ := cell_pair hb
 rcases hp with rfl | rfl
 · refine ⟨v, (copyCheck_fresh b w c0 (by simp [World.shape?, hb]) (Lib.frozen_of_heap hb 0)).mono ?_⟩
   rintro e w' ⟨rfl, rfl⟩
   exact ⟨rfl, pair_set hb, hown.kept (set_grown w b 0 _) (.inr hne), set_keeps B b w 0 _, by simp [World.setCell]⟩
 · refine ⟨v, (copyCheck_used b w c0).mono ?_⟩
   rintro e w' ⟨rfl, rfl⟩
   exact ⟨rfl, hb, hown, Keeps.refl _ _ _, rfl⟩
theorem Self.put {B b : Nat} {bs new : List Value} {v v' : Value} {w0 w1 w2 : World} (h : Self B b v bs w0 w1) {wx : World} (hx : Keeps w1.heap.size w1.heap.size w1 wx) (hg : wx.grownBy w2 v.ownBlock) (hown : w2.ownsRow B 5 1 v' (bs ++ new).length (bs ++ new)) :
 w2.heap[b]? = some (.cells #[.pointer (some ⟨b, 0, none⟩), v] 119 (0, 0)) ∧ Bld B b (bs ++ new) (w2.setCell ⟨b, 1, none⟩ v') ∧ (B ≤ w1.heap.size → Keeps B b w0 (w2.setCell ⟨b, 1, none⟩ v')) := by
 obtain ⟨hb, ho, hk, _⟩ := h
 have hne := Lib.ownBlock_ne ho hb (by decide)
 have hlt : b < w1.heap.size := by
  rcases Nat.lt_or_ge b w1.heap.size with hlt | hge
  · exact hlt
  · rw [Array.getElem?_eq_none hge] at hb; cases hb
 have h2 : w2.heap[b]? = some (.cells #[.pointer (some ⟨b, 0, none⟩), v] 119 (0, 0)) :=
  (hg.block b (Nat.lt_of_lt_of_le hlt hx.size) (Ne.symm hne)).trans ((hx.block b hlt (by omega)).trans hb)
 have hne2 := Lib.ownBlock_ne hown h2 (by decide)
 refine ⟨h2, ⟨_, _, .inr rfl, pair_set1 h2, hown.kept (set_grown w2 b 1 _) (.inr hne2)⟩, fun hB => hk.trans ?_⟩
 refine Keeps.trans (c := w2) ⟨hg.os.trans hx.os, hg.tape.trans hx.tape, hg.output.trans hx.output, Nat.le_trans hx.size hg.size, fun k hk' hn => ?_⟩ (set_keeps B b w2 1 _)
 refine (hg.block k (Nat.lt_of_lt_of_le (Nat.lt_of_lt_of_le hk' hB) hx.size) (fun e => ?_)).trans (hx.block k (by omega) (by omega))
 have := (ho.lt k e.symm).1
 omega
theorem own_any {w : World} {B e n : Nat} {v : Value} {xs : List Value} (h : w.ownsRow B e 1 v n xs) : ∃ A cap, v = .slice A n cap := by
 rcases h.2 with ⟨rfl, rfl⟩ | ⟨g, cap, _, rfl, _⟩
 · exact ⟨none, 0, rfl⟩
 · exact ⟨_, cap, rfl⟩
theorem bld_below {B b : Nat} {bs : List Value} {w w' : World} (h : Bld B b bs w) (hb : Below w.heap.size w w') : Bld B b bs w' := by
 obtain ⟨p, v, hp, hr, hown⟩ := h
 exact ⟨p, v, hp, (hb.block b (row_lt hr)).trans hr, hown.kept (row := none) ⟨hb.os, hb.tape, hb.output, hb.size, fun k hk _ => hb.block k hk⟩ (Classical.em _)⟩
theorem writeString_any (B b : Nat) (bs : List Value) (s : ByteArray) (w : World) (h : Bld B b bs w) (hlen : bs.length ≤ 1099511627776) (hs : s.size ≤ 1099511627776) (hBw : B ≤ w.heap.size) :
 Calls Tryz.prog 75 #[.pointer (some ⟨b, 0, none⟩), .string s] w fun e w' => e = .returned (.tuple #[.int .i64 s.size, .nilIface]) ∧ (Bld B b (bs ++ Lib.strCells s) w' ∧ Keeps B b w w') := by
 obtain ⟨i0, hi, hz0, hz1, hz2⟩ := info_parts binfo5
 obtain ⟨v, hcc⟩ := copyCheck_any B b bs w h
 have HC := Lib.hid hcc
 clear hcc h
 have hsl := Lib.strCells_length s
 have HSL := Lib.hid hsl
 clear hsl
 go_enter Tryz.func75, Tryz.ntmps75
 go_wp2_with (first | (go_at_call 121; refine HC.out.mono ?_; rintro e w1 ⟨rfl, hS⟩; have hT := Lib.hid hS; have hsz := Nat.le_trans hBw (Nat.le_of_eq hS.2.2.2.symm); have c1 := (cell_pair hS.1).2; clear hS) | (at_builtin; go_must (refine Lib.wpList_append_own_string _ rfl (.tmp 12) (.tmp 13) 22 9 rfl B 5 i0 Tryz.underlying22 Tryz.underlying9 hi hz0 hz1 hz2 v _ _ rfl hT.out.2.1 s rfl (by unfold maxLen; omega) (by omega) hsz ?_); intro v' w2 hown' hgrow _; obtain ⟨h2, hU, hKp⟩ := hT.out.put (new := Lib.strCells s) (Keeps.refl _ _ _) hgrow (by rw [List.length_append, HSL.out]; exact hown'); have d1 := (cell_pair h2).2; have f1 := Lib.frozen_of_heap h2 1; obtain ⟨g, cap, rfl⟩ := own_any hown'; clear h2 hgrow))
 go_ret2
 exact ⟨rfl, hU, hKp hsz⟩
theorem len_any (B b : Nat) (bs : List Value) (w : World) (h : Bld B b bs w) :
 Calls Tryz.prog 93 #[.pointer (some ⟨b, 0, none⟩)] w fun e w' => e = .returned (.int .i64 bs.length) ∧ w = w' := by
 obtain ⟨p, v, hp, hb, hown⟩ := h
 obtain ⟨g, cap, rfl⟩ := own_any hown
 obtain ⟨_, c1⟩ := cell_pair hb
 clear hb hown hp
 go_enter Tryz.func93, Tryz.ntmps93
 go_wp2
 go_ret
 exact ⟨rfl, rfl⟩
open Go.Shelf Go.RowKit
def strRen : Go.Shelf.Ren := ⟨fun | 169 => 76 | n => n, fun | 70 => 117 | 9 => 9 | 0 => 0 | 72 => 119 | 37 => 22 | 127 => 188 | 3 => 3 | 5 => 5 | n => n, fun | n => n⟩
theorem strLays : Go.Proofs.Lays.n169 Tryz.prog strRen := {
 mixed := by kernel_rfl
 f169 := Tryz.func76.trans (congrArg some (by kernel_rfl))
 t0 := Tryz.underlying0, a0 := Tryz.isAgg0, z0 := Tryz.sizeOf0, v0 := Tryz.zeroValue0
 t3 := Tryz.underlying3, a3 := Tryz.isAgg3, z3 := Tryz.sizeOf3, v3 := Tryz.zeroValue3
 t9 := Tryz.underlying9, a9 := Tryz.isAgg9, z9 := Tryz.sizeOf9, v9 := Tryz.zeroValue9
 t37 := Tryz.underlying22, a37 := Tryz.isAgg22, z37 := Tryz.sizeOf22, v37 := Tryz.zeroValue22
 t70 := Tryz.underlying117, a70 := Tryz.isAgg117, z70 := Tryz.sizeOf117, v70 := Tryz.zeroValue117
 t72 := Tryz.underlying119, a72 := Tryz.isAgg119, z72 := Tryz.sizeOf119, v72 := Tryz.zeroValue119
 t127 := Tryz.underlying188, a127 := Tryz.isAgg188, z127 := Tryz.sizeOf188, v127 := Tryz.zeroValue188 }
theorem strExtra : Builder.Extra Tryz.prog strRen := {
 sizeBuilder := by kernel_rfl
 liesBuilder := by kernel_rfl
 t5 := Tryz.underlying5, a5 := Tryz.isAgg5, z5 := Tryz.sizeOf5, v5 := Tryz.zeroValue5
 infoByte := by kernel_rfl
 cellsByte := by kernel_rfl
 sizeByte := by kernel_rfl
 neB5 := by decide }
theorem string_any (B b : Nat) (l : List UInt8) (w : World) (h : Lib.IsBuilder 119 5 B b (Lib.byteCells l) w) (hBw : B ≤ w.heap.size) :
 Calls Tryz.prog 76 #[.pointer (some ⟨b, 0, none⟩)] w fun e w' => e = .returned (.string ⟨l.toArray⟩) ∧ Below B w w' := Any.Builder_String_any strLays strExtra B b l w h hBw
end Go.Proofs.YtlbfffokkhccaaaGreatDoor
