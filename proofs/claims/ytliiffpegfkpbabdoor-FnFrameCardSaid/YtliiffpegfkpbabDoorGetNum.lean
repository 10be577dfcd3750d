/- impl.getNumber: a number of a frame's head. -/
import Derived.Test.YtliiffpegfkpbabDoorNumber
import Derived.Test.YtliiffpegfkpbabDoorMathFG
import Derived.StillTailTactics
namespace Go.Proofs.YtliiffpegfkpbabDoor
open Go.RowKit
/-- copy(dst, s), s A STRING, dst the whole row g of n cells, s no longer. -/
theorem run_copy_string_le {P : Program} (w : World) (dT sT ty elem : TypeId) (g dCap : Nat) (s : ByteArray) (cur : List UInt8) (t : TypeId)
    (hu : P.underlying dT = some (.slice elem)) (hs : (P.info? elem).map (·.size) = some 1) (hg : w.heap[g]? = some (.cells (wd cur) t (0, 0))) (hle : s.size ≤ cur.length) :
    (Builtin.copy_ #[dT, sT] ty #[.slice (some ⟨g, 0, none⟩) cur.length dCap, .string s]).run P w =
      .ok (goInt s.size) (w.setRow g (wd (s.data.toList ++ cur.drop s.size))) := by
  have hlen : (Lib.byteCells s.data.toList).length = s.size := by
    rw [Lib.byteCells_length, ← Lib.size_eq]
  have hst := run_storeCells_at P g 0 t (Lib.byteCells s.data.toList) 0 (wd cur) w hg (by rw [hlen]; simp [wd, Lib.byteCells_length]; omega) (Lib.byteCells_one _)
  have hmin : Nat.min s.size cur.length = s.size := Nat.min_eq_left hle
  have htk : List.take s.size (List.map (fun b : UInt8 => Value.int IntKind.u8 (b.toNat : Int)) s.data.toList) = Lib.byteCells s.data.toList := by
    rw [Lib.byteCells, List.take_of_length_le (by simp)]
  rw [hlen] at hst
  have hd : List.drop s.size (wd cur).toList = Lib.byteCells (cur.drop s.size) := by simp [wd, Lib.byteCells, List.map_drop]
  simp only [Nat.add_zero, Nat.zero_add, List.take_zero, List.nil_append, hd] at hst
  cases hq : P.info? elem with
  | none => simp [hq] at hs
  | some i =>
    simp [Builtin.copy_, run_underlying hu, Builtin.lenOf, Builtin.firstCells, sizeOf, typeInfo, hq, hmin]
    rw [show (List.take s.size (List.map (fun b : UInt8 => Value.int IntKind.u8 (b.toNat : Int)) s.data.toList)) = Lib.byteCells s.data.toList from htk, hst]
    simp [Result.andThen, wd, Lib.byteCells]
theorem wpList_copy_string_le {P : Program} {ops : Array Oper} {rest : List Oper} {o : Oper} {a : Act} {w : World} {Q : Exit → Act → World → Prop} (hgd : o.guard = none) (d s : Operand) (dT sT : TypeId)
    (ho : o.op = .call { callee := .builtin .copy, args := #[d, s], argTypes := #[dT, sT] }) (elem : TypeId) (hu : P.underlying dT = some (.slice elem)) (hsz : (P.info? elem).map (·.size) = some 1)
    (g dCap n : Nat) (S : ByteArray) (cur : List UInt8) (t : TypeId) (hn : cur.length = n) (hd : a.eval d = .slice (some ⟨g, 0, none⟩) n dCap) (hs : a.eval s = .string S)
    (hg : w.heap[g]? = some (.cells (wd cur) t (0, 0))) (hle : S.size ≤ n)
    (h : ∀ w', Hid (w'.heap[g]? = some (.cells (wd (S.data.toList ++ cur.drop S.size)) t (0, 0))) → Hid (w.grownBy w' (some g)) → wpList P ops Q rest (a.put o.dst (goInt S.size)) w') :
    wpList P ops Q (o :: rest) a w := by
  subst hn
  refine wpList_plain hgd fun _ hK => ?_
  have hrun := run_copy_string_le (P := P) w dT sT o.type elem g dCap S cur t hu hsz hg hle
  unfold Oper.wp
  simp [execOp, ho, resolve, invoke, builtin, hd, hs, hrun, Result.andThen]
  exact hK _ _ (h _ (setRow_heap w g _ _ t _ hg) ⟨rfl, rfl, rfl, by simp [World.setRow], fun k _ hk => setRow_other w g k _ (fun e => hk (by rw [e]))⟩)
theorem leN_cut (s : ByteArray) (p : Nat) (h : 4 * p + 4 ≤ s.size) : leN ((s.extract (4 * p) (4 * p + 4)).data.toList ++ [0, 0, 0, 0]) 0 4 = gN s.data.toList p := by
  refine leN_congr _ _ 4 _ _ (fun i hi => ?_)
  have hl : s.data.toList.length = s.size := by simp
  rw [Lib.extract_data, List.getElem?_append_left (by simp; omega), List.getElem?_take_of_lt (by omega), List.getElem?_drop, Nat.zero_add]
set_option maxRecDepth 100000 in
set_option maxHeartbeats 1000000 in
theorem getNumber_any (s : ByteArray) (p : Nat) (w : World) (hs : s.size ≤ maxLen) (hp : 4 * p + 4 ≤ s.size) :
    Calls Tryd.prog 39 #[.string s, .int .i64 p] w fun e w' => e = .returned (.int .i64 (gN s.data.toList p)) ∧ Below w.heap.size w w' := by
  unfold maxLen at hs
  have hcut := leN_cut s p hp
  have hsz : (s.extract (p * 4) ((p + 1) * 4)).size = 4 := by simp; omega
  have e0 : s.extract (4 * p) (4 * p + 4) = s.extract (p * 4) ((p + 1) * 4) := by rw [Nat.mul_comm 4 p, show p * 4 + 4 = (p + 1) * 4 by omega]
  rw [e0] at hcut
  have hlen : ((s.extract (p * 4) ((p + 1) * 4)).data.toList ++ [(0 : UInt8), 0, 0, 0]).length = 8 := by
    have h2 : (s.extract (p * 4) ((p + 1) * 4)).data.toList.length = (s.extract (p * 4) ((p + 1) * 4)).size := rfl
    rw [List.length_append, h2, hsz, List.length_cons, List.length_cons, List.length_cons, List.length_cons, List.length_nil]
  have hgl := gN_lt s.data.toList p
  generalize gN s.data.toList p = G at hcut hgl ⊢
  generalize hX : s.extract (p * 4) ((p + 1) * 4) = X at hcut hlen hsz
  have HX := Lib.hid hX
  have HC := Lib.hid hcut
  have HSZ := Lib.hid hsz
  clear hX hcut e0 hsz
  go_enter Tryd.func39, Tryd.ntmps39
  go_wp2
  have e1 : IntKind.i64.wrap ((p : Int) * 4) = (p : Int) * 4 := by rw [IntKind.wrap_i64]; omega
  have e1b : IntKind.i64.wrap ((p : Int) + 1) = (p : Int) + 1 := by rw [IntKind.wrap_i64]; omega
  have e1c : IntKind.i64.wrap (((p : Int) + 1) * 4) = ((p : Int) + 1) * 4 := by rw [IntKind.wrap_i64]; omega
  have e2 : (0 : Int) ≤ (p : Int) * 4 := by omega
  have e2b : (p : Int) * 4 ≤ ((p : Int) + 1) * 4 := by omega
  have e3 : ((p : Int) + 1) * 4 ≤ (s.size : Int) := by omega
  have e4 : ((p : Int) * 4).toNat = p * 4 := by omega
  have e5 : (((p : Int) + 1) * 4).toNat = (p + 1) * 4 := by omega
  have e6 : (0 : Int) ≤ ((p : Int) + 1) * 4 := by omega
  have e7 : (p : Int) ≤ (p : Int) + 1 := by omega
  have hg0 := heap_alloc_new w (.cells #[.int .u8 0, .int .u8 0, .int .u8 0, .int .u8 0, .int .u8 0, .int .u8 0, .int .u8 0, .int .u8 0] 78)
  have HWB := Lib.hid ((Below.refl _ w).alloc (Nat.le_refl _) (.cells #[.int .u8 0, .int .u8 0, .int .u8 0, .int .u8 0, .int .u8 0, .int .u8 0, .int .u8 0, .int .u8 0] 78))
  generalize w.alloc (.cells #[.int .u8 0, .int .u8 0, .int .u8 0, .int .u8 0, .int .u8 0, .int .u8 0, .int .u8 0, .int .u8 0] 78) = W at hg0 HWB ⊢
  refine wp_region_still_tail 8 (by kernel_rfl) (by kernel_rfl) ?_
  simp only [List.take_succ_cons, List.take_zero, List.drop_succ_cons, List.drop_zero]
  refine wpStill_step (fun K hK => ?_)
  go_simp
  refine hK _ ?_
  clear hK K
  still_step
  still_step
  still_step
  still_step
  still_step
  still_step
  refine wpStill_step (fun K hK => ?_)
  go_simp
  refine hK _ ?_
  clear hK K
  refine wpStill_nil ?_
  clear e1 e1b e1c e2 e2b e3 e4 e5 e6 e7
  change wpList _ _ _ _ _ W.drew
  have hgD : W.drew.heap[w.heap.size]? = some (.cells (wd [0, 0, 0, 0, 0, 0, 0, 0]) 78 (0, 0)) := hg0
  have hbD : Below w.heap.size w W.drew := HWB.out.drew
  generalize W.drew = W2 at hgD hbD ⊢
  refine wpList_copy_string_le rfl (.tmp 6) (.tmp 13) 22 9 rfl 5 Tryd.underlying22 size5 w.heap.size 8 8 (s.extract (p * 4) ((p + 1) * 4)) [0, 0, 0, 0, 0, 0, 0, 0] 78 rfl rfl rfl hgD (by rw [HX.out, HSZ.out]; decide) ?_
  intro w4 hg4 hb4
  rw [HX.out, HSZ.out] at hg4
  have hB := Lib.hid (hbD.grown hb4.out (by have := hbD.size; omega) (fun k e => by cases e; exact Nat.le_refl _))
  have hlen := Lib.hid hlen
  have hC := HC
  clear hb4 hbD hgD
  generalize hl : X.data.toList ++ [(0 : UInt8), 0, 0, 0] = l at hlen hC
  have hg5 : Hid (w4.heap[w.heap.size]? = some (.cells (wd l) 78 (0, 0))) := Lib.hid (by rw [← hl]; exact hg4.out)
  clear hg4 hl HC HX HSZ hg0
  go_wp2_with (refine wpList_load_wd rfl 78 (.tmp 5) rfl w.heap.size rfl 78 l _ hg5.out Tryd.underlying78 rfl (by rw [hlen.out]; exact size46) ?_)
  refine (number_any l 0 4 _ hlen.out (by decide) (by decide) (by decide)).mono ?_
  rintro e w5 ⟨rfl, hb5⟩
  rw [show (0 : Int).toNat = 0 from rfl, show (4 : Int).toNat = 4 from rfl, hC.out]
  have hw : IntKind.i64.wrap (G : Int) = G := by rw [IntKind.wrap_i64]; omega
  go_wp2
  go_ret
  exact ⟨rfl, hB.out.trans (hb5.mono hB.out.size)⟩
end Go.Proofs.YtliiffpegfkpbabDoor
