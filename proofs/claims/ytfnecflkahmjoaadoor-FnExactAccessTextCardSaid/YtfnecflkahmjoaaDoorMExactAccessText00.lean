/- Texts of the proof of the law FnExactAccessText, side by side: part 0. -/
import Derived.Shelf.Strconv.Itoa0
import Derived.Shelf.Strconv.Itoa1
import Derived.Shelf.LaysM
import Derived.Shelf.Strconv.Itoa2
import Derived.Shelf.Strconv.Itoa3
import Derived.Test.YtfnecflkahmjoaaDoorProg
import Derived.WalkKit
import Derived.WalkSpells
import Derived.WalkLawsBesides
import Derived.Lib.Hide
import Derived.Lib.BufferWrite
import Derived.Deep.RegionLaw
import Derived.Laws.BitsAllLaws
import Derived.Deep.QuietTactic
import Derived.BigQuiet
import Derived.StillTailTactics
import Derived.OwnWalk
import Derived.Laws.OwnMore
import Derived.Shelf.Strings.Trim
import Derived.Maps.AppendAt
import Derived.Lib.Builder
import Derived.Lib.Strings
import Derived.Lib.UnsafeStr
import Derived.Laws.Externs
import Derived.Lib.AppendStr
import Derived.Deep.DeepMust
import Derived.Shelf.Strings.Builder1
import Derived.Deep.LoopGhost
import Derived.Lib.QuietBelow
import Derived.Laws.EntriesVeiled
import Derived.Deep.RegionWith
import Derived.Lib.ConvBytes
import Derived.OpenShut
import Derived.Lib.ItoaMem
import Derived.Lib.ItoaLen
import Derived.Deep.OwnRows
set_option maxHeartbeats 8000000
set_option maxRecDepth 100000
namespace Go.Proofs
open Go.Shelf
def Tryd.laysM171_ren : Go.Shelf.Ren := ⟨fun | 171 => 14 | 243 => 26 | 246 => 33 | 283 => 34 | 284 => 35 | 285 => 36 | 286 => 37 | 129 => 39 | 317 => 38 | 318 => 40 | 319 => 41 | 320 => 42 | 337 => 43 | 338 => 44 | n => n, fun | 3 => 3 | 9 => 9 | 2 => 2 | 4 => 4 | 171 => 46 | 0 => 0 | 53 => 45 | 37 => 41 | 5 => 5 | 173 => 49 | 212 => 53 | 51 => 54 | 20 => 20 | 213 => 55 | 46 => 56 | 232 => 59 | 233 => 60 | n => n, fun | 17 => 0 | 18 => 1 | 19 => 2 | n => n⟩
theorem Tryd.laysM171 : Go.Proofs.LaysM.n171 Tryd.prog Tryd.laysM171_ren := {
 mixed := by kernel_rfl
 f129 := Tryd.func39.trans (congrArg some (by kernel_rfl))
 f171 := Tryd.func14.trans (congrArg some (by kernel_rfl))
 f243 := Tryd.func26.trans (congrArg some (by kernel_rfl))
 f246 := Tryd.func33.trans (congrArg some (by kernel_rfl))
 f283 := Tryd.func34.trans (congrArg some (by kernel_rfl))
 f284 := Tryd.func35.trans (congrArg some (by kernel_rfl))
 f285 := Tryd.func36.trans (congrArg some (by kernel_rfl))
 f286 := Tryd.func37.trans (congrArg some (by kernel_rfl))
 f317 := Tryd.func38.trans (congrArg some (by kernel_rfl))
 f318 := Tryd.func40.trans (congrArg some (by kernel_rfl))
 f319 := Tryd.func41.trans (congrArg some (by kernel_rfl))
 f320 := Tryd.func42.trans (congrArg some (by kernel_rfl))
 f337 := Tryd.func43.trans (congrArg some (by kernel_rfl))
 f338 := Tryd.func44.trans (congrArg some (by kernel_rfl))
 t0 := Tryd.underlying0
 a0 := Tryd.isAgg0
 z0 := Tryd.sizeOf0
 v0 := Tryd.zeroValue0
 t2 := Tryd.underlying2
 a2 := Tryd.isAgg2
 z2 := Tryd.sizeOf2
 v2 := Tryd.zeroValue2
 t3 := Tryd.underlying3
 a3 := Tryd.isAgg3
 z3 := Tryd.sizeOf3
 v3 := Tryd.zeroValue3
 t4 := Tryd.underlying4
 a4 := Tryd.isAgg4
 z4 := Tryd.sizeOf4
 v4 := Tryd.zeroValue4
 t5 := Tryd.underlying5
 a5 := Tryd.isAgg5
 z5 := Tryd.sizeOf5
 v5 := Tryd.zeroValue5
 t9 := Tryd.underlying9
 a9 := Tryd.isAgg9
 z9 := Tryd.sizeOf9
 v9 := Tryd.zeroValue9
 t20 := Tryd.underlying20
 a20 := Tryd.isAgg20
 z20 := Tryd.sizeOf20
 v20 := Tryd.zeroValue20
 t37 := Tryd.underlying41
 a37 := Tryd.isAgg41
 z37 := Tryd.sizeOf41
 v37 := Tryd.zeroValue41
 t46 := Tryd.underlying56
 a46 := Tryd.isAgg56
 z46 := Tryd.sizeOf56
 v46 := Tryd.zeroValue56
 t51 := Tryd.underlying54
 a51 := Tryd.isAgg54
 z51 := Tryd.sizeOf54
 v51 := Tryd.zeroValue54
 t53 := Tryd.underlying45
 a53 := Tryd.isAgg45
 z53 := Tryd.sizeOf45
 v53 := Tryd.zeroValue45
 t171 := Tryd.underlying46
 a171 := Tryd.isAgg46
 z171 := Tryd.sizeOf46
 v171 := Tryd.zeroValue46
 t173 := Tryd.underlying49
 a173 := Tryd.isAgg49
 z173 := Tryd.sizeOf49
 v173 := Tryd.zeroValue49
 t212 := Tryd.underlying53
 a212 := Tryd.isAgg53
 z212 := Tryd.sizeOf53
 v212 := Tryd.zeroValue53
 t213 := Tryd.underlying55
 a213 := Tryd.isAgg55
 z213 := Tryd.sizeOf55
 t232 := Tryd.underlying59
 a232 := Tryd.isAgg59
 z232 := Tryd.sizeOf59
 v232 := Tryd.zeroValue59
 t233 := Tryd.underlying60
 a233 := Tryd.isAgg60
 z233 := Tryd.sizeOf60
 v233 := Tryd.zeroValue60
 g17 := by kernel_rfl
 g18 := by kernel_rfl
 g19 := by kernel_rfl
 i0 := by kernel_rfl
 i2 := by kernel_rfl
 i3 := by kernel_rfl
 i4 := by kernel_rfl
 i5 := by kernel_rfl
 i9 := by kernel_rfl
 i20 := by kernel_rfl
 i37 := by kernel_rfl
 i46 := by kernel_rfl
 i51 := by kernel_rfl
 i53 := by kernel_rfl
 i171 := by kernel_rfl
 i173 := by kernel_rfl
 i212 := by kernel_rfl
 i232 := by kernel_rfl
 i233 := by kernel_rfl
 m17 := by kernel_rfl
 m18 := by kernel_rfl
 m19 := by kernel_rfl }
open Go.RowKit Go.Sort Go.Lib in
theorem Tryd.strconv_Itoa (n : Int) (h0 : -9223372036854775808 ≤ n) (h1 : n ≤ 9223372036854775807) (w : World) (htab : Lib.TabIs Tryd.prog w "internal/strconv.uint64pow10" .u64 Lib.pow10Tab) :
 Calls Tryd.prog 14 #[.int .i64 n] w fun e w' => e = .returned (.string ⟨(Lib.itoa n).toArray⟩) ∧ ∃ k os, w' = grow (w.drewN k) os := Any.strconv_Itoa Tryd.laysM171 n h0 h1 w htab
end Go.Proofs
namespace Go.Proofs.YtfnecflkahmjoaaDoor
open Go.RowKit
theorem ret_bool {a b : Bool} (h : a = b) : Ending.returned (.bool a) = .returned (.bool b) := by rw [h]
theorem wf_bd {n : Int} (h : (Lit.int .i64 n).wf = true) : -9223372036854775808 ≤ n ∧ n ≤ 9223372036854775807 := by
 simp [Lit.wf, IntKind.min, IntKind.max, IntKind.bits, IntKind.signed] at h
 omega
def inB (n a b : Int) : Bool := decide (a ≤ n ∧ n ≤ b)
theorem l1In_any (n a b : Int) (w : World) :
 Calls Tryd.prog 15 #[.int .i64 n, .int .i64 a, .int .i64 b] w fun e w' => e = .returned (.bool (inB n a b)) ∧ w = w' := by
 by_cases h1 : a ≤ n
 all_goals
  go_enter Tryd.func15, Tryd.ntmps15
  go_wp2
  all_goals go_ret
  all_goals refine ⟨ret_bool ?_, rfl⟩
  all_goals (simp [inB]; try omega)
theorem ext_ba {a b : ByteArray} (h : a.data.toList = b.data.toList) : a = b := by
 cases a; cases b; simp at h; simp [h]
structure Keeps (B b : Nat) (w w' : World) : Prop where
 os : w'.os = w.os
 tape : w'.tape = w.tape
 output : w'.output = w.output
 size : w.heap.size ≤ w'.heap.size
 block : ∀ k, k < B → k ≠ b → w'.heap[k]? = w.heap[k]?
theorem row_lt {w : World} {g : Nat} {o : Obj} (h : w.heap[g]? = some o) : g < w.heap.size := by
 rcases Nat.lt_or_ge g w.heap.size with hlt | hge
 · exact hlt
 · rw [Array.getElem?_eq_none hge] at h; cases h
open Go.RowKit Go.Shelf
end Go.Proofs.YtfnecflkahmjoaaDoor
namespace Go.Proofs.YtfnecflkahmjoaaDoor
open Go.RowKit
open Go.Shelf Go.RowKit
end Go.Proofs.YtfnecflkahmjoaaDoor
namespace Go.Proofs.YtfnecflkahmjoaaDoor
open Go.RowKit
theorem kept2 {w w' : World} {b : Nat} {o : Obj} (h : w.heap[b]? = some o) (hb : Below w.heap.size w w') : w'.heap[b]? = some o := by
 have hlt : b < w.heap.size := by
  rcases Nat.lt_or_ge b w.heap.size with hlt | hge
  · exact hlt
  · rw [Array.getElem?_eq_none hge] at h; cases h
 exact (hb.block b hlt).trans h
theorem app_toList (u v : ByteArray) : (u ++ v).data.toList = u.data.toList ++ v.data.toList := by simp
def SRow (w : World) (g : Nat) (e : TypeId) (cs : Array Value) : Prop := w.heap[g]? = some (.cells cs e (cs.size, cs.size + 1))
theorem SRow.cell {w : World} {g : Nat} {e : TypeId} {cs : Array Value} (h : SRow w g e cs) (i : Nat) : w.cell? ⟨g, i, none⟩ = cs[i]? := cell_of_row w g i cs e _ h
theorem bytesCells_take (w : World) (e : TypeId) (s : ByteArray) : (Lib.bytesCells w e s).toList.take s.size = Lib.byteCells s.data.toList := by
 have hs : s.data.size = s.size := rfl
 rw [Lib.bytesCells, Array.toList_append, List.take_append_of_le_length (by simp [hs]), List.take_of_length_le (by simp [hs])]
 simp [Lib.byteCells]
theorem below_bytesWorld (w : World) (e : TypeId) (s : ByteArray) : Below w.heap.size w (Lib.bytesWorld w e s) :=
 ⟨rfl, rfl, rfl, by rw [Lib.bytesWorld_size]; omega, fun k hk => Lib.bytesWorld_at_old w e s k hk⟩
theorem srow_cell {w : World} {g i : Nat} {e : TypeId} {cs : Array Value} {s : ByteArray} (h : SRow w g e cs) (ht : cs.toList.take s.size = Lib.byteCells s.data.toList) (hi : i < s.size) : w.cell? ⟨g, i, none⟩ = some (.int .u8 ((s.data.toList[i]?.getD 0).toNat : Int)) := by
 rw [h.cell]
 have h := congrArg (fun x : List Value => x[i]?) ht
 simp only [List.getElem?_take_of_lt hi, Array.getElem?_toList] at h
 rw [h]
 simp [Lib.byteCells, hi]
theorem wpList_convert_bytes {P : Program} {w : World} {ops : Array Oper} {rest : List Oper} {o : Oper} {a : Act} {Q : Exit → Act → World → Prop} (hgd : o.guard = none) (src dst e : TypeId) (x : Operand) (ho : o.op = .convert src dst x) (s : ByteArray)
 (hx : a.eval x = .string s) {u : TypeDesc} (hs : P.underlying src = some u) (hd : P.underlying dst = some (.slice e)) (he : P.underlying e = some (.int .u8))
 (h : ∀ c w' cs, Hid (SRow w' w.heap.size e cs) → Hid (cs.toList.take s.size = Lib.byteCells s.data.toList) → Hid (Below w.heap.size w w') → Hid (w'.heap.size = w.heap.size + 1) → wpList P ops Q rest (a.put o.dst (.slice (some ⟨w.heap.size, 0, none⟩) s.size c)) w') :
 wpList P ops Q (o :: rest) a w := by
 refine wpList_plain hgd fun _ hK => ?_
 have hr := Lib.run_convert_string_bytes (P := P) w src dst e s hs hd he
 unfold Oper.wp execOp
 simp only [ho, hx, Sem.run_bind, hr, Result.andThen_ok, Sem.run_pure]
 exact hK _ _ (h _ _ _ (Lib.bytesWorld_at_new w e s) (bytesCells_take w e s) (below_bytesWorld w e s) (Lib.bytesWorld_size w e s))
theorem conv_one (W : World) (g m : Nat) (hm : m < 256) (h0 : W.heap[g]? = some (.cells #[.int .u8 (m : Int)] 5)) :
 (convert 41 9 (.slice (some ⟨g, 0, none⟩) 1 1)).run Tryd.prog W = .ok (.string ⟨#[UInt8.ofNat m]⟩) W := by
 have h : W.cell? ⟨g, 0, none⟩ = some (.int .u8 (m : Int)) := by
  unfold World.cell?
  rw [h0]
  rfl
 have := run_convert_bytes_back (P := Tryd.prog) W 41 9 5 ⟨g, 0, none⟩ 1 [UInt8.ofNat m] Tryd.underlying41 Tryd.underlying5 Tryd.underlying9 (fun j hj => by
  have hj0 : j = 0 := by simpa using hj
  subst hj0
  refine h.trans ?_
  simp
  omega)
 exact this
theorem l1Dec_any (n : Nat) : n ≤ 2 ^ 62 → ∀ (w : World), Calls Tryd.prog 21 #[.int .i64 (n : Int)] w fun e w' => e = .returned (.string ⟨(Lib.decDigits n).toArray⟩) ∧ Below w.heap.size w w' := by
 induction n using Nat.strongRecOn with
 | _ n ih =>
 intro hn w
 have h1 : ¬ (n : Int) < -9223372036854775807 := by omega
 have h2 : ¬ (n : Int) < 0 := by omega
 by_cases h : n < 10
 · have e : Lib.decDigits n = [UInt8.ofNat (48 + n)] := Lib.decDigits_one h
   rw [e]
   have h3 : (n : Int) < 10 := by omega
   obtain ⟨m, hm⟩ : ∃ m, 48 + n = m := ⟨_, rfl⟩
   have h4 : IntKind.i64.wrap (48 + (n : Int)) = (m : Int) := by rw [IntKind.wrap_i64]; omega
   have h5 : IntKind.u8.wrap (m : Int) = (m : Int) := by rw [IntKind.wrap_u8]; omega
   rw [hm]
   have hc := conv_one (w.alloc (.cells #[.int .u8 (m : Int)] 5)) w.heap.size m (by omega) (heap_alloc_new w _)
   clear ih e
   go_enter Tryd.func21, Tryd.ntmps21
   go_wp2
   go_ret
   exact ⟨rfl, (Below.refl _ _).alloc (Nat.le_refl _) _⟩
 · have h3 : ¬ (n : Int) < 10 := by omega
   obtain ⟨q, hq⟩ : ∃ q, n / 10 = q := ⟨_, rfl⟩
   obtain ⟨r, hr⟩ : ∃ r, n % 10 = r := ⟨_, rfl⟩
   have hq1 : ((n : Int)).tdiv 10 = (q : Int) := by rw [Int.tdiv_eq_ediv_of_nonneg (by omega), ← hq]; push_cast; rfl
   have hr1 : ((n : Int)).tmod 10 = (r : Int) := by rw [Int.tmod_eq_emod_of_nonneg (by omega), ← hr]; push_cast; rfl
   have e : Lib.decDigits n = Lib.decDigits q ++ [UInt8.ofNat (48 + r)] := by rw [Lib.decDigits, dif_neg h, hq, hr]
   rw [e]
   have HIH := Lib.hid (ih q (by omega) (by omega))
   obtain ⟨m, hm⟩ : ∃ m, 48 + r = m := ⟨_, rfl⟩
   have h4 : IntKind.i64.wrap (48 + (r : Int)) = (m : Int) := by rw [IntKind.wrap_i64]; omega
   have h5 : IntKind.u8.wrap (m : Int) = (m : Int) := by rw [IntKind.wrap_u8]; omega
   have hm256 : m < 256 := by omega
   rw [hm]
   have hcat : (⟨(Lib.decDigits q).toArray⟩ : ByteArray) ++ (⟨#[UInt8.ofNat m]⟩ : ByteArray) = ⟨(Lib.decDigits q ++ [UInt8.ofNat m]).toArray⟩ := by
    apply ext_ba
    rw [app_toList]
   have hsz : (⟨(Lib.decDigits q).toArray⟩ : ByteArray).size ≤ 21 := by
    have h1 := Lib.itoa_length_le (q : Int) (by omega) (by omega)
    rw [Lib.itoa_nonneg] at h1
    exact h1
   obtain ⟨E, hE⟩ : ∃ E : ByteArray, (⟨(Lib.decDigits q ++ [UInt8.ofNat m]).toArray⟩ : ByteArray) = E := ⟨_, rfl⟩
   rw [hE] at hcat ⊢
   generalize (⟨(Lib.decDigits q).toArray⟩ : ByteArray) = D at hcat hsz HIH
   have hsz1 : (⟨#[UInt8.ofNat m]⟩ : ByteArray).size = 1 := rfl
   clear hE
   have hq0 : IntKind.i64.wrap (q : Int) = (q : Int) := by rw [IntKind.wrap_i64]; omega
   clear ih e hq hr hm
   have HBA := Lib.hid ((Below.refl w.heap.size w).alloc (Nat.le_refl _) (.cells #[.int .u8 (m : Int)] 5))
   have hcA := conv_one (w.alloc (.cells #[.int .u8 (m : Int)] 5)) w.heap.size m hm256 (heap_alloc_new w _)
   go_enter Tryd.func21, Tryd.ntmps21
   go_wp2
   have hcv : ∀ V : World, (convert 41 9 (.slice (some ⟨V.heap.size, 0, none⟩) 1 1)).run Tryd.prog (V.alloc (.cells #[.int .u8 (m : Int)] 5)) = .ok (.string ⟨#[UInt8.ofNat m]⟩) (V.alloc (.cells #[.int .u8 (m : Int)] 5)) := fun V => conv_one _ _ m hm256 (heap_alloc_new V _)
   have HNA := Lib.hid (heap_alloc_new w (.cells #[.int .u8 (m : Int)] 5))
   have hcvd : ∀ V : World, (convert 41 9 (.slice (some ⟨V.heap.size, 0, none⟩) 1 1)).run Tryd.prog (V.alloc (.cells #[.int .u8 (m : Int)] 5)).drew = .ok (.string ⟨#[UInt8.ofNat m]⟩) (V.alloc (.cells #[.int .u8 (m : Int)] 5)).drew := fun V => conv_one _ _ m hm256 (heap_alloc_new V _)
   go_region_with (first | (go_at_call 21; refine (HIH.out ((w.alloc (.cells #[.int .u8 (m : Int)] 5)).drew)).mono ?_; rintro e w9 ⟨rfl, hb9⟩; have hc9 := conv_one w9 w.heap.size m hm256 (kept2 (show (w.alloc (.cells #[.int .u8 (m : Int)] 5)).drew.heap[w.heap.size]? = _ from HNA.out) hb9); have HB9 := Lib.hid (HBA.out.drew.trans (hb9.mono (by simp))); clear hb9) | (go_at_call 21; refine (HIH.out w.drew).mono ?_; rintro e w9 ⟨rfl, hb9⟩; have HB9 := Lib.hid (((Below.refl w.heap.size w).drew).trans (hb9.mono (by simp))); clear hb9))
   all_goals (try go_wp2)
   all_goals (try go_ret)
   all_goals first
    | exact ⟨rfl, HB9.out⟩
    | exact ⟨rfl, HB9.out.alloc HB9.out.size _⟩
    | exact ⟨rfl, HB9.out.drew⟩
    | exact ⟨rfl, (HB9.out.alloc HB9.out.size _).drew⟩
    | exact ⟨rfl, (HB9.out.drew.alloc HB9.out.size _).drew⟩
theorem l1Dec_int (t : Int) (h : -1000000000000000000 ≤ t ∧ t ≤ 1000000000000000000) (w : World) : Calls Tryd.prog 21 #[.int .i64 t] w fun e w' => e = .returned (.string ⟨(Lib.itoa t).toArray⟩) ∧ Below w.heap.size w w' := by
 by_cases h0 : 0 ≤ t
 · obtain ⟨n, rfl⟩ := Int.eq_ofNat_of_zero_le h0
   rw [Lib.itoa_nonneg]
   exact l1Dec_any n (by omega) w
 · obtain ⟨n, hn⟩ := Int.eq_ofNat_of_zero_le (show 0 ≤ -t by omega)
   obtain rfl : t = -(n : Int) := by omega
   rw [Lib.itoa_neg n (by omega)]
   have HC := Lib.hid (l1Dec_any n (by omega))
   have h1 : ¬ -(n : Int) < -9223372036854775807 := by omega
   have h2 : -(n : Int) < 0 := by omega
   have h3 : IntKind.i64.wrap (- -(n : Int)) = (n : Int) := by rw [IntKind.wrap_i64]; omega
   have h4 : IntKind.i64.wrap (n : Int) = (n : Int) := by rw [IntKind.wrap_i64]; omega
   have hsz : (⟨(Lib.decDigits n).toArray⟩ : ByteArray).size ≤ 21 := by
    have h1 := Lib.itoa_length_le (n : Int) (by omega) (by omega)
    rw [Lib.itoa_nonneg] at h1
    exact h1
   have hcat : (⟨#[45]⟩ : ByteArray) ++ (⟨(Lib.decDigits n).toArray⟩ : ByteArray) = ⟨(45 :: Lib.decDigits n).toArray⟩ := by
    apply ext_ba
    rw [app_toList]
    rfl
   obtain ⟨E, hE⟩ : ∃ E : ByteArray, (⟨(45 :: Lib.decDigits n).toArray⟩ : ByteArray) = E := ⟨_, rfl⟩
   rw [hE] at hcat ⊢
   generalize (⟨(Lib.decDigits n).toArray⟩ : ByteArray) = D at hcat hsz HC
   have hsz1 : (⟨#[45]⟩ : ByteArray).size = 1 := rfl
   clear hE hn h0 h
   go_enter Tryd.func21, Tryd.ntmps21
   go_wp2_with fail
   refine (HC.out _).mono ?_
   rintro e w1 ⟨rfl, hb1⟩
   have HB1 := Lib.hid hb1
   clear hb1
   go_wp2
   go_ret
   exact ⟨rfl, HB1.out⟩
def letB (n : Nat) : Bool := decide ((97 ≤ n ∧ n ≤ 122) ∨ (65 ≤ n ∧ n ≤ 90))
def figB (n : Nat) : Bool := decide (48 ≤ n ∧ n ≤ 57)
def nameB (s : ByteArray) : Bool := decide (1 ≤ s.size ∧ s.size ≤ 10) && (letB (s.data.toList[0]?.getD 0).toNat && s.data.toList.all fun b => letB b.toNat || figB b.toNat)
theorem isLetter_any (b : Nat) (hb : b < 256) (w : World) :
 Calls Tryd.prog 27 #[.int .u8 (b : Int)] w fun e w' => e = .returned (.bool (letB b)) ∧ w = w' := by
 by_cases h1 : (97 : Int) ≤ (b : Int) <;> by_cases h2 : (b : Int) ≤ 122 <;> by_cases h3 : (65 : Int) ≤ (b : Int)
 all_goals
  go_enter Tryd.func27, Tryd.ntmps27
  go_wp2
  all_goals go_ret
  all_goals refine ⟨ret_bool ?_, rfl⟩
  all_goals (rw [Bool.eq_iff_iff]; simp [letB]; try omega)
theorem isFigure_any (b : Nat) (hb : b < 256) (w : World) :
 Calls Tryd.prog 28 #[.int .u8 (b : Int)] w fun e w' => e = .returned (.bool (figB b)) ∧ w = w' := by
 by_cases h1 : (48 : Int) ≤ (b : Int)
 all_goals
  go_enter Tryd.func28, Tryd.ntmps28
  go_wp2
  all_goals go_ret
  all_goals refine ⟨ret_bool ?_, rfl⟩
  all_goals (rw [Bool.eq_iff_iff]; simp [figB]; try omega)
def btN (s : ByteArray) (j : Nat) : Nat := (s.data.toList[j]?.getD 0).toNat
theorem btN_at {s : ByteArray} {k : Nat} (h : k < s.size) : btN s k = (s[k]).toNat := by
 have hl : k < s.data.toList.length := by simpa using h
 unfold btN
 rw [List.getElem?_eq_getElem hl, Option.getD_some]
 rfl
theorem btN_lt (s : ByteArray) (j : Nat) : btN s j < 256 := by
 unfold btN
 have := (s.data.toList[j]?.getD 0).toNat_lt
 omega
def okAt (s : ByteArray) (j : Nat) : Bool := letB (btN s j) || (decide (j ≠ 0) && figB (btN s j))
theorem nameB_iff (s : ByteArray) : nameB s = true ↔ (1 ≤ s.size ∧ s.size ≤ 10) ∧ ∀ j, j < s.size → okAt s j = true := by
 unfold nameB
 rw [Bool.and_eq_true, Bool.and_eq_true, decide_eq_true_iff, List.all_eq_true]
 refine and_congr_right fun hsz => ⟨fun ⟨h1, h2⟩ j hj => ?_, fun h => ⟨?_, fun b hb => ?_⟩⟩
 · have hl : j < s.data.toList.length := by simpa using hj
   have h3 := h2 _ (List.getElem_mem hl)
   have hbj : btN s j = (s.data.toList[j]).toNat := by unfold btN; rw [List.getElem?_eq_getElem hl, Option.getD_some]
   unfold okAt
   by_cases hj0 : j = 0
   · subst hj0
     rw [show letB (btN s 0) = true from h1, Bool.true_or]
   · rw [hbj, decide_eq_true hj0, Bool.true_and]
     exact h3
 · have := h 0 (by omega)
   unfold okAt at this
   rw [show decide ((0 : Nat) ≠ 0) = false from rfl, Bool.false_and, Bool.or_false] at this
   exact this
 · obtain ⟨j, hj, rfl⟩ := List.mem_iff_getElem.1 hb
   have h3 := h j (by simpa using hj)
   have hbj : btN s j = (s.data.toList[j]).toNat := by unfold btN; rw [List.getElem?_eq_getElem hj, Option.getD_some]
   unfold okAt at h3
   rw [hbj] at h3
   rw [Bool.or_eq_true] at h3 ⊢
   refine h3.imp id fun h4 => ?_
   rw [Bool.and_eq_true] at h4
   exact h4.2
theorem nameB_bad {s : ByteArray} {j : Nat} (hj : j < s.size) (h : okAt s j = false) : nameB s = false := by
 rw [Bool.eq_false_iff]
 intro hn
 have := ((nameB_iff s).1 hn).2 j hj
 rw [h] at this
 cases this
theorem nameB_size {s : ByteArray} (h : ¬ (1 ≤ s.size ∧ s.size ≤ 10)) : nameB s = false := by
 rw [Bool.eq_false_iff]
 exact fun hn => h ((nameB_iff s).1 hn).1
theorem nameB_all {s : ByteArray} (hz : 1 ≤ s.size ∧ s.size ≤ 10) (h : ∀ j, j < s.size → okAt s j = true) : nameB s = true := (nameB_iff s).2 ⟨hz, h⟩
theorem nm_loop (d : ByteArray) : ∀ (i : Nat) (r : List UInt8), (ByteArray.toList.loop d i r).length = (d.size - i) + r.length := by
 intro i r
 induction h : d.size - i generalizing i r with
 | zero => rw [ByteArray.toList.loop, if_neg (by omega), List.length_reverse]; omega
 | succ n ih => rw [ByteArray.toList.loop, if_pos (by omega), ih (i + 1) _ (by omega), List.length_cons]; omega
theorem nm_empty (d : ByteArray) : d.toList.isEmpty = (d.size == 0) := by
 have h := nm_loop d 0 []
 simp only [List.length_nil] at h
 unfold ByteArray.toList
 rw [Bool.eq_iff_iff, List.isEmpty_iff, ← List.length_eq_zero_iff, h]
 simp
theorem l9Name_any (s : ByteArray) (w : World) (hs : s.size ≤ maxLen) :
 Calls Tryd.prog 16 #[.string s] w fun e w' => e = .returned (.bool (nameB s)) ∧ w = w' := by
 unfold maxLen at hs
 go_enter Tryd.func16, Tryd.ntmps16
 go_wp2
 go_loopw [3] (fun i wr => wr = w ∧ ∃ k : Nat, k ≤ s.size ∧ i = .int .i64 (k : Int) ∧ Hid (∀ j, j < k → okAt s j = true)) (fun i _ => (s.size - intOf i).toNat)
 case atStart => exact ⟨rfl, 0, by omega, by simp, Lib.hid (fun j hj => by omega)⟩
 case round =>
  obtain ⟨rfl, k, hk, rfl, HZ⟩ := hrel
  by_cases hlt : k < s.size
  · have hx := btN_at hlt
    have hx2 := btN_lt s k
    rw [hx] at hx2
    have HOK : Hid (okAt s k = (letB (s[k]).toNat || (decide (k ≠ 0) && figB (s[k]).toNat))) := Lib.hid (by unfold okAt; rw [hx])
    clear hx
    have hcase : (97 ≤ (s[k]).toNat ∧ (s[k]).toNat ≤ 122) ∨ (65 ≤ (s[k]).toNat ∧ (s[k]).toNat ≤ 90) ∨ ((48 ≤ (s[k]).toNat ∧ (s[k]).toNat ≤ 57) ∧ 1 ≤ k) ∨ (122 < (s[k]).toNat ∧ k = 0) ∨ (122 < (s[k]).toNat ∧ 1 ≤ k) ∨ ((90 < (s[k]).toNat ∧ (s[k]).toNat < 97) ∧ k = 0) ∨ ((90 < (s[k]).toNat ∧ (s[k]).toNat < 97) ∧ 1 ≤ k) ∨ ((s[k]).toNat < 65 ∧ k = 0) ∨ ((57 < (s[k]).toNat ∧ (s[k]).toNat < 65) ∧ 1 ≤ k) ∨ ((s[k]).toNat < 48 ∧ 1 ≤ k) := by omega
    rcases hcase with h | h | h | h | h | h | h | h | h | h
    · have HV : Hid (okAt s k = true) := Lib.hid (by rw [HOK.out, Bool.eq_iff_iff]; simp [letB, figB]; omega)
      have f0 : (97 : Int) ≤ ((s[k]).toNat : Int) := by omega
      have f1 : ((s[k]).toNat : Int) ≤ 122 := by omega
      clear h
      go_wp2
      go_roundw
      case rel =>
       refine ⟨by trivial, k + 1, by omega, by go_num, Lib.hid fun j hj => ?_⟩
       by_cases hjk : j < k
       · exact HZ.out j hjk
       · obtain rfl : j = k := by omega
         exact HV.out
      case measure => simp [intOf]; omega
    · have HV : Hid (okAt s k = true) := Lib.hid (by rw [HOK.out, Bool.eq_iff_iff]; simp [letB, figB]; omega)
      have f0 : ¬ (97 : Int) ≤ ((s[k]).toNat : Int) := by omega
      have f1 : (65 : Int) ≤ ((s[k]).toNat : Int) := by omega
      have f2 : ((s[k]).toNat : Int) ≤ 90 := by omega
      clear h
      go_wp2
      go_roundw
      case rel =>
       refine ⟨by trivial, k + 1, by omega, by go_num, Lib.hid fun j hj => ?_⟩
       by_cases hjk : j < k
       · exact HZ.out j hjk
       · obtain rfl : j = k := by omega
         exact HV.out
      case measure => simp [intOf]; omega
    · have HV : Hid (okAt s k = true) := Lib.hid (by rw [HOK.out, Bool.eq_iff_iff]; simp [letB, figB]; omega)
      have f0 : ¬ (97 : Int) ≤ ((s[k]).toNat : Int) := by omega
      have f1 : ¬ (65 : Int) ≤ ((s[k]).toNat : Int) := by omega
      have f2 : ¬ ((s[k]).toNat : Int) < 48 := by omega
      have f3 : ¬ 57 < ((s[k]).toNat : Int) := by omega
      have f4 : ((k : Int) == 0) = false := by simp; omega
      clear h
      go_wp2
      go_roundw
      case rel =>
       refine ⟨by trivial, k + 1, by omega, by go_num, Lib.hid fun j hj => ?_⟩
       by_cases hjk : j < k
       · exact HZ.out j hjk
       · obtain rfl : j = k := by omega
         exact HV.out
      case measure => simp [intOf]; omega
    · have HV : Hid (okAt s k = false) := Lib.hid (by rw [HOK.out, Bool.eq_iff_iff]; simp [letB, figB]; omega)
      have f0 : (97 : Int) ≤ ((s[k]).toNat : Int) := by omega
      have f1 : ¬ ((s[k]).toNat : Int) ≤ 122 := by omega
      have f2 : (65 : Int) ≤ ((s[k]).toNat : Int) := by omega
      have f3 : ¬ ((s[k]).toNat : Int) ≤ 90 := by omega
      have f4 : ((k : Int) == 0) = true := by simp; omega
      clear h
      go_wp2
      go_ret
      exact ⟨by rw [nameB_bad hlt HV.out]; rfl, rfl⟩
    · have HV : Hid (okAt s k = false) := Lib.hid (by rw [HOK.out, Bool.eq_iff_iff]; simp [letB, figB]; omega)
      have f0 : (97 : Int) ≤ ((s[k]).toNat : Int) := by omega
      have f1 : ¬ ((s[k]).toNat : Int) ≤ 122 := by omega
      have f2 : (65 : Int) ≤ ((s[k]).toNat : Int) := by omega
      have f3 : ¬ ((s[k]).toNat : Int) ≤ 90 := by omega
      have f4 : ((k : Int) == 0) = false := by simp; omega
      have f5 : ¬ ((s[k]).toNat : Int) < 48 := by omega
      have f6 : 57 < ((s[k]).toNat : Int) := by omega
      clear h
      go_wp2
      go_ret
      exact ⟨by rw [nameB_bad hlt HV.out]; rfl, rfl⟩
    · have HV : Hid (okAt s k = false) := Lib.hid (by rw [HOK.out, Bool.eq_iff_iff]; simp [letB, figB]; omega)
      have f0 : ¬ (97 : Int) ≤ ((s[k]).toNat : Int) := by omega
      have f1 : (65 : Int) ≤ ((s[k]).toNat : Int) := by omega
      have f2 : ¬ ((s[k]).toNat : Int) ≤ 90 := by omega
      have f3 : ((k : Int) == 0) = true := by simp; omega
      clear h
      go_wp2
      go_ret
      exact ⟨by rw [nameB_bad hlt HV.out]; rfl, rfl⟩
    · have HV : Hid (okAt s k = false) := Lib.hid (by rw [HOK.out, Bool.eq_iff_iff]; simp [letB, figB]; omega)
      have f0 : ¬ (97 : Int) ≤ ((s[k]).toNat : Int) := by omega
      have f1 : (65 : Int) ≤ ((s[k]).toNat : Int) := by omega
      have f2 : ¬ ((s[k]).toNat : Int) ≤ 90 := by omega
      have f3 : ((k : Int) == 0) = false := by simp; omega
      have f4 : ¬ ((s[k]).toNat : Int) < 48 := by omega
      have f5 : 57 < ((s[k]).toNat : Int) := by omega
      clear h
      go_wp2
      go_ret
      exact ⟨by rw [nameB_bad hlt HV.out]; rfl, rfl⟩
    · have HV : Hid (okAt s k = false) := Lib.hid (by rw [HOK.out, Bool.eq_iff_iff]; simp [letB, figB]; omega)
      have f0 : ¬ (97 : Int) ≤ ((s[k]).toNat : Int) := by omega
      have f1 : ¬ (65 : Int) ≤ ((s[k]).toNat : Int) := by omega
      have f2 : ((k : Int) == 0) = true := by simp; omega
      clear h
      go_wp2
      go_ret
      exact ⟨by rw [nameB_bad hlt HV.out]; rfl, rfl⟩
    · have HV : Hid (okAt s k = false) := Lib.hid (by rw [HOK.out, Bool.eq_iff_iff]; simp [letB, figB]; omega)
      have f0 : ¬ (97 : Int) ≤ ((s[k]).toNat : Int) := by omega
      have f1 : ¬ (65 : Int) ≤ ((s[k]).toNat : Int) := by omega
      have f2 : ((k : Int) == 0) = false := by simp; omega
      have f3 : ¬ ((s[k]).toNat : Int) < 48 := by omega
      have f4 : 57 < ((s[k]).toNat : Int) := by omega
      clear h
      go_wp2
      go_ret
      exact ⟨by rw [nameB_bad hlt HV.out]; rfl, rfl⟩
    · have HV : Hid (okAt s k = false) := Lib.hid (by rw [HOK.out, Bool.eq_iff_iff]; simp [letB, figB]; omega)
      have f0 : ¬ (97 : Int) ≤ ((s[k]).toNat : Int) := by omega
      have f1 : ¬ (65 : Int) ≤ ((s[k]).toNat : Int) := by omega
      have f2 : ((k : Int) == 0) = false := by simp; omega
      have f3 : ((s[k]).toNat : Int) < 48 := by omega
      clear h
      go_wp2
      go_ret
      exact ⟨by rw [nameB_bad hlt HV.out]; rfl, rfl⟩
  · obtain rfl : k = s.size := by omega
    have HN : Hid (nameB s = inB s.size 1 10) := Lib.hid (by
     by_cases hz : 1 ≤ s.size ∧ s.size ≤ 10
     · rw [nameB_all hz HZ.out]; unfold inB; rw [decide_eq_true (by omega)]
     · rw [nameB_size hz]; unfold inB; rw [decide_eq_false (by omega)])
    go_wp2_with (go_at_call 15; refine (l1In_any _ _ _ _).mono ?_; rintro e w' ⟨rfl, rfl⟩)
    go_ret
    exact ⟨by rw [HN.out]; rfl, rfl⟩
theorem isName_any (s : ByteArray) (w : World) (hs : s.size ≤ maxLen) :
 Calls Tryd.prog 22 #[.string s] w fun e w' => e = .returned (.bool (nameB s)) ∧ Below w.heap.size w w' := by
 unfold maxLen at hs
 by_cases h0 : s.size = 0
 · have he : s.toList.isEmpty = true := by rw [nm_empty, h0]; rfl
   have HN := Lib.hid (nameB_size (s := s) (by omega))
   go_enter Tryd.func22, Tryd.ntmps22
   go_wp2
   go_ret
   exact ⟨by rw [HN.out]; rfl, Below.refl _ _⟩
 have he : s.toList.isEmpty = false := by rw [nm_empty]; simpa using h0
 by_cases h10 : 10 < s.size
 · have h11 : (10 : Int) < ((s.size : Nat) : Int) := by omega
   have HN := Lib.hid (nameB_size (s := s) (by omega))
   go_enter Tryd.func22, Tryd.ntmps22
   go_wp2
   go_ret
   exact ⟨by rw [HN.out]; rfl, Below.refl _ _⟩
 have h11 : ¬ (10 : Int) < ((s.size : Nat) : Int) := by omega
 have hlt : 0 < s.size := by omega
 have hx := btN_at hlt
 have hx2 := btN_lt s 0
 rw [hx] at hx2
 have HX := Lib.hid hx
 clear hx
 cases hl : letB (s[0]).toNat
 · have HN : Hid (nameB s = false) := Lib.hid (nameB_bad hlt (by unfold okAt; rw [HX.out, hl]; rfl))
   have HL := Lib.hid hl
   clear hl
   go_enter Tryd.func22, Tryd.ntmps22
   go_wp2_with (go_at_call 27; refine (isLetter_any _ hx2 _).mono ?_; rintro e w' ⟨rfl, rfl⟩; rw [HL.out])
   go_ret
   exact ⟨by rw [HN.out]; rfl, Below.refl _ _⟩
 · have HL := Lib.hid hl
   clear hl
   go_enter Tryd.func22, Tryd.ntmps22
   go_wp2_with (first | (go_at_call 27; refine (isLetter_any _ hx2 _).mono ?_; rintro e w' ⟨rfl, rfl⟩; rw [HL.out]) | (refine wpList_convert_bytes rfl 9 41 5 (.tmp 18) rfl s rfl Tryd.underlying9 Tryd.underlying41 Tryd.underlying5 ?_; intro c w1 cs hrow htk hbel hsz))
   have HB1 : Hid (Below w.heap.size w w1) := hbel
   have HR : Hid (SRow w1 w.heap.size 5 cs) := hrow
   clear hrow hbel hsz
   go_loopw [4, 21] (fun _ i wr => wr = w1 ∧ ∃ k : Nat, k ≤ s.size ∧ i = .int .i64 (k : Int) ∧ Hid (∀ j, j < k → okAt s j = true)) (fun _ i _ => s.size - (intOf i).toNat)
   case atStart => exact ⟨rfl, 0, by omega, by simp, Lib.hid (fun j hj => by omega)⟩
   case round =>
    obtain ⟨rfl, k, hk, rfl, HZ⟩ := hrel
    by_cases hk1 : k < s.size
    · obtain ⟨x, hx⟩ : ∃ x, s.data.toList[k]?.getD 0 = x := ⟨_, rfl⟩
      have hc0 := srow_cell HR.out htk.out hk1
      rw [hx] at hc0
      have hb : btN s k = x.toNat := by unfold btN; rw [hx]
      have hx256 := x.toNat_lt
      have hx3 : x.toNat < 256 := by omega
      clear hx hx256
      have HOK : Hid (okAt s k = (letB x.toNat || (decide (k ≠ 0) && figB x.toNat))) := Lib.hid (by unfold okAt; rw [hb])
      have HK0 : Hid (k = 0 → letB x.toNat = true) := Lib.hid (by
       intro h0
       subst h0
       rw [← hb, HX.out, HL.out])
      clear hb
      cases hlx : letB x.toNat
      · cases hfx : figB x.toNat
        · have HV : Hid (okAt s k = false) := Lib.hid (by rw [HOK.out, hlx, hfx]; simp)
          have HLX := Lib.hid hlx
          have HFX := Lib.hid hfx
          clear hlx hfx
          go_wp2_with (first | (go_at_call 27; refine (isLetter_any _ hx3 _).mono ?_; rintro e w' ⟨rfl, rfl⟩; rw [HLX.out]) | (go_at_call 28; refine (isFigure_any _ hx3 _).mono ?_; rintro e w' ⟨rfl, rfl⟩; rw [HFX.out]))
          go_ret
          exact ⟨by rw [nameB_bad hk1 HV.out]; rfl, HB1.out⟩
        · have HV : Hid (okAt s k = true) := Lib.hid (by
           rw [HOK.out, hlx, hfx]
           by_cases h0 : k = 0
           · rw [HK0.out h0] at hlx; cases hlx
           · simp [h0])
          have HLX := Lib.hid hlx
          have HFX := Lib.hid hfx
          clear hlx hfx
          go_wp2_with (first | (go_at_call 27; refine (isLetter_any _ hx3 _).mono ?_; rintro e w' ⟨rfl, rfl⟩; rw [HLX.out]) | (go_at_call 28; refine (isFigure_any _ hx3 _).mono ?_; rintro e w' ⟨rfl, rfl⟩; rw [HFX.out]))
          go_roundw
          case rel =>
           refine ⟨by trivial, k + 1, by omega, by go_num, Lib.hid fun j hj => ?_⟩
           by_cases hjk : j < k
           · exact HZ.out j hjk
           · obtain rfl : j = k := by omega
             exact HV.out
          case measure => simp [intOf]; omega
      · have HV : Hid (okAt s k = true) := Lib.hid (by rw [HOK.out, hlx]; rfl)
        have HLX := Lib.hid hlx
        clear hlx
        go_wp2_with (first | (go_at_call 27; refine (isLetter_any _ hx3 _).mono ?_; rintro e w' ⟨rfl, rfl⟩; rw [HLX.out]))
        go_roundw
        case rel =>
         refine ⟨by trivial, k + 1, by omega, by go_num, Lib.hid fun j hj => ?_⟩
         by_cases hjk : j < k
         · exact HZ.out j hjk
         · obtain rfl : j = k := by omega
           exact HV.out
        case measure => simp [intOf]; omega
    · obtain rfl : k = s.size := by omega
      have HN := Lib.hid (nameB_all (by omega) HZ.out)
      go_wp2
      go_ret
      exact ⟨by rw [HN.out]; rfl, HB1.out⟩
def withB (n b : Int) : Bool := decide (0 ≤ n ∧ n < b)
theorem within_any (n b : Int) (w : World) :
 Calls Tryd.prog 23 #[.int .i64 n, .int .i64 b] w fun e w' => e = .returned (.bool (withB n b)) ∧ w = w' := by
 by_cases h1 : 0 ≤ n
 all_goals
  go_enter Tryd.func23, Tryd.ntmps23
  go_wp2
  all_goals go_ret
  all_goals refine ⟨ret_bool ?_, rfl⟩
  all_goals (simp [withB]; try omega)
def widthB (size : Int) : Bool := decide (size = 1 ∨ size = 2 ∨ size = 4 ∨ size = 8)
theorem isWidth_any (size : Int) (w : World) :
 Calls Tryd.prog 31 #[.int .i64 size] w fun e w' => e = .returned (.bool (widthB size)) ∧ w = w' := by
 by_cases hz : size = 1 ∨ size = 2 ∨ size = 4 ∨ size = 8
 · rcases hz with rfl | rfl | rfl | rfl
   all_goals
    go_enter Tryd.func31, Tryd.ntmps31
    go_wp2
    all_goals go_ret
    all_goals exact ⟨ret_bool (by decide), rfl⟩
 · have b1 : (size == 1) = false := by simp; omega
   have b2 : (size == 2) = false := by simp; omega
   have b3 : (size == 4) = false := by simp; omega
   have b4 : (size == 8) = false := by simp; omega
   have hw : widthB size = false := by simp only [widthB, hz, decide_false]
   have HW := Lib.hid hw
   clear hw
   go_enter Tryd.func31, Tryd.ntmps31
   go_wp2
   go_ret
   exact ⟨by rw [HW.out]; rfl, rfl⟩
def fitsB (n size : Int) : Bool := decide (size = 8 ∨ (0 ≤ n ∧ n < 256 ^ size.toNat))
theorem fitsBytes_any (n size : Int) (w : World) (hz : size = 1 ∨ size = 2 ∨ size = 4 ∨ size = 8) (hn : -9223372036854775808 ≤ n ∧ n ≤ 9223372036854775807) :
 Calls Tryd.prog 29 #[.int .i64 n, .int .i64 size] w fun e w' => e = .returned (.bool (fitsB n size)) ∧ w = w' := by
 obtain ⟨hn1, hn2⟩ := hn
 rcases hz with rfl | rfl | rfl | rfl
 all_goals
  by_cases h0 : 0 ≤ n
  all_goals
   go_enter Tryd.func29, Tryd.ntmps29
   go_wp2
   all_goals go_ret
   all_goals refine ⟨ret_bool ?_, rfl⟩
   all_goals (simp [fitsB]; try omega)
def sizeB (n : Int) : Bool := decide (n = 1 ∨ n = 2 ∨ n = 4 ∨ n = 8)
theorem l1Size_any (n : Int) (w : World) :
 Calls Tryd.prog 18 #[.int .i64 n] w fun e w' => e = .returned (.bool (sizeB n)) ∧ w = w' := by
 by_cases hz : n = 1 ∨ n = 2 ∨ n = 4 ∨ n = 8
 · rcases hz with rfl | rfl | rfl | rfl
   all_goals
    go_enter Tryd.func18, Tryd.ntmps18
    go_wp2
    go_ret
    exact ⟨ret_bool (by decide), rfl⟩
 · have b1 : (n == 1) = false := by simp; omega
   have b2 : (n == 2) = false := by simp; omega
   have b3 : (n == 4) = false := by simp; omega
   have b4 : (n == 8) = false := by simp; omega
   go_enter Tryd.func18, Tryd.ntmps18
   go_wp2
   go_ret
   refine ⟨ret_bool ?_, rfl⟩
   simp only [sizeB, hz, decide_false]
theorem l1Fits_any (n size : Int) (w : World) (hz : size = 1 ∨ size = 2 ∨ size = 4 ∨ size = 8) :
 Calls Tryd.prog 19 #[.int .i64 n, .int .i64 size] w fun e w' => e = .returned (.bool (fitsB n size)) ∧ w = w' := by
 rcases hz with rfl | rfl | rfl | rfl
 all_goals
  go_enter Tryd.func19, Tryd.ntmps19
  go_wp2_with (first | (go_at_call 15; refine (l1In_any _ _ _ _).mono ?_; rintro e w' ⟨rfl, rfl⟩))
  go_ret
  refine ⟨ret_bool ?_, rfl⟩
  rw [Bool.eq_iff_iff]; simp [fitsB, inB]; try omega
end Go.Proofs.YtfnecflkahmjoaaDoor
